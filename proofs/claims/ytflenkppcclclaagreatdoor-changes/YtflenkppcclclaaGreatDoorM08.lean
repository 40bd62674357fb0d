import Derived.Test.YtflenkppcclclaaGreatDoorM07
import Derived.Laws.OwnMore
namespace Go.Proofs.YtflenkppcclclaaGreatDoor
open Go.RowKit

theorem Tryz.infoBool : (Tryz.prog.info? 4).map (fun i => (i.zero, i.size, i.bytes)) = some (some (.bool false), 1, 1) := by kernel_rfl
theorem Tryz.infoInt : (Tryz.prog.info? 3).map (fun i => (i.zero, i.size, i.bytes)) = some (some (.int .i64 0), 1, 8) := by kernel_rfl

/-- 'make([]T, n)', T of one cell. -/
theorem made (w : World) (t e : TypeId) (z : Value) (bytes n : Nat) (ht : Tryz.prog.underlying t = some (.slice e)) (hinfo : (Tryz.prog.info? e).map (fun i => (i.zero, i.size, i.bytes)) = some (some z, 1, bytes)) (hz : z.cells = #[z]) (hn : n ≤ 1000) (hb : bytes ≤ 8) :
    ∃ w1, (Instr.makeSlice t (.int .i64 (n : Int)) (.int .i64 (n : Int))).run Tryz.prog w = .ok (.slice (some ⟨w.heap.size, 0, none⟩) n n) w1 ∧ w1.heap[w.heap.size]? = some (.cells (List.replicate n z).toArray e (0, 0)) ∧ Below w.heap.size w w1 := by
  obtain ⟨i, hi, hz0, hz1, hz2⟩ := info_parts hinfo
  obtain ⟨w1, hr, ho, hg⟩ := run_make_full (P := Tryz.prog) w w.heap.size t e i z 1 ht hi hz0 hz1 .i64 .i64 n (by rw [hz2]; have : bytes * n ≤ 8 * 1000 := Nat.mul_le_mul hb hn; omega) (by unfold maxLen; omega) (Nat.le_refl _)
  refine ⟨w1, hr, ?_, (Below.refl _ _).grown hg (Nat.le_refl _) (fun k hk => by cases hk)⟩
  rcases ho.2 with ⟨h, _⟩ | ⟨g, cap, cur, h, _, hh, _, _, hcs, htake⟩
  · simp at h
  · simp only [Value.slice.injEq, Option.some.injEq, Addr.mk.injEq, and_true, true_and] at h
    obtain ⟨rfl, rfl⟩ := h
    rw [hh]
    rw [Nat.mul_one, hz, toList_madeCells_one, List.take_of_length_le (by rw [Array.length_toList]; omega)] at htake
    rw [← htake]

def bl (L : Nat) (f : Nat → Bool) : List Value := (List.range L).map fun i => .bool (f i)
theorem bl_get (L : Nat) (f : Nat → Bool) (i : Nat) (hi : i < L) : (bl L f)[i]? = some (.bool (f i)) := by simp [bl, List.getElem?_range hi]
theorem bl_len (L : Nat) (f : Nat → Bool) : (bl L f).length = L := by simp [bl]
theorem bl_set (L : Nat) (f g : Nat → Bool) (p : Nat) (b : Bool) (hg : ∀ i, i < L → g i = if i = p then b else f i) : (bl L f).set p (.bool b) = bl L g := by
  apply List.ext_getElem?
  intro j
  by_cases hj : j < L
  · rw [List.getElem?_set, bl_get L g j hj, hg j hj]
    by_cases e : p = j
    · subst e; rw [if_pos rfl, if_pos (by rw [bl_len]; exact hj), if_pos rfl]
    · rw [if_neg e, bl_get L f j hj, if_neg (fun c => e c.symm)]
  · rw [List.getElem?_eq_none (by simp [bl_len]; omega), List.getElem?_eq_none (by rw [bl_len]; omega)]
theorem bl_none (L : Nat) : List.replicate L (Value.bool false) = bl L (fun _ => false) := by
  apply List.ext_getElem?
  intro j
  by_cases hj : j < L
  · rw [bl_get L _ j hj, List.getElem?_replicate, if_pos hj]
  · rw [List.getElem?_eq_none (by simp; omega), List.getElem?_eq_none (by rw [bl_len]; omega)]

/-- A store into a row that is known whole. -/
theorem row_set {wr : World} {G : Nat} {l l' : List Value} {e : TypeId} (h : wr.heap[G]? = some (.cells l.toArray e (0, 0))) (p : Nat) (v : Value) (hl : l.set p v = l') : (wr.setCell ⟨G, p, none⟩ v).heap[G]? = some (.cells l'.toArray e (0, 0)) := by
  rw [heap_setCell_same wr G p _ _ _ h, ← hl]
  simp

/-- One of the first m instructions begins at i. -/
def started (c : Nat → Int) (m i : Nat) : Bool := (List.range m).any fun t => pos c t == i
theorem started_succ (c : Nat → Int) (m i : Nat) : started c (m + 1) i = if i = pos c m then true else started c m i := by
  unfold started
  rw [List.range_succ, List.any_append]
  by_cases e : i = pos c m
  · subst e; simp
  · rw [if_neg e]
    have : (pos c m == i) = false := by rw [beq_eq_false_iff_ne]; exact fun h => e h.symm
    simp [this]
theorem started_of (c : Nat → Int) {m t : Nat} (ht : t < m) : started c m (pos c t) = true := by
  unfold started
  rw [List.any_eq_true]
  exact ⟨t, List.mem_range.2 ht, by simp⟩

set_option maxHeartbeats 1000000 in
theorem wrongTarget_no (w : World) (cb co L cap N : Nat) (c : Nat → Int) (V : VP c L N) (C : Laid w cb co L cap c) (hT : Tab w) :
    Calls Tryz.prog 128 #[.slice (some ⟨cb, co, none⟩) L cap] w fun e w' => e = .returned (.tuple #[.int .i64 0, .bool false]) ∧ Below w.heap.size w w' := by
  have hfs := field_sz
  have hmost := V.most
  obtain ⟨w1, hmk, hh1, hB1⟩ := made w 151 4 (.bool false) 1 L Tryz.underlying151 Tryz.infoBool rfl (by omega) (by omega)
  rw [bl_none] at hh1
  have HH1 : Hid (w1.heap[w.heap.size]? = some (.cells (bl L (fun _ => false)).toArray 4 (0, 0))) := hh1
  clear hh1
  go_enter Tryz.func128, Tryz.ntmps128
  go_wp2
  clear hmk
  go_loopw [5] (fun i wr => ∃ m : Nat, m ≤ N ∧ i = .int .i64 (pos c m) ∧ wr.heap[w.heap.size]? = some (.cells (bl L (started c m)).toArray 4 (0, 0)) ∧ Below w.heap.size w wr) (fun i _ => L - (intOf i).toNat)
  case atStart => exact ⟨0, by omega, rfl, HH1.out, hB1⟩
  case round =>
    obtain ⟨m, hm, rfl, hh, hB⟩ := hrel
    by_cases hlt : m < N
    · obtain ⟨kk, A, hsucc⟩ := V.at hlt
      have hck := C.at hB A.lt
      rw [A.op] at hck
      have h1 := A.lt
      have h2 := A.fits
      have h3 := A.sz
      have h4 := A.s1
      have h5 := A.s2
      have h6 := A.pos
      have h7 := A.most
      have hk := A.k
      have HS : Hid (pos c (m + 1) = pos c m + szOf kk) := hsucc
      have HZ : Hid (((pos c m + szOf kk : Nat) : Int) = (pos c m : Int) + shp (kk * 3)) := h3
      have hi1 : (pos c m : Int) < (L : Int) := by omega
      have c1 : wr.cell? ⟨w.heap.size, pos c m, none⟩ = some (.bool (started c m (pos c m))) := by
        rw [cell_of_row wr w.heap.size _ _ _ _ hh, List.getElem?_toArray]; exact bl_get L _ _ h1
      have f1 := frozen_of_row wr w.heap.size (pos c m) _ _ hh
      have HR : Hid ((wr.setCell ⟨w.heap.size, pos c m, none⟩ (.bool true)).heap[w.heap.size]? = some (.cells (bl L (started c (m + 1))).toArray 4 (0, 0))) := row_set hh _ _ (bl_set L _ _ _ _ (fun i _ => started_succ c m i))
      have hB2 := hB.setCell (p := ⟨w.heap.size, pos c m, none⟩) (Nat.le_refl _) (.bool true)
      have hTr : Hid (Tab (wr.setCell ⟨w.heap.size, pos c m, none⟩ (.bool true))) := hT.below hB2
      have hcb := C.blk
      have hne : ¬ w.heap.size = cb := by omega
      have hck2 : (wr.setCell ⟨w.heap.size, pos c m, none⟩ (.bool true)).cell? ⟨cb, co + pos c m, none⟩ = some (.int .u8 (kk : Int)) := by
        rw [World.cell?_setCell_other _ _ _ _ (fun c => by injection c with c1 _ _; omega)]; exact hck
      have hsz := hB.size
      have hlt2 : w.heap.size < wr.heap.size := by have := (Array.getElem?_eq_some_iff.1 hh).1; exact this
      clear hsucc h3 A hh
      go_wp2_with (go_at_call 129; refine (shapeOf_any kk (by omega) _ hTr.out).mono ?_; rintro e w' ⟨rfl, cc2, rfl⟩)
      go_roundw
      case rel => exact ⟨m + 1, by omega, by rw [HS.out, HZ.out], by rw [Below.heap_alloc _ _ _ (by simpa using hlt2)]; exact HR.out, hB2.alloc (by simp; omega) _⟩
      case measure => simp [intOf]; omega
    · have e : m = N := by omega
      subst e
      rw [V.last]
      clear HH1
      go_wp2
      go_loopw [6] (fun i wx => ∃ t : Nat, t ≤ m ∧ i = .int .i64 (pos c t) ∧ wx.heap[w.heap.size]? = some (.cells (bl L (started c m)).toArray 4 (0, 0)) ∧ Below w.heap.size w wx) (fun i _ => L - (intOf i).toNat)
      case atStart => exact ⟨0, by omega, rfl, hh, hB⟩
      case round =>
        clear hh hB
        obtain ⟨t, ht, rfl, hh, hB⟩ := hrel
        by_cases hlt : t < m
        · obtain ⟨kk, A, hsucc⟩ := V.at hlt
          have hck := C.at hB A.lt
          rw [A.op] at hck
          have h1 := A.lt
          have h2 := A.fits
          have h3 := A.sz
          have h4 := A.s1
          have h5 := A.s2
          have h6 := A.pos
          have h7 := A.most
          have hk := A.k
          have hop := A.op
          have HS : Hid (pos c (t + 1) = pos c t + szOf kk) := hsucc
          have HZ : Hid (((pos c t + szOf kk : Nat) : Int) = (pos c t : Int) + shp (kk * 3)) := h3
          have hi1 : (pos c t : Int) < (L : Int) := by omega
          have hTr : Hid (Tab wr) := hT.below hB
          cases hlb : leadsB (kk : Int) with
          | false =>
            clear hsucc h3 A hop
            go_wp2_with (first | (go_at_call 143; refine (leads_any _ _).mono ?_; rintro e w' ⟨rfl, rfl⟩) | (go_at_call 129; refine (shapeOf_any kk (by omega) _ hTr.out).mono ?_; rintro e w' ⟨rfl, cc2, rfl⟩))
            go_roundw
            case rel => exact ⟨t + 1, by omega, by rw [HS.out, HZ.out], by rw [Below.heap_alloc _ _ _ ((Array.getElem?_eq_some_iff.1 hh).1)]; exact hh, hB.alloc (by have := hB.size; omega) _⟩
            case measure => simp [intOf]; omega
          | true =>
            obtain ⟨s, hs, hst⟩ := V.jump t hlt (by rw [hop]; exact hlb)
            have hsz2 : szOf kk = 2 := by
              unfold leadsB at hlb
              have : kk = 14 ∨ kk = 15 := by simp at hlb; omega
              rcases this with e | e <;> rw [e] <;> rfl
            have hck2 := C.at hB (p := pos c t + 1) (by omega)
            rw [← hst] at hck2
            have hsL := V.lt hs
            have ct : wr.cell? ⟨w.heap.size, pos c s, none⟩ = some (.bool true) := by
              rw [cell_of_row wr w.heap.size _ _ _ _ hh, List.getElem?_toArray, bl_get L _ _ hsL, started_of c hs]
            have hdec : decide ((L : Int) ≤ (pos c s : Int)) = false := by simpa using hsL
            have hi2 : (pos c s : Int) < (L : Int) := by omega
            have hi3 : (pos c t : Int) + 1 < (L : Int) := by omega
            have hi4 : (pos c s : Int) ≤ 255 := by omega
            have hi5 : ¬ (L : Int) ≤ (pos c s : Int) := by omega
            have HST : Hid ((pos c s : Int) = c (pos c t + 1)) := hst
            clear hsucc h3 A hop hst hsz2
            go_wp2_with (first | (go_at_call 143; refine (leads_any _ _).mono ?_; rintro e w' ⟨rfl, rfl⟩) | (go_at_call 129; refine (shapeOf_any kk (by omega) _ hTr.out).mono ?_; rintro e w' ⟨rfl, cc2, rfl⟩))
            go_roundw
            case rel => exact ⟨t + 1, by omega, by rw [HS.out, HZ.out], by rw [Below.heap_alloc _ _ _ ((Array.getElem?_eq_some_iff.1 hh).1)]; exact hh, hB.alloc (by have := hB.size; omega) _⟩
            case measure => simp [intOf]; omega
        · have e : t = m := by omega
          subst e
          rw [V.last]
          go_wp2
          go_ret2
          exact ⟨rfl, hB⟩
end Go.Proofs.YtflenkppcclclaaGreatDoor

namespace Go.Proofs.YtflenkppcclclaaGreatDoor
open Go.RowKit

/-- The m-th instruction leads where none of the N begins. -/
def badT (c : Nat → Int) (N m : Nat) : Bool := leadsB (c (pos c m)) && !started c N (c (pos c m + 1)).toNat
theorem started_ex (c : Nat → Int) {m i : Nat} (h : started c m i = true) : ∃ t, t < m ∧ pos c t = i := by
  unfold started at h
  rw [List.any_eq_true] at h
  obtain ⟨t, ht, e⟩ := h
  exact ⟨t, List.mem_range.1 ht, by simpa using e⟩
theorem started_far {c : Nat → Int} {L N z : Nat} (S : SP c L N z) {i : Nat} (h : L ≤ i) : started c N i = false := by
  cases e : started c N i with
  | false => rfl
  | true => obtain ⟨t, ht, e2⟩ := started_ex c e; have := S.lt ht; omega

/-- What 'wrongTarget' tells. -/
def WT (c : Nat → Int) (N : Nat) (r : Nat) (b : Bool) : Prop :=
  (b = false ∧ r = 0 ∧ ∀ m, m < N → badT c N m = false) ∨ (b = true ∧ ∃ t, t < N ∧ r = pos c t ∧ badT c N t = true ∧ ∀ m, m < t → badT c N m = false)

set_option maxHeartbeats 1000000 in
theorem wrongTarget_gen (w : World) (cb co L cap N z : Nat) (c : Nat → Int) (V : SP c L N z) (hN : pos c N = L) (C : Laid w cb co L cap c) (hT : Tab w) :
    Calls Tryz.prog 128 #[.slice (some ⟨cb, co, none⟩) L cap] w fun e w' => ∃ r b, WT c N r b ∧ e = .returned (.tuple #[.int .i64 (r : Nat), .bool b]) ∧ Below w.heap.size w w' := by
  have hfs := field_sz
  have hmost := V.most
  obtain ⟨w1, hmk, hh1, hB1⟩ := made w 151 4 (.bool false) 1 L Tryz.underlying151 Tryz.infoBool rfl (by omega) (by omega)
  rw [bl_none] at hh1
  have HH1 : Hid (w1.heap[w.heap.size]? = some (.cells (bl L (fun _ => false)).toArray 4 (0, 0))) := hh1
  clear hh1
  go_enter Tryz.func128, Tryz.ntmps128
  go_wp2
  clear hmk
  go_loopw [5] (fun i wr => ∃ m : Nat, m ≤ N ∧ i = .int .i64 (pos c m) ∧ wr.heap[w.heap.size]? = some (.cells (bl L (started c m)).toArray 4 (0, 0)) ∧ Below w.heap.size w wr) (fun i _ => L - (intOf i).toNat)
  case atStart => exact ⟨0, by omega, rfl, HH1.out, hB1⟩
  case round =>
    obtain ⟨m, hm, rfl, hh, hB⟩ := hrel
    by_cases hlt : m < N
    · obtain ⟨kk, A, hsucc⟩ := V.at hlt
      have hck := C.at hB A.lt
      rw [A.op] at hck
      have h1 := A.lt
      have h2 := A.fits
      have h3 := A.sz
      have h4 := A.s1
      have h5 := A.s2
      have h6 := A.pos
      have h7 := A.most
      have hk := A.k
      have HS : Hid (pos c (m + 1) = pos c m + szOf kk) := hsucc
      have HZ : Hid (((pos c m + szOf kk : Nat) : Int) = (pos c m : Int) + shp (kk * 3)) := h3
      have hi1 : (pos c m : Int) < (L : Int) := by omega
      have c1 : wr.cell? ⟨w.heap.size, pos c m, none⟩ = some (.bool (started c m (pos c m))) := by
        rw [cell_of_row wr w.heap.size _ _ _ _ hh, List.getElem?_toArray]; exact bl_get L _ _ h1
      have f1 := frozen_of_row wr w.heap.size (pos c m) _ _ hh
      have HR : Hid ((wr.setCell ⟨w.heap.size, pos c m, none⟩ (.bool true)).heap[w.heap.size]? = some (.cells (bl L (started c (m + 1))).toArray 4 (0, 0))) := row_set hh _ _ (bl_set L _ _ _ _ (fun i _ => started_succ c m i))
      have hB2 := hB.setCell (p := ⟨w.heap.size, pos c m, none⟩) (Nat.le_refl _) (.bool true)
      have hTr : Hid (Tab (wr.setCell ⟨w.heap.size, pos c m, none⟩ (.bool true))) := hT.below hB2
      have hcb := C.blk
      have hne : ¬ w.heap.size = cb := by omega
      have hck2 : (wr.setCell ⟨w.heap.size, pos c m, none⟩ (.bool true)).cell? ⟨cb, co + pos c m, none⟩ = some (.int .u8 (kk : Int)) := by
        rw [World.cell?_setCell_other _ _ _ _ (fun c => by injection c with c1 _ _; omega)]; exact hck
      have hsz := hB.size
      have hlt2 : w.heap.size < wr.heap.size := by have := (Array.getElem?_eq_some_iff.1 hh).1; exact this
      clear hsucc h3 A hh
      go_wp2_with (go_at_call 129; refine (shapeOf_any kk (by omega) _ hTr.out).mono ?_; rintro e w' ⟨rfl, cc2, rfl⟩)
      go_roundw
      case rel => exact ⟨m + 1, by omega, by rw [HS.out, HZ.out], by rw [Below.heap_alloc _ _ _ (by simpa using hlt2)]; exact HR.out, hB2.alloc (by simp; omega) _⟩
      case measure => simp [intOf]; omega
    · have e : m = N := by omega
      subst e
      rw [hN]
      clear HH1
      go_wp2
      go_loopw [6] (fun i wx => ∃ t : Nat, t ≤ m ∧ i = .int .i64 (pos c t) ∧ (∀ s, s < t → badT c m s = false) ∧ wx.heap[w.heap.size]? = some (.cells (bl L (started c m)).toArray 4 (0, 0)) ∧ Below w.heap.size w wx) (fun i _ => L - (intOf i).toNat)
      case atStart => exact ⟨0, by omega, rfl, fun _ h => by omega, hh, hB⟩
      case round =>
        clear hh hB
        obtain ⟨t, ht, rfl, hgood, hh, hB⟩ := hrel
        by_cases hlt : t < m
        · obtain ⟨kk, A, hsucc⟩ := V.at hlt
          have hck := C.at hB A.lt
          rw [A.op] at hck
          have h1 := A.lt
          have h2 := A.fits
          have h3 := A.sz
          have h4 := A.s1
          have h5 := A.s2
          have h6 := A.pos
          have h7 := A.most
          have hk := A.k
          have hop := A.op
          have HG : Hid (∀ s, s < t → badT c m s = false) := hgood
          have HS : Hid (pos c (t + 1) = pos c t + szOf kk) := hsucc
          have HZ : Hid (((pos c t + szOf kk : Nat) : Int) = (pos c t : Int) + shp (kk * 3)) := h3
          have hi1 : (pos c t : Int) < (L : Int) := by omega
          have hTr : Hid (Tab wr) := hT.below hB
          have HN : badT c m t = false → ∀ s, s < t + 1 → badT c m s = false := fun hb s hs => by
            by_cases e : s = t
            · subst e; exact hb
            · exact HG.out s (by omega)
          clear hgood
          cases hlb : leadsB (kk : Int) with
          | false =>
            have HN2 : Hid (∀ s, s < t + 1 → badT c m s = false) := HN (by unfold badT; rw [hop, hlb]; rfl)
            clear hsucc h3 A hop HN
            go_wp2_with (first | (go_at_call 143; refine (leads_any _ _).mono ?_; rintro e w' ⟨rfl, rfl⟩) | (go_at_call 129; refine (shapeOf_any kk (by omega) _ hTr.out).mono ?_; rintro e w' ⟨rfl, cc2, rfl⟩))
            go_roundw
            case rel => exact ⟨t + 1, by omega, by rw [HS.out, HZ.out], HN2.out, by rw [Below.heap_alloc _ _ _ ((Array.getElem?_eq_some_iff.1 hh).1)]; exact hh, hB.alloc (by have := hB.size; omega) _⟩
            case measure => simp [intOf]; omega
          | true =>
            have hsz2 := (leads_two hlb).1
            have hby := V.byte (pos c t + 1) (by omega)
            obtain ⟨X, hX⟩ : ∃ X : Nat, c (pos c t + 1) = (X : Int) := ⟨(c (pos c t + 1)).toNat, by omega⟩
            have hck2 := C.at hB (p := pos c t + 1) (by omega)
            rw [hX] at hck2
            have hbad : badT c m t = !started c m X := by unfold badT; rw [hop, hlb, hX]; rfl
            have hi3 : (pos c t : Int) + 1 < (L : Int) := by omega
            have hi4 : (X : Int) ≤ 255 := by omega
            have HBD : Hid (badT c m t = !started c m X) := hbad
            by_cases hXL : X < L
            · have ct : wr.cell? ⟨w.heap.size, X, none⟩ = some (.bool (started c m X)) := by
                rw [cell_of_row wr w.heap.size _ _ _ _ hh, List.getElem?_toArray, bl_get L _ _ hXL]
              have hdec : decide ((L : Int) ≤ (X : Int)) = false := by simpa using hXL
              have hi2 : (X : Int) < (L : Int) := by omega
              have hi5 : ¬ (L : Int) ≤ (X : Int) := by omega
              cases hst : started c m X with
              | true =>
                rw [hst] at ct hbad
                have HN2 : Hid (∀ s, s < t + 1 → badT c m s = false) := HN hbad
                clear hsucc h3 A hop hsz2 hX hbad HN hby
                go_wp2_with (first | (go_at_call 143; refine (leads_any _ _).mono ?_; rintro e w' ⟨rfl, rfl⟩) | (go_at_call 129; refine (shapeOf_any kk (by omega) _ hTr.out).mono ?_; rintro e w' ⟨rfl, cc2, rfl⟩))
                go_roundw
                case rel => exact ⟨t + 1, by omega, by rw [HS.out, HZ.out], HN2.out, by rw [Below.heap_alloc _ _ _ ((Array.getElem?_eq_some_iff.1 hh).1)]; exact hh, hB.alloc (by have := hB.size; omega) _⟩
                case measure => simp [intOf]; omega
              | false =>
                rw [hst] at ct hbad
                have HBD2 : Hid (badT c m t = true) := hbad
                clear hsucc h3 A hop hsz2 hX hbad HN hby
                go_wp2_with (first | (go_at_call 143; refine (leads_any _ _).mono ?_; rintro e w' ⟨rfl, rfl⟩))
                go_ret2
                exact ⟨pos c t, true, Or.inr ⟨rfl, t, hlt, rfl, HBD2.out, HG.out⟩, rfl, hB⟩
            · have hst := started_far V (i := X) (by omega)
              rw [hst] at hbad
              have HBD2 : Hid (badT c m t = true) := hbad
              have hdec : decide ((L : Int) ≤ (X : Int)) = true := by simp; omega
              have hi5 : (L : Int) ≤ (X : Int) := by omega
              clear hsucc h3 A hop hsz2 hX hbad HN hby
              go_wp2_with (first | (go_at_call 143; refine (leads_any _ _).mono ?_; rintro e w' ⟨rfl, rfl⟩))
              go_ret2
              exact ⟨pos c t, true, Or.inr ⟨rfl, t, hlt, rfl, HBD2.out, HG.out⟩, rfl, hB⟩
        · have e : t = m := by omega
          subst e
          rw [hN]
          go_wp2
          go_ret2
          exact ⟨0, false, Or.inl ⟨rfl, rfl, hgood⟩, rfl, hB⟩
end Go.Proofs.YtflenkppcclclaaGreatDoor

