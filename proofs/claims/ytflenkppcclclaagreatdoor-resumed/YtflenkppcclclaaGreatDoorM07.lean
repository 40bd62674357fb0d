import Derived.Test.YtflenkppcclclaaGreatDoorM06
import Derived.Laws.OwnMore
namespace Go.Proofs.YtflenkppcclclaaGreatDoor
open Go.RowKit

/-- Where the n-th instruction begins. -/
def pos (c : Nat → Int) : Nat → Nat
  | 0 => 0
  | n + 1 => pos c n + szOf (c (pos c n)).toNat

/-- A program of N instructions and L bytes. -/
structure VP (c : Nat → Int) (L N : Nat) : Prop where
  most : L ≤ 80
  one : 0 < N
  last : pos c N = L
  op : ∀ m, m < N → c (pos c m) ≤ 19
  byte : ∀ i, i < L → 0 ≤ c i ∧ c i ≤ 255
  cell : ∀ m, m < N → holdsB (c (pos c m)) = true → c (pos c m + 1) < 16
  stop : endsB (c (pos c (N - 1))) = true
  jump : ∀ m, m < N → leadsB (c (pos c m)) = true → ∃ t, t < N ∧ (pos c t : Int) = c (pos c m + 1)

theorem VP.succ {c : Nat → Int} {L N : Nat} (V : VP c L N) {m : Nat} (hm : m < N) : pos c m + 1 ≤ pos c (m + 1) := by
  have := V.op m hm
  have := (szOf_pos (c (pos c m)).toNat (by omega)).1
  show _ ≤ pos c m + szOf _
  omega
theorem VP.mono {c : Nat → Int} {L N : Nat} (V : VP c L N) {m : Nat} : ∀ d, m + d ≤ N → pos c m + d ≤ pos c (m + d) := by
  intro d
  induction d with
  | zero => intro _; exact Nat.le_refl _
  | succ d ih => intro h; have := ih (by omega); have h2 := V.succ (m := m + d) (by omega); rw [← Nat.add_assoc m d 1]; omega
theorem VP.lt {c : Nat → Int} {L N : Nat} (V : VP c L N) {m : Nat} (hm : m < N) : pos c m < L := by
  have := V.mono (m := m) (N - m) (by omega)
  rw [show m + (N - m) = N by omega, V.last] at this
  omega
theorem VP.fits {c : Nat → Int} {L N : Nat} (V : VP c L N) {m : Nat} (hm : m < N) : pos c m + szOf (c (pos c m)).toNat ≤ L := by
  have := V.mono (m := m + 1) (N - (m + 1)) (by omega)
  rw [show m + 1 + (N - (m + 1)) = N by omega, V.last] at this
  have e : pos c (m + 1) = pos c m + szOf (c (pos c m)).toNat := rfl
  omega

/-- What a loop over the instructions meets at the m-th. -/
structure At (c : Nat → Int) (L p kk : Nat) : Prop where
  lt : p < L
  most : L ≤ 80
  op : c p = (kk : Int)
  k : kk ≤ 19
  fits : p + szOf kk ≤ L
  sz : ((p + szOf kk : Nat) : Int) = (p : Int) + shp (kk * 3)
  s1 : 1 ≤ shp (kk * 3)
  s2 : shp (kk * 3) ≤ 2
  pos : 1 ≤ szOf kk
theorem VP.at {c : Nat → Int} {L N : Nat} (V : VP c L N) {m : Nat} (hm : m < N) : ∃ kk, At c L (pos c m) kk ∧ pos c (m + 1) = pos c m + szOf kk := by
  have h1 := V.lt hm
  have h2 := V.op m hm
  have h3 := V.byte _ h1
  have h4 := V.fits hm
  obtain ⟨a, b, d⟩ := szOf_pos (c (pos c m)).toNat (by omega)
  exact ⟨(c (pos c m)).toNat, ⟨h1, V.most, by omega, by omega, h4, by omega, by omega, by omega, a⟩, rfl⟩

theorem Tab.below {w wr : World} (hT : Tab w) (hB : Below w.heap.size w wr) : Tab wr := fun k hk => (hB.cell (p := ⟨0, k, none⟩) hT.pos).trans (hT k hk)

theorem field_sz (s t l : Int) (w : World) : (Instr.field 179 (.agg #[.int .i64 s, .int .i64 t, .int .i64 l]) 0).run Tryz.prog w = .ok (.int .i64 s) w := by kernel_rfl

/-- The code lies in memory. -/
structure Laid (w : World) (cb co L cap : Nat) (c : Nat → Int) : Prop where
  cell : ∀ i, i < L → w.cell? ⟨cb, co + i, none⟩ = some (.int .u8 (c i))
  room : L ≤ cap
  room' : cap ≤ 9223372036854775807
  some' : 0 < L

theorem Laid.blk {w : World} {cb co L cap : Nat} {c : Nat → Int} (h : Laid w cb co L cap c) : cb < w.heap.size := block_lt_of_cell (h.cell 0 h.some')
theorem Laid.at {w wr : World} {cb co L cap : Nat} {c : Nat → Int} (h : Laid w cb co L cap c) (hB : Below w.heap.size w wr) {p : Nat} (hp : p < L) : wr.cell? ⟨cb, co + p, none⟩ = some (.int .u8 (c p)) :=
  (hB.cell (p := ⟨cb, co + p, none⟩) h.blk).trans (h.cell p hp)
theorem Laid.below {w wr : World} {cb co L cap : Nat} {c : Nat → Int} (h : Laid w cb co L cap c) (hB : Below w.heap.size w wr) : Laid wr cb co L cap c := ⟨fun _ hi => h.at hB hi, h.room, h.room', h.some'⟩

set_option maxHeartbeats 400000 in
theorem hasProbe_no (w : World) (cb co L cap N : Nat) (c : Nat → Int) (V : VP c L N) (C : Laid w cb co L cap c) (hT : Tab w) :
    Calls Tryz.prog 71 #[.slice (some ⟨cb, co, none⟩) L cap] w fun e w' => e = .returned (.bool false) ∧ Below w.heap.size w w' := by
  have hfs := field_sz
  go_enter Tryz.func71, Tryz.ntmps71
  go_wp2
  go_loopw [3] (fun i wr => ∃ m : Nat, m ≤ N ∧ i = .int .i64 (pos c m) ∧ Below w.heap.size w wr) (fun i _ => L - (intOf i).toNat)
  case atStart => exact ⟨0, by omega, rfl, Below.refl _ _⟩
  case round =>
    obtain ⟨m, hm, rfl, hB⟩ := hrel
    by_cases hlt : m < N
    · obtain ⟨kk, A, hsucc⟩ := V.at hlt
      have hck := C.at hB A.lt
      rw [A.op] at hck
      have h1 := A.lt
      have h2 := A.fits
      have h3 := A.sz
      have h4 := A.s1
      have h5 := A.s2
      have h6 := A.pos
      have h7 := A.most
      have hk := A.k
      have h20 : ((kk : Int) == 20) = false := by rw [beq_eq_false_iff_ne]; omega
      have hTr : Hid (Tab wr) := hT.below hB
      have HS : Hid (pos c (m + 1) = pos c m + szOf kk) := hsucc
      have HZ : Hid (((pos c m + szOf kk : Nat) : Int) = (pos c m : Int) + shp (kk * 3)) := h3
      have hi1 : (pos c m : Int) < (L : Int) := by omega
      clear hsucc h3 A
      go_wp2_with (go_at_call 129; refine (shapeOf_any kk (by omega) _ hTr.out).mono ?_; rintro e w' ⟨rfl, cc, rfl⟩)
      go_roundw
      case rel => exact ⟨m + 1, by omega, by rw [HS.out, HZ.out], hB.alloc (by have := hB.size; omega) _⟩
      case measure => simp [intOf]; omega
    · have e : m = N := by omega
      subst e
      rw [V.last]
      go_wp2
      go_ret
      exact ⟨rfl, hB⟩
end Go.Proofs.YtflenkppcclclaaGreatDoor

namespace Go.Proofs.YtflenkppcclclaaGreatDoor
open Go.RowKit

theorem Tryz.infoBool : (Tryz.prog.info? 4).map (fun i => (i.zero, i.size, i.bytes)) = some (some (.bool false), 1, 1) := by kernel_rfl
theorem Tryz.infoInt : (Tryz.prog.info? 3).map (fun i => (i.zero, i.size, i.bytes)) = some (some (.int .i64 0), 1, 8) := by kernel_rfl

/-- 'make([]T, n)', T of one cell. -/
theorem made (w : World) (t e : TypeId) (z : Value) (bytes n : Nat) (ht : Tryz.prog.underlying t = some (.slice e)) (hinfo : (Tryz.prog.info? e).map (fun i => (i.zero, i.size, i.bytes)) = some (some z, 1, bytes)) (hz : z.cells = #[z]) (hn : n ≤ 1000) (hb : bytes ≤ 8) :
    ∃ w1, (Instr.makeSlice t (.int .i64 (n : Int)) (.int .i64 (n : Int))).run Tryz.prog w = .ok (.slice (some ⟨w.heap.size, 0, none⟩) n n) w1 ∧ w1.heap[w.heap.size]? = some (.cells (List.replicate n z).toArray e (0, 0)) ∧ Below w.heap.size w w1 := by
  obtain ⟨i, hi, hz0, hz1, hz2⟩ := info_parts hinfo
  obtain ⟨w1, hr, ho, hg⟩ := run_make_full (P := Tryz.prog) w w.heap.size t e i z 1 ht hi hz0 hz1 .i64 .i64 n (by rw [hz2]; have : bytes * n ≤ 8 * 1000 := Nat.mul_le_mul hb hn; omega) (by unfold maxLen; omega) (Nat.le_refl _)
  refine ⟨w1, hr, ?_, (Below.refl _ _).grown hg (Nat.le_refl _) (fun k hk => by cases hk)⟩
  rcases ho.2 with ⟨h, _⟩ | ⟨g, cap, cur, h, _, hh, _, _, hcs, htake⟩
  · simp at h
  · simp only [Value.slice.injEq, Option.some.injEq, Addr.mk.injEq, and_true, true_and] at h
    obtain ⟨rfl, rfl⟩ := h
    rw [hh]
    rw [Nat.mul_one, hz, toList_madeCells_one, List.take_of_length_le (by rw [Array.length_toList]; omega)] at htake
    rw [← htake]

def bl (L : Nat) (f : Nat → Bool) : List Value := (List.range L).map fun i => .bool (f i)
theorem bl_get (L : Nat) (f : Nat → Bool) (i : Nat) (hi : i < L) : (bl L f)[i]? = some (.bool (f i)) := by simp [bl, List.getElem?_range hi]
theorem bl_len (L : Nat) (f : Nat → Bool) : (bl L f).length = L := by simp [bl]
theorem bl_set (L : Nat) (f g : Nat → Bool) (p : Nat) (b : Bool) (hg : ∀ i, i < L → g i = if i = p then b else f i) : (bl L f).set p (.bool b) = bl L g := by
  apply List.ext_getElem?
  intro j
  by_cases hj : j < L
  · rw [List.getElem?_set, bl_get L g j hj, hg j hj]
    by_cases e : p = j
    · subst e; rw [if_pos rfl, if_pos (by rw [bl_len]; exact hj), if_pos rfl]
    · rw [if_neg e, bl_get L f j hj, if_neg (fun c => e c.symm)]
  · rw [List.getElem?_eq_none (by simp [bl_len]; omega), List.getElem?_eq_none (by rw [bl_len]; omega)]
theorem bl_none (L : Nat) : List.replicate L (Value.bool false) = bl L (fun _ => false) := by
  apply List.ext_getElem?
  intro j
  by_cases hj : j < L
  · rw [bl_get L _ j hj, List.getElem?_replicate, if_pos hj]
  · rw [List.getElem?_eq_none (by simp; omega), List.getElem?_eq_none (by rw [bl_len]; omega)]

/-- A store into a row that is known whole. -/
theorem row_set {wr : World} {G : Nat} {l l' : List Value} {e : TypeId} (h : wr.heap[G]? = some (.cells l.toArray e (0, 0))) (p : Nat) (v : Value) (hl : l.set p v = l') : (wr.setCell ⟨G, p, none⟩ v).heap[G]? = some (.cells l'.toArray e (0, 0)) := by
  rw [heap_setCell_same wr G p _ _ _ h, ← hl]
  simp

/-- One of the first m instructions begins at i. -/
def started (c : Nat → Int) (m i : Nat) : Bool := (List.range m).any fun t => pos c t == i
theorem started_succ (c : Nat → Int) (m i : Nat) : started c (m + 1) i = if i = pos c m then true else started c m i := by
  unfold started
  rw [List.range_succ, List.any_append]
  by_cases e : i = pos c m
  · subst e; simp
  · rw [if_neg e]
    have : (pos c m == i) = false := by rw [beq_eq_false_iff_ne]; exact fun h => e h.symm
    simp [this]
theorem started_of (c : Nat → Int) {m t : Nat} (ht : t < m) : started c m (pos c t) = true := by
  unfold started
  rw [List.any_eq_true]
  exact ⟨t, List.mem_range.2 ht, by simp⟩

set_option maxHeartbeats 1000000 in
theorem wrongTarget_no (w : World) (cb co L cap N : Nat) (c : Nat → Int) (V : VP c L N) (C : Laid w cb co L cap c) (hT : Tab w) :
    Calls Tryz.prog 128 #[.slice (some ⟨cb, co, none⟩) L cap] w fun e w' => e = .returned (.tuple #[.int .i64 0, .bool false]) ∧ Below w.heap.size w w' := by
  have hfs := field_sz
  have hmost := V.most
  obtain ⟨w1, hmk, hh1, hB1⟩ := made w 151 4 (.bool false) 1 L Tryz.underlying151 Tryz.infoBool rfl (by omega) (by omega)
  rw [bl_none] at hh1
  have HH1 : Hid (w1.heap[w.heap.size]? = some (.cells (bl L (fun _ => false)).toArray 4 (0, 0))) := hh1
  clear hh1
  go_enter Tryz.func128, Tryz.ntmps128
  go_wp2
  clear hmk
  go_loopw [5] (fun i wr => ∃ m : Nat, m ≤ N ∧ i = .int .i64 (pos c m) ∧ wr.heap[w.heap.size]? = some (.cells (bl L (started c m)).toArray 4 (0, 0)) ∧ Below w.heap.size w wr) (fun i _ => L - (intOf i).toNat)
  case atStart => exact ⟨0, by omega, rfl, HH1.out, hB1⟩
  case round =>
    obtain ⟨m, hm, rfl, hh, hB⟩ := hrel
    by_cases hlt : m < N
    · obtain ⟨kk, A, hsucc⟩ := V.at hlt
      have hck := C.at hB A.lt
      rw [A.op] at hck
      have h1 := A.lt
      have h2 := A.fits
      have h3 := A.sz
      have h4 := A.s1
      have h5 := A.s2
      have h6 := A.pos
      have h7 := A.most
      have hk := A.k
      have HS : Hid (pos c (m + 1) = pos c m + szOf kk) := hsucc
      have HZ : Hid (((pos c m + szOf kk : Nat) : Int) = (pos c m : Int) + shp (kk * 3)) := h3
      have hi1 : (pos c m : Int) < (L : Int) := by omega
      have c1 : wr.cell? ⟨w.heap.size, pos c m, none⟩ = some (.bool (started c m (pos c m))) := by
        rw [cell_of_row wr w.heap.size _ _ _ _ hh, List.getElem?_toArray]; exact bl_get L _ _ h1
      have f1 := frozen_of_row wr w.heap.size (pos c m) _ _ hh
      have HR : Hid ((wr.setCell ⟨w.heap.size, pos c m, none⟩ (.bool true)).heap[w.heap.size]? = some (.cells (bl L (started c (m + 1))).toArray 4 (0, 0))) := row_set hh _ _ (bl_set L _ _ _ _ (fun i _ => started_succ c m i))
      have hB2 := hB.setCell (p := ⟨w.heap.size, pos c m, none⟩) (Nat.le_refl _) (.bool true)
      have hTr : Hid (Tab (wr.setCell ⟨w.heap.size, pos c m, none⟩ (.bool true))) := hT.below hB2
      have hcb := C.blk
      have hne : ¬ w.heap.size = cb := by omega
      have hck2 : (wr.setCell ⟨w.heap.size, pos c m, none⟩ (.bool true)).cell? ⟨cb, co + pos c m, none⟩ = some (.int .u8 (kk : Int)) := by
        rw [World.cell?_setCell_other _ _ _ _ (fun c => by injection c with c1 _ _; omega)]; exact hck
      have hsz := hB.size
      have hlt2 : w.heap.size < wr.heap.size := by have := (Array.getElem?_eq_some_iff.1 hh).1; exact this
      clear hsucc h3 A hh
      go_wp2_with (go_at_call 129; refine (shapeOf_any kk (by omega) _ hTr.out).mono ?_; rintro e w' ⟨rfl, cc2, rfl⟩)
      go_roundw
      case rel => exact ⟨m + 1, by omega, by rw [HS.out, HZ.out], by rw [Below.heap_alloc _ _ _ (by simpa using hlt2)]; exact HR.out, hB2.alloc (by simp; omega) _⟩
      case measure => simp [intOf]; omega
    · have e : m = N := by omega
      subst e
      rw [V.last]
      clear HH1
      go_wp2
      go_loopw [6] (fun i wx => ∃ t : Nat, t ≤ m ∧ i = .int .i64 (pos c t) ∧ wx.heap[w.heap.size]? = some (.cells (bl L (started c m)).toArray 4 (0, 0)) ∧ Below w.heap.size w wx) (fun i _ => L - (intOf i).toNat)
      case atStart => exact ⟨0, by omega, rfl, hh, hB⟩
      case round =>
        clear hh hB
        obtain ⟨t, ht, rfl, hh, hB⟩ := hrel
        by_cases hlt : t < m
        · obtain ⟨kk, A, hsucc⟩ := V.at hlt
          have hck := C.at hB A.lt
          rw [A.op] at hck
          have h1 := A.lt
          have h2 := A.fits
          have h3 := A.sz
          have h4 := A.s1
          have h5 := A.s2
          have h6 := A.pos
          have h7 := A.most
          have hk := A.k
          have hop := A.op
          have HS : Hid (pos c (t + 1) = pos c t + szOf kk) := hsucc
          have HZ : Hid (((pos c t + szOf kk : Nat) : Int) = (pos c t : Int) + shp (kk * 3)) := h3
          have hi1 : (pos c t : Int) < (L : Int) := by omega
          have hTr : Hid (Tab wr) := hT.below hB
          cases hlb : leadsB (kk : Int) with
          | false =>
            clear hsucc h3 A hop
            go_wp2_with (first | (go_at_call 143; refine (leads_any _ _).mono ?_; rintro e w' ⟨rfl, rfl⟩) | (go_at_call 129; refine (shapeOf_any kk (by omega) _ hTr.out).mono ?_; rintro e w' ⟨rfl, cc2, rfl⟩))
            go_roundw
            case rel => exact ⟨t + 1, by omega, by rw [HS.out, HZ.out], by rw [Below.heap_alloc _ _ _ ((Array.getElem?_eq_some_iff.1 hh).1)]; exact hh, hB.alloc (by have := hB.size; omega) _⟩
            case measure => simp [intOf]; omega
          | true =>
            obtain ⟨s, hs, hst⟩ := V.jump t hlt (by rw [hop]; exact hlb)
            have hsz2 : szOf kk = 2 := by
              unfold leadsB at hlb
              have : kk = 14 ∨ kk = 15 := by simp at hlb; omega
              rcases this with e | e <;> rw [e] <;> rfl
            have hck2 := C.at hB (p := pos c t + 1) (by omega)
            rw [← hst] at hck2
            have hsL := V.lt hs
            have ct : wr.cell? ⟨w.heap.size, pos c s, none⟩ = some (.bool true) := by
              rw [cell_of_row wr w.heap.size _ _ _ _ hh, List.getElem?_toArray, bl_get L _ _ hsL, started_of c hs]
            have hdec : decide ((L : Int) ≤ (pos c s : Int)) = false := by simpa using hsL
            have hi2 : (pos c s : Int) < (L : Int) := by omega
            have hi3 : (pos c t : Int) + 1 < (L : Int) := by omega
            have hi4 : (pos c s : Int) ≤ 255 := by omega
            have hi5 : ¬ (L : Int) ≤ (pos c s : Int) := by omega
            have HST : Hid ((pos c s : Int) = c (pos c t + 1)) := hst
            clear hsucc h3 A hop hst hsz2
            go_wp2_with (first | (go_at_call 143; refine (leads_any _ _).mono ?_; rintro e w' ⟨rfl, rfl⟩) | (go_at_call 129; refine (shapeOf_any kk (by omega) _ hTr.out).mono ?_; rintro e w' ⟨rfl, cc2, rfl⟩))
            go_roundw
            case rel => exact ⟨t + 1, by omega, by rw [HS.out, HZ.out], by rw [Below.heap_alloc _ _ _ ((Array.getElem?_eq_some_iff.1 hh).1)]; exact hh, hB.alloc (by have := hB.size; omega) _⟩
            case measure => simp [intOf]; omega
        · have e : t = m := by omega
          subst e
          rw [V.last]
          go_wp2
          go_ret2
          exact ⟨rfl, hB⟩
end Go.Proofs.YtflenkppcclclaaGreatDoor

namespace Go.Proofs.YtflenkppcclclaaGreatDoor
open Go.RowKit

def behindB (c : Nat → Int) (t : Nat) : Bool := if t = 0 then true else endsB (c (pos c (t - 1))) || leadsB (c (pos c (t - 1)))
/-- A block begins at i, as far as the first m instructions say. -/
def bgn (c : Nat → Int) (m i : Nat) : Bool := (List.range m).any fun t => (behindB c t && pos c t == i) || (leadsB (c (pos c t)) && c (pos c t + 1) == (i : Int))
theorem bgn_succ (c : Nat → Int) (m i : Nat) : bgn c (m + 1) i = (bgn c m i || ((behindB c m && pos c m == i) || (leadsB (c (pos c m)) && c (pos c m + 1) == (i : Int)))) := by
  unfold bgn
  rw [List.range_succ, List.any_append]
  simp

set_option maxHeartbeats 1000000 in
theorem beginnings_any (w : World) (cb co L cap N : Nat) (c : Nat → Int) (V : VP c L N) (C : Laid w cb co L cap c) (hT : Tab w) :
    Calls Tryz.prog 93 #[.slice (some ⟨cb, co, none⟩) L cap] w fun e w' => e = .returned (.slice (some ⟨w.heap.size, 0, none⟩) L L) ∧ w'.heap[w.heap.size]? = some (.cells (bl L (bgn c N)).toArray 4 (0, 0)) ∧ Below w.heap.size w w' := by
  have hfs := field_sz
  have hmost := V.most
  obtain ⟨w1, hmk, hh1, hB1⟩ := made w 151 4 (.bool false) 1 L Tryz.underlying151 Tryz.infoBool rfl (by omega) (by omega)
  rw [bl_none] at hh1
  have HH1 : Hid (w1.heap[w.heap.size]? = some (.cells (bl L (fun _ => false)).toArray 4 (0, 0))) := hh1
  clear hh1
  go_enter Tryz.func93, Tryz.ntmps93
  go_wp2
  clear hmk
  go_loopw [4, 5] (fun b i wr => ∃ m : Nat, m ≤ N ∧ i = .int .i64 (pos c m) ∧ b = .bool (behindB c m) ∧ wr.heap[w.heap.size]? = some (.cells (bl L (bgn c m)).toArray 4 (0, 0)) ∧ Below w.heap.size w wr) (fun _ i _ => L - (intOf i).toNat)
  case atStart => exact ⟨0, by omega, rfl, rfl, HH1.out, hB1⟩
  case round =>
    obtain ⟨m, hm, rfl, rfl, hh, hB⟩ := hrel
    by_cases hlt : m < N
    · obtain ⟨kk, A, hsucc⟩ := V.at hlt
      have hck := C.at hB A.lt
      rw [A.op] at hck
      have h1 := A.lt
      have h2 := A.fits
      have h3 := A.sz
      have h4 := A.s1
      have h5 := A.s2
      have h6 := A.pos
      have h7 := A.most
      have hk := A.k
      have hop := A.op
      have HS : Hid (pos c (m + 1) = pos c m + szOf kk) := hsucc
      have HZ : Hid (((pos c m + szOf kk : Nat) : Int) = (pos c m : Int) + shp (kk * 3)) := h3
      have hi1 : (pos c m : Int) < (L : Int) := by omega
      have HBH : Hid (behindB c (m + 1) = (endsB (kk : Int) || leadsB (kk : Int))) := by
        show behindB c (m + 1) = _
        unfold behindB
        rw [if_neg (by omega), Nat.add_sub_cancel, hop]
      have hcb := C.blk
      have hlt2 : w.heap.size < wr.heap.size := (Array.getElem?_eq_some_iff.1 hh).1
      -- the row behind the first store
      obtain ⟨wa, hwa, hha, hBa⟩ : ∃ wa, wa = (if behindB c m then wr.setCell ⟨w.heap.size, pos c m, none⟩ (.bool true) else wr) ∧ wa.heap[w.heap.size]? = some (.cells (bl L (fun i => bgn c m i || (behindB c m && pos c m == i))).toArray 4 (0, 0)) ∧ Below w.heap.size w wa := by
        refine ⟨_, rfl, ?_, ?_⟩
        · cases hb : behindB c m
          · simp only [Bool.false_and, Bool.or_false]; exact hh
          · simp only [if_true, Bool.true_and]
            refine row_set hh _ _ (bl_set L _ _ _ _ (fun i _ => ?_))
            by_cases e : i = pos c m
            · subst e; simp
            · rw [if_neg e]; have : (pos c m == i) = false := by rw [beq_eq_false_iff_ne]; exact fun h => e h.symm
              simp [this]
        · cases hb : behindB c m
          · exact hB
          · exact hB.setCell (p := ⟨w.heap.size, pos c m, none⟩) (Nat.le_refl _) _
      have hszA : wa.heap.size = wr.heap.size := by rw [hwa]; split <;> simp
      have fa : ∀ p, wa.frozen? ⟨w.heap.size, p, none⟩ = false := fun p => frozen_of_row wa w.heap.size p _ _ hha
      have ca : ∀ p, p < L → ∃ b, wa.cell? ⟨w.heap.size, p, none⟩ = some (.bool b) := fun p hp => by
        rw [cell_of_row wa w.heap.size _ _ _ _ hha, List.getElem?_toArray, bl_get L _ _ hp]; exact ⟨_, rfl⟩
      have c1 : wr.cell? ⟨w.heap.size, pos c m, none⟩ = some (.bool (bgn c m (pos c m))) := by
        rw [cell_of_row wr w.heap.size _ _ _ _ hh, List.getElem?_toArray]; exact bl_get L _ _ h1
      have f1 := frozen_of_row wr w.heap.size (pos c m) _ _ hh
      have hcka := C.at hBa h1
      rw [hop] at hcka
      have hTa : Hid (Tab wa) := hT.below hBa
      cases hlb : leadsB (kk : Int) with
      | false =>
        have HR : Hid (wa.heap[w.heap.size]? = some (.cells (bl L (bgn c (m + 1))).toArray 4 (0, 0))) := by
          show wa.heap[w.heap.size]? = _
          rw [hha]
          have : (fun i => bgn c m i || (behindB c m && pos c m == i)) = bgn c (m + 1) := by
            funext i; rw [bgn_succ, hop, hlb]; simp
          rw [this]
        cases hbh : behindB c m with
        | false =>
          have hwr : wa = wr := by rw [hwa, hbh]; rfl
          subst hwr
          clear hsucc h3 A hop hh hha ca fa hwa
          cases hen : endsB (kk : Int)
          all_goals
            rw [hen, hlb] at HBH
            go_wp2_with (first | (go_at_call 143; refine (leads_any _ _).mono ?_; rintro e w' ⟨rfl, rfl⟩) | (go_at_call 144; refine (ends_any _ _).mono ?_; rintro e w' ⟨rfl, rfl⟩) | (go_at_call 129; refine (shapeOf_any kk (by omega) _ hTa.out).mono ?_; rintro e w' ⟨rfl, cc2, rfl⟩))
            go_roundw
            case rel => exact ⟨m + 1, by omega, by rw [HS.out, HZ.out], by rw [HBH.out]; rfl, by rw [Below.heap_alloc _ _ _ (by omega)]; exact HR.out, hBa.alloc (by have := hBa.size; omega) _⟩
            case measure => simp [intOf]; omega
        | true =>
          have hwr : wa = wr.setCell ⟨w.heap.size, pos c m, none⟩ (.bool true) := by rw [hwa, hbh]; rfl
          subst hwr
          clear hsucc h3 A hop hh hha ca fa hwa
          cases hen : endsB (kk : Int)
          all_goals
            rw [hen, hlb] at HBH
            go_wp2_with (first | (go_at_call 143; refine (leads_any _ _).mono ?_; rintro e w' ⟨rfl, rfl⟩) | (go_at_call 144; refine (ends_any _ _).mono ?_; rintro e w' ⟨rfl, rfl⟩) | (go_at_call 129; refine (shapeOf_any kk (by omega) _ hTa.out).mono ?_; rintro e w' ⟨rfl, cc2, rfl⟩))
            go_roundw
            case rel => exact ⟨m + 1, by omega, by rw [HS.out, HZ.out], by rw [HBH.out]; rfl, by rw [Below.heap_alloc _ _ _ (by omega)]; exact HR.out, hBa.alloc (by have := hBa.size; omega) _⟩
            case measure => simp [intOf]; omega
      | true =>
        obtain ⟨s, hs, hst⟩ := V.jump m hlt (by rw [hop]; exact hlb)
        have hsz2 : szOf kk = 2 := by
          unfold leadsB at hlb
          have : kk = 14 ∨ kk = 15 := by simp at hlb; omega
          rcases this with e | e <;> rw [e] <;> rfl
        have hck2 := C.at hBa (p := pos c m + 1) (by omega)
        rw [← hst] at hck2
        have hsL := V.lt hs
        have hi2 : (pos c s : Int) < (L : Int) := by omega
        have hi3 : (pos c m : Int) + 1 < (L : Int) := by omega
        have hi4 : (pos c s : Int) ≤ 255 := by omega
        obtain ⟨bs, cs⟩ := ca (pos c s) hsL
        have fs := fa (pos c s)
        have HR : Hid ((wa.setCell ⟨w.heap.size, pos c s, none⟩ (.bool true)).heap[w.heap.size]? = some (.cells (bl L (bgn c (m + 1))).toArray 4 (0, 0))) := by
          refine row_set hha _ _ (bl_set L _ _ _ _ (fun i _ => ?_))
          rw [bgn_succ, hop, hlb, ← hst]
          by_cases e : i = pos c s
          · subst e; simp
          · rw [if_neg e]
            have : ((pos c s : Int) == (i : Int)) = false := by rw [beq_eq_false_iff_ne]; omega
            simp [this]
        have hBb : Below w.heap.size w (wa.setCell ⟨w.heap.size, pos c s, none⟩ (.bool true)) := hBa.setCell (p := ⟨w.heap.size, pos c s, none⟩) (Nat.le_refl _) _
        have hckb : (wa.setCell ⟨w.heap.size, pos c s, none⟩ (.bool true)).cell? ⟨cb, co + pos c m, none⟩ = some (.int .u8 (kk : Int)) := by
          have := C.at hBb h1
          rw [hop] at this
          exact this
        have hTb : Hid (Tab (wa.setCell ⟨w.heap.size, pos c s, none⟩ (.bool true))) := hT.below hBb
        have HST : Hid ((pos c s : Int) = c (pos c m + 1)) := hst
        clear hst
        cases hbh : behindB c m with
        | false =>
          have hwr : wa = wr := by rw [hwa, hbh]; rfl
          subst hwr
          clear hsucc h3 A hop hh hha ca fa hwa
          cases hen : endsB (kk : Int)
          all_goals
            rw [hen, hlb] at HBH
            go_wp2_with (first | (go_at_call 143; refine (leads_any _ _).mono ?_; rintro e w' ⟨rfl, rfl⟩) | (go_at_call 144; refine (ends_any _ _).mono ?_; rintro e w' ⟨rfl, rfl⟩) | (go_at_call 129; refine (shapeOf_any kk (by omega) _ hTb.out).mono ?_; rintro e w' ⟨rfl, cc2, rfl⟩))
            go_roundw
            case rel => exact ⟨m + 1, by omega, by rw [HS.out, HZ.out], by rw [HBH.out]; rfl, by rw [Below.heap_alloc _ _ _ (by simp; omega)]; exact HR.out, hBb.alloc (by simp; omega) _⟩
            case measure => simp [intOf]; omega
        | true =>
          have hwr : wa = wr.setCell ⟨w.heap.size, pos c m, none⟩ (.bool true) := by rw [hwa, hbh]; rfl
          subst hwr
          clear hsucc h3 A hop hh hha ca fa hwa
          cases hen : endsB (kk : Int)
          all_goals
            rw [hen, hlb] at HBH
            go_wp2_with (first | (go_at_call 143; refine (leads_any _ _).mono ?_; rintro e w' ⟨rfl, rfl⟩) | (go_at_call 144; refine (ends_any _ _).mono ?_; rintro e w' ⟨rfl, rfl⟩) | (go_at_call 129; refine (shapeOf_any kk (by omega) _ hTb.out).mono ?_; rintro e w' ⟨rfl, cc2, rfl⟩))
            go_roundw
            case rel => exact ⟨m + 1, by omega, by rw [HS.out, HZ.out], by rw [HBH.out]; rfl, by rw [Below.heap_alloc _ _ _ (by simp; omega)]; exact HR.out, hBb.alloc (by simp; omega) _⟩
            case measure => simp [intOf]; omega
    · have e : m = N := by omega
      subst e
      rw [V.last]
      go_wp2
      go_ret
      exact ⟨rfl, hh, hB⟩
end Go.Proofs.YtflenkppcclclaaGreatDoor

