import Derived.Test.YtflenkppcclclaaDoorM07
import Derived.Laws.OwnMore
namespace Go.Proofs.YtflenkppcclclaaDoor
open Go.RowKit

/-- How many of the first k are true. -/
def cntB (f : Nat → Bool) : Nat → Nat
  | 0 => 0
  | k + 1 => cntB f k + if f k then 1 else 0
theorem cntB_le (f : Nat → Bool) : ∀ k, cntB f k ≤ k
  | 0 => Nat.le_refl _
  | k + 1 => by have := cntB_le f k; unfold cntB; split <;> omega

set_option maxHeartbeats 400000 in
theorem number_any (w : World) (G L : Nat) (f : Nat → Bool) (hh : w.heap[G]? = some (.cells (bl L f).toArray 4 (0, 0))) (hL : L ≤ 1000) :
    Calls Tryd.prog 34 #[.slice (some ⟨G, 0, none⟩) L L] w fun e w' => e = .returned (.int .i64 (cntB f L)) ∧ w' = w := by
  have hc : ∀ k, k < L → w.cell? ⟨G, k, none⟩ = some (.bool (f k)) := fun k hk => by
    rw [cell_of_row w G _ _ _ _ hh, List.getElem?_toArray]; exact bl_get L _ _ hk
  clear hh
  go_enter Tryd.func34, Tryd.ntmps34
  go_wp2
  go_loop [3, 8] (fun n i => ∃ k : Nat, k ≤ L ∧ i = .int .i64 k ∧ n = .int .i64 (cntB f k)) (fun _ i => L - (intOf i).toNat)
  case atStart => exact ⟨0, by omega, rfl, rfl⟩
  case round =>
    obtain ⟨k, hk, rfl, rfl⟩ := hrel
    have hle := cntB_le f k
    by_cases hlt : k < L
    · have hck := hc k hlt
      have hi1 : (k : Int) < (L : Int) := by omega
      have HC : Hid (cntB f (k + 1) = cntB f k + if f k then 1 else 0) := rfl
      cases hf : f k
      all_goals
        rw [hf] at HC hck
        go_wp2
        go_round
        case rel => exact ⟨k + 1, by omega, by go_num, by rw [HC.out]; simp⟩
        case measure => simp [intOf]; omega
    · have e : k = L := by omega
      subst e
      go_wp2
      go_ret
      exact ⟨rfl, rfl⟩

def entB (f : Nat → Bool) (i : Nat) : Int := if f i then cntB f i else -1
def il (L : Nat) (f : Nat → Int) : List Value := (List.range L).map fun i => .int .i64 (f i)
theorem il_get (L : Nat) (f : Nat → Int) (i : Nat) (hi : i < L) : (il L f)[i]? = some (.int .i64 (f i)) := by simp [il, List.getElem?_range hi]
theorem il_len (L : Nat) (f : Nat → Int) : (il L f).length = L := by simp [il]
theorem il_set (L : Nat) (f g : Nat → Int) (p : Nat) (b : Int) (hg : ∀ i, i < L → g i = if i = p then b else f i) : (il L f).set p (.int .i64 b) = il L g := by
  apply List.ext_getElem?
  intro j
  by_cases hj : j < L
  · rw [List.getElem?_set, il_get L g j hj, hg j hj]
    by_cases e : p = j
    · subst e; rw [if_pos rfl, if_pos (by rw [il_len]; exact hj), if_pos rfl]
    · rw [if_neg e, il_get L f j hj, if_neg (fun c => e c.symm)]
  · rw [List.getElem?_eq_none (by simp [il_len]; omega), List.getElem?_eq_none (by rw [il_len]; omega)]
theorem il_none (L : Nat) : List.replicate L (Value.int .i64 0) = il L (fun _ => 0) := by
  apply List.ext_getElem?
  intro j
  by_cases hj : j < L
  · rw [il_get L _ j hj, List.getElem?_replicate, if_pos hj]
  · rw [List.getElem?_eq_none (by simp; omega), List.getElem?_eq_none (by rw [il_len]; omega)]
def entAt (f : Nat → Bool) (k i : Nat) : Int := if i < k then entB f i else 0

set_option maxHeartbeats 1000000 in
theorem blockEntries_any (w : World) (cb co L cap N : Nat) (c : Nat → Int) (V : VP c L N) (C : Laid w cb co L cap c) (hT : Tab w) :
    Calls Tryd.prog 33 #[.slice (some ⟨cb, co, none⟩) L cap] w fun e w' => e = .returned (.slice (some ⟨w.heap.size, 0, none⟩) L L) ∧ w'.heap[w.heap.size]? = some (.cells (il L (entAt (bgn c N) L)).toArray 3 (0, 0)) ∧ Below w.heap.size w w' := by
  have hmost := V.most
  obtain ⟨w1, hmk, hh1, hB1⟩ := made w 31 3 (.int .i64 0) 8 L Tryd.underlying31 Tryd.infoInt rfl (by omega) (by omega)
  rw [il_none] at hh1
  have hs1 : w.heap.size < w1.heap.size := (Array.getElem?_eq_some_iff.1 hh1).1
  have HH1 : Hid (w1.heap[w.heap.size]? = some (.cells (il L (fun _ => 0)).toArray 3 (0, 0))) := hh1
  clear hh1
  go_enter Tryd.func33, Tryd.ntmps33
  go_wp2_with fail
  refine (beginnings_any w1 cb co L cap N c V (C.below hB1) (hT.below hB1)).mono ?_
  rintro e w2 ⟨rfl, hg2, hB2⟩
  clear hmk
  go_wp2_with fail
  go_loopw [4, 13] (fun n i wr => ∃ k : Nat, k ≤ L ∧ i = .int .i64 k ∧ n = .int .i64 (cntB (bgn c N) k) ∧ wr.heap[w.heap.size]? = some (.cells (il L (entAt (bgn c N) k)).toArray 3 (0, 0)) ∧ wr.heap[w1.heap.size]? = some (.cells (bl L (bgn c N)).toArray 4 (0, 0)) ∧ Below w.heap.size w wr) (fun _ i _ => L - (intOf i).toNat)
  case atStart =>
    refine ⟨0, by omega, rfl, rfl, ?_, hg2, hB1.trans (hB2.mono hB1.size)⟩
    rw [hB2.block _ hs1, HH1.out]
    have : entAt (bgn c N) 0 = fun _ => 0 := by funext i; unfold entAt; rw [if_neg (by omega)]
    rw [this]
  case round =>
    obtain ⟨k, hk, rfl, rfl, hh, hg, hB⟩ := hrel
    have hle := cntB_le (bgn c N) k
    by_cases hlt : k < L
    · have hi1 : (k : Int) < (L : Int) := by omega
      have cg : wr.cell? ⟨w1.heap.size, k, none⟩ = some (.bool (bgn c N k)) := by
        rw [cell_of_row wr w1.heap.size _ _ _ _ hg, List.getElem?_toArray]; exact bl_get L _ _ hlt
      have ch : wr.cell? ⟨w.heap.size, k, none⟩ = some (.int .i64 (entAt (bgn c N) k k)) := by
        rw [cell_of_row wr w.heap.size _ _ _ _ hh, List.getElem?_toArray]; exact il_get L _ _ hlt
      have fh := frozen_of_row wr w.heap.size k _ _ hh
      have HC : Hid (cntB (bgn c N) (k + 1) = cntB (bgn c N) k + if bgn c N k then 1 else 0) := rfl
      have hha := row_set hh k (.int .i64 (-1)) (il_set L (entAt (bgn c N) k) (fun i => if i = k then -1 else entAt (bgn c N) k i) k (-1) (fun i _ => rfl))
      have hBa := hB.setCell (p := ⟨w.heap.size, k, none⟩) (Nat.le_refl _) (.int .i64 (-1))
      have hne : ¬ w1.heap.size = w.heap.size := by omega
      cases hf : bgn c N k with
      | false =>
        rw [hf] at HC cg
        have HR : Hid ((wr.setCell ⟨w.heap.size, k, none⟩ (.int .i64 (-1))).heap[w.heap.size]? = some (.cells (il L (entAt (bgn c N) (k + 1))).toArray 3 (0, 0)) ∧ (wr.setCell ⟨w.heap.size, k, none⟩ (.int .i64 (-1))).heap[w1.heap.size]? = some (.cells (bl L (bgn c N)).toArray 4 (0, 0))) := by
          refine ⟨?_, (heap_setCell_other _ ⟨w.heap.size, k, none⟩ _ _ hne).trans hg⟩
          refine row_set hh k _ (il_set L _ _ k (-1) (fun i _ => ?_))
          unfold entAt entB
          by_cases e : i = k
          · subst e; rw [if_pos (by omega), if_pos rfl, hf]; rfl
          · rw [if_neg e]
            by_cases e2 : i < k
            · rw [if_pos e2, if_pos (by omega)]
            · rw [if_neg e2, if_neg (by omega)]
        clear hh hg hha
        go_wp2
        go_roundw
        case rel => exact ⟨k + 1, by omega, by go_num, by rw [HC.out]; simp, HR.out.1, HR.out.2, hBa⟩
        case measure => simp [intOf]; omega
      | true =>
        rw [hf] at HC cg
        have hBb := hBa.setCell (p := ⟨w.heap.size, k, none⟩) (Nat.le_refl _) (.int .i64 (cntB (bgn c N) k))
        have HR : Hid (((wr.setCell ⟨w.heap.size, k, none⟩ (.int .i64 (-1))).setCell ⟨w.heap.size, k, none⟩ (.int .i64 (cntB (bgn c N) k))).heap[w.heap.size]? = some (.cells (il L (entAt (bgn c N) (k + 1))).toArray 3 (0, 0)) ∧ ((wr.setCell ⟨w.heap.size, k, none⟩ (.int .i64 (-1))).setCell ⟨w.heap.size, k, none⟩ (.int .i64 (cntB (bgn c N) k))).heap[w1.heap.size]? = some (.cells (bl L (bgn c N)).toArray 4 (0, 0))) := by
          refine ⟨?_, (heap_setCell_other _ ⟨w.heap.size, k, none⟩ _ _ hne).trans ((heap_setCell_other _ ⟨w.heap.size, k, none⟩ _ _ hne).trans hg)⟩
          refine row_set hha k _ (il_set L _ _ k _ (fun i _ => ?_))
          unfold entAt entB
          by_cases e : i = k
          · subst e; rw [if_pos (by omega), if_pos rfl, hf]; rfl
          · rw [if_neg e]
            show _ = if i = k then _ else _
            rw [if_neg e]
            by_cases e2 : i < k
            · rw [if_pos e2, if_pos (by omega)]
            · rw [if_neg e2, if_neg (by omega)]
        clear hh hg hha
        go_wp2
        go_roundw
        case rel => exact ⟨k + 1, by omega, by go_num, by rw [HC.out]; simp, HR.out.1, HR.out.2, hBb⟩
        case measure => simp [intOf]; omega
    · have e : k = L := by omega
      subst e
      go_wp2
      go_ret
      exact ⟨rfl, hh, hB⟩

theorem entries_any (w : World) (cb co L cap N : Nat) (c : Nat → Int) (V : VP c L N) (C : Laid w cb co L cap c) (hT : Tab w) :
    Calls Tryd.prog 22 #[.slice (some ⟨cb, co, none⟩) L cap] w fun e w' => ∃ g, w.heap.size ≤ g ∧ e = .returned (.slice (some ⟨g, 0, none⟩) L L) ∧ w'.heap[g]? = some (.cells (il L (entAt (bgn c N) L)).toArray 3 (0, 0)) ∧ Below w.heap.size w w' := by
  go_enter Tryd.func22, Tryd.ntmps22
  go_wp2_with fail
  refine (hasProbe_no w cb co L cap N c V C hT).mono ?_
  rintro e w1 ⟨rfl, hB1⟩
  go_wp2_with fail
  refine (blockEntries_any w1 cb co L cap N c V (C.below hB1) (hT.below hB1)).mono ?_
  rintro e w2 ⟨rfl, hg2, hB2⟩
  go_wp2
  go_ret
  exact ⟨_, hB1.size, rfl, hg2, hB1.trans (hB2.mono hB1.size)⟩
end Go.Proofs.YtflenkppcclclaaDoor

namespace Go.Proofs.YtflenkppcclclaaDoor
open Go.RowKit

set_option maxHeartbeats 400000 in
theorem sound_yes (w : World) (cb o len cp kk : Nat) (n last : Int) (hk : kk ≤ 20) (hl : (kk : Int) ≤ last) (hlen : shp (kk * 3) ≤ (len : Int)) (h1 : 1 ≤ len) (c0 : w.cell? ⟨cb, o, none⟩ = some (.int .u8 (kk : Int)))
    (hh : holdsB (kk : Int) = true → 2 ≤ len ∧ w.cell? ⟨cb, o + 1, none⟩ = some (.int .u8 n) ∧ n < 16) (hT : Tab w) :
    Calls Tryd.prog 63 #[.slice (some ⟨cb, o, none⟩) len cp, .int .u8 last] w fun e w' => e = .returned (.bool true) ∧ ∃ c, w' = w.alloc (.cells c 75) := by
  have hfs := field_sz
  have hl1 : ¬ last < (kk : Int) := by omega
  have hl2 : decide (last < (kk : Int)) = false := by simpa using hl
  have hl3 : ¬ (len : Int) < shp (kk * 3) := by omega
  have hi0 : (0 : Int) < (len : Int) := by omega
  have hcb : cb < w.heap.size := block_lt_of_cell c0
  have HT : Hid (Tab w) := hT
  clear hT
  cases hb : holdsB (kk : Int) with
  | false =>
    clear hh
    go_enter Tryd.func63, Tryd.ntmps63
    go_wp2_with (first | (go_at_call 37; refine (shapeOf_any kk (by omega) _ HT.out).mono ?_; rintro e w' ⟨rfl, cc, rfl⟩) | (go_at_call 71; refine (holds_any _ _).mono ?_; rintro e w' ⟨rfl, rfl⟩))
    go_ret
    exact ⟨rfl, _, rfl⟩
  | true =>
    obtain ⟨g1, g2, g3⟩ := hh hb
    have hi1 : (1 : Int) < (len : Int) := by omega
    clear hh
    go_enter Tryd.func63, Tryd.ntmps63
    go_wp2_with (first | (go_at_call 37; refine (shapeOf_any kk (by omega) _ HT.out).mono ?_; rintro e w' ⟨rfl, cc, rfl⟩) | (go_at_call 71; refine (holds_any _ _).mono ?_; rintro e w' ⟨rfl, rfl⟩))
    go_ret
    exact ⟨rfl, _, rfl⟩

set_option maxHeartbeats 400000 in
theorem soundBytes_yes (w : World) (cb co L cap N : Nat) (c : Nat → Int) (V : VP c L N) (C : Laid w cb co L cap c) (hT : Tab w) :
    Calls Tryd.prog 44 #[.slice (some ⟨cb, co, none⟩) L cap, .int .u8 19] w fun e w' => e = .returned (.int .i64 L) ∧ Below w.heap.size w w' := by
  have hfs := field_sz
  have hroom := C.room
  go_enter Tryd.func44, Tryd.ntmps44
  go_wp2
  go_loopw [5] (fun i wr => ∃ m : Nat, m ≤ N ∧ i = .int .i64 (pos c m) ∧ Below w.heap.size w wr) (fun i _ => L - (intOf i).toNat)
  case atStart => exact ⟨0, by omega, rfl, Below.refl _ _⟩
  case round =>
    obtain ⟨m, hm, rfl, hB⟩ := hrel
    by_cases hlt : m < N
    · obtain ⟨kk, A, hsucc⟩ := V.at hlt
      have hck := C.at hB A.lt
      rw [A.op] at hck
      have h1 := A.lt
      have h2 := A.fits
      have h3 := A.sz
      have h4 := A.s1
      have h5 := A.s2
      have h6 := A.pos
      have h7 := A.most
      have hk := A.k
      have hTr : Hid (Tab wr) := hT.below hB
      have HS : Hid (pos c (m + 1) = pos c m + szOf kk) := hsucc
      have HZ : Hid (((pos c m + szOf kk : Nat) : Int) = (pos c m : Int) + shp (kk * 3)) := h3
      have hi1 : (pos c m : Int) < (L : Int) := by omega
      have hi2 : (pos c m : Int) ≤ (L : Int) := by omega
      have hcq : ¬ cap = pos c m := by omega
      have hdec : decide ((pos c m : Int) < (L : Int)) = true := by simpa using hi1
      have hsnd : Hid (Calls Tryd.prog 63 #[.slice (some ⟨cb, co + pos c m, none⟩) (L - pos c m) (cap - pos c m), .int .u8 19] wr fun e w' => e = .returned (.bool true) ∧ ∃ c, w' = wr.alloc (.cells c 75)) := by
        refine sound_yes wr cb _ _ _ kk (c (pos c m + 1)) 19 (by omega) (by omega) (by omega) (by omega) hck ?_ hTr.out
        intro hh
        have hs2 : szOf kk = 2 := by
          unfold holdsB at hh
          have : kk = 16 ∨ kk = 17 := by simp at hh; omega
          rcases this with e | e <;> rw [e] <;> rfl
        refine ⟨by omega, C.at hB (p := pos c m + 1) (by omega), ?_⟩
        have := V.cell m hlt
        rw [A.op] at this
        exact this hh
      have hcbr : cb < wr.heap.size := by have := C.blk; have := hB.size; omega
      have hck' : ∀ o, (wr.alloc o).cell? ⟨cb, co + pos c m, none⟩ = some (.int .u8 (kk : Int)) := fun o => (World.cell?_alloc_past _ _ _ hcbr).trans hck
      clear hsucc h3 A
      go_wp2_with (first | (go_at_call 63; refine (hsnd.out).mono ?_; rintro e w' ⟨rfl, cc, rfl⟩) | (go_at_call 37; refine (shapeOf_any kk (by omega) _ (hTr.out.alloc _)).mono ?_; rintro e w' ⟨rfl, cc2, rfl⟩))
      go_roundw
      case rel => exact ⟨m + 1, by omega, by rw [HS.out, HZ.out], (hB.alloc (by have := hB.size; omega) _).alloc (by have := hB.size; simp; omega) _⟩
      case measure => simp [intOf]; omega
    · have e : m = N := by omega
      subst e
      rw [V.last]
      have hdec : decide ((L : Int) < (L : Int)) = false := by simp
      go_wp2_with fail
      go_ret
      exact ⟨rfl, hB⟩

def wellAt (c : Nat → Int) (m : Nat) : Bool := if m = 0 then false else endsB (c (pos c (m - 1)))

set_option maxHeartbeats 400000 in
theorem endsWell_yes (w : World) (cb co L cap N : Nat) (c : Nat → Int) (V : VP c L N) (C : Laid w cb co L cap c) (hT : Tab w) :
    Calls Tryd.prog 45 #[.slice (some ⟨cb, co, none⟩) L cap] w fun e w' => e = .returned (.bool true) ∧ Below w.heap.size w w' := by
  have hfs := field_sz
  go_enter Tryd.func45, Tryd.ntmps45
  go_wp2
  go_loopw [3, 4] (fun b i wr => ∃ m : Nat, m ≤ N ∧ i = .int .i64 (pos c m) ∧ b = .bool (wellAt c m) ∧ Below w.heap.size w wr) (fun _ i _ => L - (intOf i).toNat)
  case atStart => exact ⟨0, by omega, rfl, rfl, Below.refl _ _⟩
  case round =>
    obtain ⟨m, hm, rfl, rfl, hB⟩ := hrel
    by_cases hlt : m < N
    · obtain ⟨kk, A, hsucc⟩ := V.at hlt
      have hck := C.at hB A.lt
      rw [A.op] at hck
      have h1 := A.lt
      have h2 := A.fits
      have h3 := A.sz
      have h4 := A.s1
      have h5 := A.s2
      have h6 := A.pos
      have h7 := A.most
      have hk := A.k
      have hTr : Hid (Tab wr) := hT.below hB
      have HS : Hid (pos c (m + 1) = pos c m + szOf kk) := hsucc
      have HZ : Hid (((pos c m + szOf kk : Nat) : Int) = (pos c m : Int) + shp (kk * 3)) := h3
      have hi1 : (pos c m : Int) < (L : Int) := by omega
      have HW : Hid (wellAt c (m + 1) = endsB (kk : Int)) := by
        show wellAt c (m + 1) = _
        unfold wellAt
        rw [if_neg (by omega), Nat.add_sub_cancel, A.op]
      clear hsucc h3 A
      go_wp2_with (first | (go_at_call 51; refine (ends_any _ _).mono ?_; rintro e w' ⟨rfl, rfl⟩) | (go_at_call 37; refine (shapeOf_any kk (by omega) _ hTr.out).mono ?_; rintro e w' ⟨rfl, cc2, rfl⟩))
      go_roundw
      case rel => exact ⟨m + 1, by omega, by rw [HS.out, HZ.out], by rw [HW.out], hB.alloc (by have := hB.size; omega) _⟩
      case measure => simp [intOf]; omega
    · have e : m = N := by omega
      subst e
      rw [V.last]
      have hw : wellAt c m = true := by
        unfold wellAt
        rw [if_neg (by have := V.one; omega)]
        exact V.stop
      rw [hw]
      go_wp2
      go_ret
      exact ⟨rfl, hB⟩
end Go.Proofs.YtflenkppcclclaaDoor

namespace Go.Proofs.YtflenkppcclclaaDoor
open Go.RowKit

set_option maxHeartbeats 400000 in
theorem flaw_no (w : World) (cb co L cap N : Nat) (c : Nat → Int) (V : VP c L N) (C : Laid w cb co L cap c) (hT : Tab w) :
    Calls Tryd.prog 27 #[.slice (some ⟨cb, co, none⟩) L cap, .int .i64 80, .int .u8 19] w fun e w' => e = .returned (.tuple #[.int .i64 0, .bool false]) ∧ Below w.heap.size w w' := by
  have hmost := V.most
  have h80 : ¬ (80 : Int) < (L : Int) := by omega
  have hLL : ¬ (L : Int) < (L : Int) := by omega
  go_enter Tryd.func27, Tryd.ntmps27
  go_wp2_with fail
  refine (soundBytes_yes w cb co L cap N c V C hT).mono ?_
  rintro e w1 ⟨rfl, B1⟩
  go_wp2_with fail
  refine (endsWell_yes w1 cb co L cap N c V (C.below B1) (hT.below B1)).mono ?_
  rintro e w2 ⟨rfl, B2⟩
  have B12 := B1.trans (B2.mono B1.size)
  go_wp2_with fail
  refine (wrongTarget_no w2 cb co L cap N c V (C.below B12) (hT.below B12)).mono ?_
  rintro e w3 ⟨rfl, B3⟩
  go_wp2_with fail
  go_ret2
  exact ⟨rfl, B12.trans (B3.mono B12.size)⟩

theorem canRun_yes (w : World) (cb co L cap N : Nat) (c : Nat → Int) (V : VP c L N) (C : Laid w cb co L cap c) (hT : Tab w) :
    Calls Tryd.prog 20 #[.slice (some ⟨cb, co, none⟩) L cap] w fun e w' => e = .returned (.bool true) ∧ Below w.heap.size w w' := by
  go_enter Tryd.func20, Tryd.ntmps20
  go_wp2_with fail
  refine (flaw_no w cb co L cap N c V C hT).mono ?_
  rintro e w1 ⟨rfl, B1⟩
  go_wp2_with fail
  go_ret
  exact ⟨rfl, B1⟩
end Go.Proofs.YtflenkppcclclaaDoor

