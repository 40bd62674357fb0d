import Derived.Test.YtflenkppcclclaaGreatDoorM09
import Derived.Test.YtflenkppcclclaaGreatDoorM07
import Derived.Test.YtflenkppcclclaaGreatDoorM08
namespace Go.Proofs.YtflenkppcclclaaGreatDoor
open Go.RowKit

/-- How many of the first k are true. -/
def cntB (f : Nat → Bool) : Nat → Nat
  | 0 => 0
  | k + 1 => cntB f k + if f k then 1 else 0
theorem cntB_le (f : Nat → Bool) : ∀ k, cntB f k ≤ k
  | 0 => Nat.le_refl _
  | k + 1 => by have := cntB_le f k; unfold cntB; split <;> omega

set_option maxHeartbeats 400000 in
theorem number_any (w : World) (G L : Nat) (f : Nat → Bool) (hh : w.heap[G]? = some (.cells (bl L f).toArray 4 (0, 0))) (hL : L ≤ 1000) :
    Calls Tryz.prog 92 #[.slice (some ⟨G, 0, none⟩) L L] w fun e w' => e = .returned (.int .i64 (cntB f L)) ∧ w' = w := by
  have hc : ∀ k, k < L → w.cell? ⟨G, k, none⟩ = some (.bool (f k)) := fun k hk => by
    rw [cell_of_row w G _ _ _ _ hh, List.getElem?_toArray]; exact bl_get L _ _ hk
  clear hh
  go_enter Tryz.func92, Tryz.ntmps92
  go_wp2
  go_loop [3, 8] (fun n i => ∃ k : Nat, k ≤ L ∧ i = .int .i64 k ∧ n = .int .i64 (cntB f k)) (fun _ i => L - (intOf i).toNat)
  case atStart => exact ⟨0, by omega, rfl, rfl⟩
  case round =>
    obtain ⟨k, hk, rfl, rfl⟩ := hrel
    have hle := cntB_le f k
    by_cases hlt : k < L
    · have hck := hc k hlt
      have hi1 : (k : Int) < (L : Int) := by omega
      have HC : Hid (cntB f (k + 1) = cntB f k + if f k then 1 else 0) := rfl
      cases hf : f k
      all_goals
        rw [hf] at HC hck
        go_wp2
        go_round
        case rel => exact ⟨k + 1, by omega, by go_num, by rw [HC.out]; simp⟩
        case measure => simp [intOf]; omega
    · have e : k = L := by omega
      subst e
      go_wp2
      go_ret
      exact ⟨rfl, rfl⟩

def entB (f : Nat → Bool) (i : Nat) : Int := if f i then cntB f i else -1
def il (L : Nat) (f : Nat → Int) : List Value := (List.range L).map fun i => .int .i64 (f i)
theorem il_get (L : Nat) (f : Nat → Int) (i : Nat) (hi : i < L) : (il L f)[i]? = some (.int .i64 (f i)) := by simp [il, List.getElem?_range hi]
theorem il_len (L : Nat) (f : Nat → Int) : (il L f).length = L := by simp [il]
theorem il_set (L : Nat) (f g : Nat → Int) (p : Nat) (b : Int) (hg : ∀ i, i < L → g i = if i = p then b else f i) : (il L f).set p (.int .i64 b) = il L g := by
  apply List.ext_getElem?
  intro j
  by_cases hj : j < L
  · rw [List.getElem?_set, il_get L g j hj, hg j hj]
    by_cases e : p = j
    · subst e; rw [if_pos rfl, if_pos (by rw [il_len]; exact hj), if_pos rfl]
    · rw [if_neg e, il_get L f j hj, if_neg (fun c => e c.symm)]
  · rw [List.getElem?_eq_none (by simp [il_len]; omega), List.getElem?_eq_none (by rw [il_len]; omega)]
theorem il_none (L : Nat) : List.replicate L (Value.int .i64 0) = il L (fun _ => 0) := by
  apply List.ext_getElem?
  intro j
  by_cases hj : j < L
  · rw [il_get L _ j hj, List.getElem?_replicate, if_pos hj]
  · rw [List.getElem?_eq_none (by simp; omega), List.getElem?_eq_none (by rw [il_len]; omega)]
def entAt (f : Nat → Bool) (k i : Nat) : Int := if i < k then entB f i else 0

set_option maxHeartbeats 1000000 in
theorem blockEntries_any (w : World) (cb co L cap N : Nat) (c : Nat → Int) (V : VP c L N) (C : Laid w cb co L cap c) (hT : Tab w) :
    Calls Tryz.prog 76 #[.slice (some ⟨cb, co, none⟩) L cap] w fun e w' => e = .returned (.slice (some ⟨w.heap.size, 0, none⟩) L L) ∧ w'.heap[w.heap.size]? = some (.cells (il L (entAt (bgn c N) L)).toArray 3 (0, 0)) ∧ Below w.heap.size w w' := by
  have hmost := V.most
  obtain ⟨w1, hmk, hh1, hB1⟩ := made w 45 3 (.int .i64 0) 8 L Tryz.underlying45 Tryz.infoInt rfl (by omega) (by omega)
  rw [il_none] at hh1
  have hs1 : w.heap.size < w1.heap.size := (Array.getElem?_eq_some_iff.1 hh1).1
  have HH1 : Hid (w1.heap[w.heap.size]? = some (.cells (il L (fun _ => 0)).toArray 3 (0, 0))) := hh1
  clear hh1
  go_enter Tryz.func76, Tryz.ntmps76
  go_wp2_with fail
  refine (beginnings_any w1 cb co L cap N c V (C.below hB1) (hT.below hB1)).mono ?_
  rintro e w2 ⟨rfl, hg2, hB2⟩
  clear hmk
  go_wp2_with fail
  go_loopw [4, 13] (fun n i wr => ∃ k : Nat, k ≤ L ∧ i = .int .i64 k ∧ n = .int .i64 (cntB (bgn c N) k) ∧ wr.heap[w.heap.size]? = some (.cells (il L (entAt (bgn c N) k)).toArray 3 (0, 0)) ∧ wr.heap[w1.heap.size]? = some (.cells (bl L (bgn c N)).toArray 4 (0, 0)) ∧ Below w.heap.size w wr) (fun _ i _ => L - (intOf i).toNat)
  case atStart =>
    refine ⟨0, by omega, rfl, rfl, ?_, hg2, hB1.trans (hB2.mono hB1.size)⟩
    rw [hB2.block _ hs1, HH1.out]
    have : entAt (bgn c N) 0 = fun _ => 0 := by funext i; unfold entAt; rw [if_neg (by omega)]
    rw [this]
  case round =>
    obtain ⟨k, hk, rfl, rfl, hh, hg, hB⟩ := hrel
    have hle := cntB_le (bgn c N) k
    by_cases hlt : k < L
    · have hi1 : (k : Int) < (L : Int) := by omega
      have cg : wr.cell? ⟨w1.heap.size, k, none⟩ = some (.bool (bgn c N k)) := by
        rw [cell_of_row wr w1.heap.size _ _ _ _ hg, List.getElem?_toArray]; exact bl_get L _ _ hlt
      have ch : wr.cell? ⟨w.heap.size, k, none⟩ = some (.int .i64 (entAt (bgn c N) k k)) := by
        rw [cell_of_row wr w.heap.size _ _ _ _ hh, List.getElem?_toArray]; exact il_get L _ _ hlt
      have fh := frozen_of_row wr w.heap.size k _ _ hh
      have HC : Hid (cntB (bgn c N) (k + 1) = cntB (bgn c N) k + if bgn c N k then 1 else 0) := rfl
      have hha := row_set hh k (.int .i64 (-1)) (il_set L (entAt (bgn c N) k) (fun i => if i = k then -1 else entAt (bgn c N) k i) k (-1) (fun i _ => rfl))
      have hBa := hB.setCell (p := ⟨w.heap.size, k, none⟩) (Nat.le_refl _) (.int .i64 (-1))
      have hne : ¬ w1.heap.size = w.heap.size := by omega
      cases hf : bgn c N k with
      | false =>
        rw [hf] at HC cg
        have HR : Hid ((wr.setCell ⟨w.heap.size, k, none⟩ (.int .i64 (-1))).heap[w.heap.size]? = some (.cells (il L (entAt (bgn c N) (k + 1))).toArray 3 (0, 0)) ∧ (wr.setCell ⟨w.heap.size, k, none⟩ (.int .i64 (-1))).heap[w1.heap.size]? = some (.cells (bl L (bgn c N)).toArray 4 (0, 0))) := by
          refine ⟨?_, (heap_setCell_other _ ⟨w.heap.size, k, none⟩ _ _ hne).trans hg⟩
          refine row_set hh k _ (il_set L _ _ k (-1) (fun i _ => ?_))
          unfold entAt entB
          by_cases e : i = k
          · subst e; rw [if_pos (by omega), if_pos rfl, hf]; rfl
          · rw [if_neg e]
            by_cases e2 : i < k
            · rw [if_pos e2, if_pos (by omega)]
            · rw [if_neg e2, if_neg (by omega)]
        clear hh hg hha
        go_wp2
        go_roundw
        case rel => exact ⟨k + 1, by omega, by go_num, by rw [HC.out]; simp, HR.out.1, HR.out.2, hBa⟩
        case measure => simp [intOf]; omega
      | true =>
        rw [hf] at HC cg
        have hBb := hBa.setCell (p := ⟨w.heap.size, k, none⟩) (Nat.le_refl _) (.int .i64 (cntB (bgn c N) k))
        have HR : Hid (((wr.setCell ⟨w.heap.size, k, none⟩ (.int .i64 (-1))).setCell ⟨w.heap.size, k, none⟩ (.int .i64 (cntB (bgn c N) k))).heap[w.heap.size]? = some (.cells (il L (entAt (bgn c N) (k + 1))).toArray 3 (0, 0)) ∧ ((wr.setCell ⟨w.heap.size, k, none⟩ (.int .i64 (-1))).setCell ⟨w.heap.size, k, none⟩ (.int .i64 (cntB (bgn c N) k))).heap[w1.heap.size]? = some (.cells (bl L (bgn c N)).toArray 4 (0, 0))) := by
          refine ⟨?_, (heap_setCell_other _ ⟨w.heap.size, k, none⟩ _ _ hne).trans ((heap_setCell_other _ ⟨w.heap.size, k, none⟩ _ _ hne).trans hg)⟩
          refine row_set hha k _ (il_set L _ _ k _ (fun i _ => ?_))
          unfold entAt entB
          by_cases e : i = k
          · subst e; rw [if_pos (by omega), if_pos rfl, hf]; rfl
          · rw [if_neg e]
            show _ = if i = k then _ else _
            rw [if_neg e]
            by_cases e2 : i < k
            · rw [if_pos e2, if_pos (by omega)]
            · rw [if_neg e2, if_neg (by omega)]
        clear hh hg hha
        go_wp2
        go_roundw
        case rel => exact ⟨k + 1, by omega, by go_num, by rw [HC.out]; simp, HR.out.1, HR.out.2, hBb⟩
        case measure => simp [intOf]; omega
    · have e : k = L := by omega
      subst e
      go_wp2
      go_ret
      exact ⟨rfl, hh, hB⟩

theorem entries_any (w : World) (cb co L cap N : Nat) (c : Nat → Int) (V : VP c L N) (C : Laid w cb co L cap c) (hT : Tab w) :
    Calls Tryz.prog 37 #[.slice (some ⟨cb, co, none⟩) L cap] w fun e w' => ∃ g, w.heap.size ≤ g ∧ e = .returned (.slice (some ⟨g, 0, none⟩) L L) ∧ w'.heap[g]? = some (.cells (il L (entAt (bgn c N) L)).toArray 3 (0, 0)) ∧ Below w.heap.size w w' := by
  go_enter Tryz.func37, Tryz.ntmps37
  go_wp2_with fail
  refine (hasProbe_no w cb co L cap N c V C hT).mono ?_
  rintro e w1 ⟨rfl, hB1⟩
  go_wp2_with fail
  refine (blockEntries_any w1 cb co L cap N c V (C.below hB1) (hT.below hB1)).mono ?_
  rintro e w2 ⟨rfl, hg2, hB2⟩
  go_wp2
  go_ret
  exact ⟨_, hB1.size, rfl, hg2, hB1.trans (hB2.mono hB1.size)⟩
end Go.Proofs.YtflenkppcclclaaGreatDoor

namespace Go.Proofs.YtflenkppcclclaaGreatDoor
open Go.RowKit

/-- One of the first m instructions is a Probe at i. -/
def prb (c : Nat → Int) (m i : Nat) : Bool := (List.range m).any fun t => pos c t == i && c (pos c t) == 20
theorem prb_succ (c : Nat → Int) (m i : Nat) : prb c (m + 1) i = (prb c m i || (pos c m == i && c (pos c m) == 20)) := by
  unfold prb
  rw [List.range_succ, List.any_append]
  simp
/-- The entries of a probed program. -/
def pent (c : Nat → Int) (m i : Nat) : Int := if prb c m i then c (i + 1) else -1
theorem pent_skip (c : Nat → Int) (m : Nat) (h : (c (pos c m) == 20) = false) : pent c (m + 1) = pent c m := by
  funext i
  unfold pent
  rw [prb_succ, h]
  simp
theorem pent_set (c : Nat → Int) (m i : Nat) (h : (c (pos c m) == 20) = true) : pent c (m + 1) i = if i = pos c m then c (pos c m + 1) else pent c m i := by
  unfold pent
  rw [prb_succ, h]
  by_cases e : i = pos c m
  · subst e; simp
  · have : (pos c m == i) = false := by rw [beq_eq_false_iff_ne]; exact fun h => e h.symm
    rw [if_neg e, this]
    simp
theorem pent_bounds {c : Nat → Int} {L N z : Nat} (S : SP c L N z) (p : Nat) : -1 ≤ pent c N p ∧ pent c N p ≤ 255 := by
  unfold pent
  cases h : prb c N p with
  | false => simp
  | true =>
    unfold prb at h
    rw [List.any_eq_true] at h
    obtain ⟨m, hm, e⟩ := h
    simp only [Bool.and_eq_true, beq_iff_eq] at e
    obtain ⟨rfl, e2⟩ := e
    have h1 := S.fits m (List.mem_range.1 hm)
    rw [e2] at h1
    have : szOf (20 : Int).toNat = 2 := rfl
    have := S.byte (pos c m + 1) (by omega)
    simp
    omega

set_option maxHeartbeats 1000000 in
theorem probeEntries_gen (w : World) (cb co L cap N z : Nat) (c : Nat → Int) (V : SP c L N z) (hN : pos c N = L) (C : Laid w cb co L cap c) (hT : Tab w) :
    Calls Tryz.prog 75 #[.slice (some ⟨cb, co, none⟩) L cap] w fun e w' => e = .returned (.slice (some ⟨w.heap.size, 0, none⟩) L L) ∧ w'.heap[w.heap.size]? = some (.cells (il L (pent c N)).toArray 3 (0, 0)) ∧ Below w.heap.size w w' := by
  have hfs := field_sz
  have hmost := V.most
  obtain ⟨w1, hmk, hh1, hB1⟩ := made w 45 3 (.int .i64 0) 8 L Tryz.underlying45 Tryz.infoInt rfl (by omega) (by omega)
  rw [il_none] at hh1
  have HH1 : Hid (w1.heap[w.heap.size]? = some (.cells (il L (fun _ => 0)).toArray 3 (0, 0))) := hh1
  clear hh1
  go_enter Tryz.func75, Tryz.ntmps75
  go_wp2
  clear hmk
  go_loopw [11] (fun i wr => ∃ k : Nat, k ≤ L ∧ i = .int .i64 k ∧ wr.heap[w.heap.size]? = some (.cells (il L (fun i => if i < k then -1 else 0)).toArray 3 (0, 0)) ∧ Below w.heap.size w wr) (fun i _ => L - (intOf i).toNat)
  case atStart => exact ⟨0, by omega, rfl, by simpa using HH1.out, hB1⟩
  case round =>
    obtain ⟨k, hk, rfl, hh, hB⟩ := hrel
    by_cases hlt : k < L
    · have hi1 : (k : Int) < (L : Int) := by omega
      have ch : wr.cell? ⟨w.heap.size, k, none⟩ = some (.int .i64 (if k < k then -1 else 0)) := by
        rw [cell_of_row wr w.heap.size _ _ _ _ hh, List.getElem?_toArray]; exact il_get L _ _ hlt
      have fh := frozen_of_row wr w.heap.size k _ _ hh
      have HR : Hid ((wr.setCell ⟨w.heap.size, k, none⟩ (.int .i64 (-1))).heap[w.heap.size]? = some (.cells (il L (fun i => if i < k + 1 then -1 else 0)).toArray 3 (0, 0))) := by
        refine row_set hh k _ (il_set L _ _ k (-1) (fun i _ => ?_))
        by_cases e : i = k
        · subst e; rw [if_pos (by omega), if_pos rfl]
        · rw [if_neg e]
          by_cases e2 : i < k
          · rw [if_pos e2, if_pos (by omega)]
          · rw [if_neg e2, if_neg (by omega)]
      have hBa := hB.setCell (p := ⟨w.heap.size, k, none⟩) (Nat.le_refl _) (.int .i64 (-1))
      clear hh
      go_wp2
      go_roundw
      case rel => exact ⟨k + 1, by omega, by go_num, HR.out, hBa⟩
      case measure => simp [intOf]; omega
    · have e : k = L := by omega
      subst e
      have HH : Hid (wr.heap[w.heap.size]? = some (.cells (il k (pent c 0)).toArray 3 (0, 0))) := by
        show wr.heap[w.heap.size]? = _
        rw [hh]
        have : il k (fun i => if i < k then -1 else 0) = il k (pent c 0) := by
          unfold il
          apply List.map_congr_left
          intro i hi
          show Value.int .i64 (if i < k then -1 else 0) = _
          rw [if_pos (List.mem_range.1 hi)]
          rfl
        rw [this]
      clear HH1 hh
      go_wp2
      go_loopw [5] (fun i wx => ∃ m : Nat, m ≤ N ∧ i = .int .i64 (pos c m) ∧ wx.heap[w.heap.size]? = some (.cells (il k (pent c m)).toArray 3 (0, 0)) ∧ Below w.heap.size w wx) (fun i _ => k - (intOf i).toNat)
      case atStart => exact ⟨0, by omega, rfl, HH.out, hB⟩
      case round =>
        clear HH hB
        obtain ⟨m, hm, rfl, hh, hB⟩ := hrel
        by_cases hlt : m < N
        · obtain ⟨kk, A, hsucc⟩ := V.at hlt
          have hck := C.at hB A.lt
          rw [A.op] at hck
          have h1 := A.lt
          have h2 := A.fits
          have h3 := A.sz
          have h4 := A.s1
          have h5 := A.s2
          have h6 := A.pos
          have h7 := A.most
          have hk2 := A.k
          have hop := A.op
          have HS : Hid (pos c (m + 1) = pos c m + szOf kk) := hsucc
          have HZ : Hid (((pos c m + szOf kk : Nat) : Int) = (pos c m : Int) + shp (kk * 3)) := h3
          have hi1 : (pos c m : Int) < (k : Int) := by omega
          have hTr : Hid (Tab wr) := hT.below hB
          have hlt2 : w.heap.size < wr.heap.size := (Array.getElem?_eq_some_iff.1 hh).1
          cases h20 : ((kk : Int) == 20) with
          | false =>
            have HR : Hid (wr.heap[w.heap.size]? = some (.cells (il k (pent c (m + 1))).toArray 3 (0, 0))) := by
              show wr.heap[w.heap.size]? = _
              rw [hh, pent_skip c m (by rw [hop]; exact h20)]
            clear hsucc h3 A hop hh
            go_wp2_with (go_at_call 129; refine (shapeOf_any kk (by omega) _ hTr.out).mono ?_; rintro e w' ⟨rfl, cc2, rfl⟩)
            go_roundw
            case rel => exact ⟨m + 1, by omega, by rw [HS.out, HZ.out], by rw [Below.heap_alloc _ _ _ hlt2]; exact HR.out, hB.alloc (by omega) _⟩
            case measure => simp [intOf]; omega
          | true =>
            have hkk : kk = 20 := by simp at h20; omega
            have hsz2 : szOf kk = 2 := by rw [hkk]; rfl
            have hck2 := C.at hB (p := pos c m + 1) (by omega)
            have hby := V.byte (pos c m + 1) (by omega)
            have hi3 : (pos c m : Int) + 1 < (k : Int) := by omega
            have ch : wr.cell? ⟨w.heap.size, pos c m, none⟩ = some (.int .i64 (pent c m (pos c m))) := by
              rw [cell_of_row wr w.heap.size _ _ _ _ hh, List.getElem?_toArray]; exact il_get k _ _ h1
            have fh := frozen_of_row wr w.heap.size (pos c m) _ _ hh
            have HR : Hid ((wr.setCell ⟨w.heap.size, pos c m, none⟩ (.int .i64 (c (pos c m + 1)))).heap[w.heap.size]? = some (.cells (il k (pent c (m + 1))).toArray 3 (0, 0))) :=
              row_set hh _ _ (il_set k _ _ _ _ (fun i _ => pent_set c m i (by rw [hop]; exact h20)))
            have hBa := hB.setCell (p := ⟨w.heap.size, pos c m, none⟩) (Nat.le_refl _) (.int .i64 (c (pos c m + 1)))
            have hTa : Hid (Tab (wr.setCell ⟨w.heap.size, pos c m, none⟩ (.int .i64 (c (pos c m + 1))))) := hT.below hBa
            have hcka := C.at hBa h1
            rw [hop] at hcka
            have hcb := C.blk
            have hb0 : 0 ≤ c (pos c m + 1) := hby.1
            have hb1 : c (pos c m + 1) ≤ 255 := hby.2
            clear hsucc h3 A hop hh hsz2 hkk hby
            go_wp2_with (go_at_call 129; refine (shapeOf_any kk (by omega) _ hTa.out).mono ?_; rintro e w' ⟨rfl, cc2, rfl⟩)
            go_roundw
            case rel => exact ⟨m + 1, by omega, by rw [HS.out, HZ.out], by rw [Below.heap_alloc _ _ _ (by simpa using hlt2)]; exact HR.out, hBa.alloc (by simp; omega) _⟩
            case measure => simp [intOf]; omega
        · have e : m = N := by omega
          subst e
          rw [hN]
          go_wp2
          go_ret
          exact ⟨rfl, hh, hB⟩

theorem entries_probed (w : World) (cb co L cap N z : Nat) (c : Nat → Int) (V : SP c L N z) (hN : pos c N = L) (hp : probeIn c N = true) (C : Laid w cb co L cap c) (hT : Tab w) :
    Calls Tryz.prog 37 #[.slice (some ⟨cb, co, none⟩) L cap] w fun e w' => ∃ g, w.heap.size ≤ g ∧ e = .returned (.slice (some ⟨g, 0, none⟩) L L) ∧ w'.heap[g]? = some (.cells (il L (pent c N)).toArray 3 (0, 0)) ∧ Below w.heap.size w w' := by
  have hprobe := hasProbe_gen w cb co L cap N z c V hN C hT
  rw [hp] at hprobe
  go_enter Tryz.func37, Tryz.ntmps37
  go_wp2_with fail
  refine hprobe.mono ?_
  rintro e w1 ⟨rfl, hB1⟩
  go_wp2_with fail
  refine (probeEntries_gen w1 cb co L cap N z c V hN (C.below hB1) (hT.below hB1)).mono ?_
  rintro e w2 ⟨rfl, hg2, hB2⟩
  go_wp2
  go_ret
  exact ⟨_, hB1.size, rfl, hg2, hB1.trans (hB2.mono hB1.size)⟩
end Go.Proofs.YtflenkppcclclaaGreatDoor

namespace Go.Proofs.YtflenkppcclclaaGreatDoor
open Go.RowKit

set_option maxHeartbeats 400000 in
theorem flaw_no (w : World) (cb co L cap N : Nat) (c : Nat → Int) (V : VP c L N) (C : Laid w cb co L cap c) (hT : Tab w) :
    Calls Tryz.prog 70 #[.slice (some ⟨cb, co, none⟩) L cap, .int .i64 80, .int .u8 19] w fun e w' => e = .returned (.tuple #[.int .i64 0, .bool false]) ∧ Below w.heap.size w w' := by
  have hmost := V.most
  have h80 : ¬ (80 : Int) < (L : Int) := by omega
  have hLL : ¬ (L : Int) < (L : Int) := by omega
  go_enter Tryz.func70, Tryz.ntmps70
  go_wp2_with fail
  refine (soundBytes_yes w cb co L cap N c V C hT).mono ?_
  rintro e w1 ⟨rfl, B1⟩
  go_wp2_with fail
  refine (endsWell_yes w1 cb co L cap N c V (C.below B1) (hT.below B1)).mono ?_
  rintro e w2 ⟨rfl, B2⟩
  have B12 := B1.trans (B2.mono B1.size)
  go_wp2_with fail
  refine (wrongTarget_no w2 cb co L cap N c V (C.below B12) (hT.below B12)).mono ?_
  rintro e w3 ⟨rfl, B3⟩
  go_wp2_with fail
  go_ret2
  exact ⟨rfl, B12.trans (B3.mono B12.size)⟩

theorem canRun_yes (w : World) (cb co L cap N : Nat) (c : Nat → Int) (V : VP c L N) (C : Laid w cb co L cap c) (hT : Tab w) :
    Calls Tryz.prog 35 #[.slice (some ⟨cb, co, none⟩) L cap] w fun e w' => e = .returned (.bool true) ∧ Below w.heap.size w w' := by
  go_enter Tryz.func35, Tryz.ntmps35
  go_wp2_with fail
  refine (flaw_no w cb co L cap N c V C hT).mono ?_
  rintro e w1 ⟨rfl, B1⟩
  go_wp2_with fail
  go_ret
  exact ⟨rfl, B1⟩
end Go.Proofs.YtflenkppcclclaaGreatDoor

