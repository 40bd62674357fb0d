import Derived.Test.YtebnlafjepfkdaaDoorWr
import Derived.Test.YtebnlafjepfkdaaDoorPrA
import Derived.BigQuiet
namespace Go.Proofs.YtebnlafjepfkdaaDoor
open Go.RowKit

theorem u8_wrap {x : Int} (h0 : 0 ≤ x) (h1 : x ≤ 255) : IntKind.u8.wrap x = x := by
  simp [IntKind.wrap, IntKind.signed, IntKind.bits]
  omega

set_option maxHeartbeats 1000000 in
theorem moved_any (w : World) (t : Nat) (G L : Nat) (f : Nat → Int) (hh : w.heap[G]? = some (.cells (il L f).toArray 3 (0, 0))) (ht : t < L) (hL : L ≤ 80) (hf0 : 0 ≤ f t) (hf1 : f t ≤ t) (hT : Tab w) :
    Calls Tryd.prog 32 #[.int .u8 (t : Int), .slice (some ⟨G, 0, none⟩) L L] w fun e w' => e = .returned (.int .u8 ((t : Int) + 2 * f t)) ∧ ∃ cc, w' = w.drew.alloc (.cells cc 66) := by
  have hfs := field_sz
  have hc : w.cell? ⟨G, t, none⟩ = some (.int .i64 (f t)) := by
    rw [cell_of_row w G _ _ _ _ hh, List.getElem?_toArray]; exact il_get L _ _ ht
  have hlt : G < w.heap.size := (Array.getElem?_eq_some_iff.1 hh).1
  have hi1 : (t : Int) < (L : Int) := by omega
  have HT : Hid (Tab w.drew) := fun k hk => hT k hk
  have ht0 : (0 : Int) ≤ (t : Int) := by omega
  have HV : Hid (IntKind.u8.wrap ((t : Int) + IntKind.u8.wrap (IntKind.i64.wrap (f t * shp 60))) = (t : Int) + 2 * f t) := by
    show IntKind.u8.wrap ((t : Int) + IntKind.u8.wrap (IntKind.i64.wrap (f t * shp 60))) = _
    have e : shp 60 = 2 := rfl
    have e2 : IntKind.i64.wrap (f t * 2) = f t * 2 := by
      simp [IntKind.wrap, IntKind.signed, IntKind.bits]
      omega
    rw [e, e2, u8_wrap (x := f t * 2) (by omega) (by omega), u8_wrap (by omega) (by omega)]
    omega
  clear hh hT
  go_enter Tryd.func32, Tryd.ntmps32
  go_wp2_with fail
  go_region_with (go_at_call 29; refine (shapeOf_any 20 (by omega) _ HT.out).mono ?_; rintro e w' ⟨rfl, cc2, rfl⟩)
  all_goals
    go_wp2
    go_ret
    exact ⟨congrArg (fun x => Ending.returned (.int .u8 x)) HV.out, _, rfl⟩

/-- What the m-th instruction adds to the probed code. -/
def addC (c : Nat → Int) (N m : Nat) : List Int := if szOf (c (pos c m)).toNat = 2 then (if leadsB (c (pos c m)) then [c (pos c m), c (pos c m + 1) + 2 * cntB (bgn c N) (c (pos c m + 1)).toNat] else [c (pos c m), c (pos c m + 1)]) else [c (pos c m)]
theorem VP.pcode_next {c : Nat → Int} {L N : Nat} (V : VP c L N) {m : Nat} (hm : m < N) :
    pcode c N (pos c (m + 1)) = (pcode c N (pos c m) ++ (if bgn c N (pos c m) then [20, (cntB (bgn c N) (pos c m) : Int)] else [])) ++ addC c N m ∧
    pfrom c N (pos c (m + 1)) = (pfrom c N (pos c m) ++ (if bgn c N (pos c m) then [-1, -1] else [])) ++ froms (pos c m) (szOf (c (pos c m)).toNat) := by
  have e : pos c (m + 1) = pos c m + szOf (c (pos c m)).toNat := rfl
  obtain ⟨kk, A, _⟩ := V.at hm
  have hk := A.k
  obtain ⟨s1, s2, _⟩ := szOf_pos (c (pos c m)).toNat (by rw [A.op, Int.toNat_natCast]; omega)
  rw [e]
  by_cases h : szOf (c (pos c m)).toNat = 2
  · have hb := V.noBlock hm h
    unfold addC
    rw [h, if_pos rfl, show pos c m + 2 = pos c m + 1 + 1 by omega]
    constructor
    · rw [pcode, pcode, hb, V.trOp hm, V.trSnd hm h]
      cases leadsB (c (pos c m)) <;> simp
    · rw [pfrom, pfrom, hb]
      simp [froms, List.range_succ]
  · have h1 : szOf (c (pos c m)).toNat = 1 := by omega
    unfold addC
    rw [if_neg h, h1]
    constructor
    · rw [pcode, V.trOp hm]; simp
    · rw [pfrom]
      simp [froms, List.range_succ]

theorem below_of_kept {n base W : Nat} {w w2 wr : World} (h : Below n w w2) (k : Kept base W w2 wr) (h1 : n ≤ W) (h2 : W < base) : Below n w wr :=
  ⟨k.os.trans h.os, k.tape.trans h.tape, k.output.trans h.output, Nat.le_trans h.size k.size, fun i hi => (k.block i (by omega) (by omega)).trans (h.block i hi)⟩
end Go.Proofs.YtebnlafjepfkdaaDoor
