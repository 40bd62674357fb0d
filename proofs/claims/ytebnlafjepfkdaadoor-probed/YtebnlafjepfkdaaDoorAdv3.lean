import Derived.Test.YtebnlafjepfkdaaDoorAdv2
namespace Go.Proofs.YtebnlafjepfkdaaDoor
open Go.RowKit

set_option maxHeartbeats 1000000 in
set_option maxRecDepth 100000 in
/-- The instruction is counted, and the stack is not fit for it. -/
theorem adv_fault (base M : Nat) (w : World) (vs vo : Value) (σ : St) (cb co len cap : Nat) (k : Nat) (fuel : Int) (hk : k ≤ 20) (hk20 : ((k : Int) != 20) = true) (hc0 : w.cell? ⟨cb, co, none⟩ = some (.int .u8 (k : Int))) (hl : 1 ≤ len)
    (hz : (σ.steps == fuel) = false) (hs0 : 0 ≤ σ.steps) (hs1 : σ.steps ≤ 1000) (hx0 : 0 ≤ σ.next) (hx1 : σ.next ≤ 1000) (h3 : σ.stack.length ≤ 32) (hT : Tab w) (h : MS base M w vs vo σ) (h0M : 0 < M) (r : Int) (hr : misfitS σ.stack.length (shp (k * 3 + 1)) (shp (k * 3 + 2)) = r) (hr0 : (r != 0) = true) :
    Calls Tryd.prog 22 #[.pointer (some ⟨M, 0, none⟩), .slice (some ⟨cb, co, none⟩) len cap, .int .i64 fuel] w (Out base M w (fin { σ with steps := σ.steps + 1, next := σ.next + shp (k * 3) } 1 r)) := by
  obtain ⟨ao, cp, rfl⟩ := h.head
  have hM : M < w.heap.size := Nat.lt_of_lt_of_le h.lt h.le
  have c24 := h.cell 24 (by omega)
  rw [mv_steps] at c24
  have f24 := h.thaw 24
  have c19 := h.cell 19 (by omega)
  rw [mv_next] at c19
  have f19 := h.thaw 19
  have c00 := h.cell 0 (by omega)
  rw [mv_stack] at c00
  have hl0 : (0 : Int) < (len : Int) := by omega
  obtain ⟨⟨z1, z2⟩, ⟨t1, t2⟩, ⟨l1, l2⟩⟩ := shp_bounds k hk
  have h1 := (h.setSteps (σ.steps + 1)).setNext (σ.next + shp (k * 3))
  have k1 := (Kept.set base M w 24 (.int .i64 (σ.steps + 1))).trans (Kept.set base M _ 19 (.int .i64 (σ.next + shp (k * 3))))
  have hT1 := (Kept.set base M w 24 (.int .i64 (σ.steps + 1))).tab h0M h.lt hT
  have hT2 := k1.tab h0M h.lt hT
  have hd0 : (0 : Int) ≤ (σ.stack.length : Int) := by omega
  have hd1 : (σ.stack.length : Int) ≤ 32 := by omega
  have hmf : Hid (∀ w', Calls Tryd.prog 37 #[.int .i64 (σ.stack.length : Int), .agg #[.int .i64 (shp (k * 3)), .int .i64 (shp (k * 3 + 1)), .int .i64 (shp (k * 3 + 2))]] w' fun e w'' => e = .returned (.int .i64 r) ∧ ∃ c, w'' = w'.alloc (.cells c 66)) := by
    intro w'
    rw [← hr]
    exact misfit_any _ _ _ _ w' hd0 hd1 t1 t2 l1 l2
  have HT1 : Hid (Tab (w.setCell ⟨M, 24, none⟩ (.int .i64 (σ.steps + 1)))) := hT1
  have HT2 : Hid (Tab ((w.setCell ⟨M, 24, none⟩ (.int .i64 (σ.steps + 1))).setCell ⟨M, 19, none⟩ (.int .i64 (σ.next + shp (k * 3))))) := hT2
  clear hT hT1 hT2 hr
  go_enter Tryd.func22, Tryd.ntmps22
  go_wp2_with fail
  refine (shapeOf_any k hk _ HT1.out).mono ?_
  rintro e w1 ⟨rfl, c, rfl⟩
  go_wp2_with fail
  go_region
  go_wp2_with fail
  go_region_with (go_at_call 37; refine (hmf.out _).mono ?_; rintro e w2 ⟨rfl, c2, rfl⟩)
  all_goals
    go_wp2_with fail
    obtain ⟨h5, k5, _⟩ := three h1 k1 HT2.out (.cells c 66) (.cells #[.int .i64 (shp (k * 3)), .int .i64 (shp (k * 3 + 1)), .int .i64 (shp (k * 3 + 2))] 66) (.cells c2 66)
    refine (end_any base M _ _ _ _ 1 r h5).mono ?_
    rintro e w3 ⟨rfl, h6, k6⟩
    go_wp2
    exact bodyPost_ret (results_none rfl _ _ _) rfl ⟨rfl, ⟨_, _, h6⟩, k5.trans k6⟩

end Go.Proofs.YtebnlafjepfkdaaDoor
