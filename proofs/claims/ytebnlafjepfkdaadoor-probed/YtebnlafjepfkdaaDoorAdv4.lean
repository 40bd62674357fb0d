import Derived.Test.YtebnlafjepfkdaaDoorAdv2
namespace Go.Proofs.YtebnlafjepfkdaaDoor
open Go.RowKit

set_option maxHeartbeats 1000000 in
set_option maxRecDepth 100000 in
/-- An instruction of one byte. -/
theorem adv_do1 (base M : Nat) (w : World) (vs vo : Value) (σ : St) (cb co len cap : Nat) (k : Nat) (fuel : Int) (hk : k ≤ 20) (hk20 : ((k : Int) != 20) = true) (hc0 : w.cell? ⟨cb, co, none⟩ = some (.int .u8 (k : Int))) (hl : 1 ≤ len)
    (hz : (σ.steps == fuel) = false) (hs0 : 0 ≤ σ.steps) (hs1 : σ.steps ≤ 1000) (hx0 : 0 ≤ σ.next) (hx1 : σ.next ≤ 1000) (h3 : σ.stack.length ≤ 32) (hT : Tab w) (h : MS base M w vs vo σ) (h0M : 0 < M) (r : Int) (hr : misfitS σ.stack.length (shp (k * 3 + 1)) (shp (k * 3 + 2)) = r) (hr0 : (r != 0) = false) (hs : shp (k * 3) = 1) (hh : ¬ (k = 16 ∨ k = 17)) (hi : σ.input.size ≤ 24) (ho : σ.out.length ≤ 16) (hq1 : tkOf k ≤ σ.stack.length) (hq2 : σ.stack.length - tkOf k + lyOf k ≤ 32) :
    Calls Tryd.prog 22 #[.pointer (some ⟨M, 0, none⟩), .slice (some ⟨cb, co, none⟩) len cap, .int .i64 fuel] w (Out base M w (doS { σ with steps := σ.steps + 1, next := σ.next + shp (k * 3) } k 0)) := by
  have hs1' : ¬ (1 : Int) < shp (k * 3) := by omega
  clear hs
  obtain ⟨ao, cp, rfl⟩ := h.head
  have hM : M < w.heap.size := Nat.lt_of_lt_of_le h.lt h.le
  have c24 := h.cell 24 (by omega)
  rw [mv_steps] at c24
  have f24 := h.thaw 24
  have c19 := h.cell 19 (by omega)
  rw [mv_next] at c19
  have f19 := h.thaw 19
  have c00 := h.cell 0 (by omega)
  rw [mv_stack] at c00
  have hl0 : (0 : Int) < (len : Int) := by omega
  obtain ⟨⟨z1, z2⟩, ⟨t1, t2⟩, ⟨l1, l2⟩⟩ := shp_bounds k hk
  have h1 := (h.setSteps (σ.steps + 1)).setNext (σ.next + shp (k * 3))
  have k1 := (Kept.set base M w 24 (.int .i64 (σ.steps + 1))).trans (Kept.set base M _ 19 (.int .i64 (σ.next + shp (k * 3))))
  have hT1 := (Kept.set base M w 24 (.int .i64 (σ.steps + 1))).tab h0M h.lt hT
  have hT2 := k1.tab h0M h.lt hT
  have hd0 : (0 : Int) ≤ (σ.stack.length : Int) := by omega
  have hd1 : (σ.stack.length : Int) ≤ 32 := by omega
  have hmf : Hid (∀ w', Calls Tryd.prog 37 #[.int .i64 (σ.stack.length : Int), .agg #[.int .i64 (shp (k * 3)), .int .i64 (shp (k * 3 + 1)), .int .i64 (shp (k * 3 + 2))]] w' fun e w'' => e = .returned (.int .i64 r) ∧ ∃ c, w'' = w'.alloc (.cells c 66)) := by
    intro w'
    rw [← hr]
    exact misfit_any _ _ _ _ w' hd0 hd1 t1 t2 l1 l2
  have HT1 : Hid (Tab (w.setCell ⟨M, 24, none⟩ (.int .i64 (σ.steps + 1)))) := hT1
  have HT2 : Hid (Tab ((w.setCell ⟨M, 24, none⟩ (.int .i64 (σ.steps + 1))).setCell ⟨M, 19, none⟩ (.int .i64 (σ.next + shp (k * 3))))) := hT2
  clear hT hT1 hT2 hr
  go_enter Tryd.func22, Tryd.ntmps22
  go_wp2_with fail
  refine (shapeOf_any k hk _ HT1.out).mono ?_
  rintro e w1 ⟨rfl, c, rfl⟩
  go_wp2_with fail
  go_region
  go_wp2_with fail
  go_region_with (go_at_call 37; refine (hmf.out _).mono ?_; rintro e w2 ⟨rfl, c2, rfl⟩)
  all_goals
    go_wp2_with fail
    obtain ⟨h5, k5, t5⟩ := three h1 k1 HT2.out (.cells c 66) (.cells #[.int .i64 (shp (k * 3)), .int .i64 (shp (k * 3 + 1)), .int .i64 (shp (k * 3 + 2))] 66) (.cells c2 66)
    refine (do_any base M _ _ _ { σ with steps := σ.steps + 1, next := σ.next + shp (k * 3) } k 0 hk (by omega) (by omega) (fun c => absurd c hh) hq1 hq2 h3 hi ho t5 h5).mono ?_
    rintro e w3 ⟨rfl, ⟨vs6, vo6, h6⟩, k6⟩
    go_wp2
    go_end0
    exact ⟨rfl, ⟨_, _, h6⟩, k5.trans k6⟩

end Go.Proofs.YtebnlafjepfkdaaDoor
