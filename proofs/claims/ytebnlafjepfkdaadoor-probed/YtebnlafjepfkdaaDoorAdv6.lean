import Derived.Test.YtebnlafjepfkdaaDoorAdv2
namespace Go.Proofs.YtebnlafjepfkdaaDoor
open Go.RowKit

set_option maxHeartbeats 1000000 in
set_option maxRecDepth 100000 in
/-- A Probe. -/
theorem adv_probe (base M : Nat) (w : World) (vs vo : Value) (σ : St) (cb co len cap : Nat) (n fuel : Int) (hc0 : w.cell? ⟨cb, co, none⟩ = some (.int .u8 20))
    (hx0 : 0 ≤ σ.next) (hx1 : σ.next ≤ 1000) (h3 : σ.stack.length ≤ 32) (hT : Tab w) (h : MS base M w vs vo σ) (h0M : 0 < M) (hn : 0 ≤ n) (hn' : n ≤ 255) (hl2 : 2 ≤ len) (hc1 : w.cell? ⟨cb, co + 1, none⟩ = some (.int .u8 n)) (hcb : cb ≠ M) (hcz : cb < w.heap.size) :
    Calls Tryd.prog 22 #[.pointer (some ⟨M, 0, none⟩), .slice (some ⟨cb, co, none⟩) len cap, .int .i64 fuel] w (Out base M w { σ with next := σ.next + 2 }) := by
  obtain ⟨ao, cp, rfl⟩ := h.head
  have hM : M < w.heap.size := Nat.lt_of_lt_of_le h.lt h.le
  have c19 := h.cell 19 (by omega)
  rw [mv_next] at c19
  have f19 := h.thaw 19
  have c00 := h.cell 0 (by omega)
  rw [mv_stack] at c00
  have hl0 : (0 : Int) < (len : Int) := by omega
  have hl1 : (1 : Int) < (len : Int) := by omega
  have hcb' : M ≠ cb := fun c => hcb c.symm
  have h1 := h.setNext (σ.next + 2)
  have k1 := Kept.set base M w 19 (.int .i64 (σ.next + 2))
  have hT2 := k1.tab h0M h.lt hT
  have hd0 : (0 : Int) ≤ (σ.stack.length : Int) := by omega
  have hd1 : (σ.stack.length : Int) ≤ 32 := by omega
  have hmf : Hid (∀ w', Calls Tryd.prog 37 #[.int .i64 (σ.stack.length : Int), .agg #[.int .i64 2, .int .i64 0, .int .i64 0]] w' fun e w'' => e = .returned (.int .i64 0) ∧ ∃ c, w'' = w'.alloc (.cells c 66)) := by
    intro w'
    have hr : misfitS σ.stack.length 0 0 = 0 := by unfold misfitS; rw [if_neg (by omega), if_neg (by omega)]
    have := misfit_any (σ.stack.length : Int) 2 0 0 w' hd0 hd1 (by omega) (by omega) (by omega) (by omega)
    rw [hr] at this
    exact this
  have HT1 : Hid (Tab w) := hT
  have HT2 : Hid (Tab (w.setCell ⟨M, 19, none⟩ (.int .i64 (σ.next + 2)))) := hT2
  have hcz1 : cb < w.heap.size + 1 := by omega
  have hcz2 : cb < w.heap.size + 1 + 1 := by omega
  have hcz3 : cb < w.heap.size + 2 := by omega
  have hc2 : (w.setCell ⟨M, 19, none⟩ (.int .i64 (σ.next + 2))).cell? ⟨cb, co + 1, none⟩ = some (.int .u8 n) := by
    rw [World.cell?_setCell_other _ _ _ _ (fun c => by injection c with c1 _ _; exact hcb c1.symm)]
    exact hc1
  clear hT hT2
  go_enter Tryd.func22, Tryd.ntmps22
  go_wp2_with fail
  refine (shape20 _ HT1.out).mono ?_
  rintro e w1 ⟨rfl, c, rfl⟩
  go_wp2_with fail
  go_region
  go_wp2_with fail
  go_region_with (go_at_call 37; refine (hmf.out _).mono ?_; rintro e w2 ⟨rfl, c2, rfl⟩)
  all_goals
    go_wp2_with fail
    obtain ⟨h5, k5, t5⟩ := three h1 k1 HT2.out (.cells c 66) (.cells #[.int .i64 2, .int .i64 0, .int .i64 0] 66) (.cells c2 66)
    refine (do_probe base M _ _ _ { σ with next := σ.next + 2 } n h3 t5 h5).mono ?_
    rintro e w3 ⟨rfl, ⟨vs6, vo6, h6⟩, k6⟩
    go_wp2
    go_end0
    exact ⟨rfl, ⟨_, _, h6⟩, k5.trans k6⟩

end Go.Proofs.YtebnlafjepfkdaaDoor
