import Derived.Test.YtebnlafjepfkdaaDoorAdv3
import Derived.Test.YtebnlafjepfkdaaDoorAdv4
import Derived.Test.YtebnlafjepfkdaaDoorAdv5
import Derived.Test.YtebnlafjepfkdaaDoorAdv6
namespace Go.Proofs.YtebnlafjepfkdaaDoor
open Go.RowKit

/-- What 'advance' makes of a state. -/
def advS (σ : St) (k : Nat) (n fuel : Int) : St :=
  if k = 20 then { σ with next := σ.next + 2 }
  else if σ.steps = fuel then fin σ 2 0
  else if misfitS σ.stack.length (shp (k * 3 + 1)) (shp (k * 3 + 2)) ≠ 0 then fin { σ with steps := σ.steps + 1, next := σ.next + shp (k * 3) } 1 (misfitS σ.stack.length (shp (k * 3 + 1)) (shp (k * 3 + 2)))
  else doS { σ with steps := σ.steps + 1, next := σ.next + shp (k * 3) } k n

theorem misfit_zero {d t l : Int} (h : misfitS d t l = 0) : 0 ≤ d - t ∧ d - t + l ≤ 32 := by
  unfold misfitS at h
  by_cases h1 : d - t < 0
  · rw [if_pos h1] at h; cases h
  · rw [if_neg h1] at h
    by_cases h2 : 32 < d - t + l
    · rw [if_pos h2] at h; cases h
    · omega

theorem sz_cases : ∀ k, k ≤ 20 → (shp (k * 3) = 1 ∧ ¬ (k = 16 ∨ k = 17)) ∨ shp (k * 3) = 2 := by
  intro k hk
  match k, hk with
  | 0, _ | 1, _ | 2, _ | 3, _ | 4, _ | 5, _ | 6, _ | 7, _ | 8, _ | 9, _ | 10, _ | 11, _ | 12, _ | 13, _ | 14, _ | 15, _ | 16, _ | 17, _ | 18, _ | 19, _ | 20, _ => simp [shp, shapeCells]
  | k + 21, hk => omega

theorem adv_any (base M : Nat) (w : World) (vs vo : Value) (σ : St) (cb co len cap : Nat) (k : Nat) (n fuel : Int) (hk : k ≤ 20) (hc0 : w.cell? ⟨cb, co, none⟩ = some (.int .u8 (k : Int))) (hl : 1 ≤ len)
    (hs0 : 0 ≤ σ.steps) (hs1 : σ.steps ≤ 1000) (hx0 : 0 ≤ σ.next) (hx1 : σ.next ≤ 1000) (h3 : σ.stack.length ≤ 32) (hT : Tab w) (h : MS base M w vs vo σ) (h0M : 0 < M)
    (hn : 0 ≤ n) (hn' : n ≤ 255) (hh : k = 16 ∨ k = 17 → n < 16) (hi : σ.input.size ≤ 24) (ho : σ.out.length ≤ 16) (hcb : cb ≠ M) (hcz : cb < w.heap.size)
    (h1 : shp (k * 3) = 1 → n = 0) (h2 : shp (k * 3) = 2 → 2 ≤ len ∧ w.cell? ⟨cb, co + 1, none⟩ = some (.int .u8 n)) :
    Calls Tryd.prog 22 #[.pointer (some ⟨M, 0, none⟩), .slice (some ⟨cb, co, none⟩) len cap, .int .i64 fuel] w (Out base M w (advS σ k n fuel)) := by
  unfold advS
  by_cases e20 : k = 20
  · subst e20
    rw [if_pos rfl]
    obtain ⟨a, b⟩ := h2 rfl
    exact adv_probe base M w vs vo σ cb co len cap n fuel hc0 hx0 hx1 h3 hT h h0M hn hn' a b hcb hcz
  rw [if_neg e20]
  have hk20 : ((k : Int) != 20) = true := by rw [bne_iff_ne]; omega
  by_cases es : σ.steps = fuel
  · rw [if_pos es]
    exact adv_hang base M w vs vo σ cb co len cap k fuel hk20 hc0 hl (by rw [beq_iff_eq]; exact es) h
  rw [if_neg es]
  have hz : (σ.steps == fuel) = false := by rw [beq_eq_false_iff_ne]; exact es
  by_cases er : misfitS σ.stack.length (shp (k * 3 + 1)) (shp (k * 3 + 2)) ≠ 0
  · rw [if_pos er]
    exact adv_fault base M w vs vo σ cb co len cap k fuel hk hk20 hc0 hl hz hs0 hs1 hx0 hx1 h3 hT h h0M _ rfl (by rw [bne_iff_ne]; exact er)
  rw [if_neg er]
  have er0 : misfitS σ.stack.length (shp (k * 3 + 1)) (shp (k * 3 + 2)) = 0 := Classical.byContradiction er
  obtain ⟨_, ⟨t1, t2⟩, ⟨l1, l2⟩⟩ := shp_bounds k hk
  have hm := misfit_zero er0
  have hq1 : tkOf k ≤ σ.stack.length := by unfold tkOf; omega
  have hq2 : σ.stack.length - tkOf k + lyOf k ≤ 32 := by unfold tkOf lyOf; omega
  have hr0 : ((0 : Int) != 0) = false := rfl
  rcases sz_cases k hk with ⟨e1, ek⟩ | e2
  · have := h1 e1
    subst this
    exact adv_do1 base M w vs vo σ cb co len cap k fuel hk hk20 hc0 hl hz hs0 hs1 hx0 hx1 h3 hT h h0M 0 er0 hr0 e1 ek hi ho hq1 hq2
  · obtain ⟨a, b⟩ := h2 e2
    exact adv_do2 base M w vs vo σ cb co len cap k fuel hk hk20 hc0 hz hs0 hs1 hx0 hx1 h3 hT h h0M 0 er0 hr0 e2 n hn hn' hh a b hcb hcz hi ho hq1 hq2
end Go.Proofs.YtebnlafjepfkdaaDoor
