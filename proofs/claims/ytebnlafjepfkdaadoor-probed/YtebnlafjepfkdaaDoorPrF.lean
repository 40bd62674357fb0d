import Derived.Test.YtebnlafjepfkdaaDoorPrE
import Derived.Test.YtebnlafjepfkdaaDoorRan
namespace Go.Proofs.YtebnlafjepfkdaaDoor
open Go.RowKit

theorem kprogram_any (w : World) (v : Value) (L : Nat) (c : Nat → Int) (hby : ∀ i, i < L → 0 ≤ c i ∧ c i ≤ 255) (C : Coded w v L c) (hT : Tab w) :
    Calls Tryd.prog 10 #[v] w fun e w' => Below w.heap.size w w' ∧ ∃ cb co L' cap c' N', VP c' L' N' ∧ Laid w' cb co L' cap c' ∧ e = .returned (.slice (some ⟨cb, co, none⟩) L' cap) := by
  go_enter Tryd.func10, Tryd.ntmps10
  go_wp2_with fail
  refine (xCheck_gen w v L c hby C hT).mono ?_
  rintro e w1 ⟨n, b, hC, rfl, B1⟩
  cases b with
  | true =>
    rcases hC with ⟨h, _⟩ | ⟨_, hL, N, F, _⟩
    · cases h
    · cases C with
      | bare p cap hv h0 => have := F.pos; omega
      | full cb co cap hv C =>
        subst hv
        have HC := C.below B1
        clear C
        go_wp2_with fail
        go_ret
        exact ⟨B1, cb, co, L, cap, c, N, F.vp hL, HC, rfl⟩
  | false =>
    clear hC
    go_wp2_with fail
    refine (example_any w1).mono ?_
    rintro e w2 ⟨rfl, hw2⟩
    have C2 := laidE w1
    rw [← hw2] at C2
    have B2 : Below w.heap.size w w2 := by rw [hw2]; exact B1.alloc B1.size _
    clear hw2
    go_wp2_with fail
    go_ret
    exact ⟨B2, _, _, _, _, _, _, vE, C2, rfl⟩

theorem qE : qOf (bgn cE 7) 10 = 18 := by kernel_rfl
theorem pcE : pc cE 7 10 0 = 20 ∧ pc cE 7 10 1 = 0 ∧ pc cE 7 10 7 = 15 ∧ pc cE 7 10 17 = 0 := by
  refine ⟨?_, ?_, ?_, ?_⟩ <;> kernel_rfl
theorem pfE : pf cE 7 10 0 = -1 ∧ pf cE 7 10 2 = 0 ∧ pf cE 7 10 17 = 9 := by
  refine ⟨?_, ?_, ?_⟩ <;> kernel_rfl

set_option maxHeartbeats 1000000 in
theorem kprobed_any (w : World) (hT : Tab w) : Calls Tryd.prog 9 #[] w fun e w' => e = .returned (.bool true) ∧ Below w.heap.size w w' := by
  go_enter Tryd.func9, Tryd.ntmps9
  go_wp2_with fail
  refine (ran_any w hT).mono ?_
  rintro e w1 ⟨rfl, B1⟩
  go_wp2_with fail
  refine (example_any w1).mono ?_
  rintro e w2 ⟨rfl, hw2⟩
  have C2 := laidE w1
  rw [← hw2] at C2
  have B2 : Below w.heap.size w w2 := by rw [hw2]; exact B1.alloc B1.size _
  clear hw2
  go_wp2_with fail
  refine (xProbe_any w2 _ _ _ _ _ _ vE C2 (hT.below B2)).mono ?_
  rintro e w3 ⟨base, W, vc, vf, hW, hR, rfl, B3⟩
  obtain ⟨g1, cap1, g2, cap2, rfl, rfl, T⟩ := hR.two hW vE.qPos
  rw [qE] at T ⊢
  have B23 := B2.trans (B3.mono B2.size)
  have hr1 := T.code.room
  have hr2 := T.code.room'
  have hr3 := T.room
  have a0 := T.code.cell 0 (by omega)
  have a1 := T.code.cell 1 (by omega)
  have a7 := T.code.cell 7 (by omega)
  have a17 := T.code.cell 17 (by omega)
  rw [pcE.1] at a0
  rw [pcE.2.1] at a1
  rw [pcE.2.2.1] at a7
  rw [pcE.2.2.2] at a17
  have d0 := T.from' 0 (by omega)
  have d2 := T.from' 2 (by omega)
  have d17 := T.from' 17 (by omega)
  rw [pfE.1] at d0
  rw [pfE.2.1] at d2
  rw [pfE.2.2] at d17
  simp only [Nat.zero_add] at a0 a1 a7 a17
  clear T hR
  go_wp2_with fail
  go_ret
  exact ⟨rfl, B23⟩
end Go.Proofs.YtebnlafjepfkdaaDoor
