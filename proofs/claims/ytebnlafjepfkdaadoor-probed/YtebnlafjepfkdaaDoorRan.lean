import Derived.Test.YtebnlafjepfkdaaDoorKeep
namespace Go.Proofs.YtebnlafjepfkdaaDoor
open Go.RowKit

theorem cov_cell {w : World} {g : Nat} {cnt : Nat → Int} (h : w.heap[g]? = some (.cells (covL cnt 64).toArray 5 (0, 0))) (i : Nat) (hi : i < 64) : w.cell? ⟨g, i, none⟩ = some (.int .u8 (classS (cnt i))) := by
  rw [cell_of_row w g _ _ _ _ h, List.getElem?_toArray, covL_get cnt 64 i hi, if_pos hi]

theorem runA (w : World) (cb co cap : Nat) (C : Laid w cb co 10 cap cE) (hT : Tab w) :
    Calls Tryd.prog 8 #[.slice (some ⟨cb, co, none⟩) 10 cap, .string ⟨#[97]⟩, .int .i64 100] w fun e w' => Below w.heap.size w w' ∧ ∃ g, w.heap.size ≤ g ∧ g < w'.heap.size ∧ w'.cell? ⟨g, 0, none⟩ = some (.int .u8 1) ∧ w'.cell? ⟨g, 8, none⟩ = some (.int .u8 1) ∧ w'.cell? ⟨g, 10, none⟩ = some (.int .u8 0) ∧
      e = .returned (.tuple #[.agg #[.int .i64 1, .int .i64 23, .int .i64 6, .string ⟨#[]⟩, .int .i64 5], .slice (some ⟨g, 0, none⟩) 64 64, .int .i64 0]) := by
  refine (xRun_any w cb co 10 cap 7 cE vE C hT ⟨#[97]⟩ 100 (by decide) (by omega) (by omega)).mono ?_
  rintro e w' ⟨n, τ, rfl, h2, h3, h4, g, h5, h6, h7⟩
  have hn : n = 5 := once h2 h3 rA_end rA_not
  subst hn
  have e0 : after cE (entAt (bgn cE 7) 10) 100 (ρ0 ⟨#[97]⟩) 5 = rA 5 := rfl
  rw [e0] at h6 h7
  refine ⟨h4, g, h5, (Array.getElem?_eq_some_iff.1 h6).1, ?_, ?_, ?_, ?_⟩
  · rw [cov_cell h6 0 (by omega), rA_0]
  · rw [cov_cell h6 8 (by omega), rA_8]
  · rw [cov_cell h6 10 (by omega), rA_10]
  · rw [h7, rA_kind, rA_fault, rA_place, rA_steps, rA_out]; rfl
theorem runB (w : World) (cb co cap : Nat) (C : Laid w cb co 10 cap cE) (hT : Tab w) :
    Calls Tryd.prog 8 #[.slice (some ⟨cb, co, none⟩) 10 cap, .string ⟨#[98]⟩, .int .i64 100] w fun e w' => Below w.heap.size w w' ∧ ∃ g, w.heap.size ≤ g ∧ g < w'.heap.size ∧ w'.cell? ⟨g, 0, none⟩ = some (.int .u8 1) ∧ w'.cell? ⟨g, 8, none⟩ = some (.int .u8 0) ∧ w'.cell? ⟨g, 10, none⟩ = some (.int .u8 1) ∧
      e = .returned (.tuple #[.agg #[.int .i64 0, .int .i64 0, .int .i64 9, .string ⟨#[]⟩, .int .i64 5], .slice (some ⟨g, 0, none⟩) 64 64, .int .i64 0]) := by
  refine (xRun_any w cb co 10 cap 7 cE vE C hT ⟨#[98]⟩ 100 (by decide) (by omega) (by omega)).mono ?_
  rintro e w' ⟨n, τ, rfl, h2, h3, h4, g, h5, h6, h7⟩
  have hn : n = 5 := once h2 h3 rB_end rB_not
  subst hn
  have e0 : after cE (entAt (bgn cE 7) 10) 100 (ρ0 ⟨#[98]⟩) 5 = rB 5 := rfl
  rw [e0] at h6 h7
  refine ⟨h4, g, h5, (Array.getElem?_eq_some_iff.1 h6).1, ?_, ?_, ?_, ?_⟩
  · rw [cov_cell h6 0 (by omega), rB_0]
  · rw [cov_cell h6 8 (by omega), rB_8]
  · rw [cov_cell h6 10 (by omega), rB_10]
  · rw [h7, rB_kind, rB_fault, rB_place, rB_steps, rB_out]; rfl
theorem chkE (w : World) (cb co cap : Nat) (C : Laid w cb co 10 cap cE) (hT : Tab w) :
    Calls Tryd.prog 12 #[.slice (some ⟨cb, co, none⟩) 10 cap] w fun e w' => e = .returned (.tuple #[.int .i64 4, .int .i64 0]) ∧ Below w.heap.size w w' := by
  have := xCheck_any w cb co 10 cap 7 cE vE C hT
  rw [cntE] at this
  exact this

set_option maxHeartbeats 1000000 in
theorem ran_any (w : World) (hT : Tab w) : Calls Tryd.prog 5 #[] w fun e w' => e = .returned (.bool true) ∧ Below w.heap.size w w' := by
  go_enter Tryd.func5, Tryd.ntmps5
  go_wp2_with fail
  refine (example_any w).mono ?_
  rintro e w1 ⟨rfl, hw1⟩
  have B1 : Below w.heap.size w w1 := by rw [hw1]; exact (Below.refl _ _).alloc (Nat.le_refl _) _
  have C1 := laidE w
  rw [← hw1] at C1
  clear hw1
  go_wp2_with fail
  refine (chkE w1 _ _ _ C1 (hT.below B1)).mono ?_
  rintro e w2 ⟨rfl, B2⟩
  have B02 := B1.trans (B2.mono B1.size)
  go_wp2_with fail
  refine (example_any w2).mono ?_
  rintro e w3 ⟨rfl, hw3⟩
  have B3 : Below w2.heap.size w2 w3 := by rw [hw3]; exact (Below.refl _ _).alloc (Nat.le_refl _) _
  have B03 := B02.trans (B3.mono B02.size)
  have C3 := laidE w2
  rw [← hw3] at C3
  clear hw3
  go_wp2_with fail
  refine (runA w3 _ _ _ C3 (hT.below B03)).mono ?_
  rintro e w4 ⟨B4, g4, hg4, hl4, a0, a8, a10, rfl⟩
  have B04 := B03.trans (B4.mono B03.size)
  clear C1 C3 B1 B2 B02 B3 B03 B4
  go_wp2_with fail
  refine (example_any _).mono ?_
  rintro e w6 ⟨rfl, hw6⟩
  have hz5 : (w4.alloc (.cells #[.int .i64 1, .int .i64 23, .int .i64 6, .string ⟨#[]⟩, .int .i64 5] 27)).heap.size = w4.heap.size + 1 := by simp
  have B6 : Below (w4.alloc (.cells #[.int .i64 1, .int .i64 23, .int .i64 6, .string ⟨#[]⟩, .int .i64 5] 27)).heap.size (w4.alloc (.cells #[.int .i64 1, .int .i64 23, .int .i64 6, .string ⟨#[]⟩, .int .i64 5] 27)) w6 := by rw [hw6]; exact (Below.refl _ _).alloc (Nat.le_refl _) _
  have C6 := laidE (w4.alloc (.cells #[.int .i64 1, .int .i64 23, .int .i64 6, .string ⟨#[]⟩, .int .i64 5] 27))
  rw [← hw6, hz5] at C6
  clear hw6
  have B05 : Below w.heap.size w (w4.alloc (.cells #[.int .i64 1, .int .i64 23, .int .i64 6, .string ⟨#[]⟩, .int .i64 5] 27)) := B04.alloc (by have := B04.size; omega) _
  rw [hz5] at B6
  have B06 := B05.trans (B6.mono (by have := B04.size; omega))
  have hs6 : w4.heap.size + 1 ≤ w6.heap.size := by have := B6.size; rw [hz5] at this; exact this
  have b0 : w6.cell? ⟨g4, 0, none⟩ = some (.int .u8 1) := (B6.cell (p := ⟨g4, 0, none⟩) (by show g4 < w4.heap.size + 1; omega)).trans ((World.cell?_alloc_past _ _ _ hl4).trans a0)
  have b8 : w6.cell? ⟨g4, 8, none⟩ = some (.int .u8 1) := (B6.cell (p := ⟨g4, 8, none⟩) (by show g4 < w4.heap.size + 1; omega)).trans ((World.cell?_alloc_past _ _ _ hl4).trans a8)
  have b10 : w6.cell? ⟨g4, 10, none⟩ = some (.int .u8 0) := (B6.cell (p := ⟨g4, 10, none⟩) (by show g4 < w4.heap.size + 1; omega)).trans ((World.cell?_alloc_past _ _ _ hl4).trans a10)
  have s0 : w6.cell? ⟨w4.heap.size, 0, none⟩ = some (.int .i64 1) := (B6.cell (p := ⟨w4.heap.size, 0, none⟩) (by show w4.heap.size < w4.heap.size + 1; omega)).trans (World.cell?_alloc_new _ _ _ _)
  have s1 : w6.cell? ⟨w4.heap.size, 1, none⟩ = some (.int .i64 23) := (B6.cell (p := ⟨w4.heap.size, 1, none⟩) (by show w4.heap.size < w4.heap.size + 1; omega)).trans (World.cell?_alloc_new _ _ _ _)
  have s2 : w6.cell? ⟨w4.heap.size, 2, none⟩ = some (.int .i64 6) := (B6.cell (p := ⟨w4.heap.size, 2, none⟩) (by show w4.heap.size < w4.heap.size + 1; omega)).trans (World.cell?_alloc_new _ _ _ _)
  have s3 : w6.cell? ⟨w4.heap.size, 3, none⟩ = some (.string ⟨#[]⟩) := (B6.cell (p := ⟨w4.heap.size, 3, none⟩) (by show w4.heap.size < w4.heap.size + 1; omega)).trans (World.cell?_alloc_new _ _ _ _)
  have s4 : w6.cell? ⟨w4.heap.size, 4, none⟩ = some (.int .i64 5) := (B6.cell (p := ⟨w4.heap.size, 4, none⟩) (by show w4.heap.size < w4.heap.size + 1; omega)).trans (World.cell?_alloc_new _ _ _ _)
  clear B6 B05 a0 a8 a10
  go_wp2_with fail
  refine (runB w6 _ _ _ C6 (hT.below B06)).mono ?_
  rintro e w7 ⟨B7, g7, hg7, hl7, d0, d8, d10, rfl⟩
  have B07 := B06.trans (B7.mono B06.size)
  have hs7 := B7.size
  have e0 := (B7.cell (p := ⟨g4, 0, none⟩) (by show g4 < w6.heap.size; omega)).trans b0
  have e8 := (B7.cell (p := ⟨g4, 8, none⟩) (by show g4 < w6.heap.size; omega)).trans b8
  have e10 := (B7.cell (p := ⟨g4, 10, none⟩) (by show g4 < w6.heap.size; omega)).trans b10
  have t0 := (B7.cell (p := ⟨w4.heap.size, 0, none⟩) (by show w4.heap.size < w6.heap.size; omega)).trans s0
  have t1 := (B7.cell (p := ⟨w4.heap.size, 1, none⟩) (by show w4.heap.size < w6.heap.size; omega)).trans s1
  have t2 := (B7.cell (p := ⟨w4.heap.size, 2, none⟩) (by show w4.heap.size < w6.heap.size; omega)).trans s2
  have t3 := (B7.cell (p := ⟨w4.heap.size, 3, none⟩) (by show w4.heap.size < w6.heap.size; omega)).trans s3
  have t4 := (B7.cell (p := ⟨w4.heap.size, 4, none⟩) (by show w4.heap.size < w6.heap.size; omega)).trans s4
  have u1 : g4 < w7.heap.size := by omega
  have u2 : w4.heap.size < w7.heap.size := by omega
  clear B7 C6 b0 b8 b10 s0 s1 s2 s3 s4 B06 B04 hg4 hg7 hl4 hs6 hs7
  go_wp2_with fail
  go_ret
  exact ⟨rfl, B07.alloc (by have := B07.size; omega) _⟩
end Go.Proofs.YtebnlafjepfkdaaDoor
