import Derived.Test.YtebnlafjepfkdaaDoorLay
import Derived.Lib.Strings
namespace Go.Proofs.YtebnlafjepfkdaaDoor
open Go.RowKit

/-- Nothing is left of the input. -/
theorem read_none (base M : Nat) (w : World) (vs vo : Value) (σ : St) (h : MS base M w vs vo σ) (he : σ.input.size = 0) :
    Calls Tryd.prog 43 #[.pointer (some ⟨M, 0, none⟩)] w fun e w' => e = .returned (.int .u16 256) ∧ w' = w := by
  have c0 := h.cell 17 (by omega)
  rw [mv_input] at c0
  have hE : σ.input.toList.isEmpty = true := by
    rw [Lib.toList_data]
    have := Lib.size_eq σ.input
    rw [List.isEmpty_iff]
    exact List.eq_nil_of_length_eq_zero (by omega)
  go_enter Tryd.func43, Tryd.ntmps43
  go_wp2
  go_ret
  exact ⟨rfl, rfl⟩

theorem read_some (base M : Nat) (w : World) (vs vo : Value) (σ : St) (h : MS base M w vs vo σ) (hm : σ.input.size ≤ 24) (he : 0 < σ.input.size) :
    Calls Tryd.prog 43 #[.pointer (some ⟨M, 0, none⟩)] w fun e w' => e = .returned (.int .u16 (σ.input[0]'he).toNat) ∧ MS base M w' vs vo { σ with input := σ.input.extract 1 σ.input.size } ∧ Kept base M w w' := by
  have c0 := h.cell 17 (by omega)
  rw [mv_input] at c0
  have f0 := h.thaw 17
  have R := h.setInput (σ.input.extract 1 σ.input.size)
  have K := Kept.set base M w 17 (.string (σ.input.extract 1 σ.input.size))
  have hE : σ.input.toList.isEmpty = false := by
    rw [Lib.toList_data]
    have := Lib.size_eq σ.input
    rw [List.isEmpty_eq_false_iff]
    intro c
    have h2 : σ.input.size = 0 := by rw [this, c]; rfl
    omega
  have hb8 : ((σ.input[0]'he).toNat : Int) ≤ 255 := by have := (σ.input[0]'he).toNat_lt; omega
  go_enter Tryd.func43, Tryd.ntmps43
  go_wp2
  go_ret
  exact ⟨rfl, R, K⟩
end Go.Proofs.YtebnlafjepfkdaaDoor
