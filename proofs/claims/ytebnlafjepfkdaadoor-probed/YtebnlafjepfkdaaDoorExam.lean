import Derived.Test.YtebnlafjepfkdaaDoorTop
namespace Go.Proofs.YtebnlafjepfkdaaDoor
open Go.RowKit

def lE : List Int := [2, 1, 97, 12, 15, 9, 19, 7, 0, 0]
def cE (i : Nat) : Int := lE.getD i 0
theorem vE : VP cE 10 7 where
  most := by decide
  one := by decide
  last := by decide
  op := by decide
  byte := by decide
  cell := by decide
  stop := by decide
  jump := by
    intro m hm
    match m, hm with
    | 0, _ | 1, _ | 2, _ | 4, _ | 5, _ | 6, _ => intro h; exact absurd h (by decide)
    | 3, _ => intro _; exact ⟨6, by decide, by decide⟩
    | m + 7, hm => omega

def entE : Nat → Int := entAt (bgn cE 7) 10
theorem cntE : cntB (bgn cE 7) 10 = 4 := by decide

theorem once {c ent : Nat → Int} {fuel : Int} {ρ : RS} {n n0 : Nat} (he : (after c ent fuel ρ n).σ.ended = true) (hN : ∀ m, m < n → (after c ent fuel ρ m).σ.ended = false)
    (he0 : (after c ent fuel ρ n0).σ.ended = true) (hN0 : ∀ m, m < n0 → (after c ent fuel ρ m).σ.ended = false) : n = n0 := by
  rcases Nat.lt_trichotomy n n0 with h | h | h
  · rw [hN0 n h] at he; cases he
  · exact h
  · rw [hN n0 h] at he0; cases he0

def rA (n : Nat) : RS := after cE entE 100 (ρ0 ⟨#[97]⟩) n
def rB (n : Nat) : RS := after cE entE 100 (ρ0 ⟨#[98]⟩) n
theorem rA_end : (rA 5).σ.ended = true := by kernel_rfl
theorem rA_not : ∀ m, m < 5 → (rA m).σ.ended = false := by
  intro m hm
  match m, hm with
  | 0, _ => exact (show (rA 0).σ.ended = false by kernel_rfl)
  | 1, _ => exact (show (rA 1).σ.ended = false by kernel_rfl)
  | 2, _ => exact (show (rA 2).σ.ended = false by kernel_rfl)
  | 3, _ => exact (show (rA 3).σ.ended = false by kernel_rfl)
  | 4, _ => exact (show (rA 4).σ.ended = false by kernel_rfl)
  | m + 5, hm => omega
theorem rA_kind : (rA 5).σ.kind = 1 := by kernel_rfl
theorem rA_fault : (rA 5).σ.fault = 23 := by kernel_rfl
theorem rA_place : (rA 5).σ.place = 6 := by kernel_rfl
theorem rA_steps : (rA 5).σ.steps = 5 := by kernel_rfl
theorem rA_out : (rA 5).σ.out = [] := by kernel_rfl
theorem rA_0 : classS ((rA 5).cnt 0) = 1 := by kernel_rfl
theorem rA_8 : classS ((rA 5).cnt 8) = 1 := by kernel_rfl
theorem rA_10 : classS ((rA 5).cnt 10) = 0 := by kernel_rfl
theorem rB_end : (rB 5).σ.ended = true := by kernel_rfl
theorem rB_not : ∀ m, m < 5 → (rB m).σ.ended = false := by
  intro m hm
  match m, hm with
  | 0, _ => exact (show (rB 0).σ.ended = false by kernel_rfl)
  | 1, _ => exact (show (rB 1).σ.ended = false by kernel_rfl)
  | 2, _ => exact (show (rB 2).σ.ended = false by kernel_rfl)
  | 3, _ => exact (show (rB 3).σ.ended = false by kernel_rfl)
  | 4, _ => exact (show (rB 4).σ.ended = false by kernel_rfl)
  | m + 5, hm => omega
theorem rB_kind : (rB 5).σ.kind = 0 := by kernel_rfl
theorem rB_fault : (rB 5).σ.fault = 0 := by kernel_rfl
theorem rB_place : (rB 5).σ.place = 9 := by kernel_rfl
theorem rB_steps : (rB 5).σ.steps = 5 := by kernel_rfl
theorem rB_out : (rB 5).σ.out = [] := by kernel_rfl
theorem rB_0 : classS ((rB 5).cnt 0) = 1 := by kernel_rfl
theorem rB_8 : classS ((rB 5).cnt 8) = 0 := by kernel_rfl
theorem rB_10 : classS ((rB 5).cnt 10) = 1 := by kernel_rfl
end Go.Proofs.YtebnlafjepfkdaaDoor
