import Derived.Test.YtgepjiheohgogaaDoorTop
namespace Go.Proofs.YtgepjiheohgogaaDoor
open Go.RowKit

def lQ : List Int := [2, 3, 1, 255, 5, 13, 15, 10, 0, 0, 18, 14, 0]
def cQ (i : Nat) : Int := lQ.getD i 0
theorem vQ : VP cQ 13 10 where
  most := by decide
  one := by decide
  last := by decide
  op := by decide
  byte := by decide
  cell := by decide
  stop := by decide
  jump := by
    intro m hm
    match m, hm with
    | 0, _ | 1, _ | 2, _ | 3, _ | 4, _ | 6, _ | 7, _ | 8, _ => intro h; exact absurd h (by decide)
    | 5, _ => intro _; exact ⟨8, by decide, by decide⟩
    | 9, _ => intro _; exact ⟨0, by decide, by decide⟩
    | m + 10, hm => omega

/-- One round, as far as the machine goes. -/
def stp (f : Int) (σ : St) : St := advS { σ with place := σ.next } (cQ σ.next.toNat).toNat (second cQ σ.next.toNat) f
def itf (f : Int) (σ : St) : Nat → St
  | 0 => σ
  | n + 1 => stp f (itf f σ n)
theorem after_itf (ent : Nat → Int) (f : Int) (ρ : RS) : ∀ n, (after cQ ent f ρ n).σ = itf f ρ.σ n
  | 0 => rfl
  | n + 1 => by show stp f (after cQ ent f ρ n).σ = stp f (itf f ρ.σ n); rw [after_itf ent f ρ n]

structure Lives (f : Int) (σ : St) (n : Nat) (τ : St) : Prop where
  comes : itf f σ n = τ
  lives : ∀ m, m < n → (itf f σ m).ended = false
theorem Lives.zero (f : Int) (σ : St) : Lives f σ 0 σ := ⟨rfl, fun _ h => absurd h (by omega)⟩
theorem Lives.step {f : Int} {σ τ υ : St} {n : Nat} (h : Lives f σ n τ) (he : τ.ended = false) (hs : stp f τ = υ) : Lives f σ (n + 1) υ := by
  refine ⟨by show stp f (itf f σ n) = _; rw [h.comes, hs], fun m hm => ?_⟩
  by_cases e : m = n
  · subst e; rw [h.comes]; exact he
  · exact h.lives m (by omega)

section
variable (f x : Int) (ce : Nat → Int) (inp : ByteArray) (out : List Int) (kd fl pl st : Int)
theorem q0 (hst : st ≠ f) (h : 0 < inp.size) : stp f ⟨[], ce, inp, out, 0, kd, fl, pl, st, false⟩ = ⟨[((inp[0]'h).toNat : Int)], ce, inp.extract 1 inp.size, out, 1, kd, fl, 0, st + 1, false⟩ := by
  show advS _ 2 0 f = _
  unfold advS
  rw [if_neg (by decide), if_neg hst, if_neg (by show ¬ misfitS 0 0 1 ≠ 0; decide)]
  show (if h : 0 < inp.size then _ else _) = _
  rw [dif_pos h]
  rfl
theorem q0e (hst : st ≠ f) (h : ¬ 0 < inp.size) : stp f ⟨[], ce, inp, out, 0, kd, fl, pl, st, false⟩ = ⟨[256], ce, inp, out, 1, kd, fl, 0, st + 1, false⟩ := by
  show advS _ 2 0 f = _
  unfold advS
  rw [if_neg (by decide), if_neg hst, if_neg (by show ¬ misfitS 0 0 1 ≠ 0; decide)]
  show (if h : 0 < inp.size then _ else _) = _
  rw [dif_neg h]
  rfl
theorem q1 (hst : st ≠ f) : stp f ⟨[x], ce, inp, out, 1, kd, fl, pl, st, false⟩ = ⟨[x, x], ce, inp, out, 2, kd, fl, 1, st + 1, false⟩ := by
  show advS _ 3 0 f = _
  unfold advS
  rw [if_neg (by decide), if_neg hst, if_neg (by show ¬ misfitS 1 1 2 ≠ 0; decide)]
  rfl
theorem q2 (hst : st ≠ f) : stp f ⟨[x, x], ce, inp, out, 2, kd, fl, pl, st, false⟩ = ⟨[x, x, 255], ce, inp, out, 4, kd, fl, 2, st + 1, false⟩ := by
  show advS _ 1 255 f = _
  unfold advS
  rw [if_neg (by decide), if_neg hst, if_neg (by show ¬ misfitS 2 0 1 ≠ 0; decide)]
  rfl
theorem q4 (hst : st ≠ f) : stp f ⟨[x, x, 255], ce, inp, out, 4, kd, fl, pl, st, false⟩ = ⟨[x, 255, x], ce, inp, out, 5, kd, fl, 4, st + 1, false⟩ := by
  show advS _ 5 0 f = _
  unfold advS
  rw [if_neg (by decide), if_neg hst, if_neg (by show ¬ misfitS 3 2 2 ≠ 0; decide)]
  rfl
theorem q5 (hst : st ≠ f) : stp f ⟨[x, 255, x], ce, inp, out, 5, kd, fl, pl, st, false⟩ = ⟨[x, tru (decide ((255 : Int) < x))], ce, inp, out, 6, kd, fl, 5, st + 1, false⟩ := by
  show advS _ 13 0 f = _
  unfold advS
  rw [if_neg (by decide), if_neg hst, if_neg (by show ¬ misfitS 3 2 1 ≠ 0; decide)]
  rfl
theorem q6 (hst : st ≠ f) : stp f ⟨[x, 0], ce, inp, out, 6, kd, fl, pl, st, false⟩ = ⟨[x], ce, inp, out, 10, kd, fl, 6, st + 1, false⟩ := by
  show advS _ 15 10 f = _
  unfold advS
  rw [if_neg (by decide), if_neg hst, if_neg (by show ¬ misfitS 2 1 0 ≠ 0; decide)]
  rfl
theorem q6e (hst : st ≠ f) : stp f ⟨[x, 1], ce, inp, out, 6, kd, fl, pl, st, false⟩ = ⟨[x], ce, inp, out, 8, kd, fl, 6, st + 1, false⟩ := by
  show advS _ 15 10 f = _
  unfold advS
  rw [if_neg (by decide), if_neg hst, if_neg (by show ¬ misfitS 2 1 0 ≠ 0; decide)]
  rfl
theorem q8 (hst : st ≠ f) : stp f ⟨[x], ce, inp, out, 8, kd, fl, pl, st, false⟩ = ⟨[x], ce, inp, out, 9, 0, 0, 8, st + 1, true⟩ := by
  show advS _ 0 0 f = _
  unfold advS
  rw [if_neg (by decide), if_neg hst, if_neg (by show ¬ misfitS 1 0 0 ≠ 0; decide)]
  rfl
theorem q10 (hst : st ≠ f) (h : out.length ≠ 16) : stp f ⟨[x], ce, inp, out, 10, kd, fl, pl, st, false⟩ = ⟨[], ce, inp, out ++ [IntKind.u8.wrap x], 11, kd, fl, 10, st + 1, false⟩ := by
  show advS _ 18 0 f = _
  unfold advS
  rw [if_neg (by decide), if_neg hst, if_neg (by show ¬ misfitS 1 1 0 ≠ 0; decide)]
  show (if out.length = 16 then _ else _) = _
  rw [if_neg h]
  rfl
theorem q10e (hst : st ≠ f) (h : out.length = 16) : stp f ⟨[x], ce, inp, out, 10, kd, fl, pl, st, false⟩ = ⟨[], ce, inp, out, 11, 1, 4, 10, st + 1, true⟩ := by
  show advS _ 18 0 f = _
  unfold advS
  rw [if_neg (by decide), if_neg hst, if_neg (by show ¬ misfitS 1 1 0 ≠ 0; decide)]
  show (if out.length = 16 then _ else _) = _
  rw [if_pos h]
  rfl
theorem q11 (hst : st ≠ f) : stp f ⟨[], ce, inp, out, 11, kd, fl, pl, st, false⟩ = ⟨[], ce, inp, out, 0, kd, fl, 11, st + 1, false⟩ := by
  show advS _ 14 0 f = _
  unfold advS
  rw [if_neg (by decide), if_neg hst, if_neg (by show ¬ misfitS 0 0 0 ≠ 0; decide)]
  rfl
end
/-- There is no fuel left. -/
theorem qh (f : Int) (σ : St) (h : σ.steps = f) (hk : (cQ σ.next.toNat).toNat ≠ 20) : stp f σ = fin { σ with place := σ.next } 2 0 := by
  unfold stp advS
  rw [if_neg hk]
  exact if_pos h
end Go.Proofs.YtgepjiheohgogaaDoor
