import Derived.Test.YtebnlafjepfkdaaGreatDoorM00
namespace Go.Proofs.YtebnlafjepfkdaaGreatDoor
open Go.RowKit

/-- A switch whose cases lie one behind the other: block i closes right ahead of case i. -/
def nest (T : Code) (i : Nat) : List Code → Code
  | [] => T
  | c :: cs => nest (.seq (.block i T) c) (i + 1) cs

/-- The cases from one on, run one behind the other. -/
def runs (P : Program) (Q : Exit → Act → World → Prop) : List Code → Act → World → Prop
  | [] => Q .normal
  | c :: cs => c.wp P (Exit.then (runs P Q cs) Q)

theorem nest_run (P : Program) (Q : Exit → Act → World → Prop) (hQ : ∀ k a w, k ≠ 0 → ¬ Q (.exit k) a w) : ∀ (cs : List Code) (X : Code) (i : Nat) (a : Act) (w : World), 0 < i →
    X.wp P (Exit.then (runs P Q cs) Q) a w → (nest X i cs).wp P Q a w := by
  intro cs
  induction cs with
  | nil =>
    intro X i a w _ h
    exact wp_mono h (fun e a w q => by cases e <;> exact q)
  | cons c cs ih =>
    intro X i a w hi h
    refine ih _ (i + 1) a w (by omega) (wp_seq (wp_block (wp_mono h ?_)))
    intro e a w q
    cases e with
    | exit k =>
      have hk : k = 0 := Classical.byContradiction fun c => hQ k a w c q
      subst hk
      show (if 0 = i then _ else _)
      rw [if_neg (by omega)]
      exact q
    | normal => exact q
    | goto l => exact q
    | ret => exact q
    | panic ch => exact q
    | outgrown => exact q

theorem nest_wp (P : Program) (Q : Exit → Act → World → Prop) (hQ : ∀ k a w, k ≠ 0 → ¬ Q (.exit k) a w) (a1 : Act) (w1 : World) (j : Nat) : ∀ (cs : List Code) (T : Code) (i : Nat) (a : Act) (w : World), 0 < i → i ≤ j → j < i + cs.length →
    (∀ Q' : Exit → Act → World → Prop, Q' (.exit j) a1 w1 → T.wp P Q' a w) → runs P Q (cs.drop (j - i)) a1 w1 → (nest T i cs).wp P Q a w := by
  intro cs
  induction cs with
  | nil => intro T i a w _ h1 h2; simp at h2; omega
  | cons c cs ih =>
    intro T i a w hi h1 h2 hT hC
    by_cases e : j = i
    · subst e
      refine nest_run P Q hQ cs _ (j + 1) a w (by omega) (wp_seq (wp_block (hT _ ?_)))
      show (if j = j then _ else _)
      rw [if_pos rfl]
      rw [Nat.sub_self] at hC
      exact hC
    · refine ih _ (i + 1) a w (by omega) (by omega) (by simp at h2; omega) ?_ ?_
      · intro Q' hq
        refine wp_seq (wp_block (hT _ ?_))
        show (if j = i then _ else _)
        rw [if_neg e]
        exact hq
      · have e2 : j - i = (j - (i + 1)) + 1 := by omega
        rw [e2] at hC
        exact hC

/-- The switch of 'do', out of the translation; its tests; its cases. -/
def behind2 : Option Code → Code
  | some (.seq _ (.seq _ c)) => c
  | _ => .skip
def inBlock0 : Code → Code
  | .block _ c => c
  | _ => .skip
def casesOf : Nat → Code → List Code → List Code
  | 0, _, l => l
  | n + 1, .seq (.block _ x) c, l => casesOf n x (c :: l)
  | _ + 1, _, l => l
def testsOf : Nat → Code → Code
  | 0, x => x
  | n + 1, .seq (.block _ x) _ => testsOf n x
  | _ + 1, x => x
theorem swCode_eq : (behind2 Tryz.f104.body) = .block 0 (nest (testsOf 20 (inBlock0 (behind2 Tryz.f104.body))) 1 (casesOf 20 (inBlock0 (behind2 Tryz.f104.body)) [])) := by kernel_rfl
theorem swCases_len : (casesOf 20 (inBlock0 (behind2 Tryz.f104.body)) []).length = 20 := by kernel_rfl

theorem sw_wp (Q : Exit → Act → World → Prop) (hQ : ∀ k a w, ¬ Q (.exit k) a w) (a a1 : Act) (w w1 : World) (j : Nat) (h1 : 1 ≤ j) (h2 : j ≤ 20)
    (hT : ∀ Q' : Exit → Act → World → Prop, Q' (.exit j) a1 w1 → (testsOf 20 (inBlock0 (behind2 Tryz.f104.body))).wp Tryz.prog Q' a w) (hC : runs Tryz.prog (Exit.inBlock 0 Q) ((casesOf 20 (inBlock0 (behind2 Tryz.f104.body)) []).drop (j - 1)) a1 w1) : (behind2 Tryz.f104.body).wp Tryz.prog Q a w := by
  rw [swCode_eq]
  refine wp_block (nest_wp Tryz.prog _ ?_ a1 w1 j (casesOf 20 (inBlock0 (behind2 Tryz.f104.body)) []) (testsOf 20 (inBlock0 (behind2 Tryz.f104.body))) 1 a w (by omega) h1 (by rw [swCases_len]; omega) hT hC)
  intro k a w hk
  show ¬ (if k = 0 then _ else _)
  rw [if_neg hk]
  exact hQ k a w
end Go.Proofs.YtebnlafjepfkdaaGreatDoor

