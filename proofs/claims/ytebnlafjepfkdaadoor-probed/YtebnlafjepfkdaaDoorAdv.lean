import Derived.Test.YtebnlafjepfkdaaDoorDoA
import Derived.Test.YtebnlafjepfkdaaDoorDoB
import Derived.Test.YtebnlafjepfkdaaDoorDoC
import Derived.Test.YtebnlafjepfkdaaDoorDoD
import Derived.Test.YtebnlafjepfkdaaDoorDoE
namespace Go.Proofs.YtebnlafjepfkdaaDoor
open Go.RowKit

def szOf (k : Nat) : Nat := (shp (k * 3)).toNat
def tkOf (k : Nat) : Nat := (shp (k * 3 + 1)).toNat
def lyOf (k : Nat) : Nat := (shp (k * 3 + 2)).toNat

/-- What 'do' makes of a state for which the stack is fit. -/
def doS (σ : St) (k : Nat) (n : Int) : St :=
  let q := σ.stack.length - tkOf k
  let a := if tkOf k = 0 then 0 else σ.stack.getD q 0
  let b := if tkOf k = 2 then σ.stack.getD (q + 1) 0 else 0
  let l := σ.stack.take q
  let ρ : St := { σ with stack := l }
  match k with
  | 0 => fin ρ 0 0
  | 1 => { ρ with stack := l ++ [n] }
  | 2 => if h : 0 < σ.input.size then { ρ with input := σ.input.extract 1 σ.input.size, stack := l ++ [((σ.input[0]'h).toNat : Int)] } else { ρ with stack := l ++ [256] }
  | 3 => { ρ with stack := l ++ [a, a] }
  | 4 => ρ
  | 5 => { ρ with stack := l ++ [b, a] }
  | 6 => { ρ with stack := l ++ [IntKind.u16.wrap (a + b)] }
  | 7 => { ρ with stack := l ++ [IntKind.u16.wrap (a + IntKind.u16.wrap (-b))] }
  | 8 => { ρ with stack := l ++ [IntKind.u16.wrap (a * b)] }
  | 9 => { ρ with stack := l ++ [bits .and .u16 a b] }
  | 10 => { ρ with stack := l ++ [bits .xor .u16 a b] }
  | 11 => if b = 0 then fin ρ 1 1 else { ρ with stack := l ++ [IntKind.u16.wrap (a.tdiv b)] }
  | 12 => { ρ with stack := l ++ [tru (decide (bits .xor .u16 a b < 1))] }
  | 13 => { ρ with stack := l ++ [tru (decide (a < b))] }
  | 14 => { ρ with next := n }
  | 15 => if a = 0 then { ρ with next := n } else ρ
  | 16 => { ρ with stack := l ++ [σ.cells n.toNat] }
  | 17 => { ρ with cells := fun i => if i = n.toNat then a else σ.cells i }
  | 18 => putS ρ (IntKind.u8.wrap a)
  | 19 => fin ρ 1 (16 + n)
  | _ => ρ

theorem split0 {σ : St} : { σ with stack := σ.stack.take (σ.stack.length - 0) } = σ := by simp
theorem split1 (s : List Int) (h : 1 ≤ s.length) : s = s.take (s.length - 1) ++ [s.getD (s.length - 1) 0] := by
  have := List.take_append_drop (s.length - 1) s
  rw [List.drop_eq_getElem_cons (by omega)] at this
  rw [show s.drop (s.length - 1 + 1) = [] from List.drop_eq_nil_of_le (by omega)] at this
  have e : s.getD (s.length - 1) 0 = s[s.length - 1]'(by omega) := by simp [List.getD, List.getElem?_eq_getElem (show s.length - 1 < s.length by omega)]
  rw [e]
  exact this.symm
theorem split2 (s : List Int) (h : 2 ≤ s.length) : s = s.take (s.length - 2) ++ [s.getD (s.length - 2) 0, s.getD (s.length - 2 + 1) 0] := by
  have := List.take_append_drop (s.length - 2) s
  rw [List.drop_eq_getElem_cons (by omega), List.drop_eq_getElem_cons (by omega)] at this
  rw [show s.drop (s.length - 2 + 1 + 1) = [] from List.drop_eq_nil_of_le (by omega)] at this
  have e : s.getD (s.length - 2) 0 = s[s.length - 2]'(by omega) := by simp [List.getD, List.getElem?_eq_getElem (show s.length - 2 < s.length by omega)]
  have e2 : s.getD (s.length - 2 + 1) 0 = s[s.length - 2 + 1]'(by omega) := by simp [List.getD, List.getElem?_eq_getElem (show s.length - 2 + 1 < s.length by omega)]
  rw [e, e2]
  exact this.symm

theorem do_any (base M : Nat) (w : World) (vs vo : Value) (σ : St) (k : Nat) (n : Int) (hk : k ≤ 20) (hn : 0 ≤ n) (hn' : n ≤ 255) (hh : k = 16 ∨ k = 17 → n < 16) (h1 : tkOf k ≤ σ.stack.length) (h2 : σ.stack.length - tkOf k + lyOf k ≤ 32) (h3 : σ.stack.length ≤ 32)
    (hi : σ.input.size ≤ 24) (ho : σ.out.length ≤ 16) (hT : Tab w) (h : MS base M w vs vo σ) :
    Calls Tryd.prog 38 #[.pointer (some ⟨M, 0, none⟩), .int .u8 (k : Int), .int .u16 n] w (Out base M w (doS σ k n)) := by
  have e0 : ∀ (τ : St), ({ τ with stack := τ.stack.take (τ.stack.length - 0) } : St) = τ := fun τ => by simp
  match k, hk with
  | 0, _ => simpa [doS, tkOf, shp, shapeCells] using do_stop base M w vs vo σ n h3 hT h
  | 1, _ => simpa [doS, tkOf, shp, shapeCells] using do_push base M w vs vo σ n (by simp [tkOf, lyOf, shp, shapeCells] at h2; omega) hT h
  | 2, _ =>
    have hl : σ.stack.length < 32 := by simp [tkOf, lyOf, shp, shapeCells] at h2; omega
    by_cases he : 0 < σ.input.size
    · simpa [doS, tkOf, shp, shapeCells, he] using do_read_some base M w vs vo σ n hl hi he hT h
    · simpa [doS, tkOf, shp, shapeCells, he] using do_read_none base M w vs vo σ n hl (by omega) hT h
  | 3, _ =>
    have hl : 1 ≤ σ.stack.length := by simpa [tkOf, shp, shapeCells] using h1
    have h2' : σ.stack.length - 1 + 2 ≤ 32 := by simpa [tkOf, lyOf, shp, shapeCells] using h2
    simpa [doS, tkOf, shp, shapeCells] using do_dup base M w vs vo σ n _ _ (split1 σ.stack hl) (by rw [List.length_take]; omega) hT h
  | 4, _ =>
    have hl : 1 ≤ σ.stack.length := by simpa [tkOf, shp, shapeCells] using h1
    have h2' : σ.stack.length - 1 + 0 ≤ 32 := by simpa [tkOf, lyOf, shp, shapeCells] using h2
    simpa [doS, tkOf, shp, shapeCells] using do_drop base M w vs vo σ n _ _ (split1 σ.stack hl) (by rw [List.length_take]; omega) hT h
  | 5, _ =>
    have hl : 2 ≤ σ.stack.length := by simpa [tkOf, shp, shapeCells] using h1
    simpa [doS, tkOf, shp, shapeCells] using do_swap base M w vs vo σ n _ _ _ (split2 σ.stack hl) (by rw [List.length_take]; omega) hT h
  | 6, _ =>
    have hl : 2 ≤ σ.stack.length := by simpa [tkOf, shp, shapeCells] using h1
    simpa [doS, tkOf, shp, shapeCells] using do_add base M w vs vo σ n _ _ _ (split2 σ.stack hl) (by rw [List.length_take]; omega) hT h
  | 7, _ =>
    have hl : 2 ≤ σ.stack.length := by simpa [tkOf, shp, shapeCells] using h1
    simpa [doS, tkOf, shp, shapeCells] using do_sub base M w vs vo σ n _ _ _ (split2 σ.stack hl) (by rw [List.length_take]; omega) hT h
  | 8, _ =>
    have hl : 2 ≤ σ.stack.length := by simpa [tkOf, shp, shapeCells] using h1
    simpa [doS, tkOf, shp, shapeCells] using do_mul base M w vs vo σ n _ _ _ (split2 σ.stack hl) (by rw [List.length_take]; omega) hT h
  | 9, _ =>
    have hl : 2 ≤ σ.stack.length := by simpa [tkOf, shp, shapeCells] using h1
    simpa [doS, tkOf, shp, shapeCells] using do_and base M w vs vo σ n _ _ _ (split2 σ.stack hl) (by rw [List.length_take]; omega) hT h
  | 10, _ =>
    have hl : 2 ≤ σ.stack.length := by simpa [tkOf, shp, shapeCells] using h1
    simpa [doS, tkOf, shp, shapeCells] using do_xor base M w vs vo σ n _ _ _ (split2 σ.stack hl) (by rw [List.length_take]; omega) hT h
  | 11, _ =>
    have hl : 2 ≤ σ.stack.length := by simpa [tkOf, shp, shapeCells] using h1
    by_cases hb : σ.stack.getD (σ.stack.length - 2 + 1) 0 = 0
    · have hb' : σ.stack[σ.stack.length - 2 + 1]?.getD 0 = 0 := by simpa using hb
      simpa [doS, tkOf, shp, shapeCells, hb'] using do_div0 base M w vs vo σ n _ _ _ (split2 σ.stack hl) (by rw [List.length_take]; omega) hb hT h
    · have hb' : ¬ σ.stack[σ.stack.length - 2 + 1]?.getD 0 = 0 := by simpa using hb
      simpa [doS, tkOf, shp, shapeCells, hb'] using do_div base M w vs vo σ n _ _ _ (split2 σ.stack hl) (by rw [List.length_take]; omega) hb hT h
  | 12, _ =>
    have hl : 2 ≤ σ.stack.length := by simpa [tkOf, shp, shapeCells] using h1
    simpa [doS, tkOf, shp, shapeCells] using do_equal base M w vs vo σ n _ _ _ (split2 σ.stack hl) (by rw [List.length_take]; omega) hT h
  | 13, _ =>
    have hl : 2 ≤ σ.stack.length := by simpa [tkOf, shp, shapeCells] using h1
    simpa [doS, tkOf, shp, shapeCells] using do_less base M w vs vo σ n _ _ _ (split2 σ.stack hl) (by rw [List.length_take]; omega) hT h
  | 14, _ => simpa [doS, tkOf, shp, shapeCells] using do_jump base M w vs vo σ n h3 hn (by omega) hT h
  | 15, _ =>
    have hl : 1 ≤ σ.stack.length := by simpa [tkOf, shp, shapeCells] using h1
    by_cases ha : σ.stack.getD (σ.stack.length - 1) 0 = 0
    · have ha' : σ.stack[σ.stack.length - 1]?.getD 0 = 0 := by simpa using ha
      simpa [doS, tkOf, shp, shapeCells, ha'] using do_jz base M w vs vo σ n _ _ (split1 σ.stack hl) (by rw [List.length_take]; omega) ha hn (by omega) hT h
    · have ha' : ¬ σ.stack[σ.stack.length - 1]?.getD 0 = 0 := by simpa using ha
      simpa [doS, tkOf, shp, shapeCells, ha'] using do_jz_not base M w vs vo σ n _ _ (split1 σ.stack hl) (by rw [List.length_take]; omega) (beq_eq_false_iff_ne.2 ha) hT h
  | 16, _ =>
    have h16 := hh (.inl rfl)
    simpa [doS, tkOf, shp, shapeCells] using do_load base M w vs vo σ n (by simp [tkOf, lyOf, shp, shapeCells] at h2; omega) n.toNat (by omega) (by omega) hT h
  | 17, _ =>
    have h16 := hh (.inr rfl)
    have hl : 1 ≤ σ.stack.length := by simpa [tkOf, shp, shapeCells] using h1
    simpa [doS, tkOf, shp, shapeCells] using do_store base M w vs vo σ n _ _ (split1 σ.stack hl) (by rw [List.length_take]; omega) n.toNat (by omega) (by omega) hT h
  | 18, _ =>
    have hl : 1 ≤ σ.stack.length := by simpa [tkOf, shp, shapeCells] using h1
    simpa [doS, tkOf, shp, shapeCells] using do_put base M w vs vo σ n _ _ (split1 σ.stack hl) (by rw [List.length_take]; omega) ho hT h
  | 19, _ => simpa [doS, tkOf, shp, shapeCells] using do_fail base M w vs vo σ n h3 hn (by omega) hT h
  | 20, _ => simpa [doS, tkOf, shp, shapeCells] using do_probe base M w vs vo σ n h3 hT h
  | k + 21, hk => omega
end Go.Proofs.YtebnlafjepfkdaaDoor
