import Derived.Test.YtflenkppcclclaaGreatDoorM03
import Derived.Test.YtflenkppcclclaaGreatDoorM04
import Derived.Deep.RegionWith
namespace Go.Proofs.YtflenkppcclclaaGreatDoor
open Go.RowKit

def szOf (k : Nat) : Nat := (shp (k * 3)).toNat
def tkOf (k : Nat) : Nat := (shp (k * 3 + 1)).toNat
def lyOf (k : Nat) : Nat := (shp (k * 3 + 2)).toNat

/-- What 'do' makes of a state for which the stack is fit. -/
def doS (σ : St) (k : Nat) (n : Int) : St :=
  let q := σ.stack.length - tkOf k
  let a := if tkOf k = 0 then 0 else σ.stack.getD q 0
  let b := if tkOf k = 2 then σ.stack.getD (q + 1) 0 else 0
  let l := σ.stack.take q
  let ρ : St := { σ with stack := l }
  match k with
  | 0 => fin ρ 0 0
  | 1 => { ρ with stack := l ++ [n] }
  | 2 => if h : 0 < σ.input.size then { ρ with input := σ.input.extract 1 σ.input.size, stack := l ++ [((σ.input[0]'h).toNat : Int)] } else { ρ with stack := l ++ [256] }
  | 3 => { ρ with stack := l ++ [a, a] }
  | 4 => ρ
  | 5 => { ρ with stack := l ++ [b, a] }
  | 6 => { ρ with stack := l ++ [IntKind.u16.wrap (a + b)] }
  | 7 => { ρ with stack := l ++ [IntKind.u16.wrap (a + IntKind.u16.wrap (-b))] }
  | 8 => { ρ with stack := l ++ [IntKind.u16.wrap (a * b)] }
  | 9 => { ρ with stack := l ++ [bits .and .u16 a b] }
  | 10 => { ρ with stack := l ++ [bits .xor .u16 a b] }
  | 11 => if b = 0 then fin ρ 1 1 else { ρ with stack := l ++ [IntKind.u16.wrap (a.tdiv b)] }
  | 12 => { ρ with stack := l ++ [tru (decide (bits .xor .u16 a b < 1))] }
  | 13 => { ρ with stack := l ++ [tru (decide (a < b))] }
  | 14 => { ρ with next := n }
  | 15 => if a = 0 then { ρ with next := n } else ρ
  | 16 => { ρ with stack := l ++ [σ.cells n.toNat] }
  | 17 => { ρ with cells := fun i => if i = n.toNat then a else σ.cells i }
  | 18 => putS ρ (IntKind.u8.wrap a)
  | 19 => fin ρ 1 (16 + n)
  | _ => ρ

theorem split0 {σ : St} : { σ with stack := σ.stack.take (σ.stack.length - 0) } = σ := by simp
theorem split1 (s : List Int) (h : 1 ≤ s.length) : s = s.take (s.length - 1) ++ [s.getD (s.length - 1) 0] := by
  have := List.take_append_drop (s.length - 1) s
  rw [List.drop_eq_getElem_cons (by omega)] at this
  rw [show s.drop (s.length - 1 + 1) = [] from List.drop_eq_nil_of_le (by omega)] at this
  have e : s.getD (s.length - 1) 0 = s[s.length - 1]'(by omega) := by simp [List.getD, List.getElem?_eq_getElem (show s.length - 1 < s.length by omega)]
  rw [e]
  exact this.symm
theorem split2 (s : List Int) (h : 2 ≤ s.length) : s = s.take (s.length - 2) ++ [s.getD (s.length - 2) 0, s.getD (s.length - 2 + 1) 0] := by
  have := List.take_append_drop (s.length - 2) s
  rw [List.drop_eq_getElem_cons (by omega), List.drop_eq_getElem_cons (by omega)] at this
  rw [show s.drop (s.length - 2 + 1 + 1) = [] from List.drop_eq_nil_of_le (by omega)] at this
  have e : s.getD (s.length - 2) 0 = s[s.length - 2]'(by omega) := by simp [List.getD, List.getElem?_eq_getElem (show s.length - 2 < s.length by omega)]
  have e2 : s.getD (s.length - 2 + 1) 0 = s[s.length - 2 + 1]'(by omega) := by simp [List.getD, List.getElem?_eq_getElem (show s.length - 2 + 1 < s.length by omega)]
  rw [e, e2]
  exact this.symm

theorem do_any (base M : Nat) (w : World) (vs vo : Value) (σ : St) (k : Nat) (n : Int) (hk : k ≤ 20) (hn : 0 ≤ n) (hn' : n ≤ 255) (hh : k = 16 ∨ k = 17 → n < 16) (h1 : tkOf k ≤ σ.stack.length) (h2 : σ.stack.length - tkOf k + lyOf k ≤ 32) (h3 : σ.stack.length ≤ 32)
    (hi : σ.input.size ≤ 24) (ho : σ.out.length ≤ 16) (hT : Tab w) (h : MS base M w vs vo σ) :
    Calls Tryz.prog 132 #[.pointer (some ⟨M, 0, none⟩), .int .u8 (k : Int), .int .u16 n] w (Out base M w (doS σ k n)) := by
  have e0 : ∀ (τ : St), ({ τ with stack := τ.stack.take (τ.stack.length - 0) } : St) = τ := fun τ => by simp
  match k, hk with
  | 0, _ => simpa [doS, tkOf, shp, shapeCells] using do_stop base M w vs vo σ n h3 hT h
  | 1, _ => simpa [doS, tkOf, shp, shapeCells] using do_push base M w vs vo σ n (by simp [tkOf, lyOf, shp, shapeCells] at h2; omega) hT h
  | 2, _ =>
    have hl : σ.stack.length < 32 := by simp [tkOf, lyOf, shp, shapeCells] at h2; omega
    by_cases he : 0 < σ.input.size
    · simpa [doS, tkOf, shp, shapeCells, he] using do_read_some base M w vs vo σ n hl hi he hT h
    · simpa [doS, tkOf, shp, shapeCells, he] using do_read_none base M w vs vo σ n hl (by omega) hT h
  | 3, _ =>
    have hl : 1 ≤ σ.stack.length := by simpa [tkOf, shp, shapeCells] using h1
    have h2' : σ.stack.length - 1 + 2 ≤ 32 := by simpa [tkOf, lyOf, shp, shapeCells] using h2
    simpa [doS, tkOf, shp, shapeCells] using do_dup base M w vs vo σ n _ _ (split1 σ.stack hl) (by rw [List.length_take]; omega) hT h
  | 4, _ =>
    have hl : 1 ≤ σ.stack.length := by simpa [tkOf, shp, shapeCells] using h1
    have h2' : σ.stack.length - 1 + 0 ≤ 32 := by simpa [tkOf, lyOf, shp, shapeCells] using h2
    simpa [doS, tkOf, shp, shapeCells] using do_drop base M w vs vo σ n _ _ (split1 σ.stack hl) (by rw [List.length_take]; omega) hT h
  | 5, _ =>
    have hl : 2 ≤ σ.stack.length := by simpa [tkOf, shp, shapeCells] using h1
    simpa [doS, tkOf, shp, shapeCells] using do_swap base M w vs vo σ n _ _ _ (split2 σ.stack hl) (by rw [List.length_take]; omega) hT h
  | 6, _ =>
    have hl : 2 ≤ σ.stack.length := by simpa [tkOf, shp, shapeCells] using h1
    simpa [doS, tkOf, shp, shapeCells] using do_add base M w vs vo σ n _ _ _ (split2 σ.stack hl) (by rw [List.length_take]; omega) hT h
  | 7, _ =>
    have hl : 2 ≤ σ.stack.length := by simpa [tkOf, shp, shapeCells] using h1
    simpa [doS, tkOf, shp, shapeCells] using do_sub base M w vs vo σ n _ _ _ (split2 σ.stack hl) (by rw [List.length_take]; omega) hT h
  | 8, _ =>
    have hl : 2 ≤ σ.stack.length := by simpa [tkOf, shp, shapeCells] using h1
    simpa [doS, tkOf, shp, shapeCells] using do_mul base M w vs vo σ n _ _ _ (split2 σ.stack hl) (by rw [List.length_take]; omega) hT h
  | 9, _ =>
    have hl : 2 ≤ σ.stack.length := by simpa [tkOf, shp, shapeCells] using h1
    simpa [doS, tkOf, shp, shapeCells] using do_and base M w vs vo σ n _ _ _ (split2 σ.stack hl) (by rw [List.length_take]; omega) hT h
  | 10, _ =>
    have hl : 2 ≤ σ.stack.length := by simpa [tkOf, shp, shapeCells] using h1
    simpa [doS, tkOf, shp, shapeCells] using do_xor base M w vs vo σ n _ _ _ (split2 σ.stack hl) (by rw [List.length_take]; omega) hT h
  | 11, _ =>
    have hl : 2 ≤ σ.stack.length := by simpa [tkOf, shp, shapeCells] using h1
    by_cases hb : σ.stack.getD (σ.stack.length - 2 + 1) 0 = 0
    · have hb' : σ.stack[σ.stack.length - 2 + 1]?.getD 0 = 0 := by simpa using hb
      simpa [doS, tkOf, shp, shapeCells, hb'] using do_div0 base M w vs vo σ n _ _ _ (split2 σ.stack hl) (by rw [List.length_take]; omega) hb hT h
    · have hb' : ¬ σ.stack[σ.stack.length - 2 + 1]?.getD 0 = 0 := by simpa using hb
      simpa [doS, tkOf, shp, shapeCells, hb'] using do_div base M w vs vo σ n _ _ _ (split2 σ.stack hl) (by rw [List.length_take]; omega) hb hT h
  | 12, _ =>
    have hl : 2 ≤ σ.stack.length := by simpa [tkOf, shp, shapeCells] using h1
    simpa [doS, tkOf, shp, shapeCells] using do_equal base M w vs vo σ n _ _ _ (split2 σ.stack hl) (by rw [List.length_take]; omega) hT h
  | 13, _ =>
    have hl : 2 ≤ σ.stack.length := by simpa [tkOf, shp, shapeCells] using h1
    simpa [doS, tkOf, shp, shapeCells] using do_less base M w vs vo σ n _ _ _ (split2 σ.stack hl) (by rw [List.length_take]; omega) hT h
  | 14, _ => simpa [doS, tkOf, shp, shapeCells] using do_jump base M w vs vo σ n h3 hn (by omega) hT h
  | 15, _ =>
    have hl : 1 ≤ σ.stack.length := by simpa [tkOf, shp, shapeCells] using h1
    by_cases ha : σ.stack.getD (σ.stack.length - 1) 0 = 0
    · have ha' : σ.stack[σ.stack.length - 1]?.getD 0 = 0 := by simpa using ha
      simpa [doS, tkOf, shp, shapeCells, ha'] using do_jz base M w vs vo σ n _ _ (split1 σ.stack hl) (by rw [List.length_take]; omega) ha hn (by omega) hT h
    · have ha' : ¬ σ.stack[σ.stack.length - 1]?.getD 0 = 0 := by simpa using ha
      simpa [doS, tkOf, shp, shapeCells, ha'] using do_jz_not base M w vs vo σ n _ _ (split1 σ.stack hl) (by rw [List.length_take]; omega) (beq_eq_false_iff_ne.2 ha) hT h
  | 16, _ =>
    have h16 := hh (.inl rfl)
    simpa [doS, tkOf, shp, shapeCells] using do_load base M w vs vo σ n (by simp [tkOf, lyOf, shp, shapeCells] at h2; omega) n.toNat (by omega) (by omega) hT h
  | 17, _ =>
    have h16 := hh (.inr rfl)
    have hl : 1 ≤ σ.stack.length := by simpa [tkOf, shp, shapeCells] using h1
    simpa [doS, tkOf, shp, shapeCells] using do_store base M w vs vo σ n _ _ (split1 σ.stack hl) (by rw [List.length_take]; omega) n.toNat (by omega) (by omega) hT h
  | 18, _ =>
    have hl : 1 ≤ σ.stack.length := by simpa [tkOf, shp, shapeCells] using h1
    simpa [doS, tkOf, shp, shapeCells] using do_put base M w vs vo σ n _ _ (split1 σ.stack hl) (by rw [List.length_take]; omega) ho hT h
  | 19, _ => simpa [doS, tkOf, shp, shapeCells] using do_fail base M w vs vo σ n h3 hn (by omega) hT h
  | 20, _ => simpa [doS, tkOf, shp, shapeCells] using do_probe base M w vs vo σ n h3 hT h
  | k + 21, hk => omega
end Go.Proofs.YtflenkppcclclaaGreatDoor

namespace Go.Proofs.YtflenkppcclclaaGreatDoor
open Go.RowKit

theorem shp_bounds : ∀ k, k ≤ 20 → (1 ≤ shp (k * 3) ∧ shp (k * 3) ≤ 2) ∧ (0 ≤ shp (k * 3 + 1) ∧ shp (k * 3 + 1) ≤ 2) ∧ (0 ≤ shp (k * 3 + 2) ∧ shp (k * 3 + 2) ≤ 2) := by
  intro k hk
  match k, hk with
  | 0, _ | 1, _ | 2, _ | 3, _ | 4, _ | 5, _ | 6, _ | 7, _ | 8, _ | 9, _ | 10, _ | 11, _ | 12, _ | 13, _ | 14, _ | 15, _ | 16, _ | 17, _ | 18, _ | 19, _ | 20, _ => simp [shp, shapeCells]
  | k + 21, hk => omega

/-- The stack's head, as a value. -/
theorem MS.head {base M : Nat} {w : World} {vs vo : Value} {σ : St} (h : MS base M w vs vo σ) : ∃ ao cap, vs = .slice ao σ.stack.length cap := by
  rcases h.own1.2 with ⟨e, h0⟩ | ⟨g, cap, cur, hv, _⟩
  · exact ⟨none, 0, by rw [h0]; exact e⟩
  · exact ⟨_, _, hv⟩

theorem Tab.alloc {w : World} (hT : Tab w) (o : Obj) : Tab (w.alloc o) := fun k hk => (World.cell?_alloc_past _ _ _ hT.pos).trans (hT k hk)

/-- Three blocks more, and two draws. -/
theorem three {base M : Nat} {w X : World} {vs vo : Value} {σ : St} (h1 : MS base M X vs vo σ) (k1 : Kept base M w X) (hT : Tab X) (o1 o2 o3 : Obj) :
    MS base M (((X.alloc o1).alloc o2).alloc o3).drew.drew vs vo σ ∧ Kept base M w (((X.alloc o1).alloc o2).alloc o3).drew.drew ∧ Tab (((X.alloc o1).alloc o2).alloc o3).drew.drew := by
  have a := h1.alloc o1
  have b := a.alloc o2
  have c := b.alloc o3
  have K := ((k1.trans (Kept.alloc (M := M) X h1.le o1)).trans (Kept.alloc (M := M) _ a.le o2)).trans (Kept.alloc (M := M) _ b.le o3)
  exact ⟨c.drew.drew, ⟨K.os, K.tape, K.output, K.size, K.block⟩, fun k hk => ((hT.alloc o1).alloc o2).alloc o3 k hk⟩

set_option maxHeartbeats 1000000 in
set_option maxRecDepth 100000 in
/-- There is no fuel left. -/
theorem adv_hang (base M : Nat) (w : World) (vs vo : Value) (σ : St) (cb co len cap : Nat) (k : Nat) (fuel : Int) (hk20 : ((k : Int) != 20) = true) (hc0 : w.cell? ⟨cb, co, none⟩ = some (.int .u8 (k : Int))) (hl : 1 ≤ len)
    (hz : (σ.steps == fuel) = true) (h : MS base M w vs vo σ) :
    Calls Tryz.prog 73 #[.pointer (some ⟨M, 0, none⟩), .slice (some ⟨cb, co, none⟩) len cap, .int .i64 fuel] w (Out base M w (fin σ 2 0)) := by
  have c24 := h.cell 24 (by omega)
  rw [mv_steps] at c24
  have hl0 : (0 : Int) < (len : Int) := by omega
  go_enter Tryz.func73, Tryz.ntmps73
  go_wp2_with fail
  refine (end_any base M _ _ _ _ 2 0 h).mono ?_
  rintro e w3 ⟨rfl, h6, k6⟩
  go_wp2
  exact bodyPost_ret (results_none rfl _ _ _) rfl ⟨rfl, ⟨_, _, h6⟩, k6⟩

end Go.Proofs.YtflenkppcclclaaGreatDoor

namespace Go.Proofs.YtflenkppcclclaaGreatDoor
open Go.RowKit

set_option maxHeartbeats 1000000 in
set_option maxRecDepth 100000 in
/-- The instruction is counted, and the stack is not fit for it. -/
theorem adv_fault (base M : Nat) (w : World) (vs vo : Value) (σ : St) (cb co len cap : Nat) (k : Nat) (fuel : Int) (hk : k ≤ 20) (hk20 : ((k : Int) != 20) = true) (hc0 : w.cell? ⟨cb, co, none⟩ = some (.int .u8 (k : Int))) (hl : 1 ≤ len)
    (hz : (σ.steps == fuel) = false) (hs0 : 0 ≤ σ.steps) (hs1 : σ.steps ≤ 1000) (hx0 : 0 ≤ σ.next) (hx1 : σ.next ≤ 1000) (h3 : σ.stack.length ≤ 32) (hT : Tab w) (h : MS base M w vs vo σ) (h0M : 0 < M) (r : Int) (hr : misfitS σ.stack.length (shp (k * 3 + 1)) (shp (k * 3 + 2)) = r) (hr0 : (r != 0) = true) :
    Calls Tryz.prog 73 #[.pointer (some ⟨M, 0, none⟩), .slice (some ⟨cb, co, none⟩) len cap, .int .i64 fuel] w (Out base M w (fin { σ with steps := σ.steps + 1, next := σ.next + shp (k * 3) } 1 r)) := by
  obtain ⟨ao, cp, rfl⟩ := h.head
  have hM : M < w.heap.size := Nat.lt_of_lt_of_le h.lt h.le
  have c24 := h.cell 24 (by omega)
  rw [mv_steps] at c24
  have f24 := h.thaw 24
  have c19 := h.cell 19 (by omega)
  rw [mv_next] at c19
  have f19 := h.thaw 19
  have c00 := h.cell 0 (by omega)
  rw [mv_stack] at c00
  have hl0 : (0 : Int) < (len : Int) := by omega
  obtain ⟨⟨z1, z2⟩, ⟨t1, t2⟩, ⟨l1, l2⟩⟩ := shp_bounds k hk
  have h1 := (h.setSteps (σ.steps + 1)).setNext (σ.next + shp (k * 3))
  have k1 := (Kept.set base M w 24 (.int .i64 (σ.steps + 1))).trans (Kept.set base M _ 19 (.int .i64 (σ.next + shp (k * 3))))
  have hT1 := (Kept.set base M w 24 (.int .i64 (σ.steps + 1))).tab h0M h.lt hT
  have hT2 := k1.tab h0M h.lt hT
  have hd0 : (0 : Int) ≤ (σ.stack.length : Int) := by omega
  have hd1 : (σ.stack.length : Int) ≤ 32 := by omega
  have hmf : Hid (∀ w', Calls Tryz.prog 131 #[.int .i64 (σ.stack.length : Int), .agg #[.int .i64 (shp (k * 3)), .int .i64 (shp (k * 3 + 1)), .int .i64 (shp (k * 3 + 2))]] w' fun e w'' => e = .returned (.int .i64 r) ∧ ∃ c, w'' = w'.alloc (.cells c 179)) := by
    intro w'
    rw [← hr]
    exact misfit_any _ _ _ _ w' hd0 hd1 t1 t2 l1 l2
  have HT1 : Hid (Tab (w.setCell ⟨M, 24, none⟩ (.int .i64 (σ.steps + 1)))) := hT1
  have HT2 : Hid (Tab ((w.setCell ⟨M, 24, none⟩ (.int .i64 (σ.steps + 1))).setCell ⟨M, 19, none⟩ (.int .i64 (σ.next + shp (k * 3))))) := hT2
  clear hT hT1 hT2 hr
  go_enter Tryz.func73, Tryz.ntmps73
  go_wp2_with fail
  refine (shapeOf_any k hk _ HT1.out).mono ?_
  rintro e w1 ⟨rfl, c, rfl⟩
  go_wp2_with fail
  go_region
  go_wp2_with fail
  go_region_with (go_at_call 131; refine (hmf.out _).mono ?_; rintro e w2 ⟨rfl, c2, rfl⟩)
  all_goals
    go_wp2_with fail
    obtain ⟨h5, k5, _⟩ := three h1 k1 HT2.out (.cells c 179) (.cells #[.int .i64 (shp (k * 3)), .int .i64 (shp (k * 3 + 1)), .int .i64 (shp (k * 3 + 2))] 179) (.cells c2 179)
    refine (end_any base M _ _ _ _ 1 r h5).mono ?_
    rintro e w3 ⟨rfl, h6, k6⟩
    go_wp2
    exact bodyPost_ret (results_none rfl _ _ _) rfl ⟨rfl, ⟨_, _, h6⟩, k5.trans k6⟩

end Go.Proofs.YtflenkppcclclaaGreatDoor

namespace Go.Proofs.YtflenkppcclclaaGreatDoor
open Go.RowKit

set_option maxHeartbeats 1000000 in
set_option maxRecDepth 100000 in
/-- An instruction of one byte. -/
theorem adv_do1 (base M : Nat) (w : World) (vs vo : Value) (σ : St) (cb co len cap : Nat) (k : Nat) (fuel : Int) (hk : k ≤ 20) (hk20 : ((k : Int) != 20) = true) (hc0 : w.cell? ⟨cb, co, none⟩ = some (.int .u8 (k : Int))) (hl : 1 ≤ len)
    (hz : (σ.steps == fuel) = false) (hs0 : 0 ≤ σ.steps) (hs1 : σ.steps ≤ 1000) (hx0 : 0 ≤ σ.next) (hx1 : σ.next ≤ 1000) (h3 : σ.stack.length ≤ 32) (hT : Tab w) (h : MS base M w vs vo σ) (h0M : 0 < M) (r : Int) (hr : misfitS σ.stack.length (shp (k * 3 + 1)) (shp (k * 3 + 2)) = r) (hr0 : (r != 0) = false) (hs : shp (k * 3) = 1) (hh : ¬ (k = 16 ∨ k = 17)) (hi : σ.input.size ≤ 24) (ho : σ.out.length ≤ 16) (hq1 : tkOf k ≤ σ.stack.length) (hq2 : σ.stack.length - tkOf k + lyOf k ≤ 32) :
    Calls Tryz.prog 73 #[.pointer (some ⟨M, 0, none⟩), .slice (some ⟨cb, co, none⟩) len cap, .int .i64 fuel] w (Out base M w (doS { σ with steps := σ.steps + 1, next := σ.next + shp (k * 3) } k 0)) := by
  have hs1' : ¬ (1 : Int) < shp (k * 3) := by omega
  clear hs
  obtain ⟨ao, cp, rfl⟩ := h.head
  have hM : M < w.heap.size := Nat.lt_of_lt_of_le h.lt h.le
  have c24 := h.cell 24 (by omega)
  rw [mv_steps] at c24
  have f24 := h.thaw 24
  have c19 := h.cell 19 (by omega)
  rw [mv_next] at c19
  have f19 := h.thaw 19
  have c00 := h.cell 0 (by omega)
  rw [mv_stack] at c00
  have hl0 : (0 : Int) < (len : Int) := by omega
  obtain ⟨⟨z1, z2⟩, ⟨t1, t2⟩, ⟨l1, l2⟩⟩ := shp_bounds k hk
  have h1 := (h.setSteps (σ.steps + 1)).setNext (σ.next + shp (k * 3))
  have k1 := (Kept.set base M w 24 (.int .i64 (σ.steps + 1))).trans (Kept.set base M _ 19 (.int .i64 (σ.next + shp (k * 3))))
  have hT1 := (Kept.set base M w 24 (.int .i64 (σ.steps + 1))).tab h0M h.lt hT
  have hT2 := k1.tab h0M h.lt hT
  have hd0 : (0 : Int) ≤ (σ.stack.length : Int) := by omega
  have hd1 : (σ.stack.length : Int) ≤ 32 := by omega
  have hmf : Hid (∀ w', Calls Tryz.prog 131 #[.int .i64 (σ.stack.length : Int), .agg #[.int .i64 (shp (k * 3)), .int .i64 (shp (k * 3 + 1)), .int .i64 (shp (k * 3 + 2))]] w' fun e w'' => e = .returned (.int .i64 r) ∧ ∃ c, w'' = w'.alloc (.cells c 179)) := by
    intro w'
    rw [← hr]
    exact misfit_any _ _ _ _ w' hd0 hd1 t1 t2 l1 l2
  have HT1 : Hid (Tab (w.setCell ⟨M, 24, none⟩ (.int .i64 (σ.steps + 1)))) := hT1
  have HT2 : Hid (Tab ((w.setCell ⟨M, 24, none⟩ (.int .i64 (σ.steps + 1))).setCell ⟨M, 19, none⟩ (.int .i64 (σ.next + shp (k * 3))))) := hT2
  clear hT hT1 hT2 hr
  go_enter Tryz.func73, Tryz.ntmps73
  go_wp2_with fail
  refine (shapeOf_any k hk _ HT1.out).mono ?_
  rintro e w1 ⟨rfl, c, rfl⟩
  go_wp2_with fail
  go_region
  go_wp2_with fail
  go_region_with (go_at_call 131; refine (hmf.out _).mono ?_; rintro e w2 ⟨rfl, c2, rfl⟩)
  all_goals
    go_wp2_with fail
    obtain ⟨h5, k5, t5⟩ := three h1 k1 HT2.out (.cells c 179) (.cells #[.int .i64 (shp (k * 3)), .int .i64 (shp (k * 3 + 1)), .int .i64 (shp (k * 3 + 2))] 179) (.cells c2 179)
    refine (do_any base M _ _ _ { σ with steps := σ.steps + 1, next := σ.next + shp (k * 3) } k 0 hk (by omega) (by omega) (fun c => absurd c hh) hq1 hq2 h3 hi ho t5 h5).mono ?_
    rintro e w3 ⟨rfl, ⟨vs6, vo6, h6⟩, k6⟩
    go_wp2
    go_end0
    exact ⟨rfl, ⟨_, _, h6⟩, k5.trans k6⟩

end Go.Proofs.YtflenkppcclclaaGreatDoor

namespace Go.Proofs.YtflenkppcclclaaGreatDoor
open Go.RowKit

set_option maxHeartbeats 1000000 in
set_option maxRecDepth 100000 in
/-- An instruction of two bytes. -/
theorem adv_do2 (base M : Nat) (w : World) (vs vo : Value) (σ : St) (cb co len cap : Nat) (k : Nat) (fuel : Int) (hk : k ≤ 20) (hk20 : ((k : Int) != 20) = true) (hc0 : w.cell? ⟨cb, co, none⟩ = some (.int .u8 (k : Int)))
    (hz : (σ.steps == fuel) = false) (hs0 : 0 ≤ σ.steps) (hs1 : σ.steps ≤ 1000) (hx0 : 0 ≤ σ.next) (hx1 : σ.next ≤ 1000) (h3 : σ.stack.length ≤ 32) (hT : Tab w) (h : MS base M w vs vo σ) (h0M : 0 < M) (r : Int) (hr : misfitS σ.stack.length (shp (k * 3 + 1)) (shp (k * 3 + 2)) = r) (hr0 : (r != 0) = false) (hs : shp (k * 3) = 2) (n : Int) (hn : 0 ≤ n) (hn' : n ≤ 255) (hh : k = 16 ∨ k = 17 → n < 16) (hl2 : 2 ≤ len) (hc1 : w.cell? ⟨cb, co + 1, none⟩ = some (.int .u8 n)) (hcb : cb ≠ M) (hcz : cb < w.heap.size) (hi : σ.input.size ≤ 24) (ho : σ.out.length ≤ 16) (hq1 : tkOf k ≤ σ.stack.length) (hq2 : σ.stack.length - tkOf k + lyOf k ≤ 32) :
    Calls Tryz.prog 73 #[.pointer (some ⟨M, 0, none⟩), .slice (some ⟨cb, co, none⟩) len cap, .int .i64 fuel] w (Out base M w (doS { σ with steps := σ.steps + 1, next := σ.next + shp (k * 3) } k n)) := by
  have hs1' : (1 : Int) < shp (k * 3) := by omega
  have hl1 : (1 : Int) < (len : Int) := by omega
  have hcb' : M ≠ cb := fun c => hcb c.symm
  clear hs
  obtain ⟨ao, cp, rfl⟩ := h.head
  have hM : M < w.heap.size := Nat.lt_of_lt_of_le h.lt h.le
  have c24 := h.cell 24 (by omega)
  rw [mv_steps] at c24
  have f24 := h.thaw 24
  have c19 := h.cell 19 (by omega)
  rw [mv_next] at c19
  have f19 := h.thaw 19
  have c00 := h.cell 0 (by omega)
  rw [mv_stack] at c00
  have hl0 : (0 : Int) < (len : Int) := by omega
  obtain ⟨⟨z1, z2⟩, ⟨t1, t2⟩, ⟨l1, l2⟩⟩ := shp_bounds k hk
  have h1 := (h.setSteps (σ.steps + 1)).setNext (σ.next + shp (k * 3))
  have k1 := (Kept.set base M w 24 (.int .i64 (σ.steps + 1))).trans (Kept.set base M _ 19 (.int .i64 (σ.next + shp (k * 3))))
  have hT1 := (Kept.set base M w 24 (.int .i64 (σ.steps + 1))).tab h0M h.lt hT
  have hT2 := k1.tab h0M h.lt hT
  have hd0 : (0 : Int) ≤ (σ.stack.length : Int) := by omega
  have hd1 : (σ.stack.length : Int) ≤ 32 := by omega
  have hmf : Hid (∀ w', Calls Tryz.prog 131 #[.int .i64 (σ.stack.length : Int), .agg #[.int .i64 (shp (k * 3)), .int .i64 (shp (k * 3 + 1)), .int .i64 (shp (k * 3 + 2))]] w' fun e w'' => e = .returned (.int .i64 r) ∧ ∃ c, w'' = w'.alloc (.cells c 179)) := by
    intro w'
    rw [← hr]
    exact misfit_any _ _ _ _ w' hd0 hd1 t1 t2 l1 l2
  have HT1 : Hid (Tab (w.setCell ⟨M, 24, none⟩ (.int .i64 (σ.steps + 1)))) := hT1
  have HT2 : Hid (Tab ((w.setCell ⟨M, 24, none⟩ (.int .i64 (σ.steps + 1))).setCell ⟨M, 19, none⟩ (.int .i64 (σ.next + shp (k * 3))))) := hT2
  have hcz1 : cb < w.heap.size + 1 := by omega
  have hcz2 : cb < w.heap.size + 1 + 1 := by omega
  have hcz3 : cb < w.heap.size + 2 := by omega
  have hc2 : ((w.setCell ⟨M, 24, none⟩ (.int .i64 (σ.steps + 1))).setCell ⟨M, 19, none⟩ (.int .i64 (σ.next + shp (k * 3)))).cell? ⟨cb, co + 1, none⟩ = some (.int .u8 n) := by
    rw [World.cell?_setCell_other _ _ _ _ (fun c => by injection c with c1 _ _; exact hcb c1.symm), World.cell?_setCell_other _ _ _ _ (fun c => by injection c with c1 _ _; exact hcb c1.symm)]
    exact hc1
  clear hT hT1 hT2 hr
  go_enter Tryz.func73, Tryz.ntmps73
  go_wp2_with fail
  refine (shapeOf_any k hk _ HT1.out).mono ?_
  rintro e w1 ⟨rfl, c, rfl⟩
  go_wp2_with fail
  go_region
  go_wp2_with fail
  go_region_with (go_at_call 131; refine (hmf.out _).mono ?_; rintro e w2 ⟨rfl, c2, rfl⟩)
  all_goals
    go_wp2_with fail
    obtain ⟨h5, k5, t5⟩ := three h1 k1 HT2.out (.cells c 179) (.cells #[.int .i64 (shp (k * 3)), .int .i64 (shp (k * 3 + 1)), .int .i64 (shp (k * 3 + 2))] 179) (.cells c2 179)
    refine (do_any base M _ _ _ { σ with steps := σ.steps + 1, next := σ.next + shp (k * 3) } k n hk (by omega) (by omega) hh hq1 hq2 h3 hi ho t5 h5).mono ?_
    rintro e w3 ⟨rfl, ⟨vs6, vo6, h6⟩, k6⟩
    go_wp2
    go_end0
    exact ⟨rfl, ⟨_, _, h6⟩, k5.trans k6⟩

end Go.Proofs.YtflenkppcclclaaGreatDoor

namespace Go.Proofs.YtflenkppcclclaaGreatDoor
open Go.RowKit

set_option maxHeartbeats 1000000 in
set_option maxRecDepth 100000 in
/-- A Probe. -/
theorem adv_probe (base M : Nat) (w : World) (vs vo : Value) (σ : St) (cb co len cap : Nat) (n fuel : Int) (hc0 : w.cell? ⟨cb, co, none⟩ = some (.int .u8 20))
    (hx0 : 0 ≤ σ.next) (hx1 : σ.next ≤ 1000) (h3 : σ.stack.length ≤ 32) (hT : Tab w) (h : MS base M w vs vo σ) (h0M : 0 < M) (hn : 0 ≤ n) (hn' : n ≤ 255) (hl2 : 2 ≤ len) (hc1 : w.cell? ⟨cb, co + 1, none⟩ = some (.int .u8 n)) (hcb : cb ≠ M) (hcz : cb < w.heap.size) :
    Calls Tryz.prog 73 #[.pointer (some ⟨M, 0, none⟩), .slice (some ⟨cb, co, none⟩) len cap, .int .i64 fuel] w (Out base M w { σ with next := σ.next + 2 }) := by
  obtain ⟨ao, cp, rfl⟩ := h.head
  have hM : M < w.heap.size := Nat.lt_of_lt_of_le h.lt h.le
  have c19 := h.cell 19 (by omega)
  rw [mv_next] at c19
  have f19 := h.thaw 19
  have c00 := h.cell 0 (by omega)
  rw [mv_stack] at c00
  have hl0 : (0 : Int) < (len : Int) := by omega
  have hl1 : (1 : Int) < (len : Int) := by omega
  have hcb' : M ≠ cb := fun c => hcb c.symm
  have h1 := h.setNext (σ.next + 2)
  have k1 := Kept.set base M w 19 (.int .i64 (σ.next + 2))
  have hT2 := k1.tab h0M h.lt hT
  have hd0 : (0 : Int) ≤ (σ.stack.length : Int) := by omega
  have hd1 : (σ.stack.length : Int) ≤ 32 := by omega
  have hmf : Hid (∀ w', Calls Tryz.prog 131 #[.int .i64 (σ.stack.length : Int), .agg #[.int .i64 2, .int .i64 0, .int .i64 0]] w' fun e w'' => e = .returned (.int .i64 0) ∧ ∃ c, w'' = w'.alloc (.cells c 179)) := by
    intro w'
    have hr : misfitS σ.stack.length 0 0 = 0 := by unfold misfitS; rw [if_neg (by omega), if_neg (by omega)]
    have := misfit_any (σ.stack.length : Int) 2 0 0 w' hd0 hd1 (by omega) (by omega) (by omega) (by omega)
    rw [hr] at this
    exact this
  have HT1 : Hid (Tab w) := hT
  have HT2 : Hid (Tab (w.setCell ⟨M, 19, none⟩ (.int .i64 (σ.next + 2)))) := hT2
  have hcz1 : cb < w.heap.size + 1 := by omega
  have hcz2 : cb < w.heap.size + 1 + 1 := by omega
  have hcz3 : cb < w.heap.size + 2 := by omega
  have hc2 : (w.setCell ⟨M, 19, none⟩ (.int .i64 (σ.next + 2))).cell? ⟨cb, co + 1, none⟩ = some (.int .u8 n) := by
    rw [World.cell?_setCell_other _ _ _ _ (fun c => by injection c with c1 _ _; exact hcb c1.symm)]
    exact hc1
  clear hT hT2
  go_enter Tryz.func73, Tryz.ntmps73
  go_wp2_with fail
  refine (shape20 _ HT1.out).mono ?_
  rintro e w1 ⟨rfl, c, rfl⟩
  go_wp2_with fail
  go_region
  go_wp2_with fail
  go_region_with (go_at_call 131; refine (hmf.out _).mono ?_; rintro e w2 ⟨rfl, c2, rfl⟩)
  all_goals
    go_wp2_with fail
    obtain ⟨h5, k5, t5⟩ := three h1 k1 HT2.out (.cells c 179) (.cells #[.int .i64 2, .int .i64 0, .int .i64 0] 179) (.cells c2 179)
    refine (do_probe base M _ _ _ { σ with next := σ.next + 2 } n h3 t5 h5).mono ?_
    rintro e w3 ⟨rfl, ⟨vs6, vo6, h6⟩, k6⟩
    go_wp2
    go_end0
    exact ⟨rfl, ⟨_, _, h6⟩, k5.trans k6⟩

end Go.Proofs.YtflenkppcclclaaGreatDoor

