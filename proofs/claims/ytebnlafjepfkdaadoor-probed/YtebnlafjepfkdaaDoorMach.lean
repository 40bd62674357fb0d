import Derived.Test.YtebnlafjepfkdaaDoorShape
import Derived.Maps.AppendAt
namespace Go.Proofs.YtebnlafjepfkdaaDoor
open Go.RowKit

/-- What a run has at one time. -/
structure St where
  stack : List Int
  cells : Nat → Int
  input : ByteArray
  out : List Int
  next : Int
  kind : Int
  fault : Int
  place : Int
  steps : Int
  ended : Bool

/-- The machine's block, cell by cell. -/
def mval (vs vo : Value) (σ : St) (j : Nat) : Value :=
  if j = 0 then vs else if j < 17 then .int .u16 (σ.cells (j - 1)) else if j = 17 then .string σ.input else if j = 18 then vo else if j = 19 then .int .i64 σ.next else if j = 20 then .int .i64 σ.kind else if j = 21 then .int .i64 σ.fault else if j = 22 then .int .i64 σ.place else if j = 23 then .string ByteArray.empty else if j = 24 then .int .i64 σ.steps else if j = 25 then .bool σ.ended else .bool false

/-- Below block number B, but for block M, the world is as it was. -/
structure Kept (B M : Nat) (w w' : World) : Prop where
  os : w'.os = w.os
  tape : w'.tape = w.tape
  output : w'.output = w.output
  size : w.heap.size ≤ w'.heap.size
  block : ∀ k, k < B → k ≠ M → w'.heap[k]? = w.heap[k]?

theorem Kept.refl (B M : Nat) (w : World) : Kept B M w w := ⟨rfl, rfl, rfl, Nat.le_refl _, fun _ _ _ => rfl⟩
theorem Kept.trans {B M : Nat} {a b c : World} (h : Kept B M a b) (k : Kept B M b c) : Kept B M a c :=
  ⟨k.os.trans h.os, k.tape.trans h.tape, k.output.trans h.output, Nat.le_trans h.size k.size, fun i hi hm => (k.block i hi hm).trans (h.block i hi hm)⟩
theorem Kept.of_below {B M : Nat} {w w' : World} (h : Below B w w') : Kept B M w w' := ⟨h.os, h.tape, h.output, h.size, fun k hk _ => h.block k hk⟩
theorem Kept.set (B M : Nat) (w : World) (j : Nat) (u : Value) : Kept B M w (w.setCell ⟨M, j, none⟩ u) :=
  ⟨rfl, rfl, rfl, by simp, fun k _ hk => heap_setCell_other w ⟨M, j, none⟩ k u hk⟩
theorem Kept.alloc {B M : Nat} (w : World) (hB : B ≤ w.heap.size) (o : Obj) : Kept B M w (w.alloc o) := Kept.of_below ((Below.refl B w).alloc hB o)
theorem Kept.cell {B M : Nat} {w w' : World} (h : Kept B M w w') {p : Addr} (hp : p.block < B) (hm : p.block ≠ M) : w'.cell? p = w.cell? p := World.cell?_of_block (w := w) (h.block p.block hp hm)
theorem Kept.frozen {B M : Nat} {w w' : World} (h : Kept B M w w') {p : Addr} (hp : p.block < B) (hm : p.block ≠ M) : w'.frozen? p = w.frozen? p := World.frozen?_of_block (w := w) (h.block p.block hp hm)
theorem Kept.tab {B M : Nat} {w w' : World} (h : Kept B M w w') (h0 : 0 < M) (hM : M < B) (t : Tab w) : Tab w' :=
  fun k hk => (h.cell (p := ⟨0, k, none⟩) (show (0 : Nat) < B by omega) (show (0 : Nat) ≠ M by omega)).trans (t k hk)

/-- The machine lies in block M; its stack and what it has put out are its own, in blocks from 'base' on. -/
structure MS (base M : Nat) (w : World) (vs vo : Value) (σ : St) : Prop where
  cell : ∀ j, j < 26 → w.cell? ⟨M, j, none⟩ = some (mval vs vo σ j)
  thaw : ∀ j, w.frozen? ⟨M, j, none⟩ = false
  own1 : w.ownsRow base 50 1 vs σ.stack.length (σ.stack.map (Value.int .u16))
  own2 : w.ownsRow base 5 1 vo σ.out.length (σ.out.map (Value.int .u8))
  apart : vs.ownBlock = none ∨ vs.ownBlock ≠ vo.ownBlock
  lt : M < base
  le : base ≤ w.heap.size

theorem own_set_below {w : World} {base : Nat} {e : TypeId} {size : Nat} {v : Value} {n : Nat} {xs : List Value} (h : w.ownsRow base e size v n xs) (M j : Nat) (ha : M < base) (u : Value) : (w.setCell ⟨M, j, none⟩ u).ownsRow base e size v n xs :=
  ownsRow_setCell_below h (a := ⟨M, j, none⟩) ha u

/-- A store into one of the machine's own cells. -/
theorem MS.set {base M : Nat} {w : World} {vs vo : Value} {σ : St} (h : MS base M w vs vo σ) (i : Nat) (hi : i < 26) (u : Value) (σ' : St)
    (hv : ∀ j, j < 26 → mval vs vo σ' j = if j = i then u else mval vs vo σ j) (h1 : σ'.stack = σ.stack) (h2 : σ'.out = σ.out) : MS base M (w.setCell ⟨M, i, none⟩ u) vs vo σ' where
  cell := by
    intro j hj
    rw [hv j hj]
    by_cases e : j = i
    · subst e; rw [if_pos rfl]; exact World.cell?_setCell_same _ _ _ (h.cell j hj)
    · rw [if_neg e, World.cell?_setCell_other _ _ _ _ (fun c => e (by injection c with _ c2 _; exact c2.symm))]; exact h.cell j hj
  thaw := fun j => by rw [World.frozen?_setCell]; exact h.thaw j
  own1 := by rw [h1]; exact own_set_below h.own1 M i h.lt u
  own2 := by rw [h2]; exact own_set_below h.own2 M i h.lt u
  apart := h.apart
  lt := h.lt
  le := by simpa using h.le

theorem MS.setNext {base M : Nat} {w : World} {vs vo : Value} {σ : St} (h : MS base M w vs vo σ) (n : Int) : MS base M (w.setCell ⟨M, 19, none⟩ (.int .i64 n)) vs vo { σ with next := n } :=
  h.set 19 (by omega) _ _ (fun j _ => by by_cases e : j = 19; (subst e; rfl); (rw [if_neg e]; unfold mval; simp only [if_neg e])) rfl rfl
theorem MS.setKind {base M : Nat} {w : World} {vs vo : Value} {σ : St} (h : MS base M w vs vo σ) (n : Int) : MS base M (w.setCell ⟨M, 20, none⟩ (.int .i64 n)) vs vo { σ with kind := n } :=
  h.set 20 (by omega) _ _ (fun j _ => by by_cases e : j = 20; (subst e; rfl); (rw [if_neg e]; unfold mval; simp only [if_neg e])) rfl rfl
theorem MS.setFault {base M : Nat} {w : World} {vs vo : Value} {σ : St} (h : MS base M w vs vo σ) (n : Int) : MS base M (w.setCell ⟨M, 21, none⟩ (.int .i64 n)) vs vo { σ with fault := n } :=
  h.set 21 (by omega) _ _ (fun j _ => by by_cases e : j = 21; (subst e; rfl); (rw [if_neg e]; unfold mval; simp only [if_neg e])) rfl rfl
theorem MS.setPlace {base M : Nat} {w : World} {vs vo : Value} {σ : St} (h : MS base M w vs vo σ) (n : Int) : MS base M (w.setCell ⟨M, 22, none⟩ (.int .i64 n)) vs vo { σ with place := n } :=
  h.set 22 (by omega) _ _ (fun j _ => by by_cases e : j = 22; (subst e; rfl); (rw [if_neg e]; unfold mval; simp only [if_neg e])) rfl rfl
theorem MS.setSteps {base M : Nat} {w : World} {vs vo : Value} {σ : St} (h : MS base M w vs vo σ) (n : Int) : MS base M (w.setCell ⟨M, 24, none⟩ (.int .i64 n)) vs vo { σ with steps := n } :=
  h.set 24 (by omega) _ _ (fun j _ => by by_cases e : j = 24; (subst e; rfl); (rw [if_neg e]; unfold mval; simp only [if_neg e])) rfl rfl
theorem MS.setEnded {base M : Nat} {w : World} {vs vo : Value} {σ : St} (h : MS base M w vs vo σ) (b : Bool) : MS base M (w.setCell ⟨M, 25, none⟩ (.bool b)) vs vo { σ with ended := b } :=
  h.set 25 (by omega) _ _ (fun j _ => by by_cases e : j = 25; (subst e; rfl); (rw [if_neg e]; unfold mval; simp only [if_neg e])) rfl rfl
theorem MS.setInput {base M : Nat} {w : World} {vs vo : Value} {σ : St} (h : MS base M w vs vo σ) (s : ByteArray) : MS base M (w.setCell ⟨M, 17, none⟩ (.string s)) vs vo { σ with input := s } :=
  h.set 17 (by omega) _ _ (fun j _ => by by_cases e : j = 17; (subst e; rfl); (rw [if_neg e]; unfold mval; simp only [if_neg e])) rfl rfl
theorem MS.setCells {base M : Nat} {w : World} {vs vo : Value} {σ : St} (h : MS base M w vs vo σ) (n : Nat) (hn : n < 16) (a : Int) : MS base M (w.setCell ⟨M, 1 + n, none⟩ (.int .u16 a)) vs vo { σ with cells := fun i => if i = n then a else σ.cells i } :=
  h.set (1 + n) (by omega) _ _ (fun j hj => by
    unfold mval
    by_cases e : j = 1 + n
    · subst e; rw [if_pos rfl, if_neg (by omega), if_pos (by omega)]; show Value.int _ (if 1 + n - 1 = n then a else _) = _; rw [if_pos (by omega)]
    · rw [if_neg e]
      by_cases e0 : j = 0
      · rw [if_pos e0, if_pos e0]
      · rw [if_neg e0, if_neg e0]
        by_cases e1 : j < 17
        · rw [if_pos e1, if_pos e1]; show Value.int _ (if j - 1 = n then a else _) = _; rw [if_neg (by omega)]
        · rw [if_neg e1, if_neg e1]) rfl rfl

/-- What leaves the machine's blocks alone leaves the machine alone. -/
theorem MS.kept {base M : Nat} {w w' : World} {vs vo : Value} {σ : St} (h : MS base M w vs vo σ) (hs : w.heap.size ≤ w'.heap.size) (hb : ∀ k, k < w.heap.size → w'.heap[k]? = w.heap[k]?) : MS base M w' vs vo σ where
  cell := fun j hj => (World.cell?_of_block (w := w) (a := ⟨M, j, none⟩) (hb M (Nat.lt_of_lt_of_le h.lt h.le))).trans (h.cell j hj)
  thaw := fun j => (World.frozen?_of_block (w := w) (a := ⟨M, j, none⟩) (hb M (Nat.lt_of_lt_of_le h.lt h.le))).trans (h.thaw j)
  own1 := by
    refine ⟨h.own1.1, ?_⟩
    rcases h.own1.2 with hn | ⟨g, cap, cur, hv, hg, hh, r⟩
    · exact .inl hn
    · exact .inr ⟨g, cap, cur, hv, hg, (hb g (Array.getElem?_eq_some_iff.1 hh).1).trans hh, r⟩
  own2 := by
    refine ⟨h.own2.1, ?_⟩
    rcases h.own2.2 with hn | ⟨g, cap, cur, hv, hg, hh, r⟩
    · exact .inl hn
    · exact .inr ⟨g, cap, cur, hv, hg, (hb g (Array.getElem?_eq_some_iff.1 hh).1).trans hh, r⟩
  apart := h.apart
  lt := h.lt
  le := Nat.le_trans h.le hs
theorem MS.alloc {base M : Nat} {w : World} {vs vo : Value} {σ : St} (h : MS base M w vs vo σ) (o : Obj) : MS base M (w.alloc o) vs vo σ :=
  h.kept (by simp) (fun k hk => Below.heap_alloc w o k hk)
theorem MS.drew {base M : Nat} {w : World} {vs vo : Value} {σ : St} (h : MS base M w vs vo σ) : MS base M w.drew vs vo σ := h.kept (Nat.le_refl _) (fun _ _ => rfl)

theorem mv_stack (vs vo : Value) (σ : St) : mval vs vo σ 0 = vs := rfl
theorem mv_input (vs vo : Value) (σ : St) : mval vs vo σ 17 = .string σ.input := rfl
theorem mv_out (vs vo : Value) (σ : St) : mval vs vo σ 18 = vo := rfl
theorem mv_next (vs vo : Value) (σ : St) : mval vs vo σ 19 = .int .i64 σ.next := rfl
theorem mv_kind (vs vo : Value) (σ : St) : mval vs vo σ 20 = .int .i64 σ.kind := rfl
theorem mv_steps (vs vo : Value) (σ : St) : mval vs vo σ 24 = .int .i64 σ.steps := rfl
theorem mv_ended (vs vo : Value) (σ : St) : mval vs vo σ 25 = .bool σ.ended := rfl

def fin (σ : St) (kind fault : Int) : St := { σ with kind := kind, fault := fault, ended := true }

theorem end_any (base M : Nat) (w : World) (vs vo : Value) (σ : St) (kind fault : Int) (h : MS base M w vs vo σ) :
    Calls Tryd.prog 36 #[.pointer (some ⟨M, 0, none⟩), .int .i64 kind, .int .i64 fault] w fun e w' => e = .returned (.tuple #[]) ∧ MS base M w' vs vo (fin σ kind fault) ∧ Kept base M w w' := by
  have c20 := h.cell 20 (by omega)
  have c21 := h.cell 21 (by omega)
  have c25 := h.cell 25 (by omega)
  have f20 := h.thaw 20
  have f21 := h.thaw 21
  have f25 := h.thaw 25
  have R : MS base M (((w.setCell ⟨M, 20, none⟩ (.int .i64 kind)).setCell ⟨M, 21, none⟩ (.int .i64 fault)).setCell ⟨M, 25, none⟩ (.bool true)) vs vo (fin σ kind fault) := ((h.setKind kind).setFault fault).setEnded true
  have K : Kept base M w (((w.setCell ⟨M, 20, none⟩ (.int .i64 kind)).setCell ⟨M, 21, none⟩ (.int .i64 fault)).setCell ⟨M, 25, none⟩ (.bool true)) := ((Kept.set _ _ _ _ _).trans (Kept.set _ _ _ _ _)).trans (Kept.set _ _ _ _ _)
  clear h
  go_enter Tryd.func36, Tryd.ntmps36
  go_wp2
  go_end0
  exact ⟨rfl, R, K⟩
end Go.Proofs.YtebnlafjepfkdaaDoor
