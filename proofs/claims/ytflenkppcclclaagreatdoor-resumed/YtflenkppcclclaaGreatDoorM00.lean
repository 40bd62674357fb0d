import Derived.Test.YtflenkppcclclaaGreatDoorRows
import Derived.WalkKit
import Derived.WalkSpells
import Derived.WalkLawsBesides
import Derived.BigQuiet
import Derived.Deep.QuietTactic
import Derived.Outline
import Derived.Maps.AppendAt
namespace Go.Proofs.YtflenkppcclclaaGreatDoor
open Go.RowKit

/-- The table 'shapes', cell by cell. -/
def shapeCells : List Int := [1,0,0, 2,0,1, 1,0,1, 1,1,2, 1,1,0, 1,2,2, 1,2,1, 1,2,1, 1,2,1, 1,2,1, 1,2,1, 1,2,1, 1,2,1, 1,2,1, 2,0,0, 2,1,0, 2,0,1, 2,1,0, 1,1,0, 2,0,0, 2,0,0]
def shp (k : Nat) : Int := shapeCells.getD k 0
def Tab (w : World) : Prop := ∀ k : Nat, k < 63 → w.cell? ⟨0, k, none⟩ = some (.int .i64 (shp k))

theorem Tab.pos {w : World} (hT : Tab w) : 0 < w.heap.size := World.block_lt_of_cell? w ⟨0, 0, none⟩ (hT 0 (by omega))

theorem shapeOf_any (k : Nat) (hk : k ≤ 20) (w : World) (hT : Tab w) :
    Calls Tryz.prog 129 #[.int .u8 (k : Int)] w fun e w' => e = .returned (.agg #[.int .i64 (shp (k * 3)), .int .i64 (shp (k * 3 + 1)), .int .i64 (shp (k * 3 + 2))]) ∧ ∃ c, w' = w.alloc (.cells c 179) := by
  have h0 := hT (k * 3) (by omega)
  have h1 := hT (k * 3 + 1) (by omega)
  have h2 := hT (k * 3 + 2) (by omega)
  have hz := hT.pos
  clear hT
  go_enter Tryz.func129, Tryz.ntmps129
  go_wp2
  refine bodyPost_ret (v := .agg #[.int .i64 (shp (k * 3)), .int .i64 (shp (k * 3 + 1)), .int .i64 (shp (k * 3 + 2))]) (by simp [results, Tryz.results129, go_sem]) rfl ⟨rfl, _, rfl⟩
end Go.Proofs.YtflenkppcclclaaGreatDoor

namespace Go.Proofs.YtflenkppcclclaaGreatDoor
open Go.RowKit

/-- What a run has at one time. -/
structure St where
  stack : List Int
  cells : Nat → Int
  input : ByteArray
  out : List Int
  next : Int
  kind : Int
  fault : Int
  place : Int
  steps : Int
  ended : Bool

/-- The machine's block, cell by cell. -/
def mval (vs vo : Value) (σ : St) (j : Nat) : Value :=
  if j = 0 then vs else if j < 17 then .int .u16 (σ.cells (j - 1)) else if j = 17 then .string σ.input else if j = 18 then vo else if j = 19 then .int .i64 σ.next else if j = 20 then .int .i64 σ.kind else if j = 21 then .int .i64 σ.fault else if j = 22 then .int .i64 σ.place else if j = 23 then .string ByteArray.empty else if j = 24 then .int .i64 σ.steps else if j = 25 then .bool σ.ended else .bool false

/-- Below block number B, but for block M, the world is as it was. -/
structure Kept (B M : Nat) (w w' : World) : Prop where
  os : w'.os = w.os
  tape : w'.tape = w.tape
  output : w'.output = w.output
  size : w.heap.size ≤ w'.heap.size
  block : ∀ k, k < B → k ≠ M → w'.heap[k]? = w.heap[k]?

theorem Kept.refl (B M : Nat) (w : World) : Kept B M w w := ⟨rfl, rfl, rfl, Nat.le_refl _, fun _ _ _ => rfl⟩
theorem Kept.trans {B M : Nat} {a b c : World} (h : Kept B M a b) (k : Kept B M b c) : Kept B M a c :=
  ⟨k.os.trans h.os, k.tape.trans h.tape, k.output.trans h.output, Nat.le_trans h.size k.size, fun i hi hm => (k.block i hi hm).trans (h.block i hi hm)⟩
theorem Kept.of_below {B M : Nat} {w w' : World} (h : Below B w w') : Kept B M w w' := ⟨h.os, h.tape, h.output, h.size, fun k hk _ => h.block k hk⟩
theorem Kept.set (B M : Nat) (w : World) (j : Nat) (u : Value) : Kept B M w (w.setCell ⟨M, j, none⟩ u) :=
  ⟨rfl, rfl, rfl, by simp, fun k _ hk => heap_setCell_other w ⟨M, j, none⟩ k u hk⟩
theorem Kept.alloc {B M : Nat} (w : World) (hB : B ≤ w.heap.size) (o : Obj) : Kept B M w (w.alloc o) := Kept.of_below ((Below.refl B w).alloc hB o)
theorem Kept.cell {B M : Nat} {w w' : World} (h : Kept B M w w') {p : Addr} (hp : p.block < B) (hm : p.block ≠ M) : w'.cell? p = w.cell? p := World.cell?_of_block (w := w) (h.block p.block hp hm)
theorem Kept.frozen {B M : Nat} {w w' : World} (h : Kept B M w w') {p : Addr} (hp : p.block < B) (hm : p.block ≠ M) : w'.frozen? p = w.frozen? p := World.frozen?_of_block (w := w) (h.block p.block hp hm)
theorem Kept.tab {B M : Nat} {w w' : World} (h : Kept B M w w') (h0 : 0 < M) (hM : M < B) (t : Tab w) : Tab w' :=
  fun k hk => (h.cell (p := ⟨0, k, none⟩) (show (0 : Nat) < B by omega) (show (0 : Nat) ≠ M by omega)).trans (t k hk)

/-- The machine lies in block M; its stack and what it has put out are its own, in blocks from 'base' on. -/
structure MS (base M : Nat) (w : World) (vs vo : Value) (σ : St) : Prop where
  cell : ∀ j, j < 26 → w.cell? ⟨M, j, none⟩ = some (mval vs vo σ j)
  thaw : ∀ j, w.frozen? ⟨M, j, none⟩ = false
  own1 : w.ownsRow base 126 1 vs σ.stack.length (σ.stack.map (Value.int .u16))
  own2 : w.ownsRow base 5 1 vo σ.out.length (σ.out.map (Value.int .u8))
  apart : vs.ownBlock = none ∨ vs.ownBlock ≠ vo.ownBlock
  lt : M < base
  le : base ≤ w.heap.size

theorem own_set_below {w : World} {base : Nat} {e : TypeId} {size : Nat} {v : Value} {n : Nat} {xs : List Value} (h : w.ownsRow base e size v n xs) (M j : Nat) (ha : M < base) (u : Value) : (w.setCell ⟨M, j, none⟩ u).ownsRow base e size v n xs :=
  ownsRow_setCell_below h (a := ⟨M, j, none⟩) ha u

/-- A store into one of the machine's own cells. -/
theorem MS.set {base M : Nat} {w : World} {vs vo : Value} {σ : St} (h : MS base M w vs vo σ) (i : Nat) (hi : i < 26) (u : Value) (σ' : St)
    (hv : ∀ j, j < 26 → mval vs vo σ' j = if j = i then u else mval vs vo σ j) (h1 : σ'.stack = σ.stack) (h2 : σ'.out = σ.out) : MS base M (w.setCell ⟨M, i, none⟩ u) vs vo σ' where
  cell := by
    intro j hj
    rw [hv j hj]
    by_cases e : j = i
    · subst e; rw [if_pos rfl]; exact World.cell?_setCell_same _ _ _ (h.cell j hj)
    · rw [if_neg e, World.cell?_setCell_other _ _ _ _ (fun c => e (by injection c with _ c2 _; exact c2.symm))]; exact h.cell j hj
  thaw := fun j => by rw [World.frozen?_setCell]; exact h.thaw j
  own1 := by rw [h1]; exact own_set_below h.own1 M i h.lt u
  own2 := by rw [h2]; exact own_set_below h.own2 M i h.lt u
  apart := h.apart
  lt := h.lt
  le := by simpa using h.le

theorem MS.setNext {base M : Nat} {w : World} {vs vo : Value} {σ : St} (h : MS base M w vs vo σ) (n : Int) : MS base M (w.setCell ⟨M, 19, none⟩ (.int .i64 n)) vs vo { σ with next := n } :=
  h.set 19 (by omega) _ _ (fun j _ => by by_cases e : j = 19; (subst e; rfl); (rw [if_neg e]; unfold mval; simp only [if_neg e])) rfl rfl
theorem MS.setKind {base M : Nat} {w : World} {vs vo : Value} {σ : St} (h : MS base M w vs vo σ) (n : Int) : MS base M (w.setCell ⟨M, 20, none⟩ (.int .i64 n)) vs vo { σ with kind := n } :=
  h.set 20 (by omega) _ _ (fun j _ => by by_cases e : j = 20; (subst e; rfl); (rw [if_neg e]; unfold mval; simp only [if_neg e])) rfl rfl
theorem MS.setFault {base M : Nat} {w : World} {vs vo : Value} {σ : St} (h : MS base M w vs vo σ) (n : Int) : MS base M (w.setCell ⟨M, 21, none⟩ (.int .i64 n)) vs vo { σ with fault := n } :=
  h.set 21 (by omega) _ _ (fun j _ => by by_cases e : j = 21; (subst e; rfl); (rw [if_neg e]; unfold mval; simp only [if_neg e])) rfl rfl
theorem MS.setPlace {base M : Nat} {w : World} {vs vo : Value} {σ : St} (h : MS base M w vs vo σ) (n : Int) : MS base M (w.setCell ⟨M, 22, none⟩ (.int .i64 n)) vs vo { σ with place := n } :=
  h.set 22 (by omega) _ _ (fun j _ => by by_cases e : j = 22; (subst e; rfl); (rw [if_neg e]; unfold mval; simp only [if_neg e])) rfl rfl
theorem MS.setSteps {base M : Nat} {w : World} {vs vo : Value} {σ : St} (h : MS base M w vs vo σ) (n : Int) : MS base M (w.setCell ⟨M, 24, none⟩ (.int .i64 n)) vs vo { σ with steps := n } :=
  h.set 24 (by omega) _ _ (fun j _ => by by_cases e : j = 24; (subst e; rfl); (rw [if_neg e]; unfold mval; simp only [if_neg e])) rfl rfl
theorem MS.setEnded {base M : Nat} {w : World} {vs vo : Value} {σ : St} (h : MS base M w vs vo σ) (b : Bool) : MS base M (w.setCell ⟨M, 25, none⟩ (.bool b)) vs vo { σ with ended := b } :=
  h.set 25 (by omega) _ _ (fun j _ => by by_cases e : j = 25; (subst e; rfl); (rw [if_neg e]; unfold mval; simp only [if_neg e])) rfl rfl
theorem MS.setInput {base M : Nat} {w : World} {vs vo : Value} {σ : St} (h : MS base M w vs vo σ) (s : ByteArray) : MS base M (w.setCell ⟨M, 17, none⟩ (.string s)) vs vo { σ with input := s } :=
  h.set 17 (by omega) _ _ (fun j _ => by by_cases e : j = 17; (subst e; rfl); (rw [if_neg e]; unfold mval; simp only [if_neg e])) rfl rfl
theorem MS.setCells {base M : Nat} {w : World} {vs vo : Value} {σ : St} (h : MS base M w vs vo σ) (n : Nat) (hn : n < 16) (a : Int) : MS base M (w.setCell ⟨M, 1 + n, none⟩ (.int .u16 a)) vs vo { σ with cells := fun i => if i = n then a else σ.cells i } :=
  h.set (1 + n) (by omega) _ _ (fun j hj => by
    unfold mval
    by_cases e : j = 1 + n
    · subst e; rw [if_pos rfl, if_neg (by omega), if_pos (by omega)]; show Value.int _ (if 1 + n - 1 = n then a else _) = _; rw [if_pos (by omega)]
    · rw [if_neg e]
      by_cases e0 : j = 0
      · rw [if_pos e0, if_pos e0]
      · rw [if_neg e0, if_neg e0]
        by_cases e1 : j < 17
        · rw [if_pos e1, if_pos e1]; show Value.int _ (if j - 1 = n then a else _) = _; rw [if_neg (by omega)]
        · rw [if_neg e1, if_neg e1]) rfl rfl

/-- What leaves the machine's blocks alone leaves the machine alone. -/
theorem MS.kept {base M : Nat} {w w' : World} {vs vo : Value} {σ : St} (h : MS base M w vs vo σ) (hs : w.heap.size ≤ w'.heap.size) (hb : ∀ k, k < w.heap.size → w'.heap[k]? = w.heap[k]?) : MS base M w' vs vo σ where
  cell := fun j hj => (World.cell?_of_block (w := w) (a := ⟨M, j, none⟩) (hb M (Nat.lt_of_lt_of_le h.lt h.le))).trans (h.cell j hj)
  thaw := fun j => (World.frozen?_of_block (w := w) (a := ⟨M, j, none⟩) (hb M (Nat.lt_of_lt_of_le h.lt h.le))).trans (h.thaw j)
  own1 := by
    refine ⟨h.own1.1, ?_⟩
    rcases h.own1.2 with hn | ⟨g, cap, cur, hv, hg, hh, r⟩
    · exact .inl hn
    · exact .inr ⟨g, cap, cur, hv, hg, (hb g (Array.getElem?_eq_some_iff.1 hh).1).trans hh, r⟩
  own2 := by
    refine ⟨h.own2.1, ?_⟩
    rcases h.own2.2 with hn | ⟨g, cap, cur, hv, hg, hh, r⟩
    · exact .inl hn
    · exact .inr ⟨g, cap, cur, hv, hg, (hb g (Array.getElem?_eq_some_iff.1 hh).1).trans hh, r⟩
  apart := h.apart
  lt := h.lt
  le := Nat.le_trans h.le hs
theorem MS.alloc {base M : Nat} {w : World} {vs vo : Value} {σ : St} (h : MS base M w vs vo σ) (o : Obj) : MS base M (w.alloc o) vs vo σ :=
  h.kept (by simp) (fun k hk => Below.heap_alloc w o k hk)
theorem MS.drew {base M : Nat} {w : World} {vs vo : Value} {σ : St} (h : MS base M w vs vo σ) : MS base M w.drew vs vo σ := h.kept (Nat.le_refl _) (fun _ _ => rfl)

theorem mv_stack (vs vo : Value) (σ : St) : mval vs vo σ 0 = vs := rfl
theorem mv_input (vs vo : Value) (σ : St) : mval vs vo σ 17 = .string σ.input := rfl
theorem mv_out (vs vo : Value) (σ : St) : mval vs vo σ 18 = vo := rfl
theorem mv_next (vs vo : Value) (σ : St) : mval vs vo σ 19 = .int .i64 σ.next := rfl
theorem mv_kind (vs vo : Value) (σ : St) : mval vs vo σ 20 = .int .i64 σ.kind := rfl
theorem mv_steps (vs vo : Value) (σ : St) : mval vs vo σ 24 = .int .i64 σ.steps := rfl
theorem mv_ended (vs vo : Value) (σ : St) : mval vs vo σ 25 = .bool σ.ended := rfl

def fin (σ : St) (kind fault : Int) : St := { σ with kind := kind, fault := fault, ended := true }

theorem end_any (base M : Nat) (w : World) (vs vo : Value) (σ : St) (kind fault : Int) (h : MS base M w vs vo σ) :
    Calls Tryz.prog 130 #[.pointer (some ⟨M, 0, none⟩), .int .i64 kind, .int .i64 fault] w fun e w' => e = .returned (.tuple #[]) ∧ MS base M w' vs vo (fin σ kind fault) ∧ Kept base M w w' := by
  have c20 := h.cell 20 (by omega)
  have c21 := h.cell 21 (by omega)
  have c25 := h.cell 25 (by omega)
  have f20 := h.thaw 20
  have f21 := h.thaw 21
  have f25 := h.thaw 25
  have R : MS base M (((w.setCell ⟨M, 20, none⟩ (.int .i64 kind)).setCell ⟨M, 21, none⟩ (.int .i64 fault)).setCell ⟨M, 25, none⟩ (.bool true)) vs vo (fin σ kind fault) := ((h.setKind kind).setFault fault).setEnded true
  have K : Kept base M w (((w.setCell ⟨M, 20, none⟩ (.int .i64 kind)).setCell ⟨M, 21, none⟩ (.int .i64 fault)).setCell ⟨M, 25, none⟩ (.bool true)) := ((Kept.set _ _ _ _ _).trans (Kept.set _ _ _ _ _)).trans (Kept.set _ _ _ _ _)
  clear h
  go_enter Tryz.func130, Tryz.ntmps130
  go_wp2
  go_end0
  exact ⟨rfl, R, K⟩
end Go.Proofs.YtflenkppcclclaaGreatDoor

namespace Go.Proofs.YtflenkppcclclaaGreatDoor
open Go.RowKit

theorem Tryz.infoU16 : (Tryz.prog.info? 126).map (fun i => (i.zero, i.size, i.bytes)) = some (some (.int .u16 0), 1, 2) := by kernel_rfl
theorem Tryz.infoU8 : (Tryz.prog.info? 5).map (fun i => (i.zero, i.size, i.bytes)) = some (some (.int .u8 0), 1, 1) := by kernel_rfl

theorem own_ne {w : World} {base : Nat} {e : TypeId} {size : Nat} {v : Value} {n : Nat} {xs : List Value} (h : w.ownsRow base e size v n xs) {k : Nat} (hk : k < base) : some k ≠ v.ownBlock :=
  fun c => by have := (h.lt k c.symm).1; omega

theorem own_form {w : World} {base : Nat} {e : TypeId} {size : Nat} {v : Value} {n : Nat} {xs : List Value} (h : w.ownsRow base e size v n xs) (hn : 0 < n) : ∃ g cap, v = .slice (some ⟨g, 0, none⟩) n cap := by
  rcases h.2 with ⟨_, h0⟩ | ⟨g, cap, cur, hv, _⟩
  · omega
  · exact ⟨g, cap, hv⟩

theorem kept_grown {base M : Nat} {w w1 : World} {v : Value} {e : TypeId} {size n : Nat} {xs : List Value} (h : w.ownsRow base e size v n xs) (hle : base ≤ w.heap.size) (hg : w.grownBy w1 v.ownBlock) : Kept base M w w1 :=
  ⟨hg.os, hg.tape, hg.output, hg.size, fun k hk _ => hg.block k (by omega) (own_ne h hk)⟩

theorem own_kept {w w1 : World} {base : Nat} {e : TypeId} {size : Nat} {v u : Value} {n : Nat} {xs : List Value} (h : w.ownsRow base e size v n xs) (hg : w.grownBy w1 u.ownBlock) (ha : u.ownBlock = none ∨ u.ownBlock ≠ v.ownBlock) : w1.ownsRow base e size v n xs := by
  refine h.kept hg ?_
  rcases ha with ha | ha
  · rw [ha]; cases v.ownBlock <;> simp
  · exact .inr (fun c => ha c.symm)

/-- The stack has grown, and its new head is stored. -/
theorem MS.pushed {base M : Nat} {w w1 : World} {vs vo v' : Value} {σ : St} (h : MS base M w vs vo σ) (ns : List Int) (hg : w.grownBy w1 vs.ownBlock)
    (ho : w1.ownsRow base 126 1 v' (σ.stack.length + ns.length) (σ.stack.map (Value.int .u16) ++ ns.map (Value.int .u16))) (hat : v'.ownBlock = vs.ownBlock ∨ v'.ownBlock = some w.heap.size) :
    MS base M (w1.setCell ⟨M, 0, none⟩ v') v' vo { σ with stack := σ.stack ++ ns } where
  cell := by
    intro j hj
    have hc : ∀ j, j < 26 → w1.cell? ⟨M, j, none⟩ = some (mval vs vo σ j) := fun j hj => hg.cell (a := ⟨M, j, none⟩) (h.cell j hj) (own_ne h.own1 h.lt)
    by_cases e : j = 0
    · subst e; exact World.cell?_setCell_same _ _ _ (hc 0 hj)
    · rw [World.cell?_setCell_other _ _ _ _ (fun c => e (by injection c with _ c2 _; exact c2.symm)), hc j hj]
      unfold mval; simp only [if_neg e]
  thaw := fun j => by rw [World.frozen?_setCell, World.frozen?_of_block (w := w) (a := ⟨M, j, none⟩) (hg.block M (Nat.lt_of_lt_of_le h.lt h.le) (own_ne h.own1 h.lt))]; exact h.thaw j
  own1 := by
    have := own_set_below ho M 0 h.lt v'
    simpa using this
  own2 := own_set_below (own_kept h.own2 hg h.apart) M 0 h.lt v'
  apart := by
    rcases hat with e | e
    · rw [e]; exact h.apart
    · right; rw [e]; intro c; have := (h.own2.lt _ c.symm).2; omega
  lt := h.lt
  le := by have := hg.size; have := h.le; simp; omega

theorem lay_any (base M : Nat) (w : World) (vs vo : Value) (σ : St) (a : Addr) (m c : Nat) (ns : List Int) (h : MS base M w vs vo σ) (hm : 0 < m) (hl : ns.length = m)
    (hc : ∀ j u, (ns.map (Value.int .u16))[j]? = some u → w.cell? (a.add j) = some u) (hb : σ.stack.length + m ≤ 32) :
    Calls Tryz.prog 173 #[.pointer (some ⟨M, 0, none⟩), .slice (some a) m c] w fun e w' => e = .returned (.tuple #[]) ∧ (∃ vs', MS base M w' vs' vo { σ with stack := σ.stack ++ ns }) ∧ Kept base M w w' := by
  obtain ⟨i, hi, hz0, hz1, hz2⟩ := info_parts Tryz.infoU16
  have c0 := h.cell 0 (by omega)
  rw [mv_stack] at c0
  have f0 := h.thaw 0
  go_enter Tryz.func173, Tryz.ntmps173
  go_wp2_with (at_builtin; refine wpList_append_own_at _ rfl (.tmp 8) (.tmp 9) 125 rfl base 126 i (.int .u16 0) 1 2 Tryz.underlying125 hi hz0 hz1 hz2 rfl (by decide) vs σ.stack.length _ rfl h.own1 a m c (ns.map (Value.int .u16)) rfl ?c0 hc ?c2 (by unfold maxLen; omega) (by omega) h.le ?_)
  case c0 => simpa using hl
  case c2 => intro u hu; simp at hu; obtain ⟨x, _, rfl⟩ := hu; rfl
  intro v' w1 hown' hgrow _ hat
  subst hl
  have R := h.pushed ns hgrow hown' hat
  have K := (kept_grown (M := M) h.own1 h.le hgrow).trans (Kept.set base M w1 0 v')
  obtain ⟨g', cap', hv'⟩ := own_form hown' (by omega)
  have hne : some M ≠ vs.ownBlock := own_ne h.own1 h.lt
  have hv1 : w1.cell? ⟨M, 0, none⟩ = some vs := hgrow.cell (a := ⟨M, 0, none⟩) c0 hne
  have hf1 : w1.frozen? ⟨M, 0, none⟩ = false := by
    rw [World.frozen?_of_block (w := w) (a := ⟨M, 0, none⟩) (hgrow.block M (Nat.lt_of_lt_of_le h.lt h.le) hne)]
    exact f0
  have HR := R
  rw [hv'] at R K ⊢
  clear hown' hgrow hat h hc
  go_wp2
  go_end0
  exact ⟨rfl, ⟨_, R⟩, K⟩
end Go.Proofs.YtflenkppcclclaaGreatDoor

