import Derived.Test.YtebnlafjepfkdaaDoorLay
import Derived.Test.YtebnlafjepfkdaaDoorEnt
namespace Go.Proofs.YtebnlafjepfkdaaDoor
open Go.RowKit

/-- A writer lies in block W: what it has written, and from where; both rows are its own. -/
structure WR (base W : Nat) (w : World) (vc vf : Value) (cs fs : List Int) : Prop where
  c0 : w.cell? ⟨W, 0, none⟩ = some vc
  c1 : w.cell? ⟨W, 1, none⟩ = some vf
  thaw : ∀ j, w.frozen? ⟨W, j, none⟩ = false
  own1 : w.ownsRow base 5 1 vc cs.length (cs.map (Value.int .u8))
  own2 : w.ownsRow base 3 1 vf fs.length (fs.map (Value.int .i64))
  apart : vc.ownBlock = none ∨ vc.ownBlock ≠ vf.ownBlock
  lt : W < base
  le : base ≤ w.heap.size

theorem WR.alloc {base W : Nat} {w : World} {vc vf : Value} {cs fs : List Int} (h : WR base W w vc vf cs fs) (o : Obj) : WR base W (w.alloc o) vc vf cs fs where
  c0 := (World.cell?_alloc_past _ _ _ (Nat.lt_of_lt_of_le h.lt h.le)).trans h.c0
  c1 := (World.cell?_alloc_past _ _ _ (Nat.lt_of_lt_of_le h.lt h.le)).trans h.c1
  thaw := fun j => by rw [World.frozen?_of_block (w := w) (a := ⟨W, j, none⟩) (Below.heap_alloc w o W (Nat.lt_of_lt_of_le h.lt h.le))]; exact h.thaw j
  own1 := h.own1.alloc o
  own2 := h.own2.alloc o
  apart := h.apart
  lt := h.lt
  le := by have := h.le; simp; omega

theorem WR.pushC {base W : Nat} {w w1 : World} {vc vf v' : Value} {cs fs : List Int} (h : WR base W w vc vf cs fs) (ns : List Int) (hg : w.grownBy w1 vc.ownBlock)
    (ho : w1.ownsRow base 5 1 v' (cs.length + ns.length) (cs.map (Value.int .u8) ++ ns.map (Value.int .u8))) (hat : v'.ownBlock = vc.ownBlock ∨ v'.ownBlock = some w.heap.size) :
    WR base W (w1.setCell ⟨W, 0, none⟩ v') v' vf (cs ++ ns) fs where
  c0 := World.cell?_setCell_same _ _ _ (hg.cell (a := ⟨W, 0, none⟩) h.c0 (own_ne h.own1 h.lt))
  c1 := by
    rw [World.cell?_setCell_other _ _ _ _ (fun c => by injection c with _ c2 _; omega)]
    exact hg.cell (a := ⟨W, 1, none⟩) h.c1 (own_ne h.own1 h.lt)
  thaw := fun j => by rw [World.frozen?_setCell, World.frozen?_of_block (w := w) (a := ⟨W, j, none⟩) (hg.block W (Nat.lt_of_lt_of_le h.lt h.le) (own_ne h.own1 h.lt))]; exact h.thaw j
  own1 := by
    have := own_set_below ho W 0 h.lt v'
    simpa using this
  own2 := own_set_below (own_kept h.own2 hg h.apart) W 0 h.lt v'
  apart := by
    rcases hat with e | e
    · rw [e]; exact h.apart
    · right; rw [e]; intro c; have := (h.own2.lt _ c.symm).2; omega
  lt := h.lt
  le := by have := hg.size; have := h.le; simp; omega

theorem WR.pushF {base W : Nat} {w w1 : World} {vc vf v' : Value} {cs fs : List Int} (h : WR base W w vc vf cs fs) (ns : List Int) (hg : w.grownBy w1 vf.ownBlock)
    (ho : w1.ownsRow base 3 1 v' (fs.length + ns.length) (fs.map (Value.int .i64) ++ ns.map (Value.int .i64))) (hat : v'.ownBlock = vf.ownBlock ∨ v'.ownBlock = some w.heap.size) :
    WR base W (w1.setCell ⟨W, 1, none⟩ v') vc v' cs (fs ++ ns) where
  c0 := by
    rw [World.cell?_setCell_other _ _ _ _ (fun c => by injection c with _ c2 _; omega)]
    exact hg.cell (a := ⟨W, 0, none⟩) h.c0 (own_ne h.own2 h.lt)
  c1 := World.cell?_setCell_same _ _ _ (hg.cell (a := ⟨W, 1, none⟩) h.c1 (own_ne h.own2 h.lt))
  thaw := fun j => by rw [World.frozen?_setCell, World.frozen?_of_block (w := w) (a := ⟨W, j, none⟩) (hg.block W (Nat.lt_of_lt_of_le h.lt h.le) (own_ne h.own2 h.lt))]; exact h.thaw j
  own1 := by
    refine own_set_below (h.own1.kept hg ?_) W 1 h.lt v'
    rcases h.apart with ha | ha
    · exact .inl ha
    · exact .inr ha
  own2 := by
    have := own_set_below ho W 1 h.lt v'
    simpa using this
  apart := by
    rcases hat with e | e
    · rw [e]; exact h.apart
    · cases hv : vc.ownBlock with
      | none => exact .inl rfl
      | some k => right; rw [e]; intro c; have := (h.own1.lt k hv).2; injection c with c; omega
  lt := h.lt
  le := by have := hg.size; have := h.le; simp; omega

/-- What is to be written lies in memory, apart from the writer's own. -/
structure Given (w : World) (W : Nat) (vc vf : Value) (ab ao : Nat) (xs : List Int) : Prop where
  cell : ∀ (j : Nat) (x : Int), xs[j]? = some x → w.cell? ⟨ab, ao + j, none⟩ = some (.int .u8 x)
  lt : ab < w.heap.size
  n1 : some ab ≠ vc.ownBlock
  n2 : some ab ≠ vf.ownBlock
  n3 : ab ≠ W

/-- Two appends of one element each: what the loops of 'add' and 'bring' do in a round. -/
theorem own_len {w : World} {base : Nat} {e : TypeId} {size : Nat} {v : Value} {n : Nat} {xs : List Value} (h : w.ownsRow base e size v n xs) : ∃ ao cap, v = .slice ao n cap := by
  rcases h.2 with ⟨e, h0⟩ | ⟨g, cap, cur, hv, _⟩
  · exact ⟨none, 0, by rw [h0]; exact e⟩
  · exact ⟨_, _, hv⟩
theorem Given.alloc {w : World} {W : Nat} {vc vf : Value} {ab ao : Nat} {xs : List Int} (h : Given w W vc vf ab ao xs) (o : Obj) : Given (w.alloc o) W vc vf ab ao xs :=
  ⟨fun j x hx => (World.cell?_alloc_past _ _ _ h.lt).trans (h.cell j x hx), by have := h.lt; simp; omega, h.n1, h.n2, h.n3⟩
theorem Given.pushC {w w1 : World} {W : Nat} {vc vf v' : Value} {ab ao : Nat} {xs : List Int} (h : Given w W vc vf ab ao xs) (hg : w.grownBy w1 vc.ownBlock) (hat : v'.ownBlock = vc.ownBlock ∨ v'.ownBlock = some w.heap.size) (i : Nat) (u : Value) : Given (w1.setCell ⟨W, i, none⟩ u) W v' vf ab ao xs where
  cell := fun j x hx => by
    rw [World.cell?_setCell_other _ _ _ _ (fun c => h.n3 (by injection c with c1 _ _; exact c1.symm))]
    exact hg.cell (a := ⟨ab, ao + j, none⟩) (h.cell j x hx) (by exact h.n1)
  lt := by have := h.lt; have := hg.size; simp; omega
  n1 := by
    rcases hat with e | e
    · rw [e]; exact h.n1
    · rw [e]; intro c; injection c with c; have := h.lt; omega
  n2 := h.n2
  n3 := h.n3
theorem Given.pushF {w w1 : World} {W : Nat} {vc vf v' : Value} {ab ao : Nat} {xs : List Int} (h : Given w W vc vf ab ao xs) (hg : w.grownBy w1 vf.ownBlock) (hat : v'.ownBlock = vf.ownBlock ∨ v'.ownBlock = some w.heap.size) (i : Nat) (u : Value) : Given (w1.setCell ⟨W, i, none⟩ u) W vc v' ab ao xs where
  cell := fun j x hx => by
    rw [World.cell?_setCell_other _ _ _ _ (fun c => h.n3 (by injection c with c1 _ _; exact c1.symm))]
    exact hg.cell (a := ⟨ab, ao + j, none⟩) (h.cell j x hx) (by exact h.n2)
  lt := by have := h.lt; have := hg.size; simp; omega
  n1 := h.n1
  n2 := by
    rcases hat with e | e
    · rw [e]; exact h.n2
    · rw [e]; intro c; injection c with c; have := h.lt; omega
  n3 := h.n3
end Go.Proofs.YtebnlafjepfkdaaDoor
