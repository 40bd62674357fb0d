import Derived.Test.YtebnlafjepfkdaaDoorMach
namespace Go.Proofs.YtebnlafjepfkdaaDoor
open Go.RowKit

theorem Tryd.infoU16 : (Tryd.prog.info? 50).map (fun i => (i.zero, i.size, i.bytes)) = some (some (.int .u16 0), 1, 2) := by kernel_rfl
theorem Tryd.infoU8 : (Tryd.prog.info? 5).map (fun i => (i.zero, i.size, i.bytes)) = some (some (.int .u8 0), 1, 1) := by kernel_rfl

theorem own_ne {w : World} {base : Nat} {e : TypeId} {size : Nat} {v : Value} {n : Nat} {xs : List Value} (h : w.ownsRow base e size v n xs) {k : Nat} (hk : k < base) : some k ≠ v.ownBlock :=
  fun c => by have := (h.lt k c.symm).1; omega

theorem own_form {w : World} {base : Nat} {e : TypeId} {size : Nat} {v : Value} {n : Nat} {xs : List Value} (h : w.ownsRow base e size v n xs) (hn : 0 < n) : ∃ g cap, v = .slice (some ⟨g, 0, none⟩) n cap := by
  rcases h.2 with ⟨_, h0⟩ | ⟨g, cap, cur, hv, _⟩
  · omega
  · exact ⟨g, cap, hv⟩

theorem kept_grown {base M : Nat} {w w1 : World} {v : Value} {e : TypeId} {size n : Nat} {xs : List Value} (h : w.ownsRow base e size v n xs) (hle : base ≤ w.heap.size) (hg : w.grownBy w1 v.ownBlock) : Kept base M w w1 :=
  ⟨hg.os, hg.tape, hg.output, hg.size, fun k hk _ => hg.block k (by omega) (own_ne h hk)⟩

theorem own_kept {w w1 : World} {base : Nat} {e : TypeId} {size : Nat} {v u : Value} {n : Nat} {xs : List Value} (h : w.ownsRow base e size v n xs) (hg : w.grownBy w1 u.ownBlock) (ha : u.ownBlock = none ∨ u.ownBlock ≠ v.ownBlock) : w1.ownsRow base e size v n xs := by
  refine h.kept hg ?_
  rcases ha with ha | ha
  · rw [ha]; cases v.ownBlock <;> simp
  · exact .inr (fun c => ha c.symm)

/-- The stack has grown, and its new head is stored. -/
theorem MS.pushed {base M : Nat} {w w1 : World} {vs vo v' : Value} {σ : St} (h : MS base M w vs vo σ) (ns : List Int) (hg : w.grownBy w1 vs.ownBlock)
    (ho : w1.ownsRow base 50 1 v' (σ.stack.length + ns.length) (σ.stack.map (Value.int .u16) ++ ns.map (Value.int .u16))) (hat : v'.ownBlock = vs.ownBlock ∨ v'.ownBlock = some w.heap.size) :
    MS base M (w1.setCell ⟨M, 0, none⟩ v') v' vo { σ with stack := σ.stack ++ ns } where
  cell := by
    intro j hj
    have hc : ∀ j, j < 26 → w1.cell? ⟨M, j, none⟩ = some (mval vs vo σ j) := fun j hj => hg.cell (a := ⟨M, j, none⟩) (h.cell j hj) (own_ne h.own1 h.lt)
    by_cases e : j = 0
    · subst e; exact World.cell?_setCell_same _ _ _ (hc 0 hj)
    · rw [World.cell?_setCell_other _ _ _ _ (fun c => e (by injection c with _ c2 _; exact c2.symm)), hc j hj]
      unfold mval; simp only [if_neg e]
  thaw := fun j => by rw [World.frozen?_setCell, World.frozen?_of_block (w := w) (a := ⟨M, j, none⟩) (hg.block M (Nat.lt_of_lt_of_le h.lt h.le) (own_ne h.own1 h.lt))]; exact h.thaw j
  own1 := by
    have := own_set_below ho M 0 h.lt v'
    simpa using this
  own2 := own_set_below (own_kept h.own2 hg h.apart) M 0 h.lt v'
  apart := by
    rcases hat with e | e
    · rw [e]; exact h.apart
    · right; rw [e]; intro c; have := (h.own2.lt _ c.symm).2; omega
  lt := h.lt
  le := by have := hg.size; have := h.le; simp; omega

theorem lay_any (base M : Nat) (w : World) (vs vo : Value) (σ : St) (a : Addr) (m c : Nat) (ns : List Int) (h : MS base M w vs vo σ) (hm : 0 < m) (hl : ns.length = m)
    (hc : ∀ j u, (ns.map (Value.int .u16))[j]? = some u → w.cell? (a.add j) = some u) (hb : σ.stack.length + m ≤ 32) :
    Calls Tryd.prog 44 #[.pointer (some ⟨M, 0, none⟩), .slice (some a) m c] w fun e w' => e = .returned (.tuple #[]) ∧ (∃ vs', MS base M w' vs' vo { σ with stack := σ.stack ++ ns }) ∧ Kept base M w w' := by
  obtain ⟨i, hi, hz0, hz1, hz2⟩ := info_parts Tryd.infoU16
  have c0 := h.cell 0 (by omega)
  rw [mv_stack] at c0
  have f0 := h.thaw 0
  go_enter Tryd.func44, Tryd.ntmps44
  go_wp2_with (at_builtin; refine wpList_append_own_at _ rfl (.tmp 8) (.tmp 9) 49 rfl base 50 i (.int .u16 0) 1 2 Tryd.underlying49 hi hz0 hz1 hz2 rfl (by decide) vs σ.stack.length _ rfl h.own1 a m c (ns.map (Value.int .u16)) rfl ?c0 hc ?c2 (by unfold maxLen; omega) (by omega) h.le ?_)
  case c0 => simpa using hl
  case c2 => intro u hu; simp at hu; obtain ⟨x, _, rfl⟩ := hu; rfl
  intro v' w1 hown' hgrow _ hat
  subst hl
  have R := h.pushed ns hgrow hown' hat
  have K := (kept_grown (M := M) h.own1 h.le hgrow).trans (Kept.set base M w1 0 v')
  obtain ⟨g', cap', hv'⟩ := own_form hown' (by omega)
  have hne : some M ≠ vs.ownBlock := own_ne h.own1 h.lt
  have hv1 : w1.cell? ⟨M, 0, none⟩ = some vs := hgrow.cell (a := ⟨M, 0, none⟩) c0 hne
  have hf1 : w1.frozen? ⟨M, 0, none⟩ = false := by
    rw [World.frozen?_of_block (w := w) (a := ⟨M, 0, none⟩) (hgrow.block M (Nat.lt_of_lt_of_le h.lt h.le) hne)]
    exact f0
  have HR := R
  rw [hv'] at R K ⊢
  clear hown' hgrow hat h hc
  go_wp2
  go_end0
  exact ⟨rfl, ⟨_, R⟩, K⟩
end Go.Proofs.YtebnlafjepfkdaaDoor
