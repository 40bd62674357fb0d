import Derived.Test.YtflenkppcclclaaGreatDoorM00
import Derived.Laws.CopyOwn
import Derived.Deep.RegionLaw
import Derived.Lib.Strings
namespace Go.Proofs.YtflenkppcclclaaGreatDoor
open Go.RowKit

theorem Tryz.sizeU16 : (Tryz.prog.info? 126).map (·.size) = some 1 := by kernel_rfl

/-- The stack is cut, and its new head is stored, in a world in which all that was there is as it was. -/
theorem MS.popped {base M : Nat} {w w2 : World} {vo : Value} {σ : St} {g n cap : Nat} (h : MS base M w (.slice (some ⟨g, 0, none⟩) n cap) vo σ) (hn : σ.stack.length = n) (hb : Below w.heap.size w w2) (q : Nat) (hq : q ≤ n) :
    MS base M (w2.setCell ⟨M, 0, none⟩ (.slice (some ⟨g, 0, none⟩) q cap)) (.slice (some ⟨g, 0, none⟩) q cap) vo { σ with stack := σ.stack.take q } := by
  have h2 := h.kept hb.size hb.block
  subst hn
  exact {
    cell := by
      intro j hj
      by_cases e : j = 0
      · subst e; exact World.cell?_setCell_same _ _ _ (h2.cell 0 hj)
      · rw [World.cell?_setCell_other _ _ _ _ (fun c => e (by injection c with _ c2 _; exact c2.symm)), h2.cell j hj]
        unfold mval; simp only [if_neg e]
    thaw := fun j => by rw [World.frozen?_setCell]; exact h2.thaw j
    own1 := by
      refine own_set_below ?_ M 0 h.lt _
      refine ⟨by simp, ?_⟩
      rcases h2.own1.2 with ⟨h0, _⟩ | ⟨g', cap', cur, hv, hg, hh, hn, hcap, hsz, htake⟩
      · cases h0
      · cases hv
        have e : (σ.stack.take q).length = q := by simp; omega
        refine .inr ⟨g, cap, cur, by simp only [e], hg, hh, by simp only [e]; omega, hcap, hsz, ?_⟩
        simp only [e, Nat.mul_one] at htake ⊢
        rw [List.map_take, ← htake, List.take_take, Nat.min_eq_left hq]
    own2 := own_set_below h2.own2 M 0 h.lt _
    apart := h.apart
    lt := h.lt
    le := by have := h2.le; simp; omega }

theorem kept_popped {base M : Nat} {w w2 : World} (hle : base ≤ w.heap.size) (hb : Below w.heap.size w w2) (v : Value) : Kept base M w (w2.setCell ⟨M, 0, none⟩ v) :=
  (Kept.of_below (hb.mono hle)).trans (Kept.set _ _ _ _ _)

theorem own_caps {w : World} {base : Nat} {e : TypeId} {g n cap : Nat} {xs : List Value} (h : w.ownsRow base e 1 (.slice (some ⟨g, 0, none⟩) n cap) n xs) : n ≤ cap ∧ cap ≤ 9223372036854775807 := by
  rcases h.2 with ⟨h0, _⟩ | ⟨g', cap', cur, hv, hg, hh, hn, hcap, _⟩
  · cases h0
  · cases hv; unfold maxLen at hcap; exact ⟨hn, by omega⟩

theorem Kept.drewN {B M : Nat} {w w' : World} (h : Kept B M w w') (n : Nat) : Kept B M w (w'.drewN n) := ⟨h.os, h.tape, h.output, h.size, h.block⟩

theorem src_cells {w : World} {base : Nat} {e : TypeId} {g n cap : Nat} {l : List Int} (ho : w.ownsRow base e 1 (.slice (some ⟨g, 0, none⟩) n cap) n (l.map (Value.int .u16))) (hn : l.length = n) (o : Obj) (q : Nat) (xs : List Int) (hxs : ∀ j x, xs[j]? = some x → l[q + j]? = some x) :
    ∀ j v, (xs.map (Value.int .u16))[j]? = some v → (w.alloc o).drew.cell? ((⟨g, q, none⟩ : Addr).add j) = some v := by
  intro j v hj
  rw [List.getElem?_map, Option.map_eq_some_iff] at hj
  obtain ⟨x, hx, rfl⟩ := hj
  have h1 := hxs j x hx
  have hlt : q + j < n := by rw [← hn]; exact (List.getElem?_eq_some_iff.1 h1).1
  have hg : g < w.heap.size := (ho.lt g rfl).2
  have := ho.cellAt (q + j) (by omega)
  have hadd : (⟨g, q, none⟩ : Addr).add j = ⟨g, q + j, none⟩ := by unfold Addr.add; split <;> simp_all
  rw [World.cell?_drew, hadd, World.cell?_alloc_past _ _ _ hg, this, List.getElem?_map, h1]
  rfl

set_option maxHeartbeats 400000 in
theorem take_one (base M : Nat) (w : World) (vs vo : Value) (σ : St) (q : Nat) (hq : σ.stack.length = q + 1) (hm : q < 32) (h : MS base M w vs vo σ) :
    Calls Tryz.prog 171 #[.pointer (some ⟨M, 0, none⟩), .int .i64 1] w fun e w' => e = .returned (.tuple #[.int .u16 (σ.stack.getD q 0), .int .u16 0]) ∧ (∃ vs', MS base M w' vs' vo { σ with stack := σ.stack.take q }) ∧ Kept base M w w' := by
  have c0 := h.cell 0 (by omega)
  rw [mv_stack] at c0
  have f0 := h.thaw 0
  obtain ⟨g, cap, hv⟩ := own_form h.own1 (by omega)
  rw [hq] at hv
  subst hv
  have hM : M < w.heap.size := Nat.lt_of_lt_of_le h.lt h.le
  have ho := h.own1
  rw [hq] at ho
  obtain ⟨hcap, hm2⟩ := own_caps ho
  have hi1 : (q : Int) ≤ (q : Int) + 1 := by omega
  have hcq : ¬ cap = q := by omega
  obtain ⟨x, hx⟩ : ∃ x, x = σ.stack.getD q 0 := ⟨_, rfl⟩
  have hsrc : Hid (∀ j v, [Value.int .u16 x][j]? = some v → (w.alloc (.cells #[.int .u16 0, .int .u16 0] 263)).drew.cell? ((⟨g, q, none⟩ : Addr).add j) = some v) := by
    refine src_cells ho hq _ q [x] ?_
    intro j z hj
    match j, hj with
    | 0, hj => simp at hj; subst hj; rw [hx, Nat.add_zero]; simp [hq]

  have H := h
  have HQ : Hid (σ.stack.length = q + 1) := hq
  rw [← hx]
  clear hx h ho hq
  go_enter Tryz.func171, Tryz.ntmps171
  go_wp2
  go_region_law (refine step_copy_splice (by rfl) (.tmp 15) (.tmp 21) 125 125 (by rfl) 126 Tryz.underlying125 Tryz.sizeU16 _ _ 2 2 1 (cap - q) (by rfl) (by rfl) w.heap.size 0 [.int .u16 0, .int .u16 0] 263 (by exact heap_alloc_new w _) [Value.int .u16 x] (by rfl) (fun _ => ⟨by rfl, ⟨g, q, none⟩, by rfl, hsrc.out⟩) (by simp) (by intro v hv; simp at hv; subst hv; rfl) w.heap.size w (by exact ((Below.refl _ _).alloc (Nat.le_refl _) _).drew) (Nat.le_refl _) ?_; intro w2 HG2 hB2)
  have e2 := cell_of_row w2 w.heap.size 0 _ _ _ HG2.out
  have e3 := cell_of_row w2 w.heap.size 1 _ _ _ HG2.out
  simp [splice] at e2 e3
  have hc2 : w2.cell? ⟨M, 0, none⟩ = some (Value.slice (some ⟨g, 0, none⟩) (q + 1) cap) := (hB2.cell (p := ⟨M, 0, none⟩) hM).trans c0
  have hf2 : w2.frozen? ⟨M, 0, none⟩ = false := (hB2.frozen (p := ⟨M, 0, none⟩) hM).trans f0
  have R := H.popped HQ.out hB2 q (by omega)
  have K := kept_popped (M := M) H.le hB2 (.slice (some ⟨g, 0, none⟩) q cap)
  have hne : w.heap.size ≠ M := by omega
  clear HG2 hB2 hsrc H
  go_wp2
  go_quiet (fail)
  go_wp2
  go_ret2
  exact ⟨rfl, ⟨_, R.kept (Nat.le_refl _) (fun _ _ => rfl)⟩, K.drewN _⟩

set_option maxHeartbeats 400000 in
theorem take_two (base M : Nat) (w : World) (vs vo : Value) (σ : St) (q : Nat) (hq : σ.stack.length = q + 2) (hm : q < 32) (h : MS base M w vs vo σ) :
    Calls Tryz.prog 171 #[.pointer (some ⟨M, 0, none⟩), .int .i64 2] w fun e w' => e = .returned (.tuple #[.int .u16 (σ.stack.getD q 0), .int .u16 (σ.stack.getD (q + 1) 0)]) ∧ (∃ vs', MS base M w' vs' vo { σ with stack := σ.stack.take q }) ∧ Kept base M w w' := by
  have c0 := h.cell 0 (by omega)
  rw [mv_stack] at c0
  have f0 := h.thaw 0
  obtain ⟨g, cap, hv⟩ := own_form h.own1 (by omega)
  rw [hq] at hv
  subst hv
  have hM : M < w.heap.size := Nat.lt_of_lt_of_le h.lt h.le
  have ho := h.own1
  rw [hq] at ho
  obtain ⟨hcap, hm2⟩ := own_caps ho
  have hi1 : (q : Int) ≤ (q : Int) + 2 := by omega
  have hcq : ¬ cap = q := by omega
  obtain ⟨x, hx⟩ : ∃ x, x = σ.stack.getD q 0 := ⟨_, rfl⟩
  obtain ⟨y, hy⟩ : ∃ y, y = σ.stack.getD (q + 1) 0 := ⟨_, rfl⟩
  have hsrc : Hid (∀ j v, [Value.int .u16 x, Value.int .u16 y][j]? = some v → (w.alloc (.cells #[.int .u16 0, .int .u16 0] 263)).drew.cell? ((⟨g, q, none⟩ : Addr).add j) = some v) := by
    refine src_cells ho hq _ q [x, y] ?_
    intro j z hj
    match j, hj with
    | 0, hj => simp at hj; subst hj; rw [hx, Nat.add_zero]; simp [hq]
    | 1, hj => simp at hj; subst hj; rw [hy]; simp [hq]
  have H := h
  have HQ : Hid (σ.stack.length = q + 2) := hq
  rw [← hx, ← hy]
  clear hx hy h ho hq
  go_enter Tryz.func171, Tryz.ntmps171
  go_wp2
  go_region_law (refine step_copy_splice (by rfl) (.tmp 15) (.tmp 21) 125 125 (by rfl) 126 Tryz.underlying125 Tryz.sizeU16 _ _ 2 2 2 (cap - q) (by rfl) (by rfl) w.heap.size 0 [.int .u16 0, .int .u16 0] 263 (by exact heap_alloc_new w _) [Value.int .u16 x, Value.int .u16 y] (by rfl) (fun _ => ⟨by rfl, ⟨g, q, none⟩, by rfl, hsrc.out⟩) (by simp) (by intro v hv; simp at hv; rcases hv with hv | hv <;> subst hv <;> rfl) w.heap.size w (by exact ((Below.refl _ _).alloc (Nat.le_refl _) _).drew) (Nat.le_refl _) ?_; intro w2 HG2 hB2)
  have e2 := cell_of_row w2 w.heap.size 0 _ _ _ HG2.out
  have e3 := cell_of_row w2 w.heap.size 1 _ _ _ HG2.out
  simp [splice] at e2 e3
  have hc2 : w2.cell? ⟨M, 0, none⟩ = some (Value.slice (some ⟨g, 0, none⟩) (q + 2) cap) := (hB2.cell (p := ⟨M, 0, none⟩) hM).trans c0
  have hf2 : w2.frozen? ⟨M, 0, none⟩ = false := (hB2.frozen (p := ⟨M, 0, none⟩) hM).trans f0
  have R := H.popped HQ.out hB2 q (by omega)
  have K := kept_popped (M := M) H.le hB2 (.slice (some ⟨g, 0, none⟩) q cap)
  have hne : w.heap.size ≠ M := by omega
  clear HG2 hB2 hsrc H
  go_wp2
  go_quiet (fail)
  go_wp2
  go_ret2
  exact ⟨rfl, ⟨_, R.kept (Nat.le_refl _) (fun _ _ => rfl)⟩, K.drewN _⟩


theorem MS.same {base M : Nat} {w w2 : World} {vs vo : Value} {σ : St} (h : MS base M w vs vo σ) (hb : Below w.heap.size w w2) : MS base M (w2.setCell ⟨M, 0, none⟩ vs) vs vo σ :=
  (h.kept hb.size hb.block).set 0 (by omega) vs σ (fun j _ => by by_cases e : j = 0; (subst e; rfl); (rw [if_neg e])) rfl rfl

set_option maxHeartbeats 400000 in
theorem take_zero (base M : Nat) (w : World) (vs vo : Value) (σ : St) (hm : σ.stack.length ≤ 32) (h : MS base M w vs vo σ) :
    Calls Tryz.prog 171 #[.pointer (some ⟨M, 0, none⟩), .int .i64 0] w fun e w' => e = .returned (.tuple #[.int .u16 0, .int .u16 0]) ∧ (∃ vs', MS base M w' vs' vo σ) ∧ Kept base M w w' := by
  have c0 := h.cell 0 (by omega)
  rw [mv_stack] at c0
  have f0 := h.thaw 0
  have hM : M < w.heap.size := Nat.lt_of_lt_of_le h.lt h.le
  have hne : w.heap.size ≠ M := by omega
  have hv : ∃ ao n cap, vs = .slice ao n cap ∧ n = σ.stack.length ∧ n ≤ cap ∧ cap ≤ 9223372036854775807 ∧ (ao = none → n = 0 ∧ cap = 0) := by
    rcases h.own1.2 with ⟨e, h0⟩ | ⟨g, cap, cur, hv, _, _, hn, hcap, _⟩
    · exact ⟨none, 0, 0, e, h0.symm, Nat.le_refl _, by omega, fun _ => ⟨rfl, rfl⟩⟩
    · unfold maxLen at hcap; exact ⟨_, _, cap, hv, rfl, hn, by omega, fun c => by cases c⟩
  obtain ⟨ao, n, cap, rfl, hn, hcap, hm2, hnil⟩ := hv
  have H := h
  have hn32 : n ≤ 32 := by omega
  clear h hn
  have hi1 : (n : Int) ≤ (n : Int) := by omega
  cases ao with
  | none =>
    obtain ⟨rfl, rfl⟩ := hnil rfl
    go_enter Tryz.func171, Tryz.ntmps171
    go_wp2
    go_region_law (refine step_copy_splice (by rfl) (.tmp 15) (.tmp 21) 125 125 (by rfl) 126 Tryz.underlying125 Tryz.sizeU16 _ _ 2 2 0 _ (by rfl) (by rfl) w.heap.size 0 [.int .u16 0, .int .u16 0] 263 (by exact heap_alloc_new w _) [] (by rfl) (fun c => absurd c (by simp)) (by simp) (by intro v hv; simp at hv) w.heap.size w (by exact ((Below.refl _ _).alloc (Nat.le_refl _) _).drew) (Nat.le_refl _) ?_; intro w2 HG2 hB2)
    have e2 := cell_of_row w2 w.heap.size 0 _ _ _ HG2.out
    have e3 := cell_of_row w2 w.heap.size 1 _ _ _ HG2.out
    simp [splice] at e2 e3
    have hc2 : w2.cell? ⟨M, 0, none⟩ = some (Value.slice none 0 0) := (hB2.cell (p := ⟨M, 0, none⟩) hM).trans c0
    have hf2 : w2.frozen? ⟨M, 0, none⟩ = false := (hB2.frozen (p := ⟨M, 0, none⟩) hM).trans f0
    have R := H.same hB2
    have K := kept_popped (M := M) H.le hB2 (.slice none 0 0)
    clear HG2 hB2 H
    go_wp2
    go_quiet (fail)
    go_wp2
    go_ret2
    exact ⟨rfl, ⟨_, R.kept (Nat.le_refl _) (fun _ _ => rfl)⟩, K.drewN _⟩
  | some ad =>
    clear hnil
    by_cases hcn : cap = n
    · subst hcn
      go_enter Tryz.func171, Tryz.ntmps171
      go_wp2
      go_region_law (refine step_copy_splice (by rfl) (.tmp 15) (.tmp 21) 125 125 (by rfl) 126 Tryz.underlying125 Tryz.sizeU16 _ _ 2 2 0 _ (by rfl) (by rfl) w.heap.size 0 [.int .u16 0, .int .u16 0] 263 (by exact heap_alloc_new w _) [] (by rfl) (fun c => absurd c (by simp)) (by simp) (by intro v hv; simp at hv) w.heap.size w (by exact ((Below.refl _ _).alloc (Nat.le_refl _) _).drew) (Nat.le_refl _) ?_; intro w2 HG2 hB2)
      have e2 := cell_of_row w2 w.heap.size 0 _ _ _ HG2.out
      have e3 := cell_of_row w2 w.heap.size 1 _ _ _ HG2.out
      simp [splice] at e2 e3
      have hc2 : w2.cell? ⟨M, 0, none⟩ = some (Value.slice (some ad) cap cap) := (hB2.cell (p := ⟨M, 0, none⟩) hM).trans c0
      have hf2 : w2.frozen? ⟨M, 0, none⟩ = false := (hB2.frozen (p := ⟨M, 0, none⟩) hM).trans f0
      have R := H.same hB2
      have K := kept_popped (M := M) H.le hB2 (.slice (some ad) cap cap)
      clear HG2 hB2 H
      go_wp2
      go_quiet (fail)
      go_wp2
      go_ret2
      exact ⟨rfl, ⟨_, R.kept (Nat.le_refl _) (fun _ _ => rfl)⟩, K.drewN _⟩
    · have hcn' : ¬ n = cap := fun c => hcn c.symm
      go_enter Tryz.func171, Tryz.ntmps171
      go_wp2
      go_region_law (refine step_copy_splice (by rfl) (.tmp 15) (.tmp 21) 125 125 (by rfl) 126 Tryz.underlying125 Tryz.sizeU16 _ _ 2 2 0 _ (by rfl) (by rfl) w.heap.size 0 [.int .u16 0, .int .u16 0] 263 (by exact heap_alloc_new w _) [] (by rfl) (fun c => absurd c (by simp)) (by simp) (by intro v hv; simp at hv) w.heap.size w (by exact ((Below.refl _ _).alloc (Nat.le_refl _) _).drew) (Nat.le_refl _) ?_; intro w2 HG2 hB2)
      have e2 := cell_of_row w2 w.heap.size 0 _ _ _ HG2.out
      have e3 := cell_of_row w2 w.heap.size 1 _ _ _ HG2.out
      simp [splice] at e2 e3
      have hc2 : w2.cell? ⟨M, 0, none⟩ = some (Value.slice (some ad) n cap) := (hB2.cell (p := ⟨M, 0, none⟩) hM).trans c0
      have hf2 : w2.frozen? ⟨M, 0, none⟩ = false := (hB2.frozen (p := ⟨M, 0, none⟩) hM).trans f0
      have R := H.same hB2
      have K := kept_popped (M := M) H.le hB2 (.slice (some ad) n cap)
      clear HG2 hB2 H
      go_wp2
      go_quiet (fail)
      go_wp2
      go_ret2
      exact ⟨rfl, ⟨_, R.kept (Nat.le_refl _) (fun _ _ => rfl)⟩, K.drewN _⟩
end Go.Proofs.YtflenkppcclclaaGreatDoor

namespace Go.Proofs.YtflenkppcclclaaGreatDoor
open Go.RowKit

/-- What is put out has grown, and its new head is stored. -/
theorem MS.putted {base M : Nat} {w w1 : World} {vs vo v' : Value} {σ : St} (h : MS base M w vs vo σ) (ns : List Int) (hg : w.grownBy w1 vo.ownBlock)
    (ho : w1.ownsRow base 5 1 v' (σ.out.length + ns.length) (σ.out.map (Value.int .u8) ++ ns.map (Value.int .u8))) (hat : v'.ownBlock = vo.ownBlock ∨ v'.ownBlock = some w.heap.size) :
    MS base M (w1.setCell ⟨M, 18, none⟩ v') vs v' { σ with out := σ.out ++ ns } where
  cell := by
    intro j hj
    have hc : ∀ j, j < 26 → w1.cell? ⟨M, j, none⟩ = some (mval vs vo σ j) := fun j hj => hg.cell (a := ⟨M, j, none⟩) (h.cell j hj) (own_ne h.own2 h.lt)
    by_cases e : j = 18
    · subst e; exact World.cell?_setCell_same _ _ _ (hc 18 hj)
    · rw [World.cell?_setCell_other _ _ _ _ (fun c => e (by injection c with _ c2 _; exact c2.symm)), hc j hj]
      unfold mval; simp only [if_neg e]
  thaw := fun j => by rw [World.frozen?_setCell, World.frozen?_of_block (w := w) (a := ⟨M, j, none⟩) (hg.block M (Nat.lt_of_lt_of_le h.lt h.le) (own_ne h.own2 h.lt))]; exact h.thaw j
  own1 := by
    refine own_set_below (h.own1.kept hg ?_) M 18 h.lt v'
    rcases h.apart with ha | ha
    · exact .inl ha
    · exact .inr ha
  own2 := by
    have := own_set_below ho M 18 h.lt v'
    simpa using this
  apart := by
    rcases hat with e | e
    · rw [e]; exact h.apart
    · cases hv : vs.ownBlock with
      | none => exact .inl rfl
      | some k => right; rw [e]; intro c; have := (h.own1.lt k hv).2; injection c with c; omega
  lt := h.lt
  le := by have := hg.size; have := h.le; simp; omega

def putS (σ : St) (b : Int) : St := if σ.out.length = 16 then fin σ 1 4 else { σ with out := σ.out ++ [b] }

theorem put_any (base M : Nat) (w : World) (vs vo : Value) (σ : St) (b : Int) (h : MS base M w vs vo σ) (hb : σ.out.length ≤ 16) :
    Calls Tryz.prog 175 #[.pointer (some ⟨M, 0, none⟩), .int .u8 b] w fun e w' => e = .returned (.tuple #[]) ∧ (∃ vo', MS base M w' vs vo' (putS σ b)) ∧ Kept base M w w' := by
  obtain ⟨i, hi, hz0, hz1, hz2⟩ := info_parts Tryz.infoU8
  have c0 := h.cell 18 (by omega)
  rw [mv_out] at c0
  have f0 := h.thaw 18
  have hlen : ∃ ao cap, vo = .slice ao σ.out.length cap := by
    rcases h.own2.2 with ⟨e, h0⟩ | ⟨g, cap, cur, hv, _⟩
    · exact ⟨none, 0, by rw [h0]; exact e⟩
    · exact ⟨_, _, hv⟩
  obtain ⟨ao, cap, hvo⟩ := hlen
  subst hvo
  unfold putS
  by_cases hf : σ.out.length = 16
  · rw [if_pos hf]
    have hd : ((σ.out.length : Int) == 16) = true := by rw [beq_iff_eq]; omega
    clear hf
    go_enter Tryz.func175, Tryz.ntmps175
    go_wp2_with (go_at_call 130; refine (end_any base M _ _ _ σ 1 4 h).mono ?_; rintro e w' ⟨rfl, hR, hK⟩)
    exact bodyPost_ret (results_none rfl _ _ _) rfl ⟨rfl, ⟨_, hR⟩, hK⟩
  · rw [if_neg hf]
    have hd : ((σ.out.length : Int) == 16) = false := by rw [beq_eq_false_iff_ne]; omega
    have hlt : σ.out.length < 16 := by omega
    clear hf
    go_enter Tryz.func175, Tryz.ntmps175
    go_wp2_with (at_builtin; refine wpList_append_own_at _ rfl (.tmp 16) (.tmp 18) 25 rfl base 5 i (.int .u8 0) 1 1 Tryz.underlying25 hi hz0 hz1 hz2 rfl (by decide) _ σ.out.length _ rfl (h.own2.alloc _) ⟨w.heap.size, 0, none⟩ 1 1 [.int .u8 b] rfl rfl (cell_one_new _ _ _) ?c2 (by unfold maxLen; omega) (by omega) (by have := h.le; simp; omega) ?_)
    case c2 => intro u hu; simp at hu; subst hu; rfl
    intro v' w1 hown' hgrow _ hat
    have h1 := h.alloc (.cells #[.int .u8 b] 5)
    have R := h1.putted [b] hgrow hown' (by simpa using hat)
    have K := ((Kept.alloc (M := M) w h.le (.cells #[.int .u8 b] 5)).trans (kept_grown (M := M) h1.own2 h1.le hgrow)).trans (Kept.set base M w1 18 v')
    obtain ⟨g', cap', hv'⟩ := own_form hown' (by omega)
    have hne : some M ≠ Value.ownBlock (.slice ao σ.out.length cap) := own_ne h.own2 h.lt
    have hv1 : w1.cell? ⟨M, 18, none⟩ = some (.slice ao σ.out.length cap) := hgrow.cell (a := ⟨M, 18, none⟩) (h1.cell 18 (by omega)) hne
    have hf1 : w1.frozen? ⟨M, 18, none⟩ = false := by
      rw [World.frozen?_of_block (w := w.alloc (.cells #[.int .u8 b] 5)) (a := ⟨M, 18, none⟩) (hgrow.block M (Nat.lt_of_lt_of_le h1.lt h1.le) hne)]
      exact h1.thaw 18
    rw [hv'] at R K ⊢
    clear hown' hgrow hat h h1
    go_wp2
    go_end0
    exact ⟨rfl, ⟨_, R⟩, K⟩

theorem truth_any (b : Bool) (w : World) : Calls Tryz.prog 174 #[.bool b] w fun e w' => e = .returned (.int .u16 (if b then 1 else 0)) ∧ w' = w := by
  cases b
  · go_enter Tryz.func174, Tryz.ntmps174
    go_wp2
    go_ret
    exact ⟨rfl, rfl⟩
  · go_enter Tryz.func174, Tryz.ntmps174
    go_wp2
    go_ret
    exact ⟨rfl, rfl⟩

def misfitS (d t l : Int) : Int := if d - t < 0 then 2 else if 32 < d - t + l then 3 else 0

theorem misfit_any (d s t l : Int) (w : World) (hd : 0 ≤ d) (hd' : d ≤ 32) (ht : 0 ≤ t) (ht' : t ≤ 2) (hl : 0 ≤ l) (hl' : l ≤ 2) :
    Calls Tryz.prog 131 #[.int .i64 d, .agg #[.int .i64 s, .int .i64 t, .int .i64 l]] w fun e w' => e = .returned (.int .i64 (misfitS d t l)) ∧ ∃ c, w' = w.alloc (.cells c 179) := by
  unfold misfitS
  by_cases h1 : d - t < 0
  · rw [if_pos h1]
    go_enter Tryz.func131, Tryz.ntmps131
    go_wp2
    go_ret
    exact ⟨rfl, _, rfl⟩
  · rw [if_neg h1]
    by_cases h2 : 32 < d - t + l
    · rw [if_pos h2]
      go_enter Tryz.func131, Tryz.ntmps131
      go_wp2
      go_ret
      exact ⟨rfl, _, rfl⟩
    · rw [if_neg h2]
      go_enter Tryz.func131, Tryz.ntmps131
      go_wp2
      go_ret
      exact ⟨rfl, _, rfl⟩
end Go.Proofs.YtflenkppcclclaaGreatDoor

namespace Go.Proofs.YtflenkppcclclaaGreatDoor
open Go.RowKit

/-- Nothing is left of the input. -/
theorem read_none (base M : Nat) (w : World) (vs vo : Value) (σ : St) (h : MS base M w vs vo σ) (he : σ.input.size = 0) :
    Calls Tryz.prog 172 #[.pointer (some ⟨M, 0, none⟩)] w fun e w' => e = .returned (.int .u16 256) ∧ w' = w := by
  have c0 := h.cell 17 (by omega)
  rw [mv_input] at c0
  have hE : σ.input.toList.isEmpty = true := by
    rw [Lib.toList_data]
    have := Lib.size_eq σ.input
    rw [List.isEmpty_iff]
    exact List.eq_nil_of_length_eq_zero (by omega)
  go_enter Tryz.func172, Tryz.ntmps172
  go_wp2
  go_ret
  exact ⟨rfl, rfl⟩

theorem read_some (base M : Nat) (w : World) (vs vo : Value) (σ : St) (h : MS base M w vs vo σ) (hm : σ.input.size ≤ 24) (he : 0 < σ.input.size) :
    Calls Tryz.prog 172 #[.pointer (some ⟨M, 0, none⟩)] w fun e w' => e = .returned (.int .u16 (σ.input[0]'he).toNat) ∧ MS base M w' vs vo { σ with input := σ.input.extract 1 σ.input.size } ∧ Kept base M w w' := by
  have c0 := h.cell 17 (by omega)
  rw [mv_input] at c0
  have f0 := h.thaw 17
  have R := h.setInput (σ.input.extract 1 σ.input.size)
  have K := Kept.set base M w 17 (.string (σ.input.extract 1 σ.input.size))
  have hE : σ.input.toList.isEmpty = false := by
    rw [Lib.toList_data]
    have := Lib.size_eq σ.input
    rw [List.isEmpty_eq_false_iff]
    intro c
    have h2 : σ.input.size = 0 := by rw [this, c]; rfl
    omega
  have hb8 : ((σ.input[0]'he).toNat : Int) ≤ 255 := by have := (σ.input[0]'he).toNat_lt; omega
  go_enter Tryz.func172, Tryz.ntmps172
  go_wp2
  go_ret
  exact ⟨rfl, R, K⟩
end Go.Proofs.YtflenkppcclclaaGreatDoor

namespace Go.Proofs.YtflenkppcclclaaGreatDoor
open Go.RowKit

/-- A switch whose cases lie one behind the other: block i closes right ahead of case i. -/
def nest (T : Code) (i : Nat) : List Code → Code
  | [] => T
  | c :: cs => nest (.seq (.block i T) c) (i + 1) cs

/-- The cases from one on, run one behind the other. -/
def runs (P : Program) (Q : Exit → Act → World → Prop) : List Code → Act → World → Prop
  | [] => Q .normal
  | c :: cs => c.wp P (Exit.then (runs P Q cs) Q)

theorem nest_run (P : Program) (Q : Exit → Act → World → Prop) (hQ : ∀ k a w, k ≠ 0 → ¬ Q (.exit k) a w) : ∀ (cs : List Code) (X : Code) (i : Nat) (a : Act) (w : World), 0 < i →
    X.wp P (Exit.then (runs P Q cs) Q) a w → (nest X i cs).wp P Q a w := by
  intro cs
  induction cs with
  | nil =>
    intro X i a w _ h
    exact wp_mono h (fun e a w q => by cases e <;> exact q)
  | cons c cs ih =>
    intro X i a w hi h
    refine ih _ (i + 1) a w (by omega) (wp_seq (wp_block (wp_mono h ?_)))
    intro e a w q
    cases e with
    | exit k =>
      have hk : k = 0 := Classical.byContradiction fun c => hQ k a w c q
      subst hk
      show (if 0 = i then _ else _)
      rw [if_neg (by omega)]
      exact q
    | normal => exact q
    | goto l => exact q
    | ret => exact q
    | panic ch => exact q
    | outgrown => exact q

theorem nest_wp (P : Program) (Q : Exit → Act → World → Prop) (hQ : ∀ k a w, k ≠ 0 → ¬ Q (.exit k) a w) (a1 : Act) (w1 : World) (j : Nat) : ∀ (cs : List Code) (T : Code) (i : Nat) (a : Act) (w : World), 0 < i → i ≤ j → j < i + cs.length →
    (∀ Q' : Exit → Act → World → Prop, Q' (.exit j) a1 w1 → T.wp P Q' a w) → runs P Q (cs.drop (j - i)) a1 w1 → (nest T i cs).wp P Q a w := by
  intro cs
  induction cs with
  | nil => intro T i a w _ h1 h2; simp at h2; omega
  | cons c cs ih =>
    intro T i a w hi h1 h2 hT hC
    by_cases e : j = i
    · subst e
      refine nest_run P Q hQ cs _ (j + 1) a w (by omega) (wp_seq (wp_block (hT _ ?_)))
      show (if j = j then _ else _)
      rw [if_pos rfl]
      rw [Nat.sub_self] at hC
      exact hC
    · refine ih _ (i + 1) a w (by omega) (by omega) (by simp at h2; omega) ?_ ?_
      · intro Q' hq
        refine wp_seq (wp_block (hT _ ?_))
        show (if j = i then _ else _)
        rw [if_neg e]
        exact hq
      · have e2 : j - i = (j - (i + 1)) + 1 := by omega
        rw [e2] at hC
        exact hC

/-- The switch of 'do', out of the translation; its tests; its cases. -/
def behind2 : Option Code → Code
  | some (.seq _ (.seq _ c)) => c
  | _ => .skip
def inBlock0 : Code → Code
  | .block _ c => c
  | _ => .skip
def casesOf : Nat → Code → List Code → List Code
  | 0, _, l => l
  | n + 1, .seq (.block _ x) c, l => casesOf n x (c :: l)
  | _ + 1, _, l => l
def testsOf : Nat → Code → Code
  | 0, x => x
  | n + 1, .seq (.block _ x) _ => testsOf n x
  | _ + 1, x => x
theorem swCode_eq : (behind2 Tryz.f132.body) = .block 0 (nest (testsOf 20 (inBlock0 (behind2 Tryz.f132.body))) 1 (casesOf 20 (inBlock0 (behind2 Tryz.f132.body)) [])) := by kernel_rfl
theorem swCases_len : (casesOf 20 (inBlock0 (behind2 Tryz.f132.body)) []).length = 20 := by kernel_rfl

theorem sw_wp (Q : Exit → Act → World → Prop) (hQ : ∀ k a w, ¬ Q (.exit k) a w) (a a1 : Act) (w w1 : World) (j : Nat) (h1 : 1 ≤ j) (h2 : j ≤ 20)
    (hT : ∀ Q' : Exit → Act → World → Prop, Q' (.exit j) a1 w1 → (testsOf 20 (inBlock0 (behind2 Tryz.f132.body))).wp Tryz.prog Q' a w) (hC : runs Tryz.prog (Exit.inBlock 0 Q) ((casesOf 20 (inBlock0 (behind2 Tryz.f132.body)) []).drop (j - 1)) a1 w1) : (behind2 Tryz.f132.body).wp Tryz.prog Q a w := by
  rw [swCode_eq]
  refine wp_block (nest_wp Tryz.prog _ ?_ a1 w1 j (casesOf 20 (inBlock0 (behind2 Tryz.f132.body)) []) (testsOf 20 (inBlock0 (behind2 Tryz.f132.body))) 1 a w (by omega) h1 (by rw [swCases_len]; omega) hT hC)
  intro k a w hk
  show ¬ (if k = 0 then _ else _)
  rw [if_neg hk]
  exact hQ k a w
end Go.Proofs.YtflenkppcclclaaGreatDoor

