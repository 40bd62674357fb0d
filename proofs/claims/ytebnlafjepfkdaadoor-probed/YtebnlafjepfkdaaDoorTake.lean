import Derived.Test.YtebnlafjepfkdaaDoorLay
import Derived.Laws.CopyOwn
import Derived.Deep.RegionLaw
namespace Go.Proofs.YtebnlafjepfkdaaDoor
open Go.RowKit

theorem Tryd.sizeU16 : (Tryd.prog.info? 50).map (·.size) = some 1 := by kernel_rfl

/-- The stack is cut, and its new head is stored, in a world in which all that was there is as it was. -/
theorem MS.popped {base M : Nat} {w w2 : World} {vo : Value} {σ : St} {g n cap : Nat} (h : MS base M w (.slice (some ⟨g, 0, none⟩) n cap) vo σ) (hn : σ.stack.length = n) (hb : Below w.heap.size w w2) (q : Nat) (hq : q ≤ n) :
    MS base M (w2.setCell ⟨M, 0, none⟩ (.slice (some ⟨g, 0, none⟩) q cap)) (.slice (some ⟨g, 0, none⟩) q cap) vo { σ with stack := σ.stack.take q } := by
  have h2 := h.kept hb.size hb.block
  subst hn
  exact {
    cell := by
      intro j hj
      by_cases e : j = 0
      · subst e; exact World.cell?_setCell_same _ _ _ (h2.cell 0 hj)
      · rw [World.cell?_setCell_other _ _ _ _ (fun c => e (by injection c with _ c2 _; exact c2.symm)), h2.cell j hj]
        unfold mval; simp only [if_neg e]
    thaw := fun j => by rw [World.frozen?_setCell]; exact h2.thaw j
    own1 := by
      refine own_set_below ?_ M 0 h.lt _
      refine ⟨by simp, ?_⟩
      rcases h2.own1.2 with ⟨h0, _⟩ | ⟨g', cap', cur, hv, hg, hh, hn, hcap, hsz, htake⟩
      · cases h0
      · cases hv
        have e : (σ.stack.take q).length = q := by simp; omega
        refine .inr ⟨g, cap, cur, by simp only [e], hg, hh, by simp only [e]; omega, hcap, hsz, ?_⟩
        simp only [e, Nat.mul_one] at htake ⊢
        rw [List.map_take, ← htake, List.take_take, Nat.min_eq_left hq]
    own2 := own_set_below h2.own2 M 0 h.lt _
    apart := h.apart
    lt := h.lt
    le := by have := h2.le; simp; omega }

theorem kept_popped {base M : Nat} {w w2 : World} (hle : base ≤ w.heap.size) (hb : Below w.heap.size w w2) (v : Value) : Kept base M w (w2.setCell ⟨M, 0, none⟩ v) :=
  (Kept.of_below (hb.mono hle)).trans (Kept.set _ _ _ _ _)

theorem own_caps {w : World} {base : Nat} {e : TypeId} {g n cap : Nat} {xs : List Value} (h : w.ownsRow base e 1 (.slice (some ⟨g, 0, none⟩) n cap) n xs) : n ≤ cap ∧ cap ≤ 9223372036854775807 := by
  rcases h.2 with ⟨h0, _⟩ | ⟨g', cap', cur, hv, hg, hh, hn, hcap, _⟩
  · cases h0
  · cases hv; unfold maxLen at hcap; exact ⟨hn, by omega⟩

theorem Kept.drewN {B M : Nat} {w w' : World} (h : Kept B M w w') (n : Nat) : Kept B M w (w'.drewN n) := ⟨h.os, h.tape, h.output, h.size, h.block⟩

theorem src_cells {w : World} {base : Nat} {e : TypeId} {g n cap : Nat} {l : List Int} (ho : w.ownsRow base e 1 (.slice (some ⟨g, 0, none⟩) n cap) n (l.map (Value.int .u16))) (hn : l.length = n) (o : Obj) (q : Nat) (xs : List Int) (hxs : ∀ j x, xs[j]? = some x → l[q + j]? = some x) :
    ∀ j v, (xs.map (Value.int .u16))[j]? = some v → (w.alloc o).drew.cell? ((⟨g, q, none⟩ : Addr).add j) = some v := by
  intro j v hj
  rw [List.getElem?_map, Option.map_eq_some_iff] at hj
  obtain ⟨x, hx, rfl⟩ := hj
  have h1 := hxs j x hx
  have hlt : q + j < n := by rw [← hn]; exact (List.getElem?_eq_some_iff.1 h1).1
  have hg : g < w.heap.size := (ho.lt g rfl).2
  have := ho.cellAt (q + j) (by omega)
  have hadd : (⟨g, q, none⟩ : Addr).add j = ⟨g, q + j, none⟩ := by unfold Addr.add; split <;> simp_all
  rw [World.cell?_drew, hadd, World.cell?_alloc_past _ _ _ hg, this, List.getElem?_map, h1]
  rfl

set_option maxHeartbeats 400000 in
theorem take_one (base M : Nat) (w : World) (vs vo : Value) (σ : St) (q : Nat) (hq : σ.stack.length = q + 1) (hm : q < 32) (h : MS base M w vs vo σ) :
    Calls Tryd.prog 42 #[.pointer (some ⟨M, 0, none⟩), .int .i64 1] w fun e w' => e = .returned (.tuple #[.int .u16 (σ.stack.getD q 0), .int .u16 0]) ∧ (∃ vs', MS base M w' vs' vo { σ with stack := σ.stack.take q }) ∧ Kept base M w w' := by
  have c0 := h.cell 0 (by omega)
  rw [mv_stack] at c0
  have f0 := h.thaw 0
  obtain ⟨g, cap, hv⟩ := own_form h.own1 (by omega)
  rw [hq] at hv
  subst hv
  have hM : M < w.heap.size := Nat.lt_of_lt_of_le h.lt h.le
  have ho := h.own1
  rw [hq] at ho
  obtain ⟨hcap, hm2⟩ := own_caps ho
  have hi1 : (q : Int) ≤ (q : Int) + 1 := by omega
  have hcq : ¬ cap = q := by omega
  obtain ⟨x, hx⟩ : ∃ x, x = σ.stack.getD q 0 := ⟨_, rfl⟩
  have hsrc : Hid (∀ j v, [Value.int .u16 x][j]? = some v → (w.alloc (.cells #[.int .u16 0, .int .u16 0] 87)).drew.cell? ((⟨g, q, none⟩ : Addr).add j) = some v) := by
    refine src_cells ho hq _ q [x] ?_
    intro j z hj
    match j, hj with
    | 0, hj => simp at hj; subst hj; rw [hx, Nat.add_zero]; simp [hq]

  have H := h
  have HQ : Hid (σ.stack.length = q + 1) := hq
  rw [← hx]
  clear hx h ho hq
  go_enter Tryd.func42, Tryd.ntmps42
  go_wp2
  go_region_law (refine step_copy_splice (by rfl) (.tmp 15) (.tmp 21) 49 49 (by rfl) 50 Tryd.underlying49 Tryd.sizeU16 _ _ 2 2 1 (cap - q) (by rfl) (by rfl) w.heap.size 0 [.int .u16 0, .int .u16 0] 87 (by exact heap_alloc_new w _) [Value.int .u16 x] (by rfl) (fun _ => ⟨by rfl, ⟨g, q, none⟩, by rfl, hsrc.out⟩) (by simp) (by intro v hv; simp at hv; subst hv; rfl) w.heap.size w (by exact ((Below.refl _ _).alloc (Nat.le_refl _) _).drew) (Nat.le_refl _) ?_; intro w2 HG2 hB2)
  have e2 := cell_of_row w2 w.heap.size 0 _ _ _ HG2.out
  have e3 := cell_of_row w2 w.heap.size 1 _ _ _ HG2.out
  simp [splice] at e2 e3
  have hc2 : w2.cell? ⟨M, 0, none⟩ = some (Value.slice (some ⟨g, 0, none⟩) (q + 1) cap) := (hB2.cell (p := ⟨M, 0, none⟩) hM).trans c0
  have hf2 : w2.frozen? ⟨M, 0, none⟩ = false := (hB2.frozen (p := ⟨M, 0, none⟩) hM).trans f0
  have R := H.popped HQ.out hB2 q (by omega)
  have K := kept_popped (M := M) H.le hB2 (.slice (some ⟨g, 0, none⟩) q cap)
  have hne : w.heap.size ≠ M := by omega
  clear HG2 hB2 hsrc H
  go_wp2
  go_quiet (fail)
  go_wp2
  go_ret2
  exact ⟨rfl, ⟨_, R.kept (Nat.le_refl _) (fun _ _ => rfl)⟩, K.drewN _⟩

set_option maxHeartbeats 400000 in
theorem take_two (base M : Nat) (w : World) (vs vo : Value) (σ : St) (q : Nat) (hq : σ.stack.length = q + 2) (hm : q < 32) (h : MS base M w vs vo σ) :
    Calls Tryd.prog 42 #[.pointer (some ⟨M, 0, none⟩), .int .i64 2] w fun e w' => e = .returned (.tuple #[.int .u16 (σ.stack.getD q 0), .int .u16 (σ.stack.getD (q + 1) 0)]) ∧ (∃ vs', MS base M w' vs' vo { σ with stack := σ.stack.take q }) ∧ Kept base M w w' := by
  have c0 := h.cell 0 (by omega)
  rw [mv_stack] at c0
  have f0 := h.thaw 0
  obtain ⟨g, cap, hv⟩ := own_form h.own1 (by omega)
  rw [hq] at hv
  subst hv
  have hM : M < w.heap.size := Nat.lt_of_lt_of_le h.lt h.le
  have ho := h.own1
  rw [hq] at ho
  obtain ⟨hcap, hm2⟩ := own_caps ho
  have hi1 : (q : Int) ≤ (q : Int) + 2 := by omega
  have hcq : ¬ cap = q := by omega
  obtain ⟨x, hx⟩ : ∃ x, x = σ.stack.getD q 0 := ⟨_, rfl⟩
  obtain ⟨y, hy⟩ : ∃ y, y = σ.stack.getD (q + 1) 0 := ⟨_, rfl⟩
  have hsrc : Hid (∀ j v, [Value.int .u16 x, Value.int .u16 y][j]? = some v → (w.alloc (.cells #[.int .u16 0, .int .u16 0] 87)).drew.cell? ((⟨g, q, none⟩ : Addr).add j) = some v) := by
    refine src_cells ho hq _ q [x, y] ?_
    intro j z hj
    match j, hj with
    | 0, hj => simp at hj; subst hj; rw [hx, Nat.add_zero]; simp [hq]
    | 1, hj => simp at hj; subst hj; rw [hy]; simp [hq]
  have H := h
  have HQ : Hid (σ.stack.length = q + 2) := hq
  rw [← hx, ← hy]
  clear hx hy h ho hq
  go_enter Tryd.func42, Tryd.ntmps42
  go_wp2
  go_region_law (refine step_copy_splice (by rfl) (.tmp 15) (.tmp 21) 49 49 (by rfl) 50 Tryd.underlying49 Tryd.sizeU16 _ _ 2 2 2 (cap - q) (by rfl) (by rfl) w.heap.size 0 [.int .u16 0, .int .u16 0] 87 (by exact heap_alloc_new w _) [Value.int .u16 x, Value.int .u16 y] (by rfl) (fun _ => ⟨by rfl, ⟨g, q, none⟩, by rfl, hsrc.out⟩) (by simp) (by intro v hv; simp at hv; rcases hv with hv | hv <;> subst hv <;> rfl) w.heap.size w (by exact ((Below.refl _ _).alloc (Nat.le_refl _) _).drew) (Nat.le_refl _) ?_; intro w2 HG2 hB2)
  have e2 := cell_of_row w2 w.heap.size 0 _ _ _ HG2.out
  have e3 := cell_of_row w2 w.heap.size 1 _ _ _ HG2.out
  simp [splice] at e2 e3
  have hc2 : w2.cell? ⟨M, 0, none⟩ = some (Value.slice (some ⟨g, 0, none⟩) (q + 2) cap) := (hB2.cell (p := ⟨M, 0, none⟩) hM).trans c0
  have hf2 : w2.frozen? ⟨M, 0, none⟩ = false := (hB2.frozen (p := ⟨M, 0, none⟩) hM).trans f0
  have R := H.popped HQ.out hB2 q (by omega)
  have K := kept_popped (M := M) H.le hB2 (.slice (some ⟨g, 0, none⟩) q cap)
  have hne : w.heap.size ≠ M := by omega
  clear HG2 hB2 hsrc H
  go_wp2
  go_quiet (fail)
  go_wp2
  go_ret2
  exact ⟨rfl, ⟨_, R.kept (Nat.le_refl _) (fun _ _ => rfl)⟩, K.drewN _⟩


theorem MS.same {base M : Nat} {w w2 : World} {vs vo : Value} {σ : St} (h : MS base M w vs vo σ) (hb : Below w.heap.size w w2) : MS base M (w2.setCell ⟨M, 0, none⟩ vs) vs vo σ :=
  (h.kept hb.size hb.block).set 0 (by omega) vs σ (fun j _ => by by_cases e : j = 0; (subst e; rfl); (rw [if_neg e])) rfl rfl

set_option maxHeartbeats 400000 in
theorem take_zero (base M : Nat) (w : World) (vs vo : Value) (σ : St) (hm : σ.stack.length ≤ 32) (h : MS base M w vs vo σ) :
    Calls Tryd.prog 42 #[.pointer (some ⟨M, 0, none⟩), .int .i64 0] w fun e w' => e = .returned (.tuple #[.int .u16 0, .int .u16 0]) ∧ (∃ vs', MS base M w' vs' vo σ) ∧ Kept base M w w' := by
  have c0 := h.cell 0 (by omega)
  rw [mv_stack] at c0
  have f0 := h.thaw 0
  have hM : M < w.heap.size := Nat.lt_of_lt_of_le h.lt h.le
  have hne : w.heap.size ≠ M := by omega
  have hv : ∃ ao n cap, vs = .slice ao n cap ∧ n = σ.stack.length ∧ n ≤ cap ∧ cap ≤ 9223372036854775807 ∧ (ao = none → n = 0 ∧ cap = 0) := by
    rcases h.own1.2 with ⟨e, h0⟩ | ⟨g, cap, cur, hv, _, _, hn, hcap, _⟩
    · exact ⟨none, 0, 0, e, h0.symm, Nat.le_refl _, by omega, fun _ => ⟨rfl, rfl⟩⟩
    · unfold maxLen at hcap; exact ⟨_, _, cap, hv, rfl, hn, by omega, fun c => by cases c⟩
  obtain ⟨ao, n, cap, rfl, hn, hcap, hm2, hnil⟩ := hv
  have H := h
  have hn32 : n ≤ 32 := by omega
  clear h hn
  have hi1 : (n : Int) ≤ (n : Int) := by omega
  cases ao with
  | none =>
    obtain ⟨rfl, rfl⟩ := hnil rfl
    go_enter Tryd.func42, Tryd.ntmps42
    go_wp2
    go_region_law (refine step_copy_splice (by rfl) (.tmp 15) (.tmp 21) 49 49 (by rfl) 50 Tryd.underlying49 Tryd.sizeU16 _ _ 2 2 0 _ (by rfl) (by rfl) w.heap.size 0 [.int .u16 0, .int .u16 0] 87 (by exact heap_alloc_new w _) [] (by rfl) (fun c => absurd c (by simp)) (by simp) (by intro v hv; simp at hv) w.heap.size w (by exact ((Below.refl _ _).alloc (Nat.le_refl _) _).drew) (Nat.le_refl _) ?_; intro w2 HG2 hB2)
    have e2 := cell_of_row w2 w.heap.size 0 _ _ _ HG2.out
    have e3 := cell_of_row w2 w.heap.size 1 _ _ _ HG2.out
    simp [splice] at e2 e3
    have hc2 : w2.cell? ⟨M, 0, none⟩ = some (Value.slice none 0 0) := (hB2.cell (p := ⟨M, 0, none⟩) hM).trans c0
    have hf2 : w2.frozen? ⟨M, 0, none⟩ = false := (hB2.frozen (p := ⟨M, 0, none⟩) hM).trans f0
    have R := H.same hB2
    have K := kept_popped (M := M) H.le hB2 (.slice none 0 0)
    clear HG2 hB2 H
    go_wp2
    go_quiet (fail)
    go_wp2
    go_ret2
    exact ⟨rfl, ⟨_, R.kept (Nat.le_refl _) (fun _ _ => rfl)⟩, K.drewN _⟩
  | some ad =>
    clear hnil
    by_cases hcn : cap = n
    · subst hcn
      go_enter Tryd.func42, Tryd.ntmps42
      go_wp2
      go_region_law (refine step_copy_splice (by rfl) (.tmp 15) (.tmp 21) 49 49 (by rfl) 50 Tryd.underlying49 Tryd.sizeU16 _ _ 2 2 0 _ (by rfl) (by rfl) w.heap.size 0 [.int .u16 0, .int .u16 0] 87 (by exact heap_alloc_new w _) [] (by rfl) (fun c => absurd c (by simp)) (by simp) (by intro v hv; simp at hv) w.heap.size w (by exact ((Below.refl _ _).alloc (Nat.le_refl _) _).drew) (Nat.le_refl _) ?_; intro w2 HG2 hB2)
      have e2 := cell_of_row w2 w.heap.size 0 _ _ _ HG2.out
      have e3 := cell_of_row w2 w.heap.size 1 _ _ _ HG2.out
      simp [splice] at e2 e3
      have hc2 : w2.cell? ⟨M, 0, none⟩ = some (Value.slice (some ad) cap cap) := (hB2.cell (p := ⟨M, 0, none⟩) hM).trans c0
      have hf2 : w2.frozen? ⟨M, 0, none⟩ = false := (hB2.frozen (p := ⟨M, 0, none⟩) hM).trans f0
      have R := H.same hB2
      have K := kept_popped (M := M) H.le hB2 (.slice (some ad) cap cap)
      clear HG2 hB2 H
      go_wp2
      go_quiet (fail)
      go_wp2
      go_ret2
      exact ⟨rfl, ⟨_, R.kept (Nat.le_refl _) (fun _ _ => rfl)⟩, K.drewN _⟩
    · have hcn' : ¬ n = cap := fun c => hcn c.symm
      go_enter Tryd.func42, Tryd.ntmps42
      go_wp2
      go_region_law (refine step_copy_splice (by rfl) (.tmp 15) (.tmp 21) 49 49 (by rfl) 50 Tryd.underlying49 Tryd.sizeU16 _ _ 2 2 0 _ (by rfl) (by rfl) w.heap.size 0 [.int .u16 0, .int .u16 0] 87 (by exact heap_alloc_new w _) [] (by rfl) (fun c => absurd c (by simp)) (by simp) (by intro v hv; simp at hv) w.heap.size w (by exact ((Below.refl _ _).alloc (Nat.le_refl _) _).drew) (Nat.le_refl _) ?_; intro w2 HG2 hB2)
      have e2 := cell_of_row w2 w.heap.size 0 _ _ _ HG2.out
      have e3 := cell_of_row w2 w.heap.size 1 _ _ _ HG2.out
      simp [splice] at e2 e3
      have hc2 : w2.cell? ⟨M, 0, none⟩ = some (Value.slice (some ad) n cap) := (hB2.cell (p := ⟨M, 0, none⟩) hM).trans c0
      have hf2 : w2.frozen? ⟨M, 0, none⟩ = false := (hB2.frozen (p := ⟨M, 0, none⟩) hM).trans f0
      have R := H.same hB2
      have K := kept_popped (M := M) H.le hB2 (.slice (some ad) n cap)
      clear HG2 hB2 H
      go_wp2
      go_quiet (fail)
      go_wp2
      go_ret2
      exact ⟨rfl, ⟨_, R.kept (Nat.le_refl _) (fun _ _ => rfl)⟩, K.drewN _⟩
end Go.Proofs.YtebnlafjepfkdaaDoor
