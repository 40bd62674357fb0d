import Derived.Test.YtflenkppcclclaaGreatDoorM29
import Derived.Test.YtflenkppcclclaaGreatDoorM00
import Derived.Test.YtflenkppcclclaaGreatDoorRows
import Derived.ProofKit
import Derived.LaidMore
import Derived.OpenShut
import Derived.Stop.Joined
import Derived.Deep.Strs
import Derived.Deep.Slices
import Derived.ChangeSlices
import Derived.SizedLaws
namespace Go.Proofs.YtflenkppcclclaaGreatDoor
open Go.RowKit

def exN (i : Nat) : Int := ([2, 1, 97, 12, 15, 9, 19, 7, 0, 0] : List Int).getD i 0
theorem opInfo : ∃ i : TypeInfo, Tryz.prog.info? 70 = some i ∧ i.size = 9 ∧ i.bytes = 120 ∧ ∃ z, i.zero = some z ∧ z.cells.size = 9 := by
  have h : (Tryz.prog.info? 70).map (fun i => (i.size, i.bytes, i.zero.map fun z => z.cells.size)) = some (9, 120, some 9) := by kernel_rfl
  cases hi : Tryz.prog.info? 70 with
  | none => rw [hi] at h; cases h
  | some i =>
    rw [hi] at h
    simp only [Option.map_some, Option.some.injEq, Prod.mk.injEq, Option.map_eq_some_iff] at h
    obtain ⟨h1, h2, z, h3, h4⟩ := h
    exact ⟨i, rfl, h1, h2, z, h3, h4⟩

/-- 'append' of a script to what is asked ahead of it. -/
theorem append_first (w : World) (G : Nat) (xs : Array Value) (hG : w.heap[G]? = some (.cells xs 70 (0, 0))) (hx : xs.size = 81) (a : Option Addr) (m c : Nat) (news : List Value) (hl : news.length = m * 9)
    (hnews : ∀ ad, a = some ad → ∀ j u, news[j]? = some u → w.cell? (ad.add j) = some u) (hn : a = none → m = 0) (hb : (9 + m) * 120 ≤ 140737488355328) (ty : TypeId) :
    ∃ G' c' w', (Builtin.append_ #[22, 22] ty #[.slice (some ⟨G, 0, none⟩) 9 9, .slice a m c]).run Tryz.prog w = .ok (.slice (some ⟨G', 0, none⟩) (9 + m) c') w' ∧ Below w.heap.size w w' ∧
      (∀ j u, (xs.toList ++ news)[j]? = some u → w'.cell? ⟨G', j, none⟩ = some u) ∧ G' < w'.heap.size ∧ (9 + m ≤ c' ∧ c' ≤ maxLen) := by
  obtain ⟨i, hi, hs, hby, z, hz, hzs⟩ := opInfo
  have hlt : G < w.heap.size := (Array.getElem?_eq_some_iff.1 hG).1
  have hcur : ∀ j u, xs.toList[j]? = some u → w.cell? ⟨G, j, none⟩ = some u := fun j u hj => by
    rw [cell_of_row _ _ _ _ _ _ hG]; simpa using hj
  have hadd : ∀ j, (⟨G, 0, none⟩ : Addr).add j = ⟨G, j, none⟩ := fun j => by unfold Addr.add; split <;> simp_all
  by_cases hm : m = 0
  · subst hm
    have hnil : news = [] := List.eq_nil_of_length_eq_zero (by simpa using hl)
    subst hnil
    refine ⟨G, 9, w, ?_, Below.refl _ _, fun j u hj => hcur j u (by simpa using hj), hlt, by omega, by unfold maxLen; omega⟩
    cases a with
    | none => simp [Builtin.append_, run_underlying Tryz.underlying22, sizeOf, typeInfo, hi, Builtin.lenOf, Builtin.firstCells, storeCells]
    | some ad =>
      have hfc := run_firstCells_some (P := Tryz.prog) w i.size 0 ad 0 c [] (by simp) (fun j u hj => by simp at hj)
      simp [Builtin.append_, run_underlying Tryz.underlying22, sizeOf, typeInfo, hi, Builtin.lenOf, hfc, storeCells]
  · cases a with
    | none => exact absurd (hn rfl) hm
    | some ad =>
      have hr := run_append_grow (P := Tryz.prog) w 22 ty 70 i z Tryz.underlying22 hi hz ⟨G, 0, none⟩ 9 9 xs.toList (by rw [hs]; simpa using hx) (fun j u hj => by rw [hadd]; exact hcur j u hj) ad m c news (by rw [hs]; exact hl) (hnews ad rfl) (by omega) (by omega) (growslice_fits (by omega) (by rw [hby]; exact hb))
      refine ⟨_, _, _, hr, ⟨rfl, rfl, rfl, by simp, fun k hk => Below.heap_alloc w.drew _ k hk⟩, ?_, by simp, grownCap_ge w (9 + m) 9 70, grownCap_le_maxLen w (9 + m) 9 70 (by unfold maxLen; omega)⟩
      intro j u hj
      have hh : (w.drew.alloc (.cells (xs.toList.toArray ++ news.toArray ++ Builtin.zeroCells z.cells (grownCap w (9 + m) 9 70 - (9 + m))) 70)).heap[w.heap.size]? = _ := heap_alloc_new w.drew _
      rw [cell_of_row _ _ _ _ _ _ hh]
      rw [Array.getElem?_append_left]
      · rw [List.append_toArray, List.getElem?_toArray]; exact hj
      · obtain ⟨h1, _⟩ := List.getElem?_eq_some_iff.1 hj
        simpa using h1

structure AppFirst (w w' : World) (G c' m : Nat) (ys : List Value) : Prop where
  below : Below w.heap.size w w'
  cell : ∀ j u, ys[j]? = some u → w'.cell? ⟨G, j, none⟩ = some u
  lt : G < w'.heap.size
  room : 9 + m ≤ c'
  room' : c' ≤ 9223372036854775807
section
variable {w : World}
theorem wpList_append_first {ops : Array Oper} {rest : List Oper} {o : Oper} {a : Act} {Q : Exit → Act → World → Prop} (hgd : o.guard = none) (s x : Operand)
    (ho : o.op = .call { callee := .builtin .append, args := #[s, x], argTypes := #[22, 22] })
    (G : Nat) (xs : Array Value) (hG : w.heap[G]? = some (.cells xs 70 (0, 0))) (hx : xs.size = 81) (ad : Option Addr) (m c : Nat) (news : List Value) (hl : news.length = m * 9)
    (hnews : ∀ p, ad = some p → ∀ j u, news[j]? = some u → w.cell? (p.add j) = some u) (hn : ad = none → m = 0) (hb : (9 + m) * 120 ≤ 140737488355328)
    (hs : a.eval s = .slice (some ⟨G, 0, none⟩) 9 9) (hxx : a.eval x = .slice ad m c)
    (h : ∀ G' c' w', AppFirst w w' G' c' m (xs.toList ++ news) → wpList Tryz.prog ops Q rest (a.put o.dst (.slice (some ⟨G', 0, none⟩) (9 + m) c')) w') :
    wpList Tryz.prog ops Q (o :: rest) a w := by
  refine wpList_plain hgd fun K hK => ?_
  obtain ⟨G', c', w', hr, h2, h3, h4, h5⟩ := append_first w G xs hG hx ad m c news hl hnews hn hb o.type
  unfold Oper.wp execOp
  simp only [ho, resolve, invoke, builtin, Sem.run_bind, Sem.run_pure, Result.andThen_ok, List.map_toArray, List.map_cons, List.map_nil, hs, hxx, hr]
  exact hK _ _ (h G' c' w' ⟨h2, h3, h4, h5.1, h5.2⟩)
end

/-- What the new memory of 'first' holds. -/
structure FirstIs (w w' : World) : Prop where
  below : Below w.heap.size w w'
  size : w'.heap.size = w.heap.size + 6
  row : w'.heap[w.heap.size + 5]? = some (.cells (firstA w.heap.size) 70 (0, 0))
  code : ∀ k, k < 4 → w'.heap[w.heap.size + k]? = some (.cells exC 5 (0, 0))
theorem first_is (w : World) : FirstIs w (firstW w) := by
  have z1 : ∀ (v : World) (o : Obj), (v.alloc o).heap.size = v.heap.size + 1 := fun v o => by simp
  have old : ∀ (v : World) (o : Obj) (k : Nat), k < v.heap.size → (v.alloc o).heap[k]? = v.heap[k]? := fun v o k hk => Below.heap_alloc v o k hk
  have new : ∀ (v : World) (o : Obj) (k : Nat), k = v.heap.size → (v.alloc o).heap[k]? = some o := fun v o k hk => by rw [hk]; exact heap_alloc_new v o
  unfold firstW
  generalize e1 : w.alloc (.cells exC 5) = w1
  generalize e2 : w1.alloc (.cells exC 5) = w2
  generalize e3 : w2.alloc (.cells exC 5) = w3
  generalize e4 : w3.alloc (.cells exC 5) = w4
  generalize e5 : w4.alloc (.cells #[.string ⟨#[98]⟩] 9) = w5
  generalize e6 : w5.alloc (.cells (firstA w.heap.size) 70) = w6
  have s1 : w1.heap.size = w.heap.size + 1 := by rw [← e1]; exact z1 _ _
  have s2 : w2.heap.size = w.heap.size + 2 := by rw [← e2, z1]; omega
  have s3 : w3.heap.size = w.heap.size + 3 := by rw [← e3, z1]; omega
  have s4 : w4.heap.size = w.heap.size + 4 := by rw [← e4, z1]; omega
  have s5 : w5.heap.size = w.heap.size + 5 := by rw [← e5, z1]; omega
  have s6 : w6.heap.size = w.heap.size + 6 := by rw [← e6, z1]; omega
  refine ⟨?_, s6, by rw [← e6]; exact new _ _ _ (by omega), ?_⟩
  · rw [← e6, ← e5, ← e4, ← e3, ← e2, ← e1]
    exact ((((((Below.refl _ w).alloc (Nat.le_refl _) _).alloc (by simp) _).alloc (by simp; omega) _).alloc (by simp; omega) _).alloc (by simp; omega) _).alloc (by simp; omega) _
  · intro k hk
    match k, hk with
    | 0, _ => rw [← e6, old _ _ _ (by omega), ← e5, old _ _ _ (by omega), ← e4, old _ _ _ (by omega), ← e3, old _ _ _ (by omega), ← e2, old _ _ _ (by omega), ← e1]; exact new _ _ _ (by omega)
    | 1, _ => rw [← e6, old _ _ _ (by omega), ← e5, old _ _ _ (by omega), ← e4, old _ _ _ (by omega), ← e3, old _ _ _ (by omega), ← e2]; exact new _ _ _ (by omega)
    | 2, _ => rw [← e6, old _ _ _ (by omega), ← e5, old _ _ _ (by omega), ← e4, old _ _ _ (by omega), ← e3]; exact new _ _ _ (by omega)
    | 3, _ => rw [← e6, old _ _ _ (by omega), ← e5, old _ _ _ (by omega), ← e4]; exact new _ _ _ (by omega)
    | k + 4, hk => omega

/-- What is known of a step's numbers and texts. -/
structure OpOk (n sd : Int) (s t : ByteArray) : Prop where
  n0 : -9223372036854775808 ≤ n
  n1 : n ≤ 9223372036854775807
  d0 : 0 ≤ sd
  d1 : sd ≤ 18446744073709551615
  s1 : s.size ≤ 9223372036854775807
  t1 : t.size ≤ 9223372036854775807
/-- A step of a script: where it lies, and that its code can be read. -/
def StepAt (base M : Nat) (w : World) (cells : Nat → Option Value) : Prop :=
  ∃ kd p n f cv s t sd b k e L c, (∀ j, j < 9 → cells j = (opC kd p n f cv s t sd (.slice b k e))[j]?) ∧ CodeOk base M w cv L c ∧ OpOk n sd s t

theorem exampleOk {base M : Nat} {w : World} {g : Nat} (h : w.heap[g]? = some (.cells exC 5 (0, 0))) (hg : g < base) (hM : g ≠ M) : CodeOk base M w (.slice (some ⟨g, 0, none⟩) 10 10) 10 exN where
  coded := .full g 0 10 rfl ⟨fun i hi => by
    rw [Nat.zero_add, cell_of_row _ _ _ _ _ _ h]
    match i, hi with
    | 0, _ | 1, _ | 2, _ | 3, _ | 4, _ | 5, _ | 6, _ | 7, _ | 8, _ | 9, _ => rfl
    | i + 10, hi => omega, Nat.le_refl _, by decide, by decide⟩
  byte := by decide
  most := by decide
  low := by
    intro _ k hk
    have : g = k := by simpa [Value.ownBlock] using hk
    subst this
    exact ⟨hg, hM⟩
theorem noneOk {base M : Nat} {w : World} : CodeOk base M w (.slice none 0 0) 0 (fun _ => 0) where
  coded := .bare none 0 rfl rfl
  byte := fun i hi => by omega
  most := by decide
  low := fun h => by omega

set_option maxRecDepth 100000 in
theorem first_steps {base M : Nat} {w' : World} {h : Nat} (hc : ∀ k, k < 4 → w'.heap[h + k]? = some (.cells exC 5 (0, 0))) (hb : h + 4 ≤ base) (hM : h + 4 ≤ M) (i : Nat) (hi : i < 9) : StepAt base M w' (fun j => (firstA h)[9 * i + j]?) := by
  have ok : ∀ k, k < 4 → CodeOk base M w' (.slice (some ⟨h + k, 0, none⟩) 10 10) 10 exN := fun k hk => exampleOk (hc k hk) (by omega) (by omega)
  match i, hi with
  | 0, _ => exact ⟨1, 0, 0, 0, _, _, _, 0, _, _, _, _, _, fun j hj => by
      match j, hj with
      | 0, _ | 1, _ | 2, _ | 3, _ | 4, _ | 5, _ | 6, _ | 7, _ | 8, _ => rfl
      | j + 9, hj => omega, ok 0 (by omega), ⟨by decide, by decide, by decide, by decide, by decide, by decide⟩⟩
  | 1, _ => exact ⟨2, 0, 0, 100, _, _, _, 0, _, _, _, _, _, fun j hj => by
      match j, hj with
      | 0, _ | 1, _ | 2, _ | 3, _ | 4, _ | 5, _ | 6, _ | 7, _ | 8, _ => rfl
      | j + 9, hj => omega, ok 1 (by omega), ⟨by decide, by decide, by decide, by decide, by decide, by decide⟩⟩
  | 2, _ => exact ⟨3, 0, 0, 0, _, _, _, 0, _, _, _, _, _, fun j hj => by
      match j, hj with
      | 0, _ | 1, _ | 2, _ | 3, _ | 4, _ | 5, _ | 6, _ | 7, _ | 8, _ => rfl
      | j + 9, hj => omega, ok 2 (by omega), ⟨by decide, by decide, by decide, by decide, by decide, by decide⟩⟩
  | 3, _ => exact ⟨5, 0, 30, 0, _, _, _, 0, _, _, _, _, _, fun j hj => by
      match j, hj with
      | 0, _ | 1, _ | 2, _ | 3, _ | 4, _ | 5, _ | 6, _ | 7, _ | 8, _ => rfl
      | j + 9, hj => omega, noneOk, ⟨by decide, by decide, by decide, by decide, by decide, by decide⟩⟩
  | 4, _ => exact ⟨6, 0, 0, 0, _, _, _, 1, _, _, _, _, _, fun j hj => by
      match j, hj with
      | 0, _ | 1, _ | 2, _ | 3, _ | 4, _ | 5, _ | 6, _ | 7, _ | 8, _ => rfl
      | j + 9, hj => omega, noneOk, ⟨by decide, by decide, by decide, by decide, by decide, by decide⟩⟩
  | 5, _ => exact ⟨7, 0, 0, 100, _, _, _, 1, _, _, _, _, _, fun j hj => by
      match j, hj with
      | 0, _ | 1, _ | 2, _ | 3, _ | 4, _ | 5, _ | 6, _ | 7, _ | 8, _ => rfl
      | j + 9, hj => omega, ok 3 (by omega), ⟨by decide, by decide, by decide, by decide, by decide, by decide⟩⟩
  | 6, _ => exact ⟨8, 0, 40, 0, _, _, _, 0, _, _, _, _, _, fun j hj => by
      match j, hj with
      | 0, _ | 1, _ | 2, _ | 3, _ | 4, _ | 5, _ | 6, _ | 7, _ | 8, _ => rfl
      | j + 9, hj => omega, noneOk, ⟨by decide, by decide, by decide, by decide, by decide, by decide⟩⟩
  | 7, _ => exact ⟨11, 0, 0, 0, _, _, _, 0, _, _, _, _, _, fun j hj => by
      match j, hj with
      | 0, _ | 1, _ | 2, _ | 3, _ | 4, _ | 5, _ | 6, _ | 7, _ | 8, _ => rfl
      | j + 9, hj => omega, noneOk, ⟨by decide, by decide, by decide, by decide, by decide, by decide⟩⟩
  | 8, _ => exact ⟨14, 0, 0, 0, _, _, _, 0, _, _, _, _, _, fun j hj => by
      match j, hj with
      | 0, _ | 1, _ | 2, _ | 3, _ | 4, _ | 5, _ | 6, _ | 7, _ | 8, _ => rfl
      | j + 9, hj => omega, noneOk, ⟨by decide, by decide, by decide, by decide, by decide, by decide⟩⟩
  | i + 9, hi => omega
end Go.Proofs.YtflenkppcclclaaGreatDoor

namespace Go.Proofs.YtflenkppcclclaaGreatDoor
open Go.RowKit

theorem wpList_load_op {ops : Array Oper} {rest : List Oper} {o : Oper} {a : Act} {w : World} {Q : Exit → Act → World → Prop} (hgd : o.guard = none) (x : Operand) (ho : o.op = .load 70 x)
    (g q : Nat) (hx : a.eval x = .pointer (some ⟨g, q, none⟩)) (cs : Array Value) (hs : cs.size = 9) (hc : ∀ j, j < 9 → w.cell? ⟨g, q + j, none⟩ = cs[j]?)
    (h : wpList Tryz.prog ops Q rest (a.put o.dst (.agg cs)) w) : wpList Tryz.prog ops Q (o :: rest) a w := by
  refine wpList_plain hgd fun K hK => ?_
  have hl : (loadCells ⟨g, q, none⟩ cs.toList.length).run Tryz.prog w = .ok cs.toList.toArray w :=
    run_loadCells_list (P := Tryz.prog) w ⟨g, q, none⟩ cs.toList (fun j v hv => by
      have hadd : (⟨g, q, none⟩ : Addr).add j = ⟨g, q + j, none⟩ := by unfold Addr.add; split <;> simp_all
      obtain ⟨h1, _⟩ := List.getElem?_eq_some_iff.1 hv
      rw [hadd, hc j (by simp at h1; omega)]
      simpa using hv)
  obtain ⟨i, hi, hsz, _, _⟩ := opInfo
  have hagg : (isAgg 70).run Tryz.prog w = .ok true w := by
    unfold isAgg
    rw [Sem.run_bind, run_underlying Tryz.underlying70 w]
    rfl
  have hv : (loadVar 70 ⟨g, q, none⟩).run Tryz.prog w = .ok (.agg cs) w := by
    simp only [Array.length_toList, Array.toArray_toList] at hl
    simp [loadVar, Sem.run_bind, hagg, sizeOf, typeInfo, hi, hsz, ← hs, hl]
  unfold Oper.wp execOp
  simp only [ho, hx, Instr.loadAt, Instr.sureAddr, Sem.run_bind, Sem.run_pure, Result.andThen_ok, hv]
  exact hK _ _ h

/-- A script, as it came in. -/
def ScriptOk (w : World) (m : Nat) (news : List Value) : Prop :=
  ∀ i, i < m → ∃ kd p n f cv s t sd b k e L c, (∀ j, j < 9 → news[9 * i + j]? = (opC kd p n f cv s t sd (.slice b k e))[j]?) ∧ Coded w cv L c ∧ (∀ i, i < L → 0 ≤ c i ∧ c i ≤ 255) ∧ L + 8 ≤ 140737488355328 ∧ OpOk n sd s t

theorem Coded.codeOk {base M : Nat} {w w' : World} {cv : Value} {L : Nat} {c : Nat → Int} (h : Coded w cv L c) (hby : ∀ i, i < L → 0 ≤ c i ∧ c i ≤ 255) (hL : L + 8 ≤ 140737488355328) (hb : Below w.heap.size w w') (h1 : w.heap.size ≤ base) (h2 : w.heap.size ≤ M) : CodeOk base M w' cv L c where
  coded := h.keep fun g _ hlt => hb.block g hlt
  byte := hby
  most := hL
  low := by
    intro h0 g hg
    by_cases hlt : w.heap.size ≤ g
    · exact absurd hg (h.blk h0 hlt)
    · exact ⟨by omega, by omega⟩

/-- All steps: what is asked ahead of the script, and the script. -/
theorem all_steps {base M G : Nat} {w w1 w4 : World} {m : Nat} {news : List Value} (F1 : FirstIs w w1) (B : Below w1.heap.size w1 w4) (hS : ScriptOk w m news) (hb : w1.heap.size ≤ base) (hM : w1.heap.size ≤ M)
    (hc : ∀ j u, ((firstA w.heap.size).toList ++ news)[j]? = some u → w4.cell? ⟨G, j, none⟩ = some u) (i : Nat) (hi : i < 9 + m) : StepAt base M w4 (fun j => w4.cell? ⟨G, i * 9 + j, none⟩) := by
  have hz := F1.size
  have opget : ∀ (kd p n f : Int) (cv : Value) (s t : ByteArray) (sd : Int) (fv : Value) (j : Nat), j < 9 → ∃ u, (opC kd p n f cv s t sd fv)[j]? = some u := fun kd p n f cv s t sd fv j hj => by
    exact ⟨_, Array.getElem?_eq_getElem (show j < 9 from hj)⟩
  have h81 : (firstA w.heap.size).toList.length = 81 := rfl
  by_cases h9 : i < 9
  · obtain ⟨kd, p, n, f, cv, s, t, sd, b, k, e, L, c, h1, h2⟩ := first_steps (base := base) (M := M) (w' := w4) (h := w.heap.size) (fun k hk => (B.block _ (by omega)).trans (F1.code k hk)) (by omega) (by omega) i h9
    refine ⟨kd, p, n, f, cv, s, t, sd, b, k, e, L, c, fun j hj => ?_, h2⟩
    obtain ⟨u, hu⟩ := opget kd p n f cv s t sd (.slice b k e) j hj
    rw [hu]
    refine hc _ _ ?_
    rw [List.getElem?_append_left (by omega), show i * 9 + j = 9 * i + j by omega]
    have := (h1 j hj).trans hu
    simpa using this
  · obtain ⟨kd, p, n, f, cv, s, t, sd, b, k, e, L, c, h1, h2, h3, h4, h5⟩ := hS (i - 9) (by omega)
    refine ⟨kd, p, n, f, cv, s, t, sd, b, k, e, L, c, fun j hj => ?_, h2.codeOk h3 h4 (F1.below.trans (B.mono (by omega))) (by omega) (by omega), h5⟩
    obtain ⟨u, hu⟩ := opget kd p n f cv s t sd (.slice b k e) j hj
    rw [hu]
    refine hc _ _ ?_
    rw [List.getElem?_append_right (by omega), h81, show i * 9 + j - 81 = 9 * (i - 9) + j by omega]
    exact (h1 j hj).trans hu

theorem StepAt.kept {base M G i : Nat} {w w' : World} (h : StepAt base M w (fun j => w.cell? ⟨G, i * 9 + j, none⟩)) (hK : Kept base M w w') (hG : G < base) (hM : G ≠ M) : StepAt base M w' (fun j => w'.cell? ⟨G, i * 9 + j, none⟩) := by
  obtain ⟨kd, p, n, f, cv, s, t, sd, b, k, e, L, c, h1, h2, h3⟩ := h
  exact ⟨kd, p, n, f, cv, s, t, sd, b, k, e, L, c, fun j hj => (hK.cell (p := ⟨G, i * 9 + j, none⟩) hG hM).trans (h1 j hj), h2.kept hK, h3⟩

theorem book0 {M : Nat} {w : World} {t : TypeId} (h : w.heap[M]? = some (.cells #[.slice none 0 0, .slice none 0 0, .slice none 0 0, .slice none 0 0, .slice none 0 0, .slice none 0 0, .slice none 0 0, .slice none 0 0, .slice none 0 0, .slice none 0 0] t (0, 0))) (base : Nat) (hb : M < base) (hl : base ≤ w.heap.size) :
    BK base M w (fun _ => .slice none 0 0) (fun _ => []) ∧ BD M w (fun _ => .slice none 0 0) (fun _ => []) := by
  refine ⟨⟨?_, fun j => frozen_of_row _ _ _ _ _ h, fun r _ => World.ownsRow_nil _ _ _ _, fun r s _ _ _ => Or.inl rfl, hb, hl⟩, ⟨?_, ?_, ?_, rfl, rfl, rfl, rfl, rfl⟩⟩
  · intro r hr
    rw [cell_of_row _ _ _ _ _ _ h]
    match r, hr with
    | 0, _ | 1, _ | 2, _ | 3, _ | 4, _ | 5, _ | 6, _ | 7, _ | 8, _ | 9, _ => rfl
    | r + 10, hr => omega
  · intro i v h; simp at h
  · intro i v h; simp at h
  · intro i v h; simp at h
end Go.Proofs.YtflenkppcclclaaGreatDoor

namespace Go.Proofs.YtflenkppcclclaaGreatDoor
open Go.RowKit
set_option maxHeartbeats 2000000 in
set_option maxRecDepth 100000 in
theorem played_runs (w : World) (a : Option Addr) (m c : Nat) (news : List Value) (hl : news.length = m * 9)
    (hnews : ∀ ad, a = some ad → ∀ j u, news[j]? = some u → w.cell? (ad.add j) = some u) (hn : a = none → m = 0) (hb : (9 + m) * 120 ≤ 140737488355328) (hT : Tab w) (hS : ScriptOk w m news) :
    Calls Tryz.prog 11 #[.slice a m c, .int .i64 2] w fun e w' => e = .returned (.bool true) ∧ Below w.heap.size w w' := by
  obtain ⟨w1, hw1⟩ : ∃ w1, firstW w = w1 := ⟨_, rfl⟩
  have F1 : FirstIs w w1 := hw1 ▸ first_is w
  have HF : Hid (FirstIs w w1) := F1
  have hz1 := F1.size
  have hr1 : Hid (w1.heap[w.heap.size + 5]? = some (.cells (firstA w.heap.size) 70 (0, 0))) := F1.row
  have hnews1 : Hid (∀ ad, a = some ad → ∀ j u, news[j]? = some u → w1.cell? (ad.add j) = some u) := fun ad h j u hj => (F1.below.cell (p := ad.add j) (block_lt_of_cell (hnews ad h j u hj))).trans (hnews ad h j u hj)
  have HFI : Hid (Calls Tryz.prog 25 #[] w fun e w' => e = .returned (.slice (some ⟨w.heap.size + 5, 0, none⟩) 9 9) ∧ w' = w1) := by
    rw [← hw1]; exact first_any w
  have HS : Hid (ScriptOk w m news) := hS
  have HT : Hid (Tab w) := hT
  have HL : Hid (news.length = m * 9) := hl
  have HN : Hid (a = none → m = 0) := hn
  have hw0 : 0 < w.heap.size := by
    have := hT 0 (by omega)
    exact block_lt_of_cell this
  clear hw1 F1 hnews hS hT hl hn
  go_enter Tryz.func11, Tryz.ntmps11
  go_wp2_with fail
  refine HFI.out.mono ?_
  rintro _ w2 ⟨rfl, hw2⟩
  obtain rfl := hw2.symm
  go_wp2_with (at_builtin; refine wpList_append_first rfl (.tmp 10) (.tmp 11) rfl (w.heap.size + 5) (firstA w.heap.size) hr1.out rfl a m c news HL.out hnews1.out HN.out hb rfl rfl ?_)
  intro G c' w2 A2
  have HA : Hid (AppFirst w1 w2 G c' m ((firstA w.heap.size).toList ++ news)) := A2
  have hz2 := A2.below.size
  have hG := A2.lt
  have hc1 := A2.room
  have hc2 := A2.room'
  clear A2 hr1 hnews1 HFI
  go_wp2_with fail
  have hBK : Below w2.heap.size w2 ((w2.alloc (.cells #[.slice none 0 0, .slice none 0 0, .slice none 0 0, .slice none 0 0, .slice none 0 0, .slice none 0 0, .slice none 0 0, .slice none 0 0, .slice none 0 0, .slice none 0 0] 65)).alloc (.cells #[.pointer (some ⟨w2.heap.size, 0, none⟩), .slice none 0 0] 68)) := ((Below.refl _ _).alloc (Nat.le_refl _) _).alloc (by simp) _
  have hz3 : ((w2.alloc (.cells #[.slice none 0 0, .slice none 0 0, .slice none 0 0, .slice none 0 0, .slice none 0 0, .slice none 0 0, .slice none 0 0, .slice none 0 0, .slice none 0 0, .slice none 0 0] 65)).alloc (.cells #[.pointer (some ⟨w2.heap.size, 0, none⟩), .slice none 0 0] 68)).heap.size = w2.heap.size + 2 := by simp
  have hM3 : ((w2.alloc (.cells #[.slice none 0 0, .slice none 0 0, .slice none 0 0, .slice none 0 0, .slice none 0 0, .slice none 0 0, .slice none 0 0, .slice none 0 0, .slice none 0 0, .slice none 0 0] 65)).alloc (.cells #[.pointer (some ⟨w2.heap.size, 0, none⟩), .slice none 0 0] 68)).heap[w2.heap.size]? = some (.cells #[.slice none 0 0, .slice none 0 0, .slice none 0 0, .slice none 0 0, .slice none 0 0, .slice none 0 0, .slice none 0 0, .slice none 0 0, .slice none 0 0, .slice none 0 0] 65 (0, 0)) := heap_alloc2_old w2 _ _
  have hW3 : ((w2.alloc (.cells #[.slice none 0 0, .slice none 0 0, .slice none 0 0, .slice none 0 0, .slice none 0 0, .slice none 0 0, .slice none 0 0, .slice none 0 0, .slice none 0 0, .slice none 0 0] 65)).alloc (.cells #[.pointer (some ⟨w2.heap.size, 0, none⟩), .slice none 0 0] 68)).heap[w2.heap.size + 1]? = some (.cells #[.pointer (some ⟨w2.heap.size, 0, none⟩), .slice none 0 0] 68 (0, 0)) := heap_alloc2_new w2 _ _
  generalize ((w2.alloc (.cells #[.slice none 0 0, .slice none 0 0, .slice none 0 0, .slice none 0 0, .slice none 0 0, .slice none 0 0, .slice none 0 0, .slice none 0 0, .slice none 0 0, .slice none 0 0] 65)).alloc (.cells #[.pointer (some ⟨w2.heap.size, 0, none⟩), .slice none 0 0] 68)) = w3 at *
  have A := HA.out
  have B13 : Below w1.heap.size w1 w3 := A.below.trans (hBK.mono hz2)
  have B03 : Below w.heap.size w w3 := HF.out.below.trans (B13.mono (by omega))
  obtain ⟨bk0, bd0⟩ := book0 hM3 (w2.heap.size + 2) (by omega) (by omega)
  have ws0 : WS (w2.heap.size + 2) w2.heap.size (w2.heap.size + 1) w3 := ⟨cell_of_row _ _ _ _ _ _ hW3, cell_of_row _ _ _ _ _ _ hW3, by omega, by omega⟩
  have HST : Hid (∀ i, i < 9 + m → StepAt (w2.heap.size + 2) w2.heap.size w3 (fun j => w3.cell? ⟨G, i * 9 + j, none⟩)) := fun i hi =>
    all_steps HF.out B13 HS.out (by omega) (by omega) (fun j u hj => (hBK.cell (p := ⟨G, j, none⟩) hG).trans (A.cell j u hj)) i hi
  have HB0 : Hid (Below w.heap.size w w3) := B03
  have HT3 : Hid (Tab w3) := HT.out.below B03
  have HBK0 : Hid (BK (w2.heap.size + 2) w2.heap.size w3 (fun _ => .slice none 0 0) (fun _ => []) ∧ BD w2.heap.size w3 (fun _ => .slice none 0 0) (fun _ => []) ∧ WS (w2.heap.size + 2) w2.heap.size (w2.heap.size + 1) w3) := ⟨bk0, bd0, ws0⟩
  generalize w2.heap.size = M at *
  clear hM3 hW3 A B13 B03 bk0 bd0 ws0 HA HS HT HF hBK HL HN
  have hm1 : (m : Int) * 120 ≤ 140737488355328 := by omega
  go_loopw [7, 8] (fun ok i wr => ∃ (k : Nat) (F : Nat → Value) (X : Nat → List Value), k ≤ 9 + m ∧ ok = .bool true ∧ i = .int .i64 k ∧ BK (M + 2) M wr F X ∧ BD M wr F X ∧ Kept (M + 2) M w3 wr ∧ (X 0).length ≤ 4 * k ∧ (X 8).length ≤ k ∧ (X 1).length ≤ 4 * k) (fun _ i _ => 9 + m - (intOf i).toNat)
  case atStart => exact ⟨0, _, _, by omega, rfl, rfl, HBK0.out.1, HBK0.out.2.1, Kept.refl _ _ _, by simp, by simp, by simp⟩
  case round =>
    obtain ⟨k, F, X, hk, rfl, rfl, bk, bd, hK, x0, x8, x1⟩ := hrel
    have hM0 : 0 < M := by omega
    have ws : WS (M + 2) M (M + 1) wr := HBK0.out.2.2.kept hK
    have tb : Tab wr := hK.tab hM0 (by omega) HT3.out
    have wb := ws.book
    have HLK : Hid (∀ (w4 : World) (F4 : Nat → Value) (X4 : Nat → List Value), BK (M + 2) M w4 F4 X4 → BD M w4 F4 X4 → (X4 0).length ≤ 4 * (k + 1) → (X4 8).length ≤ k + 1 → (X4 1).length ≤ 4 * (k + 1) → Calls Tryz.prog 27 #[.pointer (some ⟨M, 0, none⟩)] w4 fun e w' => e = .returned (.bool true) ∧ Sm w4 w') := fun w4 F4 X4 b4 d4 y0 y8 y1 =>
      looks_any (M + 2) M w4 F4 X4 b4 d4 (by omega) (by omega) (by have := d4.len04; omega) (by omega)
    by_cases hlt : k < 9 + m
    · obtain ⟨kd, p, n, f, cv, s, t, sd, b, q, e, L, c, hc, C, _⟩ := (HST.out k hlt).kept hK (by omega) (by omega)
      have HCL : Hid (∀ j, j < 9 → wr.cell? ⟨G, k * 9 + j, none⟩ = (opC kd p n f cv s t sd (.slice b q e))[j]?) := hc
      have h0 : wr.cell? ⟨G, k * 9, none⟩ = some (.int .i64 kd) := hc 0 (by omega)
      have hi1 : (k : Int) < ((9 + m : Nat) : Int) := by omega
      by_cases h2 : kd ≤ 2
      · have HSR : Hid (Calls Tryz.prog 26 #[.pointer (some ⟨M + 1, 0, none⟩), .agg (opC kd p n f cv s t sd (.slice b q e))] wr (Stepped (M + 2) M wr X)) :=
          step_runs (M + 2) M (M + 1) wr F X bk bd ws tb kd p n f h2 cv L c C s t sd b q e (by omega) (by omega) (by omega)
        clear bk bd ws tb hc C
        go_wp2_with (refine wpList_load_op rfl _ rfl G (k * 9) rfl (opC kd p n f cv s t sd (.slice b q e)) rfl HCL.out ?_)
        refine HSR.out.mono ?_
        rintro _ w4 ⟨rfl, F4, X4, bk4, bd4, hK4, y0, y8, y1⟩
        have hK04 : Kept (M + 2) M w3 w4 := hK.trans hK4
        have wb4 := (HBK0.out.2.2.kept hK04).book
        have HL4 : Hid (Calls Tryz.prog 27 #[.pointer (some ⟨M, 0, none⟩)] w4 fun e w' => e = .returned (.bool true) ∧ Sm w4 w') := HLK.out w4 F4 X4 bk4 bd4 (by omega) (by omega) (by omega)
        have HFIN : Hid (∀ w5, Sm w4 w5 → BK (M + 2) M w5 F4 X4 ∧ BD M w5 F4 X4 ∧ Kept (M + 2) M w3 w5 ∧ (X4 0).length ≤ 4 * (k + 1) ∧ (X4 8).length ≤ k + 1 ∧ (X4 1).length ≤ 4 * (k + 1)) := fun w5 s5 =>
          ⟨bk4.sm s5, bd4.sm s5, hK04.trans (Kept.of_below (s5.below _)), by omega, by omega, by omega⟩
        clear bk4 bd4 hK4 hK04 hK HSR HCL h0 HLK
        go_wp2_with fail
        refine HL4.out.mono ?_
        rintro _ w5 ⟨rfl, s5⟩
        have HF5 := HFIN.out w5 s5
        have HR : Hid (BK (M + 2) M w5 F4 X4 ∧ BD M w5 F4 X4 ∧ Kept (M + 2) M w3 w5 ∧ (X4 0).length ≤ 4 * (k + 1) ∧ (X4 8).length ≤ k + 1 ∧ (X4 1).length ≤ 4 * (k + 1)) := HF5
        clear HF5 HFIN s5 HL4 wb wb4 y0 y8 y1 x0 x8 x1
        go_wp2_with fail
        go_roundw
        case rel => exact ⟨k + 1, F4, X4, by omega, rfl, by go_num, HR.out⟩
        case measure => simp [intOf]; omega
      · have HL4 : Hid (Calls Tryz.prog 27 #[.pointer (some ⟨M, 0, none⟩)] wr fun e w' => e = .returned (.bool true) ∧ Sm wr w') := HLK.out wr F X bk bd (by omega) (by omega) (by omega)
        have HFIN : Hid (∀ w5, Sm wr w5 → BK (M + 2) M w5 F X ∧ BD M w5 F X ∧ Kept (M + 2) M w3 w5 ∧ (X 0).length ≤ 4 * (k + 1) ∧ (X 8).length ≤ k + 1 ∧ (X 1).length ≤ 4 * (k + 1)) := fun w5 s5 =>
          ⟨bk.sm s5, bd.sm s5, hK.trans (Kept.of_below (s5.below _)), by omega, by omega, by omega⟩
        clear bk bd ws tb hc C hK HCL HLK x0 x8 x1
        go_wp2_with fail
        refine HL4.out.mono ?_
        rintro _ w5 ⟨rfl, s5⟩
        have HF5 := HFIN.out w5 s5
        have HR : Hid (BK (M + 2) M w5 F X ∧ BD M w5 F X ∧ Kept (M + 2) M w3 w5 ∧ (X 0).length ≤ 4 * (k + 1) ∧ (X 8).length ≤ k + 1 ∧ (X 1).length ≤ 4 * (k + 1)) := HF5
        clear HF5 HFIN s5 HL4 wb h0
        go_wp2_with fail
        go_roundw
        case rel => exact ⟨k + 1, F, X, by omega, rfl, by go_num, HR.out⟩
        case measure => simp [intOf]; omega
    · have e : k = 9 + m := by omega
      subst e
      have hnn : ¬ ((9 + m : Nat) : Int) < ((9 + m : Nat) : Int) := by omega
      have HE : Hid (Below w.heap.size w wr) := by
        have h1 := HB0.out
        refine ⟨hK.os.trans h1.os, hK.tape.trans h1.tape, hK.output.trans h1.output, Nat.le_trans h1.size hK.size, fun j hj => ?_⟩
        rw [hK.block j (by omega) (by omega)]
        exact h1.block j hj
      clear bk bd ws tb hK HLK wb
      go_wp2_with fail
      go_ret
      exact ⟨rfl, HE.out⟩
end Go.Proofs.YtflenkppcclclaaGreatDoor

namespace Go.Proofs.YtflenkppcclclaaGreatDoor
open Go.ChangeShapes Go.WideShapes Go.ChangeAt Go.WideMaps Go.WideElems Go.RowKit Go.Deep

theorem gShapes : (Rows.runsRow.named.head?.bind fun s => Tryz.prog.globalNamed s) = some 0 := by kernel_rfl
theorem tShapes : (Tryz.prog.globals[0]?).map (·.type) = some 224 := by kernel_rfl
theorem Tryz.cellsInt : Tryz.prog.cellsOf 3 = 1 := by kernel_rfl
theorem Tryz.cellsShape : Tryz.prog.cellsOf 179 = 3 := by kernel_rfl

theorem one_of {cs : List Value} {r : Nat} {v : Value} (h : (cs.drop r).take 1 = [v]) : cs[r]? = some v := by
  have : ((cs.drop r).take 1)[0]? = some v := by rw [h]; rfl
  rw [List.getElem?_take, if_pos (by omega), List.getElem?_drop, Nat.add_zero] at this
  exact this

theorem shape_cells {H : Type} {enc : TypeId × Value → H} {W : World} {base : Nat} {spare : Nat → Bool} {held : Bool} {m : Nat} {cs : List Value} {x : DataW H × List MemPlace} {a b c : Int}
    (h : DataW.trod enc Tryz.prog W base spare held m 179 cs = some x) (hx : x.1 = .agg [.lit (.int .i64 a), .lit (.int .i64 b), .lit (.int .i64 c)]) :
    cs[0]? = some (.int .i64 a) ∧ cs[1]? = some (.int .i64 b) ∧ cs[2]? = some (.int .i64 c) := by
  obtain ⟨y0, y1, y2, n, rfl, hlen, e0, e1, e2⟩ := trod_struct3 Tryz.underlying179 h
  simp only [Tryz.cellsInt] at e0 e1 e2
  obtain ⟨k0, c0, d0, _⟩ := DataW.trod_int Tryz.underlying3 e0
  obtain ⟨k1, c1, d1, _⟩ := DataW.trod_int Tryz.underlying3 e1
  obtain ⟨k2, c2, d2, _⟩ := DataW.trod_int Tryz.underlying3 e2
  rw [d0, d1, d2] at hx
  simp only [DataW.agg.injEq, List.cons.injEq, DataW.lit.injEq, Lit.int.injEq, and_true, true_and] at hx
  obtain ⟨rfl, rfl, rfl⟩ := hx
  exact ⟨one_of c0, one_of c1, one_of c2⟩

/-- The condition gives the table, cell by cell. -/
theorem tab_of_laid {W : World} (h : laidMetH Tryz.prog Rows.runsRow.laid W) : Tab W := by
  rw [MakeChecks.laidMetH_plain _ _ _ (by kernel_rfl)] at h
  obtain ⟨ps, ⟨g0, t0, cs0, f0, p0, q0, hg0, ht0, hv0, hd0, _⟩, _, _⟩ := h
  obtain rfl := Option.some.inj (gShapes.symm.trans hg0)
  obtain rfl := Option.some.inj (tShapes.symm.trans ht0)
  obtain ⟨xs, m1, rfl, hx, hlen, hn, hel⟩ := DataW.trod_array Tryz.underlying224 hd0
  simp only [Prod.mk.injEq] at hx
  have hcell := fun j => World.var?_cell hg0 hv0 j
  intro k hk
  obtain ⟨i, r, hr, rfl⟩ : ∃ i r, r < 3 ∧ k = i * 3 + r := ⟨k / 3, k % 3, by omega, by omega⟩
  have hi : i < 21 := by omega
  have hxi : (xs.map (·.1))[i]? = some (.agg [.lit (.int .i64 (shp (i * 3))), .lit (.int .i64 (shp (i * 3 + 1))), .lit (.int .i64 (shp (i * 3 + 2)))]) := by
    have e : (DataW.agg (xs.map (·.1)) : DataW Unit) = Rows.laid_prowl_program_shapes := hx.1.symm
    unfold Rows.laid_prowl_program_shapes at e
    simp only [DataW.agg.injEq] at e
    rw [e]
    match i, hi with
    | 0, _ | 1, _ | 2, _ | 3, _ | 4, _ | 5, _ | 6, _ | 7, _ | 8, _ | 9, _ | 10, _ | 11, _ | 12, _ | 13, _ | 14, _ | 15, _ | 16, _ | 17, _ | 18, _ | 19, _ | 20, _ => rfl
    | i + 21, hi => omega
  rw [List.getElem?_map, Option.map_eq_some_iff] at hxi
  obtain ⟨x, hx1, hx2⟩ := hxi
  have he := hel i hi
  rw [hx1, Tryz.cellsShape] at he
  obtain ⟨a0, a1, a2⟩ := shape_cells he hx2
  have hc : ∀ r, r < 3 → ∀ v, ((cs0.toList.drop (i * 3)).take 3)[r]? = some v → W.cell? ⟨0, i * 3 + r, none⟩ = some v := by
    intro r hr v hv
    rw [List.getElem?_take, if_pos hr, List.getElem?_drop] at hv
    rw [hcell]
    simpa using hv
  match r, hr with
  | 0, _ => exact hc 0 (by omega) _ a0
  | 1, _ => exact hc 1 (by omega) _ a1
  | 2, _ => exact hc 2 (by omega) _ a2
  | r + 3, hr => omega
end Go.Proofs.YtflenkppcclclaaGreatDoor

namespace Go.Proofs.YtflenkppcclclaaGreatDoor
open Go.ChangeShapes Go.WideShapes Go.ChangeAt Go.RowKit Go.Deep

theorem Tryz.cellsOp : Tryz.prog.cellsOf 70 = 9 := by kernel_rfl
theorem Tryz.cellsBytes : Tryz.prog.cellsOf 25 = 1 := by kernel_rfl
theorem Tryz.cellsStr : Tryz.prog.cellsOf 9 = 1 := by kernel_rfl
theorem Tryz.cellsU64 : Tryz.prog.cellsOf 27 = 1 := by kernel_rfl
theorem Tryz.cellsStrs : Tryz.prog.cellsOf 26 = 1 := by kernel_rfl
theorem Tryz.cellsU8 : Tryz.prog.cellsOf 5 = 1 := by kernel_rfl
theorem Tryz.bytesOp : Tryz.prog.bytesOf 70 = 120 := by kernel_rfl
theorem Tryz.bytesU8 : Tryz.prog.bytesOf 5 = 1 := by kernel_rfl

/-- Bytes that came in, as the walk takes them. -/
theorem bytes_coded {W : World} {a : Addr} {len cap : Nat} {zs : List Int} (hl : len ≤ cap) (hm : cap ≤ maxLen) (hz : zs.length = cap)
    (hcell : ∀ i, i < zs.length → W.cell? (a.add i) = some (.int .u8 (zs.getD i 0))) (hwz : ∀ n ∈ zs, (Lit.int .u8 n).wf = true) :
    Coded W (.slice (some a) len cap) len (fun i => zs.getD i 0) ∧ ∀ i, i < len → 0 ≤ zs.getD i 0 ∧ zs.getD i 0 ≤ 255 := by
  constructor
  · by_cases h0 : len = 0
    · subst h0; exact .bare (some a) cap rfl rfl
    · obtain ⟨b, off, spot⟩ := a
      have hspot : spot = none := by simpa [Addr.add] using World.cell?_spot (hcell 0 (by omega))
      subst hspot
      exact .full b off cap rfl ⟨fun i hi => by rw [← add_plain]; exact hcell i (by omega), hl, hm, by omega⟩
  · intro i hi
    have := range_u8 hwz i
    rw [List.getD_eq_getElem?_getD]
    exact this

theorem weights_all {H : Type} {P : Program} {e : TypeId} : ∀ {l : List (DataW H)} {d : DataW H}, d ∈ l → ∀ n ∈ d.weights P e, n ∈ DataW.weightsAll P e l
  | d0 :: l, d, hd, n, hn => by
    simp only [DataW.weightsAll, List.mem_append]
    rcases List.mem_cons.1 hd with h | h
    · subst h; exact Or.inl hn
    · exact Or.inr (weights_all h n hn)

set_option maxRecDepth 100000 in
theorem op_open {H : Type} {enc : TypeId × Value → H} {W : World} {n0 : Nat} {cs : List Value} {x : DataW H × List MemPlace} (h : DataW.trod enc Tryz.prog W 0 (fun _ => true) true n0 70 cs = some x)
    (hw : ∀ k ∈ x.1.weights Tryz.prog 70, k ≤ reachBytes) :
    ∃ kd p n f cv s t sd b k e L c, (∀ j, j < 9 → cs[j]? = (opC kd p n f cv s t sd (.slice b k e))[j]?) ∧ Coded W cv L c ∧ (∀ i, i < L → 0 ≤ c i ∧ c i ≤ 255) ∧ L + 8 ≤ 140737488355328 ∧ OpOk n sd s t := by
  obtain ⟨xs, m, _, rfl, hl, hlen, hf⟩ := DataW.trod_struct Tryz.underlying70 h
  match xs, hlen with
  | [y0, y1, y2, y3, y4, y5, y6, y7, y8], _ =>
    have e0 : DataW.trod enc Tryz.prog W 0 (fun _ => true) true m 3 ((cs.drop 0).take (Tryz.prog.cellsOf 3)) = some y0 := hf 0 _ rfl
    rw [Tryz.cellsInt] at e0
    have e1 : DataW.trod enc Tryz.prog W 0 (fun _ => true) true m 3 ((cs.drop 1).take (Tryz.prog.cellsOf 3)) = some y1 := hf 1 _ rfl
    rw [Tryz.cellsInt] at e1
    have e2 : DataW.trod enc Tryz.prog W 0 (fun _ => true) true m 3 ((cs.drop 2).take (Tryz.prog.cellsOf 3)) = some y2 := hf 2 _ rfl
    rw [Tryz.cellsInt] at e2
    have e3 : DataW.trod enc Tryz.prog W 0 (fun _ => true) true m 3 ((cs.drop 3).take (Tryz.prog.cellsOf 3)) = some y3 := hf 3 _ rfl
    rw [Tryz.cellsInt] at e3
    have e4 : DataW.trod enc Tryz.prog W 0 (fun _ => true) true m 25 ((cs.drop 4).take (Tryz.prog.cellsOf 25)) = some y4 := hf 4 _ rfl
    rw [Tryz.cellsBytes] at e4
    have e5 : DataW.trod enc Tryz.prog W 0 (fun _ => true) true m 9 ((cs.drop 5).take (Tryz.prog.cellsOf 9)) = some y5 := hf 5 _ rfl
    rw [Tryz.cellsStr] at e5
    have e6 : DataW.trod enc Tryz.prog W 0 (fun _ => true) true m 9 ((cs.drop 6).take (Tryz.prog.cellsOf 9)) = some y6 := hf 6 _ rfl
    rw [Tryz.cellsStr] at e6
    have e7 : DataW.trod enc Tryz.prog W 0 (fun _ => true) true m 27 ((cs.drop 7).take (Tryz.prog.cellsOf 27)) = some y7 := hf 7 _ rfl
    rw [Tryz.cellsU64] at e7
    have e8 : DataW.trod enc Tryz.prog W 0 (fun _ => true) true m 26 ((cs.drop 8).take (Tryz.prog.cellsOf 26)) = some y8 := hf 8 _ rfl
    rw [Tryz.cellsStrs] at e8
    obtain ⟨k0, c0, _, _⟩ := DataW.trod_int Tryz.underlying3 e0
    obtain ⟨k1, c1, _, _⟩ := DataW.trod_int Tryz.underlying3 e1
    obtain ⟨k2, c2, _, wf2⟩ := DataW.trod_int Tryz.underlying3 e2
    obtain ⟨k3, c3, _, _⟩ := DataW.trod_int Tryz.underlying3 e3
    obtain ⟨s5, c5, _, wf5⟩ := DataW.trod_string Tryz.underlying9 e5
    obtain ⟨s6, c6, _, wf6⟩ := DataW.trod_string Tryz.underlying9 e6
    obtain ⟨k7, c7, _, wf7⟩ := DataW.trod_int Tryz.underlying27 e7
    have hc8 : ∃ b k e, cs[8]? = some (.slice b k e) := by
      rcases DataW.trod_slice Tryz.underlying26 e8 with ⟨c8, _⟩ | ⟨a, len, cap, _, _, _, _, c8, _⟩
      · exact ⟨_, _, _, one_of c8⟩
      · exact ⟨_, _, _, one_of c8⟩
    obtain ⟨b, k, e, c8⟩ := hc8
    have hw4 : ∀ k ∈ y4.1.weights Tryz.prog 25, k ≤ reachBytes := fun k hk => hw k (by
      simp only [DataW.weights, Tryz.underlying70]
      exact DataW.weights_mem_each (j := 4) rfl rfl k hk)
    have hcode : ∃ cv L c, cs[4]? = some cv ∧ Coded W cv L c ∧ (∀ i, i < L → 0 ≤ c i ∧ c i ≤ 255) ∧ L + 8 ≤ 140737488355328 := by
      rcases open_ints Tryz.underlying25 Tryz.underlying5 Tryz.cellsU8 e4 with ⟨c4, _⟩ | ⟨a, len, cap, zs, c4, _, hl, hm, hz, hy, hcell, hwz⟩
      · exact ⟨_, 0, fun _ => 0, one_of c4, .bare none 0 rfl rfl, fun i hi => by omega, by omega⟩
      · simp only [if_true] at hz
        obtain ⟨C, hby⟩ := bytes_coded hl hm hz hcell hwz
        refine ⟨_, len, _, one_of c4, C, hby, ?_⟩
        have := hw4 ((lits .u8 (zs.take len)).length + (lits .u8 (zs.drop len)).length) (by
          rw [hy]
          simp only [DataW.weights, Tryz.underlying25, Tryz.bytesU8, Nat.mul_one]
          exact List.mem_cons_self)
        simp only [lits, List.length_map, List.length_take, List.length_drop, reachBytes] at this
        omega
    obtain ⟨cv, L, c, c4, C, hby, hL⟩ := hcode
    have opok : OpOk k2 k7 s5 s6 := by
      simp [Lit.wf, IntKind.min, IntKind.max, IntKind.signed, IntKind.bits] at wf2 wf7
      unfold maxLen at wf5 wf6
      exact ⟨by omega, by omega, by omega, by omega, by omega, by omega⟩
    refine ⟨k0, k1, k2, k3, cv, s5, s6, k7, b, k, e, L, c, fun j hj => ?_, C, hby, hL, opok⟩
    match j, hj with
    | 0, _ => exact one_of c0
    | 1, _ => exact one_of c1
    | 2, _ => exact one_of c2
    | 3, _ => exact one_of c3
    | 4, _ => exact c4
    | 5, _ => exact one_of c5
    | 6, _ => exact one_of c6
    | 7, _ => exact one_of c7
    | 8, _ => exact c8
    | j + 9, hj => omega

theorem script_open {H : Type} {enc : TypeId × Value → H} {W : World} {a0 : Option Addr} {len cap fuel : Nat} {x : DataW H × List MemPlace} (h : DataW.trod enc Tryz.prog W 0 (fun _ => true) true fuel 22 [.slice a0 len cap] = some x)
    (hw : ∀ k ∈ x.1.weights Tryz.prog 22, k ≤ reachBytes) :
    ∃ news : List Value, news.length = len * 9 ∧ (∀ ad, a0 = some ad → ∀ j u, news[j]? = some u → W.cell? (ad.add j) = some u) ∧ (a0 = none → len = 0) ∧ (9 + len) * 120 ≤ 140737488355328 ∧ ScriptOk W len news := by
  rcases open_slice Tryz.underlying22 h with ⟨hcs, _⟩ | ⟨a, len', cap', m, n, D, Pl, hcs, _, hl, hm, hmm, rfl, hx⟩
  · simp at hcs
    obtain ⟨rfl, rfl, rfl⟩ := hcs
    exact ⟨[], rfl, fun ad h => (by cases h), fun _ => rfl, by omega, fun i hi => by omega⟩
  · simp at hcs
    obtain ⟨rfl, rfl, rfl⟩ := hcs
    simp only [if_true] at hmm
    subst hmm
    rw [Tryz.cellsOp] at hx
    simp only [DataW.weights, Tryz.underlying22, Tryz.bytesOp] at hw
    have hcnt := hw _ List.mem_cons_self
    simp only [List.length_map, List.length_range, reachBytes] at hcnt
    have hel : ∀ i, i < len → ∃ cs' : List Value, (∀ j, j < 9 → W.cell? (a.add (i * 9 + j)) = cs'[j]?) ∧ ∃ kd p n f cv s t sd b k e L c, (∀ j, j < 9 → cs'[j]? = (opC kd p n f cv s t sd (.slice b k e))[j]?) ∧ Coded W cv L c ∧ (∀ i, i < L → 0 ≤ c i ∧ c i ≤ 255) ∧ L + 8 ≤ 140737488355328 ∧ OpOk n sd s t := by
      intro i hi
      obtain ⟨cs', h1, h2⟩ := hx i (by omega)
      obtain ⟨_, _, h3⟩ := World.cells?_some h1
      refine ⟨cs', fun j hj => by rw [← add_add]; exact h3 j hj, op_open h2 fun k hk => hw k (List.mem_cons_of_mem _ (List.mem_append_left _ (weights_all (List.mem_map.2 ⟨i, List.mem_range.2 hi, rfl⟩) k hk)))⟩
    have hsome : ∀ t, t < len * 9 → ∃ u, W.cell? (a.add t) = some u := by
      intro t ht
      obtain ⟨cs', h1, _, _, _, _, _, _, _, _, _, _, _, _, _, h2, _⟩ := hel (t / 9) (by omega)
      have h3 := h1 (t % 9) (by omega)
      rw [h2 (t % 9) (by omega), show t / 9 * 9 + t % 9 = t by omega] at h3
      exact ⟨_, h3.trans (Array.getElem?_eq_getElem (show t % 9 < 9 by omega))⟩
    have hget : ∀ t, t < len * 9 → ((List.range (len * 9)).map fun t => (W.cell? (a.add t)).getD undef)[t]? = W.cell? (a.add t) := by
      intro t ht
      obtain ⟨u, hu⟩ := hsome t ht
      rw [List.getElem?_map, List.getElem?_range ht, Option.map_some, hu]
      rfl
    refine ⟨(List.range (len * 9)).map fun t => (W.cell? (a.add t)).getD undef, by simp, ?_, fun h => (by cases h), by omega, ?_⟩
    · intro ad had j u hj
      obtain rfl := Option.some.inj had
      obtain ⟨hlt, _⟩ := List.getElem?_eq_some_iff.1 hj
      rw [← hget j (by simpa using hlt)]
      exact hj
    · intro i hi
      obtain ⟨cs', h1, kd, p, n, f, cv, s, t, sd, b, k, e, L, c, h2, h3⟩ := hel i hi
      refine ⟨kd, p, n, f, cv, s, t, sd, b, k, e, L, c, fun j hj => ?_, h3⟩
      rw [hget _ (by omega), show 9 * i + j = i * 9 + j by omega]
      exact (h1 j hj).trans (h2 j hj)
end Go.Proofs.YtflenkppcclclaaGreatDoor

