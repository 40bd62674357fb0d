import Derived.Test.YtebnlafjepfkdaaGreatDoorM40
import Derived.Test.YtebnlafjepfkdaaGreatDoorM00
import Derived.Test.YtebnlafjepfkdaaGreatDoorRows
import Derived.ProofKit
import Derived.LaidMore
import Derived.OpenShut
import Derived.Stop.Joined
import Derived.Deep.Strs
namespace Go.Proofs.YtebnlafjepfkdaaGreatDoor
open Go.RowKit

theorem wpList_load_op {ops : Array Oper} {rest : List Oper} {o : Oper} {a : Act} {w : World} {Q : Exit → Act → World → Prop} (hgd : o.guard = none) (x : Operand) (ho : o.op = .load 43 x)
    (g q : Nat) (hx : a.eval x = .pointer (some ⟨g, q, none⟩)) (cs : Array Value) (hs : cs.size = 9) (hc : ∀ j, j < 9 → w.cell? ⟨g, q + j, none⟩ = cs[j]?)
    (h : wpList Tryz.prog ops Q rest (a.put o.dst (.agg cs)) w) : wpList Tryz.prog ops Q (o :: rest) a w := by
  refine wpList_plain hgd fun K hK => ?_
  have hl : (loadCells ⟨g, q, none⟩ cs.toList.length).run Tryz.prog w = .ok cs.toList.toArray w :=
    run_loadCells_list (P := Tryz.prog) w ⟨g, q, none⟩ cs.toList (fun j v hv => by
      have hadd : (⟨g, q, none⟩ : Addr).add j = ⟨g, q + j, none⟩ := by unfold Addr.add; split <;> simp_all
      obtain ⟨h1, _⟩ := List.getElem?_eq_some_iff.1 hv
      rw [hadd, hc j (by simp at h1; omega)]
      simpa using hv)
  obtain ⟨i, hi, hsz, _, _⟩ := opInfo
  have hagg : (isAgg 43).run Tryz.prog w = .ok true w := by
    unfold isAgg
    rw [Sem.run_bind, run_underlying Tryz.underlying43 w]
    rfl
  have hv : (loadVar 43 ⟨g, q, none⟩).run Tryz.prog w = .ok (.agg cs) w := by
    simp only [Array.length_toList, Array.toArray_toList] at hl
    simp [loadVar, Sem.run_bind, hagg, sizeOf, typeInfo, hi, hsz, ← hs, hl]
  unfold Oper.wp execOp
  simp only [ho, hx, Instr.loadAt, Instr.sureAddr, Sem.run_bind, Sem.run_pure, Result.andThen_ok, hv]
  exact hK _ _ h

/-- A script, as it came in. -/
def ScriptOk (w : World) (m : Nat) (news : List Value) : Prop :=
  ∀ i, i < m → ∃ kd p n f cv s t sd b k e L c, (∀ j, j < 9 → news[9 * i + j]? = (opC kd p n f cv s t sd (.slice b k e))[j]?) ∧ Coded w cv L c ∧ (∀ i, i < L → 0 ≤ c i ∧ c i ≤ 255) ∧ L + 8 ≤ 140737488355328

theorem Coded.codeOk {base M : Nat} {w w' : World} {cv : Value} {L : Nat} {c : Nat → Int} (h : Coded w cv L c) (hby : ∀ i, i < L → 0 ≤ c i ∧ c i ≤ 255) (hL : L + 8 ≤ 140737488355328) (hb : Below w.heap.size w w') (h1 : w.heap.size ≤ base) (h2 : w.heap.size ≤ M) : CodeOk base M w' cv L c where
  coded := h.keep fun g _ hlt => hb.block g hlt
  byte := hby
  most := hL
  low := by
    intro h0 g hg
    by_cases hlt : w.heap.size ≤ g
    · exact absurd hg (h.blk h0 hlt)
    · exact ⟨by omega, by omega⟩

/-- All steps: what is asked ahead of the script, and the script. -/
theorem all_steps {base M G : Nat} {w w1 w4 : World} {m : Nat} {news : List Value} (F1 : FirstIs w w1) (B : Below w1.heap.size w1 w4) (hS : ScriptOk w m news) (hb : w1.heap.size ≤ base) (hM : w1.heap.size ≤ M)
    (hc : ∀ j u, ((firstA w.heap.size).toList ++ news)[j]? = some u → w4.cell? ⟨G, j, none⟩ = some u) (i : Nat) (hi : i < 9 + m) : StepAt base M w4 (fun j => w4.cell? ⟨G, i * 9 + j, none⟩) := by
  have hz := F1.size
  have opget : ∀ (kd p n f : Int) (cv : Value) (s t : ByteArray) (sd : Int) (fv : Value) (j : Nat), j < 9 → ∃ u, (opC kd p n f cv s t sd fv)[j]? = some u := fun kd p n f cv s t sd fv j hj => by
    exact ⟨_, Array.getElem?_eq_getElem (show j < 9 from hj)⟩
  have h81 : (firstA w.heap.size).toList.length = 81 := rfl
  by_cases h9 : i < 9
  · obtain ⟨kd, p, n, f, cv, s, t, sd, b, k, e, L, c, h1, h2⟩ := first_steps (base := base) (M := M) (w' := w4) (h := w.heap.size) (fun k hk => (B.block _ (by omega)).trans (F1.code k hk)) (by omega) (by omega) i h9
    refine ⟨kd, p, n, f, cv, s, t, sd, b, k, e, L, c, fun j hj => ?_, h2⟩
    obtain ⟨u, hu⟩ := opget kd p n f cv s t sd (.slice b k e) j hj
    rw [hu]
    refine hc _ _ ?_
    rw [List.getElem?_append_left (by omega), show i * 9 + j = 9 * i + j by omega]
    have := (h1 j hj).trans hu
    simpa using this
  · obtain ⟨kd, p, n, f, cv, s, t, sd, b, k, e, L, c, h1, h2, h3, h4⟩ := hS (i - 9) (by omega)
    refine ⟨kd, p, n, f, cv, s, t, sd, b, k, e, L, c, fun j hj => ?_, h2.codeOk h3 h4 (F1.below.trans (B.mono (by omega))) (by omega) (by omega)⟩
    obtain ⟨u, hu⟩ := opget kd p n f cv s t sd (.slice b k e) j hj
    rw [hu]
    refine hc _ _ ?_
    rw [List.getElem?_append_right (by omega), h81, show i * 9 + j - 81 = 9 * (i - 9) + j by omega]
    exact (h1 j hj).trans hu

theorem StepAt.kept {base M G i : Nat} {w w' : World} (h : StepAt base M w (fun j => w.cell? ⟨G, i * 9 + j, none⟩)) (hK : Kept base M w w') (hG : G < base) (hM : G ≠ M) : StepAt base M w' (fun j => w'.cell? ⟨G, i * 9 + j, none⟩) := by
  obtain ⟨kd, p, n, f, cv, s, t, sd, b, k, e, L, c, h1, h2⟩ := h
  exact ⟨kd, p, n, f, cv, s, t, sd, b, k, e, L, c, fun j hj => (hK.cell (p := ⟨G, i * 9 + j, none⟩) hG hM).trans (h1 j hj), h2.kept hK⟩

theorem book0 {M : Nat} {w : World} {t : TypeId} (h : w.heap[M]? = some (.cells #[.slice none 0 0, .slice none 0 0, .slice none 0 0, .slice none 0 0, .slice none 0 0, .slice none 0 0, .slice none 0 0, .slice none 0 0, .slice none 0 0, .slice none 0 0] t (0, 0))) (base : Nat) (hb : M < base) (hl : base ≤ w.heap.size) :
    BK base M w (fun _ => .slice none 0 0) (fun _ => []) ∧ BD M w (fun _ => .slice none 0 0) (fun _ => []) := by
  refine ⟨⟨?_, fun j => frozen_of_row _ _ _ _ _ h, fun r _ => World.ownsRow_nil _ _ _ _, fun r s _ _ _ => Or.inl rfl, hb, hl⟩, ⟨?_, ?_, ?_, rfl, rfl, rfl, rfl, rfl⟩⟩
  · intro r hr
    rw [cell_of_row _ _ _ _ _ _ h]
    match r, hr with
    | 0, _ | 1, _ | 2, _ | 3, _ | 4, _ | 5, _ | 6, _ | 7, _ | 8, _ | 9, _ => rfl
    | r + 10, hr => omega
  · intro i v h; simp at h
  · intro i v h; simp at h
  · intro i v h; simp at h
end Go.Proofs.YtebnlafjepfkdaaGreatDoor

namespace Go.Proofs.YtebnlafjepfkdaaGreatDoor
open Go.RowKit
set_option maxHeartbeats 2000000 in
set_option maxRecDepth 100000 in
theorem played_runs (w : World) (a : Option Addr) (m c : Nat) (news : List Value) (hl : news.length = m * 9)
    (hnews : ∀ ad, a = some ad → ∀ j u, news[j]? = some u → w.cell? (ad.add j) = some u) (hn : a = none → m = 0) (hb : (9 + m) * 120 ≤ 140737488355328) (hT : Tab w) (hS : ScriptOk w m news) :
    Calls Tryz.prog 5 #[.slice a m c, .int .i64 2] w fun e w' => e = .returned (.bool true) ∧ Below w.heap.size w w' := by
  obtain ⟨w1, hw1⟩ : ∃ w1, firstW w = w1 := ⟨_, rfl⟩
  have F1 : FirstIs w w1 := hw1 ▸ first_is w
  have HF : Hid (FirstIs w w1) := F1
  have hz1 := F1.size
  have hr1 : Hid (w1.heap[w.heap.size + 5]? = some (.cells (firstA w.heap.size) 43 (0, 0))) := F1.row
  have hnews1 : Hid (∀ ad, a = some ad → ∀ j u, news[j]? = some u → w1.cell? (ad.add j) = some u) := fun ad h j u hj => (F1.below.cell (p := ad.add j) (block_lt_of_cell (hnews ad h j u hj))).trans (hnews ad h j u hj)
  have HFI : Hid (Calls Tryz.prog 6 #[] w fun e w' => e = .returned (.slice (some ⟨w.heap.size + 5, 0, none⟩) 9 9) ∧ w' = w1) := by
    rw [← hw1]; exact first_any w
  have HS : Hid (ScriptOk w m news) := hS
  have HT : Hid (Tab w) := hT
  have HL : Hid (news.length = m * 9) := hl
  have HN : Hid (a = none → m = 0) := hn
  have hw0 : 0 < w.heap.size := by
    have := hT 0 (by omega)
    exact block_lt_of_cell this
  clear hw1 F1 hnews hS hT hl hn
  go_enter Tryz.func5, Tryz.ntmps5
  go_wp2_with fail
  refine HFI.out.mono ?_
  rintro _ w2 ⟨rfl, hw2⟩
  obtain rfl := hw2.symm
  go_wp2_with (at_builtin; refine wpList_append_first rfl (.tmp 10) (.tmp 11) rfl (w.heap.size + 5) (firstA w.heap.size) hr1.out rfl a m c news HL.out hnews1.out HN.out hb rfl rfl ?_)
  intro G c' w2 A2
  have HA : Hid (AppFirst w1 w2 G c' m ((firstA w.heap.size).toList ++ news)) := A2
  have hz2 := A2.below.size
  have hG := A2.lt
  have hc1 := A2.room
  have hc2 := A2.room'
  clear A2 hr1 hnews1 HFI
  go_wp2_with fail
  have hBK : Below w2.heap.size w2 ((w2.alloc (.cells #[.slice none 0 0, .slice none 0 0, .slice none 0 0, .slice none 0 0, .slice none 0 0, .slice none 0 0, .slice none 0 0, .slice none 0 0, .slice none 0 0, .slice none 0 0] 35)).alloc (.cells #[.pointer (some ⟨w2.heap.size, 0, none⟩), .slice none 0 0] 38)) := ((Below.refl _ _).alloc (Nat.le_refl _) _).alloc (by simp) _
  have hz3 : ((w2.alloc (.cells #[.slice none 0 0, .slice none 0 0, .slice none 0 0, .slice none 0 0, .slice none 0 0, .slice none 0 0, .slice none 0 0, .slice none 0 0, .slice none 0 0, .slice none 0 0] 35)).alloc (.cells #[.pointer (some ⟨w2.heap.size, 0, none⟩), .slice none 0 0] 38)).heap.size = w2.heap.size + 2 := by simp
  have hM3 : ((w2.alloc (.cells #[.slice none 0 0, .slice none 0 0, .slice none 0 0, .slice none 0 0, .slice none 0 0, .slice none 0 0, .slice none 0 0, .slice none 0 0, .slice none 0 0, .slice none 0 0] 35)).alloc (.cells #[.pointer (some ⟨w2.heap.size, 0, none⟩), .slice none 0 0] 38)).heap[w2.heap.size]? = some (.cells #[.slice none 0 0, .slice none 0 0, .slice none 0 0, .slice none 0 0, .slice none 0 0, .slice none 0 0, .slice none 0 0, .slice none 0 0, .slice none 0 0, .slice none 0 0] 35 (0, 0)) := heap_alloc2_old w2 _ _
  have hW3 : ((w2.alloc (.cells #[.slice none 0 0, .slice none 0 0, .slice none 0 0, .slice none 0 0, .slice none 0 0, .slice none 0 0, .slice none 0 0, .slice none 0 0, .slice none 0 0, .slice none 0 0] 35)).alloc (.cells #[.pointer (some ⟨w2.heap.size, 0, none⟩), .slice none 0 0] 38)).heap[w2.heap.size + 1]? = some (.cells #[.pointer (some ⟨w2.heap.size, 0, none⟩), .slice none 0 0] 38 (0, 0)) := heap_alloc2_new w2 _ _
  generalize ((w2.alloc (.cells #[.slice none 0 0, .slice none 0 0, .slice none 0 0, .slice none 0 0, .slice none 0 0, .slice none 0 0, .slice none 0 0, .slice none 0 0, .slice none 0 0, .slice none 0 0] 35)).alloc (.cells #[.pointer (some ⟨w2.heap.size, 0, none⟩), .slice none 0 0] 38)) = w3 at *
  have A := HA.out
  have B13 : Below w1.heap.size w1 w3 := A.below.trans (hBK.mono hz2)
  have B03 : Below w.heap.size w w3 := HF.out.below.trans (B13.mono (by omega))
  obtain ⟨bk0, bd0⟩ := book0 hM3 (w2.heap.size + 2) (by omega) (by omega)
  have ws0 : WS (w2.heap.size + 2) w2.heap.size (w2.heap.size + 1) w3 := ⟨cell_of_row _ _ _ _ _ _ hW3, cell_of_row _ _ _ _ _ _ hW3, by omega, by omega⟩
  have HST : Hid (∀ i, i < 9 + m → StepAt (w2.heap.size + 2) w2.heap.size w3 (fun j => w3.cell? ⟨G, i * 9 + j, none⟩)) := fun i hi =>
    all_steps HF.out B13 HS.out (by omega) (by omega) (fun j u hj => (hBK.cell (p := ⟨G, j, none⟩) hG).trans (A.cell j u hj)) i hi
  have HB0 : Hid (Below w.heap.size w w3) := B03
  have HT3 : Hid (Tab w3) := HT.out.below B03
  have HBK0 : Hid (BK (w2.heap.size + 2) w2.heap.size w3 (fun _ => .slice none 0 0) (fun _ => []) ∧ BD w2.heap.size w3 (fun _ => .slice none 0 0) (fun _ => []) ∧ WS (w2.heap.size + 2) w2.heap.size (w2.heap.size + 1) w3) := ⟨bk0, bd0, ws0⟩
  generalize w2.heap.size = M at *
  clear hM3 hW3 A B13 B03 bk0 bd0 ws0 HA HS HT HF hBK HL HN
  have hm1 : (m : Int) * 120 ≤ 140737488355328 := by omega
  go_loopw [7, 8] (fun ok i wr => ∃ (k : Nat) (F : Nat → Value) (X : Nat → List Value), k ≤ 9 + m ∧ ok = .bool true ∧ i = .int .i64 k ∧ BK (M + 2) M wr F X ∧ BD M wr F X ∧ Kept (M + 2) M w3 wr ∧ (X 0).length ≤ 4 * k ∧ (X 8).length ≤ k ∧ (X 1).length ≤ 4 * k) (fun _ i _ => 9 + m - (intOf i).toNat)
  case atStart => exact ⟨0, _, _, by omega, rfl, rfl, HBK0.out.1, HBK0.out.2.1, Kept.refl _ _ _, by simp, by simp, by simp⟩
  case round =>
    obtain ⟨k, F, X, hk, rfl, rfl, bk, bd, hK, x0, x8, x1⟩ := hrel
    have hM0 : 0 < M := by omega
    have ws : WS (M + 2) M (M + 1) wr := HBK0.out.2.2.kept hK
    have tb : Tab wr := hK.tab hM0 (by omega) HT3.out
    have wb := ws.book
    have HLK : Hid (∀ (w4 : World) (F4 : Nat → Value) (X4 : Nat → List Value), BK (M + 2) M w4 F4 X4 → BD M w4 F4 X4 → (X4 0).length ≤ 4 * (k + 1) → (X4 8).length ≤ k + 1 → (X4 1).length ≤ 4 * (k + 1) → Calls Tryz.prog 8 #[.pointer (some ⟨M, 0, none⟩)] w4 fun e w' => e = .returned (.bool true) ∧ Sm w4 w') := fun w4 F4 X4 b4 d4 y0 y8 y1 =>
      looks_any (M + 2) M w4 F4 X4 b4 d4 (by omega) (by omega) (by have := d4.len04; omega) (by omega)
    by_cases hlt : k < 9 + m
    · obtain ⟨kd, p, n, f, cv, s, t, sd, b, q, e, L, c, hc, C⟩ := (HST.out k hlt).kept hK (by omega) (by omega)
      have HCL : Hid (∀ j, j < 9 → wr.cell? ⟨G, k * 9 + j, none⟩ = (opC kd p n f cv s t sd (.slice b q e))[j]?) := hc
      have h0 : wr.cell? ⟨G, k * 9, none⟩ = some (.int .i64 kd) := hc 0 (by omega)
      have hi1 : (k : Int) < ((9 + m : Nat) : Int) := by omega
      by_cases h2 : kd ≤ 2
      · have HSR : Hid (Calls Tryz.prog 7 #[.pointer (some ⟨M + 1, 0, none⟩), .agg (opC kd p n f cv s t sd (.slice b q e))] wr (Stepped (M + 2) M wr X)) :=
          step_runs (M + 2) M (M + 1) wr F X bk bd ws tb kd p n f h2 cv L c C s t sd b q e (by omega) (by omega) (by omega)
        clear bk bd ws tb hc C
        go_wp2_with (refine wpList_load_op rfl _ rfl G (k * 9) rfl (opC kd p n f cv s t sd (.slice b q e)) rfl HCL.out ?_)
        refine HSR.out.mono ?_
        rintro _ w4 ⟨rfl, F4, X4, bk4, bd4, hK4, y0, y8, y1⟩
        have hK04 : Kept (M + 2) M w3 w4 := hK.trans hK4
        have wb4 := (HBK0.out.2.2.kept hK04).book
        have HL4 : Hid (Calls Tryz.prog 8 #[.pointer (some ⟨M, 0, none⟩)] w4 fun e w' => e = .returned (.bool true) ∧ Sm w4 w') := HLK.out w4 F4 X4 bk4 bd4 (by omega) (by omega) (by omega)
        have HFIN : Hid (∀ w5, Sm w4 w5 → BK (M + 2) M w5 F4 X4 ∧ BD M w5 F4 X4 ∧ Kept (M + 2) M w3 w5 ∧ (X4 0).length ≤ 4 * (k + 1) ∧ (X4 8).length ≤ k + 1 ∧ (X4 1).length ≤ 4 * (k + 1)) := fun w5 s5 =>
          ⟨bk4.sm s5, bd4.sm s5, hK04.trans (Kept.of_below (s5.below _)), by omega, by omega, by omega⟩
        clear bk4 bd4 hK4 hK04 hK HSR HCL h0 HLK
        go_wp2_with fail
        refine HL4.out.mono ?_
        rintro _ w5 ⟨rfl, s5⟩
        have HF5 := HFIN.out w5 s5
        have HR : Hid (BK (M + 2) M w5 F4 X4 ∧ BD M w5 F4 X4 ∧ Kept (M + 2) M w3 w5 ∧ (X4 0).length ≤ 4 * (k + 1) ∧ (X4 8).length ≤ k + 1 ∧ (X4 1).length ≤ 4 * (k + 1)) := HF5
        clear HF5 HFIN s5 HL4 wb wb4 y0 y8 y1 x0 x8 x1
        go_wp2_with fail
        go_roundw
        case rel => exact ⟨k + 1, F4, X4, by omega, rfl, by go_num, HR.out⟩
        case measure => simp [intOf]; omega
      · have HL4 : Hid (Calls Tryz.prog 8 #[.pointer (some ⟨M, 0, none⟩)] wr fun e w' => e = .returned (.bool true) ∧ Sm wr w') := HLK.out wr F X bk bd (by omega) (by omega) (by omega)
        have HFIN : Hid (∀ w5, Sm wr w5 → BK (M + 2) M w5 F X ∧ BD M w5 F X ∧ Kept (M + 2) M w3 w5 ∧ (X 0).length ≤ 4 * (k + 1) ∧ (X 8).length ≤ k + 1 ∧ (X 1).length ≤ 4 * (k + 1)) := fun w5 s5 =>
          ⟨bk.sm s5, bd.sm s5, hK.trans (Kept.of_below (s5.below _)), by omega, by omega, by omega⟩
        clear bk bd ws tb hc C hK HCL HLK x0 x8 x1
        go_wp2_with fail
        refine HL4.out.mono ?_
        rintro _ w5 ⟨rfl, s5⟩
        have HF5 := HFIN.out w5 s5
        have HR : Hid (BK (M + 2) M w5 F X ∧ BD M w5 F X ∧ Kept (M + 2) M w3 w5 ∧ (X 0).length ≤ 4 * (k + 1) ∧ (X 8).length ≤ k + 1 ∧ (X 1).length ≤ 4 * (k + 1)) := HF5
        clear HF5 HFIN s5 HL4 wb h0
        go_wp2_with fail
        go_roundw
        case rel => exact ⟨k + 1, F, X, by omega, rfl, by go_num, HR.out⟩
        case measure => simp [intOf]; omega
    · have e : k = 9 + m := by omega
      subst e
      have hnn : ¬ ((9 + m : Nat) : Int) < ((9 + m : Nat) : Int) := by omega
      have HE : Hid (Below w.heap.size w wr) := by
        have h1 := HB0.out
        refine ⟨hK.os.trans h1.os, hK.tape.trans h1.tape, hK.output.trans h1.output, Nat.le_trans h1.size hK.size, fun j hj => ?_⟩
        rw [hK.block j (by omega) (by omega)]
        exact h1.block j hj
      clear bk bd ws tb hK HLK wb
      go_wp2_with fail
      go_ret
      exact ⟨rfl, HE.out⟩
end Go.Proofs.YtebnlafjepfkdaaGreatDoor

namespace Go.Proofs.YtebnlafjepfkdaaGreatDoor
open Go.ChangeShapes Go.WideShapes Go.ChangeAt Go.WideMaps Go.WideElems Go.RowKit Go.Deep

theorem gShapes : (Rows.runsRow.named.head?.bind fun s => Tryz.prog.globalNamed s) = some 0 := by kernel_rfl
theorem tShapes : (Tryz.prog.globals[0]?).map (·.type) = some 166 := by kernel_rfl
theorem Tryz.cellsInt : Tryz.prog.cellsOf 3 = 1 := by kernel_rfl
theorem Tryz.cellsShape : Tryz.prog.cellsOf 152 = 3 := by kernel_rfl

theorem one_of {cs : List Value} {r : Nat} {v : Value} (h : (cs.drop r).take 1 = [v]) : cs[r]? = some v := by
  have : ((cs.drop r).take 1)[0]? = some v := by rw [h]; rfl
  rw [List.getElem?_take, if_pos (by omega), List.getElem?_drop, Nat.add_zero] at this
  exact this

theorem shape_cells {H : Type} {enc : TypeId × Value → H} {W : World} {base : Nat} {spare : Nat → Bool} {held : Bool} {m : Nat} {cs : List Value} {x : DataW H × List MemPlace} {a b c : Int}
    (h : DataW.trod enc Tryz.prog W base spare held m 152 cs = some x) (hx : x.1 = .agg [.lit (.int .i64 a), .lit (.int .i64 b), .lit (.int .i64 c)]) :
    cs[0]? = some (.int .i64 a) ∧ cs[1]? = some (.int .i64 b) ∧ cs[2]? = some (.int .i64 c) := by
  obtain ⟨y0, y1, y2, n, rfl, hlen, e0, e1, e2⟩ := trod_struct3 Tryz.underlying152 h
  simp only [Tryz.cellsInt] at e0 e1 e2
  obtain ⟨k0, c0, d0, _⟩ := DataW.trod_int Tryz.underlying3 e0
  obtain ⟨k1, c1, d1, _⟩ := DataW.trod_int Tryz.underlying3 e1
  obtain ⟨k2, c2, d2, _⟩ := DataW.trod_int Tryz.underlying3 e2
  rw [d0, d1, d2] at hx
  simp only [DataW.agg.injEq, List.cons.injEq, DataW.lit.injEq, Lit.int.injEq, and_true, true_and] at hx
  obtain ⟨rfl, rfl, rfl⟩ := hx
  exact ⟨one_of c0, one_of c1, one_of c2⟩

/-- The condition gives the table, cell by cell. -/
theorem tab_of_laid {W : World} (h : laidMetH Tryz.prog Rows.runsRow.laid W) : Tab W := by
  rw [MakeChecks.laidMetH_plain _ _ _ (by kernel_rfl)] at h
  obtain ⟨ps, ⟨g0, t0, cs0, f0, p0, q0, hg0, ht0, hv0, hd0, _⟩, _, _⟩ := h
  obtain rfl := Option.some.inj (gShapes.symm.trans hg0)
  obtain rfl := Option.some.inj (tShapes.symm.trans ht0)
  obtain ⟨xs, m1, rfl, hx, hlen, hn, hel⟩ := DataW.trod_array Tryz.underlying166 hd0
  simp only [Prod.mk.injEq] at hx
  have hcell := fun j => World.var?_cell hg0 hv0 j
  intro k hk
  obtain ⟨i, r, hr, rfl⟩ : ∃ i r, r < 3 ∧ k = i * 3 + r := ⟨k / 3, k % 3, by omega, by omega⟩
  have hi : i < 21 := by omega
  have hxi : (xs.map (·.1))[i]? = some (.agg [.lit (.int .i64 (shp (i * 3))), .lit (.int .i64 (shp (i * 3 + 1))), .lit (.int .i64 (shp (i * 3 + 2)))]) := by
    have e : (DataW.agg (xs.map (·.1)) : DataW Unit) = Rows.laid_prowl_program_shapes := hx.1.symm
    unfold Rows.laid_prowl_program_shapes at e
    simp only [DataW.agg.injEq] at e
    rw [e]
    match i, hi with
    | 0, _ | 1, _ | 2, _ | 3, _ | 4, _ | 5, _ | 6, _ | 7, _ | 8, _ | 9, _ | 10, _ | 11, _ | 12, _ | 13, _ | 14, _ | 15, _ | 16, _ | 17, _ | 18, _ | 19, _ | 20, _ => rfl
    | i + 21, hi => omega
  rw [List.getElem?_map, Option.map_eq_some_iff] at hxi
  obtain ⟨x, hx1, hx2⟩ := hxi
  have he := hel i hi
  rw [hx1, Tryz.cellsShape] at he
  obtain ⟨a0, a1, a2⟩ := shape_cells he hx2
  have hc : ∀ r, r < 3 → ∀ v, ((cs0.toList.drop (i * 3)).take 3)[r]? = some v → W.cell? ⟨0, i * 3 + r, none⟩ = some v := by
    intro r hr v hv
    rw [List.getElem?_take, if_pos hr, List.getElem?_drop] at hv
    rw [hcell]
    simpa using hv
  match r, hr with
  | 0, _ => exact hc 0 (by omega) _ a0
  | 1, _ => exact hc 1 (by omega) _ a1
  | 2, _ => exact hc 2 (by omega) _ a2
  | r + 3, hr => omega
end Go.Proofs.YtebnlafjepfkdaaGreatDoor

