import Derived.Test.YtflenkppcclclaaGreatDoorM42
import Derived.Test.YtflenkppcclclaaGreatDoorM34
import Derived.Test.YtflenkppcclclaaGreatDoorTie
import Derived.Test.YtflenkppcclclaaGreatDoorCards
import Derived.ShutString
import Derived.ChangeOld
import Derived.Below
import Derived.Carry
import Derived.SevenTiedAt
namespace Go.Proofs.YtflenkppcclclaaGreatDoor
open Go.RowKit
set_option maxHeartbeats 2000000 in
set_option maxRecDepth 100000 in
theorem played_probes (w : World) (a : Option Addr) (m c : Nat) (news : List Value) (hl : news.length = m * 9)
    (hnews : ∀ ad, a = some ad → ∀ j u, news[j]? = some u → w.cell? (ad.add j) = some u) (hn : a = none → m = 0) (hb : (9 + m) * 120 ≤ 140737488355328) (hT : Tab w) (hS : ScriptOk w m news) :
    Calls Tryz.prog 11 #[.slice a m c, .int .i64 4] w fun e w' => e = .returned (.bool true) ∧ Below w.heap.size w w' := by
  obtain ⟨w1, hw1⟩ : ∃ w1, firstW w = w1 := ⟨_, rfl⟩
  have F1 : FirstIs w w1 := hw1 ▸ first_is w
  have HF : Hid (FirstIs w w1) := F1
  have hz1 := F1.size
  have hr1 : Hid (w1.heap[w.heap.size + 5]? = some (.cells (firstA w.heap.size) 70 (0, 0))) := F1.row
  have hnews1 : Hid (∀ ad, a = some ad → ∀ j u, news[j]? = some u → w1.cell? (ad.add j) = some u) := fun ad h j u hj => (F1.below.cell (p := ad.add j) (block_lt_of_cell (hnews ad h j u hj))).trans (hnews ad h j u hj)
  have HFI : Hid (Calls Tryz.prog 25 #[] w fun e w' => e = .returned (.slice (some ⟨w.heap.size + 5, 0, none⟩) 9 9) ∧ w' = w1) := by
    rw [← hw1]; exact first_any w
  have HS : Hid (ScriptOk w m news) := hS
  have HT : Hid (Tab w) := hT
  have HL : Hid (news.length = m * 9) := hl
  have HN : Hid (a = none → m = 0) := hn
  have hw0 : 0 < w.heap.size := by
    have := hT 0 (by omega)
    exact block_lt_of_cell this
  clear hw1 F1 hnews hS hT hl hn
  go_enter Tryz.func11, Tryz.ntmps11
  go_wp2_with fail
  refine HFI.out.mono ?_
  rintro _ w2 ⟨rfl, hw2⟩
  obtain rfl := hw2.symm
  go_wp2_with (at_builtin; refine wpList_append_first rfl (.tmp 10) (.tmp 11) rfl (w.heap.size + 5) (firstA w.heap.size) hr1.out rfl a m c news HL.out hnews1.out HN.out hb rfl rfl ?_)
  intro G c' w2 A2
  have HA : Hid (AppFirst w1 w2 G c' m ((firstA w.heap.size).toList ++ news)) := A2
  have hz2 := A2.below.size
  have hG := A2.lt
  have hc1 := A2.room
  have hc2 := A2.room'
  clear A2 hr1 hnews1 HFI
  go_wp2_with fail
  have hBK : Below w2.heap.size w2 ((w2.alloc (.cells #[.slice none 0 0, .slice none 0 0, .slice none 0 0, .slice none 0 0, .slice none 0 0, .slice none 0 0, .slice none 0 0, .slice none 0 0, .slice none 0 0, .slice none 0 0] 65)).alloc (.cells #[.pointer (some ⟨w2.heap.size, 0, none⟩), .slice none 0 0] 68)) := ((Below.refl _ _).alloc (Nat.le_refl _) _).alloc (by simp) _
  have hz3 : ((w2.alloc (.cells #[.slice none 0 0, .slice none 0 0, .slice none 0 0, .slice none 0 0, .slice none 0 0, .slice none 0 0, .slice none 0 0, .slice none 0 0, .slice none 0 0, .slice none 0 0] 65)).alloc (.cells #[.pointer (some ⟨w2.heap.size, 0, none⟩), .slice none 0 0] 68)).heap.size = w2.heap.size + 2 := by simp
  have hM3 : ((w2.alloc (.cells #[.slice none 0 0, .slice none 0 0, .slice none 0 0, .slice none 0 0, .slice none 0 0, .slice none 0 0, .slice none 0 0, .slice none 0 0, .slice none 0 0, .slice none 0 0] 65)).alloc (.cells #[.pointer (some ⟨w2.heap.size, 0, none⟩), .slice none 0 0] 68)).heap[w2.heap.size]? = some (.cells #[.slice none 0 0, .slice none 0 0, .slice none 0 0, .slice none 0 0, .slice none 0 0, .slice none 0 0, .slice none 0 0, .slice none 0 0, .slice none 0 0, .slice none 0 0] 65 (0, 0)) := heap_alloc2_old w2 _ _
  have hW3 : ((w2.alloc (.cells #[.slice none 0 0, .slice none 0 0, .slice none 0 0, .slice none 0 0, .slice none 0 0, .slice none 0 0, .slice none 0 0, .slice none 0 0, .slice none 0 0, .slice none 0 0] 65)).alloc (.cells #[.pointer (some ⟨w2.heap.size, 0, none⟩), .slice none 0 0] 68)).heap[w2.heap.size + 1]? = some (.cells #[.pointer (some ⟨w2.heap.size, 0, none⟩), .slice none 0 0] 68 (0, 0)) := heap_alloc2_new w2 _ _
  generalize ((w2.alloc (.cells #[.slice none 0 0, .slice none 0 0, .slice none 0 0, .slice none 0 0, .slice none 0 0, .slice none 0 0, .slice none 0 0, .slice none 0 0, .slice none 0 0, .slice none 0 0] 65)).alloc (.cells #[.pointer (some ⟨w2.heap.size, 0, none⟩), .slice none 0 0] 68)) = w3 at *
  have A := HA.out
  have B13 : Below w1.heap.size w1 w3 := A.below.trans (hBK.mono hz2)
  have B03 : Below w.heap.size w w3 := HF.out.below.trans (B13.mono (by omega))
  obtain ⟨bk0, bd0⟩ := book0 hM3 (w2.heap.size + 2) (by omega) (by omega)
  have ws0 : WS (w2.heap.size + 2) w2.heap.size (w2.heap.size + 1) w3 := ⟨cell_of_row _ _ _ _ _ _ hW3, cell_of_row _ _ _ _ _ _ hW3, by omega, by omega⟩
  have HST : Hid (∀ i, i < 9 + m → StepAt (w2.heap.size + 2) w2.heap.size w3 (fun j => w3.cell? ⟨G, i * 9 + j, none⟩)) := fun i hi =>
    all_steps HF.out B13 HS.out (by omega) (by omega) (fun j u hj => (hBK.cell (p := ⟨G, j, none⟩) hG).trans (A.cell j u hj)) i hi
  have HB0 : Hid (Below w.heap.size w w3) := B03
  have HT3 : Hid (Tab w3) := HT.out.below B03
  have HBK0 : Hid (BK (w2.heap.size + 2) w2.heap.size w3 (fun _ => .slice none 0 0) (fun _ => []) ∧ BD w2.heap.size w3 (fun _ => .slice none 0 0) (fun _ => []) ∧ WS (w2.heap.size + 2) w2.heap.size (w2.heap.size + 1) w3) := ⟨bk0, bd0, ws0⟩
  generalize w2.heap.size = M at *
  clear hM3 hW3 A B13 B03 bk0 bd0 ws0 HA HS HT HF hBK HL HN
  have hm1 : (m : Int) * 120 ≤ 140737488355328 := by omega
  go_loopw [7, 8] (fun ok i wr => ∃ (k : Nat) (F : Nat → Value) (X : Nat → List Value), k ≤ 9 + m ∧ ok = .bool true ∧ i = .int .i64 k ∧ BK (M + 2) M wr F X ∧ BD M wr F X ∧ Kept (M + 2) M w3 wr ∧ (X 0).length ≤ 4 * k ∧ (X 8).length ≤ k ∧ (X 1).length ≤ 4 * k) (fun _ i _ => 9 + m - (intOf i).toNat)
  case atStart => exact ⟨0, _, _, by omega, rfl, rfl, HBK0.out.1, HBK0.out.2.1, Kept.refl _ _ _, by simp, by simp, by simp⟩
  case round =>
    obtain ⟨k, F, X, hk, rfl, rfl, bk, bd, hK, x0, x8, x1⟩ := hrel
    have hM0 : 0 < M := by omega
    have ws : WS (M + 2) M (M + 1) wr := HBK0.out.2.2.kept hK
    have tb : Tab wr := hK.tab hM0 (by omega) HT3.out
    have wb := ws.book
    have HLK : Hid (∀ (w4 : World) (F4 : Nat → Value) (X4 : Nat → List Value), BK (M + 2) M w4 F4 X4 → BD M w4 F4 X4 → (X4 0).length ≤ 4 * (k + 1) → (X4 8).length ≤ k + 1 → (X4 1).length ≤ 4 * (k + 1) → Calls Tryz.prog 27 #[.pointer (some ⟨M, 0, none⟩)] w4 fun e w' => e = .returned (.bool true) ∧ Sm w4 w') := fun w4 F4 X4 b4 d4 y0 y8 y1 =>
      looks_any (M + 2) M w4 F4 X4 b4 d4 (by omega) (by omega) (by have := d4.len04; omega) (by omega)
    by_cases hlt : k < 9 + m
    · obtain ⟨kd, p, n, f, cv, s, t, sd, b, q, e, L, c, hc, C, _⟩ := (HST.out k hlt).kept hK (by omega) (by omega)
      have HCL : Hid (∀ j, j < 9 → wr.cell? ⟨G, k * 9 + j, none⟩ = (opC kd p n f cv s t sd (.slice b q e))[j]?) := hc
      have h0 : wr.cell? ⟨G, k * 9, none⟩ = some (.int .i64 kd) := hc 0 (by omega)
      have hi1 : (k : Int) < ((9 + m : Nat) : Int) := by omega
      by_cases h2 : kd ≤ 4
      · have HSR : Hid (Calls Tryz.prog 26 #[.pointer (some ⟨M + 1, 0, none⟩), .agg (opC kd p n f cv s t sd (.slice b q e))] wr (Stepped (M + 2) M wr X)) :=
          step_probes (M + 2) M (M + 1) wr F X bk bd ws tb kd p n f h2 cv L c C s t sd b q e (by omega) (by omega) (by omega)
        clear bk bd ws tb hc C
        go_wp2_with (refine wpList_load_op rfl _ rfl G (k * 9) rfl (opC kd p n f cv s t sd (.slice b q e)) rfl HCL.out ?_)
        refine HSR.out.mono ?_
        rintro _ w4 ⟨rfl, F4, X4, bk4, bd4, hK4, y0, y8, y1⟩
        have hK04 : Kept (M + 2) M w3 w4 := hK.trans hK4
        have wb4 := (HBK0.out.2.2.kept hK04).book
        have HL4 : Hid (Calls Tryz.prog 27 #[.pointer (some ⟨M, 0, none⟩)] w4 fun e w' => e = .returned (.bool true) ∧ Sm w4 w') := HLK.out w4 F4 X4 bk4 bd4 (by omega) (by omega) (by omega)
        have HFIN : Hid (∀ w5, Sm w4 w5 → BK (M + 2) M w5 F4 X4 ∧ BD M w5 F4 X4 ∧ Kept (M + 2) M w3 w5 ∧ (X4 0).length ≤ 4 * (k + 1) ∧ (X4 8).length ≤ k + 1 ∧ (X4 1).length ≤ 4 * (k + 1)) := fun w5 s5 =>
          ⟨bk4.sm s5, bd4.sm s5, hK04.trans (Kept.of_below (s5.below _)), by omega, by omega, by omega⟩
        clear bk4 bd4 hK4 hK04 hK HSR HCL h0 HLK
        go_wp2_with fail
        refine HL4.out.mono ?_
        rintro _ w5 ⟨rfl, s5⟩
        have HF5 := HFIN.out w5 s5
        have HR : Hid (BK (M + 2) M w5 F4 X4 ∧ BD M w5 F4 X4 ∧ Kept (M + 2) M w3 w5 ∧ (X4 0).length ≤ 4 * (k + 1) ∧ (X4 8).length ≤ k + 1 ∧ (X4 1).length ≤ 4 * (k + 1)) := HF5
        clear HF5 HFIN s5 HL4 wb wb4 y0 y8 y1 x0 x8 x1
        go_wp2_with fail
        go_roundw
        case rel => exact ⟨k + 1, F4, X4, by omega, rfl, by go_num, HR.out⟩
        case measure => simp [intOf]; omega
      · have HL4 : Hid (Calls Tryz.prog 27 #[.pointer (some ⟨M, 0, none⟩)] wr fun e w' => e = .returned (.bool true) ∧ Sm wr w') := HLK.out wr F X bk bd (by omega) (by omega) (by omega)
        have HFIN : Hid (∀ w5, Sm wr w5 → BK (M + 2) M w5 F X ∧ BD M w5 F X ∧ Kept (M + 2) M w3 w5 ∧ (X 0).length ≤ 4 * (k + 1) ∧ (X 8).length ≤ k + 1 ∧ (X 1).length ≤ 4 * (k + 1)) := fun w5 s5 =>
          ⟨bk.sm s5, bd.sm s5, hK.trans (Kept.of_below (s5.below _)), by omega, by omega, by omega⟩
        clear bk bd ws tb hc C hK HCL HLK x0 x8 x1
        go_wp2_with fail
        refine HL4.out.mono ?_
        rintro _ w5 ⟨rfl, s5⟩
        have HF5 := HFIN.out w5 s5
        have HR : Hid (BK (M + 2) M w5 F X ∧ BD M w5 F X ∧ Kept (M + 2) M w3 w5 ∧ (X 0).length ≤ 4 * (k + 1) ∧ (X 8).length ≤ k + 1 ∧ (X 1).length ≤ 4 * (k + 1)) := HF5
        clear HF5 HFIN s5 HL4 wb h0
        go_wp2_with fail
        go_roundw
        case rel => exact ⟨k + 1, F, X, by omega, rfl, by go_num, HR.out⟩
        case measure => simp [intOf]; omega
    · have e : k = 9 + m := by omega
      subst e
      have hnn : ¬ ((9 + m : Nat) : Int) < ((9 + m : Nat) : Int) := by omega
      have HE : Hid (Below w.heap.size w wr) := by
        have h1 := HB0.out
        refine ⟨hK.os.trans h1.os, hK.tape.trans h1.tape, hK.output.trans h1.output, Nat.le_trans h1.size hK.size, fun j hj => ?_⟩
        rw [hK.block j (by omega) (by omega)]
        exact h1.block j hj
      clear bk bd ws tb hK HLK wb
      go_wp2_with fail
      go_ret
      exact ⟨rfl, HE.out⟩
end Go.Proofs.YtflenkppcclclaaGreatDoor

namespace Go.Proofs.YtflenkppcclclaaGreatDoor
open Go.ChangeShapes Go.WideShapes Go.ChangeAt Go.RowKit
open Go.ChangeMaps (open_string shut_string)

theorem Tryz.own : ownKnob Tryz.prog.godebug = none := by kernel_rfl

theorem probes_any (w : World) (a : Option Addr) (m c : Nat) (news : List Value) (hl : news.length = m * 9)
    (hnews : ∀ ad, a = some ad → ∀ j u, news[j]? = some u → w.cell? (ad.add j) = some u) (hn : a = none → m = 0) (hb : (9 + m) * 120 ≤ 140737488355328) (hT : Tab w) (hS : ScriptOk w m news) :
    Calls Tryz.prog 4 #[.slice a m c] w fun e w' => e = .returned (.bool true) ∧ Below w.heap.size w w' := by
  have HP : Hid (Calls Tryz.prog 11 #[.slice a m c, .int .i64 4] w fun e w' => e = .returned (.bool true) ∧ Below w.heap.size w w') := played_probes w a m c news hl hnews hn hb hT hS
  clear hl hnews hn hb hT hS
  go_enter Tryz.func4, Tryz.ntmps4
  go_wp2_with fail
  refine HP.out.mono ?_
  rintro _ w1 ⟨rfl, B⟩
  have HB : Hid (Below w.heap.size w w1) := B
  clear B
  go_wp2_with fail
  go_ret
  exact ⟨rfl, HB.out⟩

/-- The door's own heap meets the condition. -/
theorem door_met (os : Os) (args : Array Value) : laidMetH Tryz.prog Rows.probesRow.laid ((World.doorLaid Tryz.prog 400 os).forCall (fun _ _ => 0) ⟨#[], args, []⟩).memory :=
  laidMetH_of_parts3 (fuel := 8) (laidMet_of_run' 8 (by kernel_rfl) (by kernel_rfl)) (by kernel_rfl) (by kernel_rfl)

theorem Tryz.laidOut : laidOutB Tryz.prog = true := by kernel_rfl
theorem Tryz.readOps : Tryz.prog.readableRec 22 = true := by kernel_rfl
theorem Tryz.rowOps : 22 < Tryz.prog.types.size := of_decide_eq_true (by kernel_rfl)

set_option maxRecDepth 100000 in
theorem probes_lifted (os : Os) (started : os.Started) (H : Type) (enc : TypeId × Value → H) :
    ReturnsInHanded {} Tryz.checked os 4 .any (fun w args => (Rows.probesSpec.pre enc Tryz.prog Tryz.f4 [] false w args ∧ laidMetH Tryz.prog Rows.probesRow.laid w) ∧ sizedMet enc Tryz.prog Tryz.f4 (OpenSpec.ofChange Rows.probesSpec) false w args)
      (Rows.probesSpec.post enc Tryz.prog Tryz.f4 false true false false) := by
  refine returnsInHanded_of_change_and (C := Tryz.checked) (X := fun w _ => laidMetH Tryz.prog Rows.probesRow.laid w) (fun _ _ _ hh h => h.of_heap hh) Tryz.own started (by kernel_rfl) Tryz.func4
    (ChangeSpec.witness_shaped (enc := enc) (C := Tryz.checked) (os := os) (X := fun w _ => laidMetH Tryz.prog Rows.probesRow.laid w) false (World.doorLaid Tryz.prog 400 os) #[.slice none 0 0] 8 rfl (World.shaped_of_RefB (by kernel_rfl) (by kernel_rfl)) (by kernel_rfl) (by kernel_rfl) (by kernel_rfl) (door_met os _)) ?_
  intro W base args ds gs before hval0 hW _ hsz0 hL _
  have hval : ∀ (j : Nat) t v, Tryz.f4.params[j]? = some t → args[j]? = some v → Value.okWide Tryz.prog W .any base t v := hval0
  have hsz : (DataW.weightsEach Tryz.prog (Tryz.f4.params.toList ++ Rows.probesSpec.plain.varTypes Tryz.prog) (ds ++ gs)).all (· ≤ reachBytes) = true := hsz0
  have hW' := hW
  obtain ⟨p, q, hA0, hV, hpq, hfz, hnd⟩ := hW
  have hA : DataW.TrodAll enc Tryz.prog W 0 (fun _ => true) true Tryz.f4.params.toList args.toList ds p := hA0
  rw [Tryz.params4] at hA hval hsz
  obtain ⟨v0, d0, rfl, rfl, h0⟩ := trodAll_one hA
  obtain ⟨rfl, rfl⟩ := trodVars_none hV
  clear hA0 hval0
  rw [List.append_nil] at hpq
  subst hpq
  obtain ⟨a0, len, cap, rfl⟩ := okWide_slice Tryz.underlying22 (hval 0 22 v0 rfl rfl)
  have hlt := hW'.lt
  have h0' := h0
  obtain ⟨fuel, hf⟩ := h0
  have hwt : ∀ k ∈ d0.weights Tryz.prog 22, k ≤ reachBytes := fun k hk => by
    have := List.all_eq_true.1 hsz k (DataW.weights_mem_each (j := 0) (t := 22) (d := d0) rfl rfl k hk)
    simpa using this
  obtain ⟨news, n1, n2, n3, n4, n5⟩ := script_open hf hwt
  refine (probes_any W a0 len cap news n1 n2 n3 n4 (tab_of_laid hL) n5).mono fun e W' ⟨he, bel⟩ => ?_
  subst he
  exact ⟨_, rfl, _, _, _, [], _, [], hW', trodAll_mk1 (shut_bool Tryz.underlying4 _), trodAll_mk1 (Below.trod Tryz.laidOut Tryz.readOps Tryz.rowOps h0' bel hlt), rfl, bel.frame _, fun h => by cases h⟩

theorem probes_over : Rows.ProbesSaid :=
  OpenClaim.holds_of_wide 4 Tryz.f4 rfl rfl rfl rfl rfl rfl rfl ⟨rfl, rfl, rfl, rfl, rfl⟩ rfl rfl rfl rfl rfl (by kernel_rfl) Tryz.func4 (by kernel_rfl)
    (of_decide_eq_true (by kernel_rfl)) (by unfold Func.isWrapper; first | (rw [if_pos (by decide +kernel)]; kernel_rfl) | (rw [if_neg (by decide +kernel)]; exact ⟨rfl, rfl⟩))
    (fun os started H enc _ => probes_lifted os started H enc)

theorem probes_holds : Rows.ProbesCardSaid :=
  Claim7.holds_tied_plain_at .later [] [.data, .data] true Rows.probesCard.stood.harness false
    probes_over (fun _ h => by cases h) (by kernel_rfl) (fun _ h => by cases h) probes_row_tie rfl ⟨rfl, rfl⟩ (by kernel_rfl) rfl
    (fun f fn hf hfn => by
      obtain rfl : f = 4 := Option.some.inj ((show Tryz.prog.funcNamed Rows.probesRow.func = some 4 by kernel_rfl).symm.trans hf) |>.symm
      obtain rfl : fn = Tryz.f4 := (Option.some.inj (Tryz.func4.symm.trans hfn)).symm
      exact ⟨by kernel_rfl, fun j t ht => by
        rw [Tryz.params4] at ht
        have hm : t ∈ [22] := by simpa using Array.mem_of_getElem? ht
        have hall : ([22].all fun u => !Tryz.prog.wantsStandIn u) = true := by kernel_rfl
        exact (show Tryz.prog.wantsStandIn t = false by simpa using List.all_eq_true.1 hall t hm)⟩)
    (by kernel_rfl)
#print axioms probes_holds
end Go.Proofs.YtflenkppcclclaaGreatDoor

