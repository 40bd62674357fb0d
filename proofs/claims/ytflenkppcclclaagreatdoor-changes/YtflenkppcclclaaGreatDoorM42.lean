import Derived.Test.YtflenkppcclclaaGreatDoorM36
import Derived.Test.YtflenkppcclclaaGreatDoorM41
import Derived.Test.YtflenkppcclclaaGreatDoorM30
import Derived.Test.YtflenkppcclclaaGreatDoorM38
import Derived.Test.YtflenkppcclclaaGreatDoorTie
import Derived.Test.YtflenkppcclclaaGreatDoorCards
import Derived.ShutString
import Derived.ChangeOld
import Derived.Below
import Derived.Carry
import Derived.SevenTiedAt
namespace Go.Proofs.YtflenkppcclclaaGreatDoor
open Go.RowKit

set_option maxHeartbeats 2000000 in
set_option maxRecDepth 100000 in
theorem step_changes (base M W0 : Nat) (w : World) (F : Nat → Value) (X : Nat → List Value) (h : BK base M w F X) (d : BD M w F X) (hw : WS base M W0 w) (hT : Tab w) (hMk : Mrk w)
    (kd p n f : Int) (hkd : kd ≤ 6) (cv : Value) (L : Nat) (c : Nat → Int) (C : CodeOk base M w cv L c) (s t : ByteArray) (sd : Int) (ok : OpOk n sd s t) (b : Option Addr) (k e : Nat)
    (hX : ((X 8).length + 1) * 24 ≤ 140737488355328) (hX0 : ((X 0).length + 4) * 24 ≤ 140737488355328) (hX1 : ((X 1).length + 4) * 24 ≤ 140737488355328) :
    Calls Tryz.prog 26 #[.pointer (some ⟨W0, 0, none⟩), .agg (opC kd p n f cv s t sd (.slice b k e))] w (Stepped base M w X) := by
  obtain ⟨pc, capc, rfl⟩ := C.coded.form
  have hle := h.le
  have hlt := h.lt
  have B0 : Below w.heap.size w (w.alloc (.cells (opC kd p n f (.slice pc L capc) s t sd (.slice b k e)) 70)) := (Below.refl _ _).alloc (Nat.le_refl _) _
  have K0 : Kept base M w (w.alloc (.cells (opC kd p n f (.slice pc L capc) s t sd (.slice b k e)) 70)) := Kept.alloc w hle _
  have hh0 := heap_alloc_new w (.cells (opC kd p n f (.slice pc L capc) s t sd (.slice b k e)) 70)
  have e0 : (w.alloc (.cells (opC kd p n f (.slice pc L capc) s t sd (.slice b k e)) 70)).cell? ⟨w.heap.size, 0, none⟩ = some (.int .i64 kd) := cell_of_row _ _ _ _ _ _ hh0
  have e1 : (w.alloc (.cells (opC kd p n f (.slice pc L capc) s t sd (.slice b k e)) 70)).cell? ⟨w.heap.size, 1, none⟩ = some (.int .i64 p) := cell_of_row _ _ _ _ _ _ hh0
  have e2 : (w.alloc (.cells (opC kd p n f (.slice pc L capc) s t sd (.slice b k e)) 70)).cell? ⟨w.heap.size, 2, none⟩ = some (.int .i64 n) := cell_of_row _ _ _ _ _ _ hh0
  have e3 : (w.alloc (.cells (opC kd p n f (.slice pc L capc) s t sd (.slice b k e)) 70)).cell? ⟨w.heap.size, 3, none⟩ = some (.int .i64 f) := cell_of_row _ _ _ _ _ _ hh0
  have e4 : (w.alloc (.cells (opC kd p n f (.slice pc L capc) s t sd (.slice b k e)) 70)).cell? ⟨w.heap.size, 4, none⟩ = some (.slice pc L capc) := cell_of_row _ _ _ _ _ _ hh0
  have e5 : (w.alloc (.cells (opC kd p n f (.slice pc L capc) s t sd (.slice b k e)) 70)).cell? ⟨w.heap.size, 5, none⟩ = some (.string s) := cell_of_row _ _ _ _ _ _ hh0
  have e6 : (w.alloc (.cells (opC kd p n f (.slice pc L capc) s t sd (.slice b k e)) 70)).cell? ⟨w.heap.size, 6, none⟩ = some (.string t) := cell_of_row _ _ _ _ _ _ hh0
  have e7 : (w.alloc (.cells (opC kd p n f (.slice pc L capc) s t sd (.slice b k e)) 70)).cell? ⟨w.heap.size, 7, none⟩ = some (.int .u64 sd) := cell_of_row _ _ _ _ _ _ hh0
  have e8 : (w.alloc (.cells (opC kd p n f (.slice pc L capc) s t sd (.slice b k e)) 70)).cell? ⟨w.heap.size, 8, none⟩ = some (.slice b k e) := cell_of_row _ _ _ _ _ _ hh0
  have HW : Hid (WS base M W0 w) := hw
  have HFIN : Hid (∀ (w1 : World) (e' : Ending) (w' : World), Below w.heap.size w w1 → Stepped base M w1 X e' w' → Stepped base M w X e' w') := by
    rintro w1 e' w' hB ⟨rfl, F', X', r1, r2, r3, r4⟩
    exact ⟨rfl, F', X', r1, r2, (Kept.of_below (hB.mono hle)).trans r3, r4⟩
  have HMC : Hid (∀ w1, Below w.heap.size w w1 → Calls Tryz.prog 50 #[.pointer (some ⟨W0, 0, none⟩), .agg (opC 1 p n f (.slice pc L capc) s t sd (.slice b k e))] w1 (Stepped base M w1 X)) := fun w1 hB => by
    have K1 : Kept base M w w1 := Kept.of_below (hB.mono hle)
    exact machine_check base M W0 w1 F X (h.below hB) (d.below hB) (hw.kept K1).book (hT.below hB) p n f _ L c (C.kept K1).coded C.byte C.most s t sd b k e hX
  have HMR : Hid (∀ w1, Below w.heap.size w w1 → Calls Tryz.prog 50 #[.pointer (some ⟨W0, 0, none⟩), .agg (opC 2 p n f (.slice pc L capc) s t sd (.slice b k e))] w1 (Stepped base M w1 X)) := fun w1 hB => by
    have K1 : Kept base M w w1 := Kept.of_below (hB.mono hle)
    exact machine_run base M W0 w1 F X (h.below hB) (d.below hB) (hw.kept K1).book hw.lt hw.ne (hT.below hB) p n f _ L c (C.kept K1).coded C.byte C.most C.low s t sd b k e hX hX0 (by omega)
  have HMP : Hid (∀ w1, Below w.heap.size w w1 → Calls Tryz.prog 50 #[.pointer (some ⟨W0, 0, none⟩), .agg (opC 3 p n f (.slice pc L capc) s t sd (.slice b k e))] w1 (Stepped base M w1 X)) := fun w1 hB => by
    have K1 : Kept base M w w1 := Kept.of_below (hB.mono hle)
    exact machine_probe base M W0 w1 F X (h.below hB) (d.below hB) (hw.kept K1).book hw.lt hw.ne (hT.below hB) p n f _ L c (C.kept K1).coded C.byte C.most C.low s t sd b k e hX hX0 hX1
  have HMD : Hid (∀ w1, Below w.heap.size w w1 → Calls Tryz.prog 50 #[.pointer (some ⟨W0, 0, none⟩), .agg (opC 4 p n f (.slice pc L capc) s t sd (.slice b k e))] w1 (Stepped base M w1 X)) := fun w1 hB => by
    have K1 : Kept base M w w1 := Kept.of_below (hB.mono hle)
    exact machine_probed base M W0 w1 F X (h.below hB) (d.below hB) (hw.kept K1).book hw.lt hw.ne (hT.below hB) p n f _ L c (C.kept K1).coded C.byte C.low s t sd b k e hX hX0 (by omega)
  have HC5 : Hid (∀ w1, Below w.heap.size w w1 → Calls Tryz.prog 51 #[.agg (opC 5 p n f (.slice pc L capc) s t sd (.slice b k e))] w1 (AllIs w1)) := fun w1 hB =>
    changes5 w1 p n f pc L capc s t sd b k e (mutS s n) (fun w' hB' => xMutant_any w' ((hMk.on hB).on hB') s ok.s1 n ok.n0 ok.n1) (fun w' => rMutant_any w' s ok.s1 n ok.n0 ok.n1)
  have HC6 : Hid (∀ w1, Calls Tryz.prog 51 #[.agg (opC 6 p n f (.slice pc L capc) s t sd (.slice b k e))] w1 (AllIs w1)) := fun w1 => by
    by_cases hl : 24 < s.size ∨ 24 < t.size
    · exact changes6 w1 p n f pc L capc s t sd b k e _ _ (fun w' => xWild_long w' s t ok.s1 ok.t1 hl sd) (fun w' => rWild_long w' s t ok.s1 ok.t1 hl sd)
    · exact changes6 w1 p n f pc L capc s t sd b k e _ _ (fun w' => xWild_any w' s t (by omega) (by omega) sd ok.d0 ok.d1) (fun w' => rWild_any w' s t (by omega) (by omega) sd ok.d0 ok.d1)
  have HNO : Hid (∀ w1, Below w.heap.size w w1 → Stepped base M w X (.returned (.bool true)) w1) := fun w1 hB => ⟨rfl, F, X, h.below hB, d.below hB, Kept.of_below (hB.mono hle), by omega, by omega, by omega⟩
  have wl := (hw.kept K0).none'
  clear hh0 h d hw hT C ok hMk
  by_cases h1 : kd = 1
  · subst h1
    go_enter Tryz.func26, Tryz.ntmps26
    go_wp2_with (refine wpList_box_c rfl 70 _ rfl (.agg (opC 1 p n f (.slice pc L capc) s t sd (.slice b k e))) rfl (opC 1 p n f (.slice pc L capc) s t sd (.slice b k e)) (opbox _ _ _ _ _ _ _ _ _ _ _ _ _) ?_)
    generalize (w.alloc (.cells (opC 1 p n f (.slice pc L capc) s t sd (.slice b k e)) 70)) = w0 at *
    refine (HMC.out w0 B0).mono ?_
    rintro e' w' hS
    have hS' := HFIN.out w0 _ w' B0 hS
    obtain ⟨rfl, _⟩ := hS
    have HS : Hid (Stepped base M w X (.returned (.bool true)) w') := hS'
    clear hS'
    go_wp2_with fail
    go_ret
    exact HS.out
  · by_cases h2 : kd = 2
    · subst h2
      go_enter Tryz.func26, Tryz.ntmps26
      go_wp2_with (refine wpList_box_c rfl 70 _ rfl (.agg (opC 2 p n f (.slice pc L capc) s t sd (.slice b k e))) rfl (opC 2 p n f (.slice pc L capc) s t sd (.slice b k e)) (opbox _ _ _ _ _ _ _ _ _ _ _ _ _) ?_)
      generalize (w.alloc (.cells (opC 2 p n f (.slice pc L capc) s t sd (.slice b k e)) 70)) = w0 at *
      refine (HMR.out w0 B0).mono ?_
      rintro e' w' hS
      have hS' := HFIN.out w0 _ w' B0 hS
      obtain ⟨rfl, _⟩ := hS
      have HS : Hid (Stepped base M w X (.returned (.bool true)) w') := hS'
      clear hS'
      go_wp2_with fail
      go_ret
      exact HS.out
    · by_cases h3 : kd = 3
      · subst h3
        go_enter Tryz.func26, Tryz.ntmps26
        go_wp2_with (refine wpList_box_c rfl 70 _ rfl (.agg (opC 3 p n f (.slice pc L capc) s t sd (.slice b k e))) rfl (opC 3 p n f (.slice pc L capc) s t sd (.slice b k e)) (opbox _ _ _ _ _ _ _ _ _ _ _ _ _) ?_)
        generalize (w.alloc (.cells (opC 3 p n f (.slice pc L capc) s t sd (.slice b k e)) 70)) = w0 at *
        refine (HMP.out w0 B0).mono ?_
        rintro e' w' hS
        have hS' := HFIN.out w0 _ w' B0 hS
        obtain ⟨rfl, _⟩ := hS
        have HS : Hid (Stepped base M w X (.returned (.bool true)) w') := hS'
        clear hS'
        go_wp2_with fail
        go_ret
        exact HS.out
      · by_cases h4 : kd = 4
        · subst h4
          go_enter Tryz.func26, Tryz.ntmps26
          go_wp2_with (refine wpList_box_c rfl 70 _ rfl (.agg (opC 4 p n f (.slice pc L capc) s t sd (.slice b k e))) rfl (opC 4 p n f (.slice pc L capc) s t sd (.slice b k e)) (opbox _ _ _ _ _ _ _ _ _ _ _ _ _) ?_)
          generalize (w.alloc (.cells (opC 4 p n f (.slice pc L capc) s t sd (.slice b k e)) 70)) = w0 at *
          refine (HMD.out w0 B0).mono ?_
          rintro e' w' hS
          have hS' := HFIN.out w0 _ w' B0 hS
          obtain ⟨rfl, _⟩ := hS
          have HS : Hid (Stepped base M w X (.returned (.bool true)) w') := hS'
          clear hS'
          go_wp2_with fail
          go_ret
          exact HS.out
        · by_cases h5 : kd = 5
          · subst h5
            have q5 : decide ((5 : Int) ≤ 4) = false := by decide
            go_enter Tryz.func26, Tryz.ntmps26
            go_wp2_with (refine wpList_box_c rfl 70 _ rfl (.agg (opC 5 p n f (.slice pc L capc) s t sd (.slice b k e))) rfl (opC 5 p n f (.slice pc L capc) s t sd (.slice b k e)) (opbox _ _ _ _ _ _ _ _ _ _ _ _ _) ?_)
            generalize (w.alloc (.cells (opC 5 p n f (.slice pc L capc) s t sd (.slice b k e)) 70)) = w0 at *
            refine (HC5.out w0 B0).mono ?_
            rintro e' w' ⟨rfl, B1⟩
            have HS : Hid (Stepped base M w X (.returned (.bool true)) w') := HNO.out w' (B0.trans (B1.mono B0.size))
            clear B1
            go_wp2_with fail
            go_ret
            exact HS.out
          · by_cases h6 : kd = 6
            · subst h6
              have q5 : decide ((6 : Int) ≤ 4) = false := by decide
              go_enter Tryz.func26, Tryz.ntmps26
              go_wp2_with (refine wpList_box_c rfl 70 _ rfl (.agg (opC 6 p n f (.slice pc L capc) s t sd (.slice b k e))) rfl (opC 6 p n f (.slice pc L capc) s t sd (.slice b k e)) (opbox _ _ _ _ _ _ _ _ _ _ _ _ _) ?_)
              generalize (w.alloc (.cells (opC 6 p n f (.slice pc L capc) s t sd (.slice b k e)) 70)) = w0 at *
              refine (HC6.out w0).mono ?_
              rintro e' w' ⟨rfl, B1⟩
              have HS : Hid (Stepped base M w X (.returned (.bool true)) w') := HNO.out w' (B0.trans (B1.mono B0.size))
              clear B1
              go_wp2_with fail
              go_ret
              exact HS.out
            · have hk0 : kd < 1 := by omega
              have q1 : decide ((1 : Int) ≤ kd) = false := by simp; omega
              have q1' : ¬ (1 : Int) ≤ kd := by omega
              have q5 : (kd == 5) = false := by rw [beq_eq_false_iff_ne]; omega
              have q6 : (kd == 6) = false := by rw [beq_eq_false_iff_ne]; omega
              have q7 : (kd == 7) = false := by rw [beq_eq_false_iff_ne]; omega
              have q15 : (kd == 15) = false := by rw [beq_eq_false_iff_ne]; omega
              have HS : Hid (Stepped base M w X (.returned (.bool true)) (w.alloc (.cells (opC kd p n f (.slice pc L capc) s t sd (.slice b k e)) 70))) := HNO.out _ B0
              clear HMC HMR HMP HMD HC5 HC6 HFIN HNO h1 h2 h3 h4 h5 h6 hk0
              go_enter Tryz.func26, Tryz.ntmps26
              go_wp2_with (refine wpList_box_c rfl 70 _ rfl (.agg (opC kd p n f (.slice pc L capc) s t sd (.slice b k e))) rfl (opC kd p n f (.slice pc L capc) s t sd (.slice b k e)) (opbox _ _ _ _ _ _ _ _ _ _ _ _ _) ?_)
              go_ret
              exact HS.out
end Go.Proofs.YtflenkppcclclaaGreatDoor

namespace Go.Proofs.YtflenkppcclclaaGreatDoor
open Go.RowKit
set_option maxHeartbeats 2000000 in
set_option maxRecDepth 100000 in
theorem played_changes (w : World) (a : Option Addr) (m c : Nat) (news : List Value) (hl : news.length = m * 9)
    (hnews : ∀ ad, a = some ad → ∀ j u, news[j]? = some u → w.cell? (ad.add j) = some u) (hn : a = none → m = 0) (hb : (9 + m) * 120 ≤ 140737488355328) (hT : Tab w) (hMk : Mrk w) (hS : ScriptOk w m news) :
    Calls Tryz.prog 11 #[.slice a m c, .int .i64 6] w fun e w' => e = .returned (.bool true) ∧ Below w.heap.size w w' := by
  obtain ⟨w1, hw1⟩ : ∃ w1, firstW w = w1 := ⟨_, rfl⟩
  have F1 : FirstIs w w1 := hw1 ▸ first_is w
  have HF : Hid (FirstIs w w1) := F1
  have hz1 := F1.size
  have hr1 : Hid (w1.heap[w.heap.size + 5]? = some (.cells (firstA w.heap.size) 70 (0, 0))) := F1.row
  have hnews1 : Hid (∀ ad, a = some ad → ∀ j u, news[j]? = some u → w1.cell? (ad.add j) = some u) := fun ad h j u hj => (F1.below.cell (p := ad.add j) (block_lt_of_cell (hnews ad h j u hj))).trans (hnews ad h j u hj)
  have HFI : Hid (Calls Tryz.prog 25 #[] w fun e w' => e = .returned (.slice (some ⟨w.heap.size + 5, 0, none⟩) 9 9) ∧ w' = w1) := by
    rw [← hw1]; exact first_any w
  have HS : Hid (ScriptOk w m news) := hS
  have HT : Hid (Tab w) := hT
  have HMK : Hid (Mrk w) := hMk
  have hw1' : 2 < w.heap.size := World.block_lt_of_cell? w ⟨2, 0, none⟩ (hMk 0 (by omega))
  have HL : Hid (news.length = m * 9) := hl
  have HN : Hid (a = none → m = 0) := hn
  have hw0 : 0 < w.heap.size := by
    have := hT 0 (by omega)
    exact block_lt_of_cell this
  clear hw1 F1 hnews hS hT hMk hl hn
  go_enter Tryz.func11, Tryz.ntmps11
  go_wp2_with fail
  refine HFI.out.mono ?_
  rintro _ w2 ⟨rfl, hw2⟩
  obtain rfl := hw2.symm
  go_wp2_with (at_builtin; refine wpList_append_first rfl (.tmp 10) (.tmp 11) rfl (w.heap.size + 5) (firstA w.heap.size) hr1.out rfl a m c news HL.out hnews1.out HN.out hb rfl rfl ?_)
  intro G c' w2 A2
  have HA : Hid (AppFirst w1 w2 G c' m ((firstA w.heap.size).toList ++ news)) := A2
  have hz2 := A2.below.size
  have hG := A2.lt
  have hc1 := A2.room
  have hc2 := A2.room'
  clear A2 hr1 hnews1 HFI
  go_wp2_with fail
  have hBK : Below w2.heap.size w2 ((w2.alloc (.cells #[.slice none 0 0, .slice none 0 0, .slice none 0 0, .slice none 0 0, .slice none 0 0, .slice none 0 0, .slice none 0 0, .slice none 0 0, .slice none 0 0, .slice none 0 0] 65)).alloc (.cells #[.pointer (some ⟨w2.heap.size, 0, none⟩), .slice none 0 0] 68)) := ((Below.refl _ _).alloc (Nat.le_refl _) _).alloc (by simp) _
  have hz3 : ((w2.alloc (.cells #[.slice none 0 0, .slice none 0 0, .slice none 0 0, .slice none 0 0, .slice none 0 0, .slice none 0 0, .slice none 0 0, .slice none 0 0, .slice none 0 0, .slice none 0 0] 65)).alloc (.cells #[.pointer (some ⟨w2.heap.size, 0, none⟩), .slice none 0 0] 68)).heap.size = w2.heap.size + 2 := by simp
  have hM3 : ((w2.alloc (.cells #[.slice none 0 0, .slice none 0 0, .slice none 0 0, .slice none 0 0, .slice none 0 0, .slice none 0 0, .slice none 0 0, .slice none 0 0, .slice none 0 0, .slice none 0 0] 65)).alloc (.cells #[.pointer (some ⟨w2.heap.size, 0, none⟩), .slice none 0 0] 68)).heap[w2.heap.size]? = some (.cells #[.slice none 0 0, .slice none 0 0, .slice none 0 0, .slice none 0 0, .slice none 0 0, .slice none 0 0, .slice none 0 0, .slice none 0 0, .slice none 0 0, .slice none 0 0] 65 (0, 0)) := heap_alloc2_old w2 _ _
  have hW3 : ((w2.alloc (.cells #[.slice none 0 0, .slice none 0 0, .slice none 0 0, .slice none 0 0, .slice none 0 0, .slice none 0 0, .slice none 0 0, .slice none 0 0, .slice none 0 0, .slice none 0 0] 65)).alloc (.cells #[.pointer (some ⟨w2.heap.size, 0, none⟩), .slice none 0 0] 68)).heap[w2.heap.size + 1]? = some (.cells #[.pointer (some ⟨w2.heap.size, 0, none⟩), .slice none 0 0] 68 (0, 0)) := heap_alloc2_new w2 _ _
  generalize ((w2.alloc (.cells #[.slice none 0 0, .slice none 0 0, .slice none 0 0, .slice none 0 0, .slice none 0 0, .slice none 0 0, .slice none 0 0, .slice none 0 0, .slice none 0 0, .slice none 0 0] 65)).alloc (.cells #[.pointer (some ⟨w2.heap.size, 0, none⟩), .slice none 0 0] 68)) = w3 at *
  have A := HA.out
  have B13 : Below w1.heap.size w1 w3 := A.below.trans (hBK.mono hz2)
  have B03 : Below w.heap.size w w3 := HF.out.below.trans (B13.mono (by omega))
  obtain ⟨bk0, bd0⟩ := book0 hM3 (w2.heap.size + 2) (by omega) (by omega)
  have ws0 : WS (w2.heap.size + 2) w2.heap.size (w2.heap.size + 1) w3 := ⟨cell_of_row _ _ _ _ _ _ hW3, cell_of_row _ _ _ _ _ _ hW3, by omega, by omega⟩
  have HST : Hid (∀ i, i < 9 + m → StepAt (w2.heap.size + 2) w2.heap.size w3 (fun j => w3.cell? ⟨G, i * 9 + j, none⟩)) := fun i hi =>
    all_steps HF.out B13 HS.out (by omega) (by omega) (fun j u hj => (hBK.cell (p := ⟨G, j, none⟩) hG).trans (A.cell j u hj)) i hi
  have HB0 : Hid (Below w.heap.size w w3) := B03
  have HT3 : Hid (Tab w3) := HT.out.below B03
  have HM3 : Hid (Mrk w3) := HMK.out.on B03
  have HBK0 : Hid (BK (w2.heap.size + 2) w2.heap.size w3 (fun _ => .slice none 0 0) (fun _ => []) ∧ BD w2.heap.size w3 (fun _ => .slice none 0 0) (fun _ => []) ∧ WS (w2.heap.size + 2) w2.heap.size (w2.heap.size + 1) w3) := ⟨bk0, bd0, ws0⟩
  generalize w2.heap.size = M at *
  clear hM3 hW3 A B13 B03 bk0 bd0 ws0 HA HS HT HMK HF hBK HL HN
  have hm1 : (m : Int) * 120 ≤ 140737488355328 := by omega
  go_loopw [7, 8] (fun ok i wr => ∃ (k : Nat) (F : Nat → Value) (X : Nat → List Value), k ≤ 9 + m ∧ ok = .bool true ∧ i = .int .i64 k ∧ BK (M + 2) M wr F X ∧ BD M wr F X ∧ Kept (M + 2) M w3 wr ∧ (X 0).length ≤ 4 * k ∧ (X 8).length ≤ k ∧ (X 1).length ≤ 4 * k) (fun _ i _ => 9 + m - (intOf i).toNat)
  case atStart => exact ⟨0, _, _, by omega, rfl, rfl, HBK0.out.1, HBK0.out.2.1, Kept.refl _ _ _, by simp, by simp, by simp⟩
  case round =>
    obtain ⟨k, F, X, hk, rfl, rfl, bk, bd, hK, x0, x8, x1⟩ := hrel
    have hM0 : 0 < M := by omega
    have ws : WS (M + 2) M (M + 1) wr := HBK0.out.2.2.kept hK
    have tb : Tab wr := hK.tab hM0 (by omega) HT3.out
    have mk : Mrk wr := fun j hj => (hK.cell (p := ⟨2, j, none⟩) (by show 2 < M + 2; omega) (by show 2 ≠ M; omega)).trans (HM3.out j hj)
    have wb := ws.book
    have HLK : Hid (∀ (w4 : World) (F4 : Nat → Value) (X4 : Nat → List Value), BK (M + 2) M w4 F4 X4 → BD M w4 F4 X4 → (X4 0).length ≤ 4 * (k + 1) → (X4 8).length ≤ k + 1 → (X4 1).length ≤ 4 * (k + 1) → Calls Tryz.prog 27 #[.pointer (some ⟨M, 0, none⟩)] w4 fun e w' => e = .returned (.bool true) ∧ Sm w4 w') := fun w4 F4 X4 b4 d4 y0 y8 y1 =>
      looks_any (M + 2) M w4 F4 X4 b4 d4 (by omega) (by omega) (by have := d4.len04; omega) (by omega)
    by_cases hlt : k < 9 + m
    · obtain ⟨kd, p, n, f, cv, s, t, sd, b, q, e, L, c, hc, C, OK⟩ := (HST.out k hlt).kept hK (by omega) (by omega)
      have HCL : Hid (∀ j, j < 9 → wr.cell? ⟨G, k * 9 + j, none⟩ = (opC kd p n f cv s t sd (.slice b q e))[j]?) := hc
      have h0 : wr.cell? ⟨G, k * 9, none⟩ = some (.int .i64 kd) := hc 0 (by omega)
      have hi1 : (k : Int) < ((9 + m : Nat) : Int) := by omega
      by_cases h2 : kd ≤ 6
      · have HSR : Hid (Calls Tryz.prog 26 #[.pointer (some ⟨M + 1, 0, none⟩), .agg (opC kd p n f cv s t sd (.slice b q e))] wr (Stepped (M + 2) M wr X)) :=
          step_changes (M + 2) M (M + 1) wr F X bk bd ws tb mk kd p n f h2 cv L c C s t sd OK b q e (by omega) (by omega) (by omega)
        clear bk bd ws tb mk hc C OK
        go_wp2_with (refine wpList_load_op rfl _ rfl G (k * 9) rfl (opC kd p n f cv s t sd (.slice b q e)) rfl HCL.out ?_)
        refine HSR.out.mono ?_
        rintro _ w4 ⟨rfl, F4, X4, bk4, bd4, hK4, y0, y8, y1⟩
        have hK04 : Kept (M + 2) M w3 w4 := hK.trans hK4
        have wb4 := (HBK0.out.2.2.kept hK04).book
        have HL4 : Hid (Calls Tryz.prog 27 #[.pointer (some ⟨M, 0, none⟩)] w4 fun e w' => e = .returned (.bool true) ∧ Sm w4 w') := HLK.out w4 F4 X4 bk4 bd4 (by omega) (by omega) (by omega)
        have HFIN : Hid (∀ w5, Sm w4 w5 → BK (M + 2) M w5 F4 X4 ∧ BD M w5 F4 X4 ∧ Kept (M + 2) M w3 w5 ∧ (X4 0).length ≤ 4 * (k + 1) ∧ (X4 8).length ≤ k + 1 ∧ (X4 1).length ≤ 4 * (k + 1)) := fun w5 s5 =>
          ⟨bk4.sm s5, bd4.sm s5, hK04.trans (Kept.of_below (s5.below _)), by omega, by omega, by omega⟩
        clear bk4 bd4 hK4 hK04 hK HSR HCL h0 HLK
        go_wp2_with fail
        refine HL4.out.mono ?_
        rintro _ w5 ⟨rfl, s5⟩
        have HF5 := HFIN.out w5 s5
        have HR : Hid (BK (M + 2) M w5 F4 X4 ∧ BD M w5 F4 X4 ∧ Kept (M + 2) M w3 w5 ∧ (X4 0).length ≤ 4 * (k + 1) ∧ (X4 8).length ≤ k + 1 ∧ (X4 1).length ≤ 4 * (k + 1)) := HF5
        clear HF5 HFIN s5 HL4 wb wb4 y0 y8 y1 x0 x8 x1
        go_wp2_with fail
        go_roundw
        case rel => exact ⟨k + 1, F4, X4, by omega, rfl, by go_num, HR.out⟩
        case measure => simp [intOf]; omega
      · have HL4 : Hid (Calls Tryz.prog 27 #[.pointer (some ⟨M, 0, none⟩)] wr fun e w' => e = .returned (.bool true) ∧ Sm wr w') := HLK.out wr F X bk bd (by omega) (by omega) (by omega)
        have HFIN : Hid (∀ w5, Sm wr w5 → BK (M + 2) M w5 F X ∧ BD M w5 F X ∧ Kept (M + 2) M w3 w5 ∧ (X 0).length ≤ 4 * (k + 1) ∧ (X 8).length ≤ k + 1 ∧ (X 1).length ≤ 4 * (k + 1)) := fun w5 s5 =>
          ⟨bk.sm s5, bd.sm s5, hK.trans (Kept.of_below (s5.below _)), by omega, by omega, by omega⟩
        clear bk bd ws tb hc C hK HCL HLK x0 x8 x1
        go_wp2_with fail
        refine HL4.out.mono ?_
        rintro _ w5 ⟨rfl, s5⟩
        have HF5 := HFIN.out w5 s5
        have HR : Hid (BK (M + 2) M w5 F X ∧ BD M w5 F X ∧ Kept (M + 2) M w3 w5 ∧ (X 0).length ≤ 4 * (k + 1) ∧ (X 8).length ≤ k + 1 ∧ (X 1).length ≤ 4 * (k + 1)) := HF5
        clear HF5 HFIN s5 HL4 wb h0
        go_wp2_with fail
        go_roundw
        case rel => exact ⟨k + 1, F, X, by omega, rfl, by go_num, HR.out⟩
        case measure => simp [intOf]; omega
    · have e : k = 9 + m := by omega
      subst e
      have hnn : ¬ ((9 + m : Nat) : Int) < ((9 + m : Nat) : Int) := by omega
      have HE : Hid (Below w.heap.size w wr) := by
        have h1 := HB0.out
        refine ⟨hK.os.trans h1.os, hK.tape.trans h1.tape, hK.output.trans h1.output, Nat.le_trans h1.size hK.size, fun j hj => ?_⟩
        rw [hK.block j (by omega) (by omega)]
        exact h1.block j hj
      clear bk bd ws tb hK HLK wb
      go_wp2_with fail
      go_ret
      exact ⟨rfl, HE.out⟩
end Go.Proofs.YtflenkppcclclaaGreatDoor

namespace Go.Proofs.YtflenkppcclclaaGreatDoor
open Go.ChangeShapes Go.WideShapes Go.ChangeAt Go.WideMaps Go.WideElems Go.RowKit Go.Deep

theorem gMarked : Tryz.prog.globalNamed "prowl/changes.marked" = some 2 := by kernel_rfl
theorem tMarked : (Tryz.prog.globals[2]?).map (·.type) = some 271 := by kernel_rfl
theorem Tryz.cellsByte : Tryz.prog.cellsOf 5 = 1 := by kernel_rfl

theorem both_of_vars {W : World} {ps : List MemPlace} (h : DataW.LaidVars Tryz.prog W Rows.changesRow.laid ps) : Tab W ∧ Mrk W := by
  obtain ⟨g0, t0, cs0, f0, p0, q0, hg0, ht0, hv0, hd0, hrest⟩ := h
  refine ⟨?_, ?_⟩
  · clear hrest
    obtain rfl := Option.some.inj (gShapes.symm.trans hg0)
    obtain rfl := Option.some.inj (tShapes.symm.trans ht0)
    obtain ⟨xs, m1, rfl, hx, hlen, hn, hel⟩ := DataW.trod_array Tryz.underlying224 hd0
    simp only [Prod.mk.injEq] at hx
    have hcell := fun j => World.var?_cell hg0 hv0 j
    intro k hk
    obtain ⟨i, r, hr, rfl⟩ : ∃ i r, r < 3 ∧ k = i * 3 + r := ⟨k / 3, k % 3, by omega, by omega⟩
    have hi : i < 21 := by omega
    have hxi : (xs.map (·.1))[i]? = some (.agg [.lit (.int .i64 (shp (i * 3))), .lit (.int .i64 (shp (i * 3 + 1))), .lit (.int .i64 (shp (i * 3 + 2)))]) := by
      have e : (DataW.agg (xs.map (·.1)) : DataW Unit) = Rows.laid_prowl_program_shapes := hx.1.symm
      unfold Rows.laid_prowl_program_shapes at e
      simp only [DataW.agg.injEq] at e
      rw [e]
      match i, hi with
      | 0, _ | 1, _ | 2, _ | 3, _ | 4, _ | 5, _ | 6, _ | 7, _ | 8, _ | 9, _ | 10, _ | 11, _ | 12, _ | 13, _ | 14, _ | 15, _ | 16, _ | 17, _ | 18, _ | 19, _ | 20, _ => rfl
      | i + 21, hi => omega
    rw [List.getElem?_map, Option.map_eq_some_iff] at hxi
    obtain ⟨x, hx1, hx2⟩ := hxi
    have he := hel i hi
    rw [hx1, Tryz.cellsShape] at he
    obtain ⟨a0, a1, a2⟩ := shape_cells he hx2
    have hc : ∀ r, r < 3 → ∀ v, ((cs0.toList.drop (i * 3)).take 3)[r]? = some v → W.cell? ⟨0, i * 3 + r, none⟩ = some v := by
      intro r hr v hv
      rw [List.getElem?_take, if_pos hr, List.getElem?_drop] at hv
      rw [hcell]
      simpa using hv
    match r, hr with
    | 0, _ => exact hc 0 (by omega) _ a0
    | 1, _ => exact hc 1 (by omega) _ a1
    | 2, _ => exact hc 2 (by omega) _ a2
    | r + 3, hr => omega
  · obtain ⟨⟨g1, t1, cs1, f1, p1, q1, hg1, ht1, hv1, hd1, _⟩, _⟩ := hrest
    clear hd0 hv0 ht0 hg0
    obtain rfl := Option.some.inj (gMarked.symm.trans hg1)
    obtain rfl := Option.some.inj (tMarked.symm.trans ht1)
    obtain ⟨xs, m1, rfl, hx, hlen, hn, hel⟩ := DataW.trod_array Tryz.underlying271 hd1
    simp only [Prod.mk.injEq] at hx
    have hcell := fun j => World.var?_cell hg1 hv1 j
    intro k hk
    have hxi : (xs.map (·.1))[k]? = some (.lit (.int .u8 (markL k))) := by
      have e : (DataW.agg (xs.map (·.1)) : DataW Unit) = Rows.laid_prowl_changes_marked := hx.1.symm
      unfold Rows.laid_prowl_changes_marked at e
      simp only [DataW.agg.injEq] at e
      rw [e]
      match k, hk with
      | 0, _ | 1, _ | 2, _ | 3, _ | 4, _ => rfl
      | k + 5, hk => omega
    rw [List.getElem?_map, Option.map_eq_some_iff] at hxi
    obtain ⟨x, hx1, hx2⟩ := hxi
    have he := hel k hk
    rw [hx1, Tryz.cellsByte] at he
    obtain ⟨k0, c0, d0, _⟩ := DataW.trod_int Tryz.underlying5 he
    rw [d0] at hx2
    simp only [DataW.lit.injEq, Lit.int.injEq, true_and] at hx2
    subst hx2
    rw [hcell]
    have := one_of c0
    simpa using this
theorem both_of_laid {W : World} (h : laidMetH Tryz.prog Rows.changesRow.laid W) : Tab W ∧ Mrk W := by
  rw [MakeChecks.laidMetH_plain _ _ _ (by kernel_rfl)] at h
  obtain ⟨ps, h0, _⟩ := h
  exact both_of_vars h0
end Go.Proofs.YtflenkppcclclaaGreatDoor

namespace Go.Proofs.YtflenkppcclclaaGreatDoor
open Go.ChangeShapes Go.WideShapes Go.ChangeAt Go.RowKit
open Go.ChangeMaps (open_string shut_string)

theorem Tryz.own : ownKnob Tryz.prog.godebug = none := by kernel_rfl

theorem changes_any (w : World) (a : Option Addr) (m c : Nat) (news : List Value) (hl : news.length = m * 9)
    (hnews : ∀ ad, a = some ad → ∀ j u, news[j]? = some u → w.cell? (ad.add j) = some u) (hn : a = none → m = 0) (hb : (9 + m) * 120 ≤ 140737488355328) (hT : Tab w) (hMk : Mrk w) (hS : ScriptOk w m news) :
    Calls Tryz.prog 5 #[.slice a m c] w fun e w' => e = .returned (.bool true) ∧ Below w.heap.size w w' := by
  have HP : Hid (Calls Tryz.prog 11 #[.slice a m c, .int .i64 6] w fun e w' => e = .returned (.bool true) ∧ Below w.heap.size w w') := played_changes w a m c news hl hnews hn hb hT hMk hS
  clear hl hnews hn hb hT hMk hS
  go_enter Tryz.func5, Tryz.ntmps5
  go_wp2_with fail
  refine HP.out.mono ?_
  rintro _ w1 ⟨rfl, B⟩
  have HB : Hid (Below w.heap.size w w1) := B
  clear B
  go_wp2_with fail
  go_ret
  exact ⟨rfl, HB.out⟩

/-- The door's own heap meets the condition. -/
theorem door_met (os : Os) (args : Array Value) : laidMetH Tryz.prog Rows.changesRow.laid ((World.doorLaid Tryz.prog 400 os).forCall (fun _ _ => 0) ⟨#[], args, []⟩).memory :=
  laidMetH_of_parts3 (fuel := 8) (laidMet_of_run' 8 (by kernel_rfl) (by kernel_rfl)) (by kernel_rfl) (by kernel_rfl)

theorem Tryz.laidOut : laidOutB Tryz.prog = true := by kernel_rfl
theorem Tryz.readOps : Tryz.prog.readableRec 22 = true := by kernel_rfl
theorem Tryz.rowOps : 22 < Tryz.prog.types.size := of_decide_eq_true (by kernel_rfl)

set_option maxRecDepth 100000 in
theorem changes_lifted (os : Os) (started : os.Started) (H : Type) (enc : TypeId × Value → H) :
    ReturnsInHanded {} Tryz.checked os 5 .any (fun w args => (Rows.changesSpec.pre enc Tryz.prog Tryz.f5 [] false w args ∧ laidMetH Tryz.prog Rows.changesRow.laid w) ∧ sizedMet enc Tryz.prog Tryz.f5 (OpenSpec.ofChange Rows.changesSpec) false w args)
      (Rows.changesSpec.post enc Tryz.prog Tryz.f5 false true false false) := by
  refine returnsInHanded_of_change_and (C := Tryz.checked) (X := fun w _ => laidMetH Tryz.prog Rows.changesRow.laid w) (fun _ _ _ hh h => h.of_heap hh) Tryz.own started (by kernel_rfl) Tryz.func5
    (ChangeSpec.witness_shaped (enc := enc) (C := Tryz.checked) (os := os) (X := fun w _ => laidMetH Tryz.prog Rows.changesRow.laid w) false (World.doorLaid Tryz.prog 400 os) #[.slice none 0 0] 8 rfl (World.shaped_of_RefB (by kernel_rfl) (by kernel_rfl)) (by kernel_rfl) (by kernel_rfl) (by kernel_rfl) (door_met os _)) ?_
  intro W base args ds gs before hval0 hW _ hsz0 hL _
  have hval : ∀ (j : Nat) t v, Tryz.f5.params[j]? = some t → args[j]? = some v → Value.okWide Tryz.prog W .any base t v := hval0
  have hsz : (DataW.weightsEach Tryz.prog (Tryz.f5.params.toList ++ Rows.changesSpec.plain.varTypes Tryz.prog) (ds ++ gs)).all (· ≤ reachBytes) = true := hsz0
  have hW' := hW
  obtain ⟨p, q, hA0, hV, hpq, hfz, hnd⟩ := hW
  have hA : DataW.TrodAll enc Tryz.prog W 0 (fun _ => true) true Tryz.f5.params.toList args.toList ds p := hA0
  rw [Tryz.params5] at hA hval hsz
  obtain ⟨v0, d0, rfl, rfl, h0⟩ := trodAll_one hA
  obtain ⟨rfl, rfl⟩ := trodVars_none hV
  clear hA0 hval0
  rw [List.append_nil] at hpq
  subst hpq
  obtain ⟨a0, len, cap, rfl⟩ := okWide_slice Tryz.underlying22 (hval 0 22 v0 rfl rfl)
  have hlt := hW'.lt
  have h0' := h0
  obtain ⟨fuel, hf⟩ := h0
  have hwt : ∀ k ∈ d0.weights Tryz.prog 22, k ≤ reachBytes := fun k hk => by
    have := List.all_eq_true.1 hsz k (DataW.weights_mem_each (j := 0) (t := 22) (d := d0) rfl rfl k hk)
    simpa using this
  obtain ⟨news, n1, n2, n3, n4, n5⟩ := script_open hf hwt
  refine (changes_any W a0 len cap news n1 n2 n3 n4 (both_of_laid hL).1 (both_of_laid hL).2 n5).mono fun e W' ⟨he, bel⟩ => ?_
  subst he
  exact ⟨_, rfl, _, _, _, [], _, [], hW', trodAll_mk1 (shut_bool Tryz.underlying4 _), trodAll_mk1 (Below.trod Tryz.laidOut Tryz.readOps Tryz.rowOps h0' bel hlt), rfl, bel.frame _, fun h => by cases h⟩

theorem changes_over : Rows.ChangesSaid :=
  OpenClaim.holds_of_wide 5 Tryz.f5 rfl rfl rfl rfl rfl rfl rfl ⟨rfl, rfl, rfl, rfl, rfl⟩ rfl rfl rfl rfl rfl (by kernel_rfl) Tryz.func5 (by kernel_rfl)
    (of_decide_eq_true (by kernel_rfl)) (by unfold Func.isWrapper; first | (rw [if_pos (by decide +kernel)]; kernel_rfl) | (rw [if_neg (by decide +kernel)]; exact ⟨rfl, rfl⟩))
    (fun os started H enc _ => changes_lifted os started H enc)

theorem changes_holds : Rows.ChangesCardSaid :=
  Claim7.holds_tied_plain_at .later [] [.data, .data] true Rows.changesCard.stood.harness false
    changes_over (fun _ h => by cases h) (by kernel_rfl) (fun _ h => by cases h) changes_row_tie rfl ⟨rfl, rfl⟩ (by kernel_rfl) rfl
    (fun f fn hf hfn => by
      obtain rfl : f = 5 := Option.some.inj ((show Tryz.prog.funcNamed Rows.changesRow.func = some 5 by kernel_rfl).symm.trans hf) |>.symm
      obtain rfl : fn = Tryz.f5 := (Option.some.inj (Tryz.func5.symm.trans hfn)).symm
      exact ⟨by kernel_rfl, fun j t ht => by
        rw [Tryz.params5] at ht
        have hm : t ∈ [22] := by simpa using Array.mem_of_getElem? ht
        have hall : ([22].all fun u => !Tryz.prog.wantsStandIn u) = true := by kernel_rfl
        exact (show Tryz.prog.wantsStandIn t = false by simpa using List.all_eq_true.1 hall t hm)⟩)
    (by kernel_rfl)
#print axioms changes_holds
end Go.Proofs.YtflenkppcclclaaGreatDoor

