import Derived.Test.YtflenkppcclclaaGreatDoorM41
namespace Go.Proofs.YtflenkppcclclaaGreatDoor
open Go.RowKit

theorem own_coded {w : World} {base : Nat} {v : Value} {cs : List Int} (h : w.ownsRow base 5 1 v cs.length (cs.map (Value.int .u8))) : Coded w v cs.length (fun i => cs.getD i 0) := by
  by_cases h0 : 0 < cs.length
  · obtain ⟨g, cap, rfl, _, hr, hm, hc⟩ := own_at' h h0
    refine .full g 0 cap rfl ⟨fun i hi => ?_, hr, hm, h0⟩
    rw [Nat.zero_add]
    refine hc i _ ?_
    rw [List.getElem?_map, List.getElem?_eq_getElem hi, List.getD_eq_getElem?_getD, List.getElem?_eq_getElem hi]; rfl
  · obtain ⟨p, cap, rfl⟩ := own_len h
    exact .bare p cap (by congr 1; omega) (by omega)

set_option maxHeartbeats 4000000 in
set_option maxRecDepth 100000 in
theorem machine_probed (base M W0 : Nat) (w : World) (F : Nat → Value) (X : Nat → List Value) (h : BK base M w F X) (d : BD M w F X) (hw : w.cell? ⟨W0, 0, none⟩ = some (.pointer (some ⟨M, 0, none⟩))) (hWb : W0 < base) (hWM : W0 ≠ M) (hT : Tab w)
    (p n f : Int) (cv : Value) (L0 : Nat) (c0 : Nat → Int) (C0 : Coded w cv L0 c0) (hby0 : ∀ i, i < L0 → 0 ≤ c0 i ∧ c0 i ≤ 255) (hcv0 : 0 < L0 → ∀ g, cv.ownBlock = some g → g < base ∧ g ≠ M) (s t : ByteArray) (sd : Int) (b : Option Addr) (k e : Nat)
    (hX : ((X 8).length + 1) * 24 ≤ 140737488355328) (hX0 : ((X 0).length + 4) * 24 ≤ 140737488355328) (hX1 : (X 1).length ≤ 4611686018427387904) :
    Calls Tryz.prog 50 #[.pointer (some ⟨W0, 0, none⟩), .agg (opC 4 p n f cv s t sd (.slice b k e))] w (Stepped base M w X) := by
  obtain ⟨pc0, capc0, rfl⟩ := C0.form
  have hW0 : W0 < w.heap.size := block_lt_of_cell hw
  have B0 : Below w.heap.size w (w.alloc (.cells (opC 4 p n f (.slice pc0 L0 capc0) s t sd (.slice b k e)) 70)) := (Below.refl _ _).alloc (Nat.le_refl _) _
  have hz0 : (w.alloc (.cells (opC 4 p n f (.slice pc0 L0 capc0) s t sd (.slice b k e)) 70)).heap.size = w.heap.size + 1 := by simp
  have hh0 := heap_alloc_new w (.cells (opC 4 p n f (.slice pc0 L0 capc0) s t sd (.slice b k e)) 70)
  have e0 : (w.alloc (.cells (opC 4 p n f (.slice pc0 L0 capc0) s t sd (.slice b k e)) 70)).cell? ⟨w.heap.size, 0, none⟩ = some (.int .i64 4) := cell_of_row _ _ _ _ _ _ hh0
  have e4 : (w.alloc (.cells (opC 4 p n f (.slice pc0 L0 capc0) s t sd (.slice b k e)) 70)).cell? ⟨w.heap.size, 4, none⟩ = some (.slice pc0 L0 capc0) := cell_of_row _ _ _ _ _ _ hh0
  have e5 : (w.alloc (.cells (opC 4 p n f (.slice pc0 L0 capc0) s t sd (.slice b k e)) 70)).cell? ⟨w.heap.size, 5, none⟩ = some (.string s) := cell_of_row _ _ _ _ _ _ hh0
  have e3 : (w.alloc (.cells (opC 4 p n f (.slice pc0 L0 capc0) s t sd (.slice b k e)) 70)).cell? ⟨w.heap.size, 3, none⟩ = some (.int .i64 f) := cell_of_row _ _ _ _ _ _ hh0
  clear hh0
  go_enter Tryz.func50, Tryz.ntmps50
  go_wp2_with (refine wpList_box_c rfl 70 _ rfl (.agg (opC 4 p n f (.slice pc0 L0 capc0) s t sd (.slice b k e))) rfl (opC 4 p n f (.slice pc0 L0 capc0) s t sd (.slice b k e)) (opbox _ _ _ _ _ _ _ _ _ _ _ _ _) ?_)
  generalize (w.alloc (.cells (opC 4 p n f (.slice pc0 L0 capc0) s t sd (.slice b k e)) 70)) = w0 at *
  have hlew := h.le
  have HH : Hid (BK base M w F X ∧ BD M w F X ∧ Tab w) := ⟨h, d, hT⟩
  have hw00 := (B0.cell (p := ⟨W0, 0, none⟩) hW0).trans hw
  by_cases hV : ∃ N, VP c0 L0 N
  rotate_left
  · have HPB : Hid (Calls Tryz.prog 97 #[.slice pc0 L0 capc0] w0 fun e w' => e = .returned (.tuple #[.slice none 0 0, .slice none 0 0, .int .i64 1]) ∧ Below w0.heap.size w0 w') := rProbe_bad w0 _ L0 c0 hby0 (C0.below B0) hV
    have HFB : Hid (∀ wx, Below w0.heap.size w0 wx → Stepped base M w X (.returned (.bool true)) wx) := fun wx hB => by
      have hb := B0.trans (hB.mono B0.size)
      exact ⟨rfl, F, X, h.below hb, d.below hb, Kept.of_below (hb.mono hlew), by omega, by omega, by omega⟩
    clear HH h d hT C0 hcv0
    refine HPB.out.mono ?_
    rintro _ wa ⟨rfl, Ba⟩
    have HS : Hid (Stepped base M w X (.returned (.bool true)) wa) := HFB.out wa Ba
    clear HFB Ba
    go_wp2_with fail
    go_ret
    exact HS.out
  obtain ⟨N, V⟩ := hV
  have HPG : Hid (Calls Tryz.prog 97 #[.slice pc0 L0 capc0] w0 fun e w' => ∃ bs vm vq, w0.heap.size ≤ bs ∧ TR bs w' vm vq (pcode c0 N L0) (pfrom c0 N L0) ∧ e = .returned (.tuple #[vm, vq, .int .i64 0]) ∧ Below w0.heap.size w0 w') := by
    have hC := C0.below B0
    cases hC with
    | bare p' cap' hv hL => have := V.lt V.one; omega
    | full cb co cap' hv hC =>
      rw [hv]
      exact (rProbe_any w0 cb co L0 cap' N c0 V.fine0 V.most hby0 hC).mono fun e w' h => h
  refine HPG.out.mono ?_
  rintro _ wa ⟨bs, vm, vq, hbs, TA, rfl, Ba⟩
  obtain ⟨pc, capc, rfl⟩ := own_len TA.own1
  obtain ⟨pq, capq, rfl⟩ := own_len TA.own2
  have BWA : Below w.heap.size w wa := B0.trans (Ba.mono B0.size)
  have hza := Ba.size
  have hq := V.pLen'
  obtain ⟨L, c, hLe, C, hby, hL, hcv⟩ : ∃ (L : Nat) (c : Nat → Int), (pcode c0 N L0).length = L ∧ Coded wa (.slice pc L capc) L c ∧ (∀ i, i < L → 0 ≤ c i ∧ c i ≤ 255) ∧ L + 8 ≤ 140737488355328 ∧ (∀ gg, (Value.slice pc L capc).ownBlock = some gg → w.heap.size ≤ gg ∧ gg < wa.heap.size) := by
    refine ⟨_, fun i => (pcode c0 N L0).getD i 0, rfl, own_coded TA.own1, fun i hi => ?_, by rw [pcode_len]; omega, fun gg hgg => by have := TA.own1.lt gg hgg; omega⟩
    show 0 ≤ (pcode c0 N L0).getD i 0 ∧ (pcode c0 N L0).getD i 0 ≤ 255
    rw [List.getD_eq_getElem?_getD, List.getElem?_eq_getElem hi]
    exact V.pcBytes L0 (Nat.le_refl _) _ (List.getElem_mem hi)
  rw [hLe]
  generalize (pfrom c0 N L0).length = lf at *
  have h := HH.out.1.below BWA
  have d := HH.out.2.1.below BWA
  have hT := HH.out.2.2.below BWA
  have hw := (Ba.cell (p := ⟨W0, 0, none⟩) (by show W0 < w0.heap.size; omega)).trans hw00
  have e0 := (Ba.cell (p := ⟨w.heap.size, 0, none⟩) (by show w.heap.size < w0.heap.size; omega)).trans e0
  have e3 := (Ba.cell (p := ⟨w.heap.size, 3, none⟩) (by show w.heap.size < w0.heap.size; omega)).trans e3
  have e5 := (Ba.cell (p := ⟨w.heap.size, 5, none⟩) (by show w.heap.size < w0.heap.size; omega)).trans e5
  have hFR : ∀ gg, w.heap.size ≤ gg → Out5 M F gg := fun gg hg => HH.out.1.fresh hg
  have HFR : Hid (∀ gg, w.heap.size ≤ gg → Out5 M F gg) := hFR
  have HBWA : Hid (Below w.heap.size w wa) := BWA
  have hW0 : W0 < wa.heap.size := by omega
  have hwa : w.heap.size < wa.heap.size := by omega
  clear TA HPG HH hcv0 C0 hby0 V hFR hw00 hbs B0 Ba BWA
  have B0 : Below wa.heap.size wa wa := Below.refl _ _
  go_wp2_with fail
  refine (lend_any wa (.slice pc L capc) L c (C.below B0) hL).mono ?_
  rintro e1 w1 ⟨g, cap, rfl, hown, B1⟩
  have B01 := B0.trans (B1.mono B0.size)
  have hg : wa.heap.size ≤ g ∧ g < w1.heap.size := hown.lt g rfl
  obtain ⟨Cin, hcap, hcap'⟩ := lent_coded hown
  have a0 := (B1.cell (p := ⟨w.heap.size, 0, none⟩) (by show w.heap.size < wa.heap.size; omega)).trans e0
  have a3 := (B1.cell (p := ⟨w.heap.size, 3, none⟩) (by show w.heap.size < wa.heap.size; omega)).trans e3
  have a5 := (B1.cell (p := ⟨w.heap.size, 5, none⟩) (by show w.heap.size < wa.heap.size; omega)).trans e5
  have hi1 : (L : Int) ≤ (cap : Int) := by omega
  have HOWN : Hid (w1.ownsRow wa.heap.size 5 1 (.slice (some ⟨g, 0, none⟩) (L + 8) cap) (L + 8) (bytesL (lentAt c L) (L + 8))) := hown
  have HD : Hid (BD M wa F X) := d
  have HBK : Hid (BK base M wa F X) := h
  have hle := h.le
  have hlt := h.lt
  have hs1 := B1.size
  clear hown h d
  go_wp2_with fail
  refine (xRun_gen w1 _ L c hby Cin (hT.below B01) s f).mono ?_
  intro e2 w2 hR1
  obtain ⟨r, kk, A1⟩ := run_ans hR1
  obtain ⟨pl, nl, capl, xl, rfl, hnl, hol, hcvl⟩ := A1.form
  have B2 := A1.1
  have B02 := B01.trans (B2.mono B01.size)
  have hs2 := B2.size
  have b3 := (B2.cell (p := ⟨w.heap.size, 3, none⟩) (by show w.heap.size < w1.heap.size; omega)).trans a3
  have b5 := (B2.cell (p := ⟨w.heap.size, 5, none⟩) (by show w.heap.size < w1.heap.size; omega)).trans a5
  have hO2 : w.heap.size < w2.heap.size := by omega
  have HAN : Hid (RunIs c L s f w1 (.returned (.tuple #[.agg #[.int .i64 (oK r), .int .i64 (oF r), .int .i64 (oA r), .string (oS r), .int .i64 (oN r)], .slice pl nl capl, .int .i64 kk])) w2 ∧ Ans w1 (.returned (.tuple #[.agg #[.int .i64 (oK r), .int .i64 (oF r), .int .i64 (oA r), .string (oS r), .int .i64 (oN r)], .slice pl nl capl, .int .i64 kk])) w2 r kk) := ⟨hR1, A1⟩
  have HOL : Hid (w2.ownsRow w1.heap.size 5 1 (.slice pl nl capl) nl xl) := hol
  have HCL : Hid (∀ wx : World, (∀ g, (Value.slice pl nl capl).ownBlock = some g → wx.heap[g]? = w2.heap[g]?) → (convert 25 9 (.slice pl nl capl)).run Tryz.prog wx = .ok (.string (oC r)) wx) := hcvl
  clear hR1 A1 hol hcvl
  obtain ⟨q1, hq1⟩ : ∃ x, oK r = x := ⟨_, rfl⟩
  obtain ⟨q2, hq2⟩ : ∃ x, oF r = x := ⟨_, rfl⟩
  obtain ⟨q3, hq3⟩ : ∃ x, oA r = x := ⟨_, rfl⟩
  obtain ⟨q4, hq4⟩ : ∃ x, oS r = x := ⟨_, rfl⟩
  obtain ⟨q5, hq5⟩ : ∃ x, oN r = x := ⟨_, rfl⟩
  have HQ : Hid (oK r = q1 ∧ oF r = q2 ∧ oA r = q3 ∧ oS r = q4 ∧ oN r = q5) := ⟨hq1, hq2, hq3, hq4, hq5⟩
  rw [hq1, hq2, hq3, hq4, hq5]
  clear hq1 hq2 hq3 hq4 hq5
  go_wp2_with fail
  have B2A : Below w2.heap.size w2 (w2.alloc (.cells #[.int .i64 q1, .int .i64 q2, .int .i64 q3, .string q4, .int .i64 q5] 35)) := (Below.refl _ _).alloc (Nat.le_refl _) _
  have h2A := heap_alloc_new w2 (.cells #[.int .i64 q1, .int .i64 q2, .int .i64 q3, .string q4, .int .i64 q5] 35)
  have hz2 : (w2.alloc (.cells #[.int .i64 q1, .int .i64 q2, .int .i64 q3, .string q4, .int .i64 q5] 35)).heap.size = w2.heap.size + 1 := by simp
  generalize (w2.alloc (.cells #[.int .i64 q1, .int .i64 q2, .int .i64 q3, .string q4, .int .i64 q5] 35)) = w2a at *
  have B02A := B02.trans (B2A.mono B02.size)
  refine (rRun_gen w2a _ L c hby (C.below B02A) s f).mono ?_
  intro e3' w3 hR2
  have A2 := run_same HAN.out.1 HAN.out.2 hR2
  obtain ⟨pm, nm, capm, xm, rfl, hnm, hom, hcvm⟩ := A2.form
  rw [HQ.out.1, HQ.out.2.1, HQ.out.2.2.1, HQ.out.2.2.2.1, HQ.out.2.2.2.2]
  have B3 := A2.1
  have B03 := B02A.trans (B3.mono B02A.size)
  have W23 : Below w2.heap.size w2 w3 := B2A.trans (B3.mono B2A.size)
  have W13 : Below w1.heap.size w1 w3 := B2.trans (W23.mono B2.size)
  have hs3 := B3.size
  have h3A := (B3.block w2.heap.size (by omega)).trans h2A
  have hbl : ∀ gg, (Value.slice pl nl capl).ownBlock = some gg → w1.heap.size ≤ gg ∧ gg < w2.heap.size := fun gg hgg => HOL.out.lt gg hgg
  have cv1 := HCL.out (w3.alloc (.cells #[.int .i64 q1, .int .i64 q2, .int .i64 q3, .string q4, .int .i64 q5] 35)) (fun gg hgg => (Below.heap_alloc w3 _ gg (by have := hbl gg hgg; omega)).trans (W23.block gg (hbl gg hgg).2))
  have cv2 := hcvm (w3.alloc (.cells #[.int .i64 q1, .int .i64 q2, .int .i64 q3, .string q4, .int .i64 q5] 35)) (fun gg hgg => Below.heap_alloc w3 _ gg (hom.lt gg hgg).2)
  generalize oC r = sc at cv1 cv2
  have i0 : w3.cell? ⟨w2.heap.size, 0, none⟩ = some (.int .i64 q1) := cell_of_row _ _ _ _ _ _ h3A
  have i1 : w3.cell? ⟨w2.heap.size, 1, none⟩ = some (.int .i64 q2) := cell_of_row _ _ _ _ _ _ h3A
  have i2 : w3.cell? ⟨w2.heap.size, 2, none⟩ = some (.int .i64 q3) := cell_of_row _ _ _ _ _ _ h3A
  have i3 : w3.cell? ⟨w2.heap.size, 3, none⟩ = some (.string q4) := cell_of_row _ _ _ _ _ _ h3A
  have i4 : w3.cell? ⟨w2.heap.size, 4, none⟩ = some (.int .i64 q5) := cell_of_row _ _ _ _ _ _ h3A
  have hs23 : w2.heap.size < w3.heap.size := by omega
  have B34 : Below w3.heap.size w3 (w3.alloc (.cells #[.int .i64 q1, .int .i64 q2, .int .i64 q3, .string q4, .int .i64 q5] 35)) := (Below.refl _ _).alloc (Nat.le_refl _) _
  have B04 : Below wa.heap.size wa (w3.alloc (.cells #[.int .i64 q1, .int .i64 q2, .int .i64 q3, .string q4, .int .i64 q5] 35)) := B03.trans (B34.mono B03.size)
  have W14 : Below w1.heap.size w1 (w3.alloc (.cells #[.int .i64 q1, .int .i64 q2, .int .i64 q3, .string q4, .int .i64 q5] 35)) := W13.trans (B34.mono W13.size)
  have W24 : Below w2.heap.size w2 (w3.alloc (.cells #[.int .i64 q1, .int .i64 q2, .int .i64 q3, .string q4, .int .i64 q5] 35)) := W23.trans (B34.mono W23.size)
  have hw4 := (B04.cell (p := ⟨W0, 0, none⟩) hW0).trans hw
  have HLK : Hid (Calls Tryz.prog 27 #[.pointer (some ⟨M, 0, none⟩)] (w3.alloc (.cells #[.int .i64 q1, .int .i64 q2, .int .i64 q3, .string q4, .int .i64 q5] 35)) fun e w' => e = .returned (.bool true) ∧ Sm (w3.alloc (.cells #[.int .i64 q1, .int .i64 q2, .int .i64 q3, .string q4, .int .i64 q5] 35)) w') := looks_any base M _ F X (HBK.out.below B04) (HD.out.below B04) (by omega) (by omega) (by have := HD.out.len04; omega) hX1
  have HB04 : Hid (Below wa.heap.size wa (w3.alloc (.cells #[.int .i64 q1, .int .i64 q2, .int .i64 q3, .string q4, .int .i64 q5] 35)) ∧ Below w1.heap.size w1 (w3.alloc (.cells #[.int .i64 q1, .int .i64 q2, .int .i64 q3, .string q4, .int .i64 q5] 35)) ∧ Below w2.heap.size w2 (w3.alloc (.cells #[.int .i64 q1, .int .i64 q2, .int .i64 q3, .string q4, .int .i64 q5] 35))) := ⟨B04, W14, W24⟩
  have hB1 := HBK.out.below B01
  have hD1 := HD.out.below B01
  have hB0 := HBK.out.below B0
  have hD0 := HD.out.below B0
  have HF1 : Hid (∀ gg, w1.heap.size ≤ gg → Out5 M F gg) := fun gg h => hB1.fresh h
  have HN1 : Hid (∀ u gg, Rec X u → u.ownBlock = some gg → gg < wa.heap.size) := fun u gg hu h => (hD0.lt hu h).1
  have HF0 : Hid (Out5 M F g) := hB0.fresh hg.1
  clear hR2 A2 hom hcvm HCL HAN h3A h2A HQ B0 B01 B1 B2 B02 B2A B02A B3 B03 B34 B04 W13 W14 W23 W24 hB1 hD1 hB0 hD0 Cin
  go_wp2_with (go_at_call 56; refine (num_any _ _).mono ?_; rintro e' w' ⟨rfl, hw'⟩; obtain rfl := hw'.symm)
  generalize (w3.alloc (.cells #[.int .i64 q1, .int .i64 q2, .int .i64 q3, .string q4, .int .i64 q5] 35)) = w4 at *
  clear cv1 cv2 i0 i1 i2 i3 i4
  refine HLK.out.mono ?_
  rintro e5' w5 ⟨rfl, S5⟩
  have B5 : Below w4.heap.size w4 w5 := S5.below _
  have B05 := HB04.out.1.trans (B5.mono HB04.out.1.size)
  have W15 := HB04.out.2.1.trans (B5.mono HB04.out.2.1.size)
  have W25 := HB04.out.2.2.trans (B5.mono HB04.out.2.2.size)
  have hw5 := (B05.cell (p := ⟨W0, 0, none⟩) hW0).trans hw
  have hsz5 := W25.size
  have HOB := ownBytes_any base M w5 F X (HBK.out.below B05) (HD.out.below B05) (.slice pl nl capl) nl xl (own_lower (own_below' HOL.out (fun gg hgg => W25.block gg (hbl gg hgg).2)) (by omega)) (by omega)
    (fun gg hgg => HF1.out gg (hbl gg hgg).1) (fun u gg hu hgg c => by have := HN1.out u gg hu c; have := hbl gg hgg; omega) hX0
  have HOB' : Hid (Calls Tryz.prog 101 #[.pointer (some ⟨M, 0, none⟩), .slice pl nl capl] w5 fun e w' => e = .returned (.tuple #[]) ∧ ∃ F' vs ns, vs.length = 4 ∧ ns.length = 4 ∧ BK base M w' F' (upd (upd X 0 (X 0 ++ vs)) 4 (X 4 ++ ns)) ∧ BD M w' F' (upd (upd X 0 (X 0 ++ vs)) 4 (X 4 ++ ns)) ∧ Kept base M w5 w' ∧ (∀ k, k < w5.heap.size → Out5 M F k → (Value.slice pl nl capl).ownBlock ≠ some k → w'.heap[k]? = w5.heap[k]?) ∧ (∀ k, k < w5.heap.size → Out5 M F k → Out5 M F' k) ∧ (∀ u ∈ vs, ∀ k, u.ownBlock = some k → (Value.slice pl nl capl).ownBlock = some k ∨ w5.heap.size ≤ k)) := HOB
  have HX5 : Hid (Below wa.heap.size wa w5 ∧ Below w1.heap.size w1 w5) := ⟨B05, W15⟩
  clear HOB
  go_wp2_with fail
  refine HOB'.out.mono ?_
  rintro e6' w6 ⟨rfl, F', vs, ns, hvs, hns, R6, D6, K6, Fr6, Of6, Nw6⟩
  have hw6 := (K6.cell (p := ⟨W0, 0, none⟩) hWb hWM).trans hw5
  have hbg : (Value.slice pl nl capl).ownBlock ≠ some g := fun c => by have := hbl g c; omega
  have e8 : upd (upd X 0 (X 0 ++ vs)) 4 (X 4 ++ ns) 8 = X 8 := by rw [upd_other _ _ (show (8 : Nat) ≠ 4 by omega), upd_other _ _ (show (8 : Nat) ≠ 0 by omega)]
  have e00 : upd (upd X 0 (X 0 ++ vs)) 4 (X 4 ++ ns) 0 = X 0 ++ vs := by rw [upd_other _ _ (show (0 : Nat) ≠ 4 by omega), upd_same]
  have e11 : upd (upd X 0 (X 0 ++ vs)) 4 (X 4 ++ ns) 1 = X 1 := by rw [upd_other _ _ (show (1 : Nat) ≠ 4 by omega), upd_other _ _ (show (1 : Nat) ≠ 0 by omega)]
  have hC6 : Coded w6 (.slice pc L capc) L c := by
    by_cases h0 : 0 < L
    · refine (C.below B05).keep (fun gg hgg hl => ?_)
      have := hcv gg hgg
      exact Fr6 gg hl (HFR.out gg this.1) (fun e => by have := hbl gg e; omega)
    · have hL0 : L = 0 := by omega
      subst hL0
      exact .bare pc capc rfl rfl
  have WH := whole_any base M w6 F' _ R6 D6 g cap L c (.slice pc L capc) (own_lower (own_below' HOWN.out (fun k hk => by
      obtain rfl : g = k := by simpa [Value.ownBlock] using hk
      exact (Fr6 g (by have := W15.size; omega) HF0.out hbg).trans (W15.block g hg.2))) (by omega)) (Of6 g (by have := W15.size; omega) HF0.out) (fun u hu c => by
      have hu' : Rec X u ∨ u ∈ vs := by
        rcases hu with hu | hu | hu
        · rw [e00] at hu
          rcases List.mem_append.1 hu with hu | hu
          · exact Or.inl (Or.inl hu)
          · exact Or.inr hu
        · rw [e11] at hu; exact Or.inl (Or.inr (Or.inl hu))
        · rw [e8] at hu; exact Or.inl (Or.inr (Or.inr hu))
      rcases hu' with hu' | hu'
      · have := HN1.out u g hu' c; omega
      · rcases Nw6 u hu' g c with q | q
        · exact hbg q
        · have := W15.size; omega) hC6 (fun h0 => C.blk h0 (by omega)) hL (by rw [e8]; exact hX)
  rw [e8] at WH
  have WH' : Hid (Calls Tryz.prog 105 #[.pointer (some ⟨M, 0, none⟩), .slice (some ⟨g, 0, none⟩) (L + 8) cap, .slice pc L capc] w6 fun e w' => e = .returned (.bool true) ∧ ∃ F'', BK base M w' F'' (upd (upd (upd X 0 (X 0 ++ vs)) 4 (X 4 ++ ns)) 8 (X 8 ++ [.slice (some ⟨g, 0, none⟩) (L + 8) cap])) ∧ BD M w' F'' (upd (upd (upd X 0 (X 0 ++ vs)) 4 (X 4 ++ ns)) 8 (X 8 ++ [.slice (some ⟨g, 0, none⟩) (L + 8) cap])) ∧ Kept base M w6 w') := WH
  have HK6 : Hid (Kept base M w w6) := (Kept.of_below (HBWA.out.mono hlew)).trans ((Kept.of_below (B05.mono hle)).trans K6)
  have HVS : Hid (vs.length = 4) := hvs
  clear WH R6 D6 K6 Fr6 Of6 Nw6 e8 e00 e11 hC6 HOB' hvs hns HOL HOWN HBK HD HF1 HN1 HF0 B05 W15 W25 B5 S5 C
  go_wp2_with fail
  refine WH'.out.mono ?_
  rintro e7' w7 ⟨rfl, F'', R7, D7, K7⟩
  have HFIN : Hid (∃ F' X', BK base M w7 F' X' ∧ BD M w7 F' X' ∧ Kept base M w w7 ∧ (X' 0).length ≤ (X 0).length + 4 ∧ (X' 8).length ≤ (X 8).length + 1 ∧ (X' 1).length ≤ (X 1).length + 4) := by
    refine ⟨F'', _, R7, D7, HK6.out.trans K7, ?_, ?_, ?_⟩
    · rw [upd_other _ _ (show (0 : Nat) ≠ 8 by omega), upd_other _ _ (show (0 : Nat) ≠ 4 by omega), upd_same, List.length_append, HVS.out]; omega
    · rw [upd_same, List.length_append]; simp
    · rw [upd_other _ _ (show (1 : Nat) ≠ 8 by omega), upd_other _ _ (show (1 : Nat) ≠ 4 by omega), upd_other _ _ (show (1 : Nat) ≠ 0 by omega)]; omega
  clear R7 D7 K7
  go_wp2_with fail
  go_ret
  exact ⟨rfl, HFIN.out⟩
end Go.Proofs.YtflenkppcclclaaGreatDoor

namespace Go.Proofs.YtflenkppcclclaaGreatDoor
open Go.RowKit

set_option maxHeartbeats 2000000 in
set_option maxRecDepth 100000 in
theorem step_probes (base M W0 : Nat) (w : World) (F : Nat → Value) (X : Nat → List Value) (h : BK base M w F X) (d : BD M w F X) (hw : WS base M W0 w) (hT : Tab w)
    (kd p n f : Int) (hkd : kd ≤ 4) (cv : Value) (L : Nat) (c : Nat → Int) (C : CodeOk base M w cv L c) (s t : ByteArray) (sd : Int) (b : Option Addr) (k e : Nat)
    (hX : ((X 8).length + 1) * 24 ≤ 140737488355328) (hX0 : ((X 0).length + 4) * 24 ≤ 140737488355328) (hX1 : ((X 1).length + 4) * 24 ≤ 140737488355328) :
    Calls Tryz.prog 26 #[.pointer (some ⟨W0, 0, none⟩), .agg (opC kd p n f cv s t sd (.slice b k e))] w (Stepped base M w X) := by
  obtain ⟨pc, capc, rfl⟩ := C.coded.form
  have hle := h.le
  have hlt := h.lt
  have B0 : Below w.heap.size w (w.alloc (.cells (opC kd p n f (.slice pc L capc) s t sd (.slice b k e)) 70)) := (Below.refl _ _).alloc (Nat.le_refl _) _
  have K0 : Kept base M w (w.alloc (.cells (opC kd p n f (.slice pc L capc) s t sd (.slice b k e)) 70)) := Kept.alloc w hle _
  have hh0 := heap_alloc_new w (.cells (opC kd p n f (.slice pc L capc) s t sd (.slice b k e)) 70)
  have e0 : (w.alloc (.cells (opC kd p n f (.slice pc L capc) s t sd (.slice b k e)) 70)).cell? ⟨w.heap.size, 0, none⟩ = some (.int .i64 kd) := cell_of_row _ _ _ _ _ _ hh0
  have e1 : (w.alloc (.cells (opC kd p n f (.slice pc L capc) s t sd (.slice b k e)) 70)).cell? ⟨w.heap.size, 1, none⟩ = some (.int .i64 p) := cell_of_row _ _ _ _ _ _ hh0
  have e2 : (w.alloc (.cells (opC kd p n f (.slice pc L capc) s t sd (.slice b k e)) 70)).cell? ⟨w.heap.size, 2, none⟩ = some (.int .i64 n) := cell_of_row _ _ _ _ _ _ hh0
  have e3 : (w.alloc (.cells (opC kd p n f (.slice pc L capc) s t sd (.slice b k e)) 70)).cell? ⟨w.heap.size, 3, none⟩ = some (.int .i64 f) := cell_of_row _ _ _ _ _ _ hh0
  have e4 : (w.alloc (.cells (opC kd p n f (.slice pc L capc) s t sd (.slice b k e)) 70)).cell? ⟨w.heap.size, 4, none⟩ = some (.slice pc L capc) := cell_of_row _ _ _ _ _ _ hh0
  have e5 : (w.alloc (.cells (opC kd p n f (.slice pc L capc) s t sd (.slice b k e)) 70)).cell? ⟨w.heap.size, 5, none⟩ = some (.string s) := cell_of_row _ _ _ _ _ _ hh0
  have e6 : (w.alloc (.cells (opC kd p n f (.slice pc L capc) s t sd (.slice b k e)) 70)).cell? ⟨w.heap.size, 6, none⟩ = some (.string t) := cell_of_row _ _ _ _ _ _ hh0
  have e7 : (w.alloc (.cells (opC kd p n f (.slice pc L capc) s t sd (.slice b k e)) 70)).cell? ⟨w.heap.size, 7, none⟩ = some (.int .u64 sd) := cell_of_row _ _ _ _ _ _ hh0
  have e8 : (w.alloc (.cells (opC kd p n f (.slice pc L capc) s t sd (.slice b k e)) 70)).cell? ⟨w.heap.size, 8, none⟩ = some (.slice b k e) := cell_of_row _ _ _ _ _ _ hh0
  have HW : Hid (WS base M W0 w) := hw
  have HFIN : Hid (∀ (w1 : World) (e' : Ending) (w' : World), Below w.heap.size w w1 → Stepped base M w1 X e' w' → Stepped base M w X e' w') := by
    rintro w1 e' w' hB ⟨rfl, F', X', r1, r2, r3, r4⟩
    exact ⟨rfl, F', X', r1, r2, (Kept.of_below (hB.mono hle)).trans r3, r4⟩
  have HMC : Hid (∀ w1, Below w.heap.size w w1 → Calls Tryz.prog 50 #[.pointer (some ⟨W0, 0, none⟩), .agg (opC 1 p n f (.slice pc L capc) s t sd (.slice b k e))] w1 (Stepped base M w1 X)) := fun w1 hB => by
    have K1 : Kept base M w w1 := Kept.of_below (hB.mono hle)
    exact machine_check base M W0 w1 F X (h.below hB) (d.below hB) (hw.kept K1).book (hT.below hB) p n f _ L c (C.kept K1).coded C.byte C.most s t sd b k e hX
  have HMR : Hid (∀ w1, Below w.heap.size w w1 → Calls Tryz.prog 50 #[.pointer (some ⟨W0, 0, none⟩), .agg (opC 2 p n f (.slice pc L capc) s t sd (.slice b k e))] w1 (Stepped base M w1 X)) := fun w1 hB => by
    have K1 : Kept base M w w1 := Kept.of_below (hB.mono hle)
    exact machine_run base M W0 w1 F X (h.below hB) (d.below hB) (hw.kept K1).book hw.lt hw.ne (hT.below hB) p n f _ L c (C.kept K1).coded C.byte C.most C.low s t sd b k e hX hX0 (by omega)
  have HMP : Hid (∀ w1, Below w.heap.size w w1 → Calls Tryz.prog 50 #[.pointer (some ⟨W0, 0, none⟩), .agg (opC 3 p n f (.slice pc L capc) s t sd (.slice b k e))] w1 (Stepped base M w1 X)) := fun w1 hB => by
    have K1 : Kept base M w w1 := Kept.of_below (hB.mono hle)
    exact machine_probe base M W0 w1 F X (h.below hB) (d.below hB) (hw.kept K1).book hw.lt hw.ne (hT.below hB) p n f _ L c (C.kept K1).coded C.byte C.most C.low s t sd b k e hX hX0 hX1
  have HMD : Hid (∀ w1, Below w.heap.size w w1 → Calls Tryz.prog 50 #[.pointer (some ⟨W0, 0, none⟩), .agg (opC 4 p n f (.slice pc L capc) s t sd (.slice b k e))] w1 (Stepped base M w1 X)) := fun w1 hB => by
    have K1 : Kept base M w w1 := Kept.of_below (hB.mono hle)
    exact machine_probed base M W0 w1 F X (h.below hB) (d.below hB) (hw.kept K1).book hw.lt hw.ne (hT.below hB) p n f _ L c (C.kept K1).coded C.byte C.low s t sd b k e hX hX0 (by omega)
  have HNO : Hid (∀ w1, Below w.heap.size w w1 → Stepped base M w X (.returned (.bool true)) w1) := fun w1 hB => ⟨rfl, F, X, h.below hB, d.below hB, Kept.of_below (hB.mono hle), by omega, by omega, by omega⟩
  have wl := (hw.kept K0).none'
  clear hh0 h d hw hT C
  by_cases h1 : kd = 1
  · subst h1
    go_enter Tryz.func26, Tryz.ntmps26
    go_wp2_with (refine wpList_box_c rfl 70 _ rfl (.agg (opC 1 p n f (.slice pc L capc) s t sd (.slice b k e))) rfl (opC 1 p n f (.slice pc L capc) s t sd (.slice b k e)) (opbox _ _ _ _ _ _ _ _ _ _ _ _ _) ?_)
    generalize (w.alloc (.cells (opC 1 p n f (.slice pc L capc) s t sd (.slice b k e)) 70)) = w0 at *
    refine (HMC.out w0 B0).mono ?_
    rintro e' w' hS
    have hS' := HFIN.out w0 _ w' B0 hS
    obtain ⟨rfl, _⟩ := hS
    have HS : Hid (Stepped base M w X (.returned (.bool true)) w') := hS'
    clear hS'
    go_wp2_with fail
    go_ret
    exact HS.out
  · by_cases h2 : kd = 2
    · subst h2
      go_enter Tryz.func26, Tryz.ntmps26
      go_wp2_with (refine wpList_box_c rfl 70 _ rfl (.agg (opC 2 p n f (.slice pc L capc) s t sd (.slice b k e))) rfl (opC 2 p n f (.slice pc L capc) s t sd (.slice b k e)) (opbox _ _ _ _ _ _ _ _ _ _ _ _ _) ?_)
      generalize (w.alloc (.cells (opC 2 p n f (.slice pc L capc) s t sd (.slice b k e)) 70)) = w0 at *
      refine (HMR.out w0 B0).mono ?_
      rintro e' w' hS
      have hS' := HFIN.out w0 _ w' B0 hS
      obtain ⟨rfl, _⟩ := hS
      have HS : Hid (Stepped base M w X (.returned (.bool true)) w') := hS'
      clear hS'
      go_wp2_with fail
      go_ret
      exact HS.out
    · by_cases h3 : kd = 3
      · subst h3
        go_enter Tryz.func26, Tryz.ntmps26
        go_wp2_with (refine wpList_box_c rfl 70 _ rfl (.agg (opC 3 p n f (.slice pc L capc) s t sd (.slice b k e))) rfl (opC 3 p n f (.slice pc L capc) s t sd (.slice b k e)) (opbox _ _ _ _ _ _ _ _ _ _ _ _ _) ?_)
        generalize (w.alloc (.cells (opC 3 p n f (.slice pc L capc) s t sd (.slice b k e)) 70)) = w0 at *
        refine (HMP.out w0 B0).mono ?_
        rintro e' w' hS
        have hS' := HFIN.out w0 _ w' B0 hS
        obtain ⟨rfl, _⟩ := hS
        have HS : Hid (Stepped base M w X (.returned (.bool true)) w') := hS'
        clear hS'
        go_wp2_with fail
        go_ret
        exact HS.out
      · by_cases h4 : kd = 4
        · subst h4
          go_enter Tryz.func26, Tryz.ntmps26
          go_wp2_with (refine wpList_box_c rfl 70 _ rfl (.agg (opC 4 p n f (.slice pc L capc) s t sd (.slice b k e))) rfl (opC 4 p n f (.slice pc L capc) s t sd (.slice b k e)) (opbox _ _ _ _ _ _ _ _ _ _ _ _ _) ?_)
          generalize (w.alloc (.cells (opC 4 p n f (.slice pc L capc) s t sd (.slice b k e)) 70)) = w0 at *
          refine (HMD.out w0 B0).mono ?_
          rintro e' w' hS
          have hS' := HFIN.out w0 _ w' B0 hS
          obtain ⟨rfl, _⟩ := hS
          have HS : Hid (Stepped base M w X (.returned (.bool true)) w') := hS'
          clear hS'
          go_wp2_with fail
          go_ret
          exact HS.out
        · have hk0 : kd < 1 := by omega
          have q1 : decide ((1 : Int) ≤ kd) = false := by simp; omega
          have q1' : ¬ (1 : Int) ≤ kd := by omega
          have q5 : (kd == 5) = false := by rw [beq_eq_false_iff_ne]; omega
          have q6 : (kd == 6) = false := by rw [beq_eq_false_iff_ne]; omega
          have q7 : (kd == 7) = false := by rw [beq_eq_false_iff_ne]; omega
          have q15 : (kd == 15) = false := by rw [beq_eq_false_iff_ne]; omega
          have HS : Hid (Stepped base M w X (.returned (.bool true)) (w.alloc (.cells (opC kd p n f (.slice pc L capc) s t sd (.slice b k e)) 70))) := HNO.out _ B0
          clear HMC HMR HMP HMD HFIN HNO h1 h2 h3 h4 hk0
          go_enter Tryz.func26, Tryz.ntmps26
          go_wp2_with (refine wpList_box_c rfl 70 _ rfl (.agg (opC kd p n f (.slice pc L capc) s t sd (.slice b k e))) rfl (opC kd p n f (.slice pc L capc) s t sd (.slice b k e)) (opbox _ _ _ _ _ _ _ _ _ _ _ _ _) ?_)
          go_ret
          exact HS.out
end Go.Proofs.YtflenkppcclclaaGreatDoor

