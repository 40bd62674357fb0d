import Derived.Test.YtflenkppcclclaaGreatDoorM35
import Derived.Test.YtflenkppcclclaaGreatDoorM00
import Derived.Laws.BytesArg
import Derived.OpenShut
namespace Go.Proofs.YtflenkppcclclaaGreatDoor
open Go.RowKit

theorem own_ncoded {w : World} {base : Nat} {v : Value} {fs : List Int} (h : w.ownsRow base 3 1 v fs.length (fs.map (Value.int .i64))) : NCoded w v fs.length (fun i => fs.getD i 0) := by
  by_cases h0 : 0 < fs.length
  · obtain ⟨g, cap, rfl, _, hr, hm, hc⟩ := own_at' h h0
    refine .full g 0 cap rfl (fun i hi => ?_) hr hm h0
    rw [Nat.zero_add]
    refine hc i _ ?_
    rw [List.getElem?_map, List.getElem?_eq_getElem hi, List.getD_eq_getElem?_getD, List.getElem?_eq_getElem hi]; rfl
  · obtain ⟨p, cap, rfl⟩ := own_len h
    exact .bare p cap (by congr 1; omega) (by omega)

set_option maxHeartbeats 4000000 in
set_option maxRecDepth 100000 in
theorem machine_probe (base M W0 : Nat) (w : World) (F : Nat → Value) (X : Nat → List Value) (h : BK base M w F X) (d : BD M w F X) (hw : w.cell? ⟨W0, 0, none⟩ = some (.pointer (some ⟨M, 0, none⟩))) (hWb : W0 < base) (hWM : W0 ≠ M) (hT : Tab w)
    (p n f : Int) (cv : Value) (L : Nat) (c : Nat → Int) (C : Coded w cv L c) (hby : ∀ i, i < L → 0 ≤ c i ∧ c i ≤ 255) (hL : L + 8 ≤ 140737488355328) (hcv : 0 < L → ∀ g, cv.ownBlock = some g → g < base ∧ g ≠ M) (s t : ByteArray) (sd : Int) (b : Option Addr) (k e : Nat)
    (hX : ((X 8).length + 1) * 24 ≤ 140737488355328) (hX0 : ((X 0).length + 4) * 24 ≤ 140737488355328) (hX1 : ((X 1).length + 4) * 24 ≤ 140737488355328) :
    Calls Tryz.prog 50 #[.pointer (some ⟨W0, 0, none⟩), .agg (opC 3 p n f cv s t sd (.slice b k e))] w (Stepped base M w X) := by
  obtain ⟨pc, capc, rfl⟩ := C.form
  have hW0 : W0 < w.heap.size := block_lt_of_cell hw
  have B0 : Below w.heap.size w (w.alloc (.cells (opC 3 p n f (.slice pc L capc) s t sd (.slice b k e)) 70)) := (Below.refl _ _).alloc (Nat.le_refl _) _
  have hz0 : (w.alloc (.cells (opC 3 p n f (.slice pc L capc) s t sd (.slice b k e)) 70)).heap.size = w.heap.size + 1 := by simp
  have hh0 := heap_alloc_new w (.cells (opC 3 p n f (.slice pc L capc) s t sd (.slice b k e)) 70)
  have e0 : (w.alloc (.cells (opC 3 p n f (.slice pc L capc) s t sd (.slice b k e)) 70)).cell? ⟨w.heap.size, 0, none⟩ = some (.int .i64 3) := cell_of_row _ _ _ _ _ _ hh0
  have e4 : (w.alloc (.cells (opC 3 p n f (.slice pc L capc) s t sd (.slice b k e)) 70)).cell? ⟨w.heap.size, 4, none⟩ = some (.slice pc L capc) := cell_of_row _ _ _ _ _ _ hh0
  have e5 : (w.alloc (.cells (opC 3 p n f (.slice pc L capc) s t sd (.slice b k e)) 70)).cell? ⟨w.heap.size, 5, none⟩ = some (.string s) := cell_of_row _ _ _ _ _ _ hh0
  have e3 : (w.alloc (.cells (opC 3 p n f (.slice pc L capc) s t sd (.slice b k e)) 70)).cell? ⟨w.heap.size, 3, none⟩ = some (.int .i64 f) := cell_of_row _ _ _ _ _ _ hh0
  clear hh0
  obtain ⟨cs, fs, kk, hcl, hfl, hXP, hRP⟩ := probe_same L c hby
  have HXP : Hid (∀ w v, Coded w v L c → Tab w → Calls Tryz.prog 102 #[v] w (ProbeAns cs fs kk w)) := hXP
  have HRP : Hid (∀ w v, Coded w v L c → Calls Tryz.prog 97 #[v] w (ProbeAns cs fs kk w)) := hRP
  clear hXP hRP
  go_enter Tryz.func50, Tryz.ntmps50
  go_wp2_with (refine wpList_box_c rfl 70 _ rfl (.agg (opC 3 p n f (.slice pc L capc) s t sd (.slice b k e))) rfl (opC 3 p n f (.slice pc L capc) s t sd (.slice b k e)) (opbox _ _ _ _ _ _ _ _ _ _ _ _ _) ?_)
  generalize (w.alloc (.cells (opC 3 p n f (.slice pc L capc) s t sd (.slice b k e)) 70)) = w0 at *
  refine (lend_any w0 (.slice pc L capc) L c (C.below B0) hL).mono ?_
  rintro e1 w1 ⟨g, cap, rfl, hown, B1⟩
  have B01 := B0.trans (B1.mono B0.size)
  have hg : w0.heap.size ≤ g ∧ g < w1.heap.size := hown.lt g rfl
  obtain ⟨Cin, hcap, hcap'⟩ := lent_coded hown
  have a0 := (B1.cell (p := ⟨w.heap.size, 0, none⟩) (by show w.heap.size < w0.heap.size; omega)).trans e0
  have a3 := (B1.cell (p := ⟨w.heap.size, 3, none⟩) (by show w.heap.size < w0.heap.size; omega)).trans e3
  have a5 := (B1.cell (p := ⟨w.heap.size, 5, none⟩) (by show w.heap.size < w0.heap.size; omega)).trans e5
  have hi1 : (L : Int) ≤ (cap : Int) := by omega
  have HOWN : Hid (w1.ownsRow w0.heap.size 5 1 (.slice (some ⟨g, 0, none⟩) (L + 8) cap) (L + 8) (bytesL (lentAt c L) (L + 8))) := hown
  have HD : Hid (BD M w F X) := d
  have HBK : Hid (BK base M w F X) := h
  have hle := h.le
  have hlt := h.lt
  have hs1 := B1.size
  clear hown h d
  go_wp2_with fail
  refine (HXP.out w1 _ Cin (hT.below B01)).mono ?_
  rintro _ w2 ⟨bs1, vl, vp, hbs1, T1, rfl, B2⟩
  obtain ⟨pl, capl, rfl⟩ := own_len T1.own1
  obtain ⟨pp, capp, rfl⟩ := own_len T1.own2
  have B02 := B01.trans (B2.mono B01.size)
  have hs2 := B2.size
  have HT1 : Hid (TR bs1 w2 (.slice pl cs.length capl) (.slice pp fs.length capp) cs fs) := T1
  clear T1
  go_wp2_with fail
  refine (HRP.out w2 _ (C.below B02)).mono ?_
  rintro _ w3 ⟨bs2, vm, vq, hbs2, T2, rfl, B3⟩
  obtain ⟨pm, capm, rfl⟩ := own_len T2.own1
  obtain ⟨pq, capq, rfl⟩ := own_len T2.own2
  have B03 := B02.trans (B3.mono B02.size)
  have W13 : Below w1.heap.size w1 w3 := B2.trans (B3.mono B2.size)
  have hs3 := B3.size
  have T1 := HT1.out
  have hbl : ∀ gg, (Value.slice pl cs.length capl).ownBlock = some gg → w1.heap.size ≤ gg ∧ gg < w2.heap.size := fun gg hgg => by have := T1.own1.lt gg hgg; omega
  have hbp : ∀ gg, (Value.slice pp fs.length capp).ownBlock = some gg → w1.heap.size ≤ gg ∧ gg < w2.heap.size := fun gg hgg => by have := T1.own2.lt gg hgg; omega
  have n1 := own_ncoded (own_below' T1.own2 (fun gg hgg => B3.block gg (hbp gg hgg).2))
  have n2 := own_ncoded T2.own2
  have HSN : Hid (Calls Tryz.prog 103 #[.slice pp fs.length capp, .slice pq fs.length capq] w3 fun e w' => Sm w3 w' ∧ e = .returned (.bool true)) := sameNumbers_any w3 _ _ _ _ n1 n2 (by omega)
  have HCV : Hid (∀ wx, Sm w3 wx → (convert 25 9 (.slice pl cs.length capl)).run Tryz.prog wx = .ok (.string (strOfNums cs)) wx ∧ (convert 25 9 (.slice pm cs.length capm)).run Tryz.prog wx = .ok (.string (strOfNums cs)) wx) := fun wx hS =>
    ⟨conv_out (own_below' T1.own1 (fun gg hgg => by rw [hS.heap]; exact B3.block gg (hbl gg hgg).2)), conv_out (own_below' T2.own1 (fun gg _ => by rw [hS.heap]))⟩
  have HB03 : Hid (Below w.heap.size w w3 ∧ Below w1.heap.size w1 w3 ∧ Below w2.heap.size w2 w3) := ⟨B03, W13, B3⟩
  have hB1 := HBK.out.below B01
  have hB0 := HBK.out.below B0
  have hD0 := HD.out.below B0
  have HF1 : Hid (∀ gg, w1.heap.size ≤ gg → Out5 M F gg) := fun gg h => hB1.fresh h
  have HN1 : Hid (∀ u gg, Rec X u → u.ownBlock = some gg → gg < w0.heap.size) := fun u gg hu h => (hD0.lt hu h).1
  have HF0 : Hid (Out5 M F g) := hB0.fresh hg.1
  have HC : Hid (Coded w (.slice pc L capc) L c) := C
  clear n1 n2 T1 T2 HXP HRP B0 B01 B1 B2 B02 B3 B03 W13 hB1 hB0 hD0 Cin C
  go_wp2_with fail
  refine HSN.out.mono ?_
  rintro _ w4 ⟨S4, rfl⟩
  have cv1 := (HCV.out w4 S4).1
  have cv2 := (HCV.out w4 S4).2
  generalize strOfNums cs = sc at cv1 cv2
  have B34 : Below w3.heap.size w3 w4 := S4.below _
  have B04 : Below w.heap.size w w4 := HB03.out.1.trans (B34.mono HB03.out.1.size)
  have hw4 := (B04.cell (p := ⟨W0, 0, none⟩) hW0).trans hw
  have HLK : Hid (Calls Tryz.prog 27 #[.pointer (some ⟨M, 0, none⟩)] w4 fun e w' => e = .returned (.bool true) ∧ Sm w4 w') := looks_any base M _ F X (HBK.out.below B04) (HD.out.below B04) (by omega) (by omega) (by have := HD.out.len04; omega) (by omega)
  have HB04 : Hid (Below w.heap.size w w4 ∧ Below w1.heap.size w1 w4 ∧ Below w2.heap.size w2 w4) := ⟨B04, HB03.out.2.1.trans (B34.mono HB03.out.2.1.size), HB03.out.2.2.trans (B34.mono HB03.out.2.2.size)⟩
  clear HSN HCV S4 B34 B04
  go_wp2_with (go_at_call 56; refine (num_any _ _).mono ?_; rintro e' w' ⟨rfl, hw'⟩; obtain rfl := hw'.symm)
  clear cv1 cv2
  refine HLK.out.mono ?_
  rintro e5' w5 ⟨rfl, S5⟩
  have B5 : Below w4.heap.size w4 w5 := S5.below _
  have B05 := HB04.out.1.trans (B5.mono HB04.out.1.size)
  have W15 := HB04.out.2.1.trans (B5.mono HB04.out.2.1.size)
  have W25 := HB04.out.2.2.trans (B5.mono HB04.out.2.2.size)
  have hw5 := (B05.cell (p := ⟨W0, 0, none⟩) hW0).trans hw
  have hsz5 := W25.size
  have hsz15 := W15.size
  have T1 := HT1.out
  have hapart : ∀ gg, (Value.slice pp fs.length capp).ownBlock = some gg → (Value.slice pl cs.length capl).ownBlock ≠ some gg := fun gg h1 h2 => by
    rcases T1.apart with a | a
    · rw [a] at h2; cases h2
    · exact a (h2.trans h1.symm)
  have HOB := ownBytes_any base M w5 F X (HBK.out.below B05) (HD.out.below B05) (.slice pl cs.length capl) cs.length _ (own_lower (own_below' T1.own1 (fun gg hgg => W25.block gg (hbl gg hgg).2)) (by omega)) (by omega)
    (fun gg hgg => HF1.out gg (hbl gg hgg).1) (fun u gg hu hgg c => by have := HN1.out u gg hu c; have := hbl gg hgg; omega) hX0
  have HOB' : Hid (Calls Tryz.prog 101 #[.pointer (some ⟨M, 0, none⟩), .slice pl cs.length capl] w5 fun e w' => e = .returned (.tuple #[]) ∧ ∃ F' vs ns, vs.length = 4 ∧ ns.length = 4 ∧ BK base M w' F' (upd (upd X 0 (X 0 ++ vs)) 4 (X 4 ++ ns)) ∧ BD M w' F' (upd (upd X 0 (X 0 ++ vs)) 4 (X 4 ++ ns)) ∧ Kept base M w5 w' ∧ (∀ k, k < w5.heap.size → Out5 M F k → (Value.slice pl cs.length capl).ownBlock ≠ some k → w'.heap[k]? = w5.heap[k]?) ∧ (∀ k, k < w5.heap.size → Out5 M F k → Out5 M F' k) ∧ (∀ u ∈ vs, ∀ k, u.ownBlock = some k → (Value.slice pl cs.length capl).ownBlock = some k ∨ w5.heap.size ≤ k)) := HOB
  have HX5 : Hid (Below w.heap.size w w5 ∧ Below w1.heap.size w1 w5 ∧ Below w2.heap.size w2 w5) := ⟨B05, W15, W25⟩
  have HAP : Hid (∀ gg, (Value.slice pp fs.length capp).ownBlock = some gg → (Value.slice pl cs.length capl).ownBlock ≠ some gg) := hapart
  clear HOB hapart T1 S5 B5
  go_wp2_with fail
  refine HOB'.out.mono ?_
  rintro e6' w6 ⟨rfl, F', vs, ns, hvs, hns, R6, D6, K6, Fr6, Of6, Nw6⟩
  have hw6 := (K6.cell (p := ⟨W0, 0, none⟩) hWb hWM).trans hw5
  have hsz6 := K6.size
  have hbg : (Value.slice pl cs.length capl).ownBlock ≠ some g := fun c => by have := hbl g c; omega
  have e8 : upd (upd X 0 (X 0 ++ vs)) 4 (X 4 ++ ns) 8 = X 8 := by rw [upd_other _ _ (show (8 : Nat) ≠ 4 by omega), upd_other _ _ (show (8 : Nat) ≠ 0 by omega)]
  have e00 : upd (upd X 0 (X 0 ++ vs)) 4 (X 4 ++ ns) 0 = X 0 ++ vs := by rw [upd_other _ _ (show (0 : Nat) ≠ 4 by omega), upd_same]
  have e11 : upd (upd X 0 (X 0 ++ vs)) 4 (X 4 ++ ns) 1 = X 1 := by rw [upd_other _ _ (show (1 : Nat) ≠ 4 by omega), upd_other _ _ (show (1 : Nat) ≠ 0 by omega)]
  obtain ⟨X1, hX1e⟩ : ∃ X1, upd (upd X 0 (X 0 ++ vs)) 4 (X 4 ++ ns) = X1 := ⟨_, rfl⟩
  rw [hX1e] at R6 D6 e8 e00 e11
  have hrec : ∀ u, Rec X1 u → Rec X u ∨ u ∈ vs := fun u hu => by
    rcases hu with hu | hu | hu
    · rw [e00] at hu
      rcases List.mem_append.1 hu with hu | hu
      · exact Or.inl (Or.inl hu)
      · exact Or.inr hu
    · rw [e11] at hu; exact Or.inl (Or.inr (Or.inl hu))
    · rw [e8] at hu; exact Or.inl (Or.inr (Or.inr hu))
  have HOP := ownNumbers_any base M w6 F' X1 R6 D6 (.slice pp fs.length capp) fs.length _ (own_lower (own_below' HT1.out.own2 (fun gg hgg => (Fr6 gg (by have := hbp gg hgg; omega) (HF1.out gg (hbp gg hgg).1) (HAP.out gg hgg)).trans (W25.block gg (hbp gg hgg).2))) (by omega)) (by omega)
    (fun gg hgg => Of6 gg (by have := hbp gg hgg; omega) (HF1.out gg (hbp gg hgg).1)) (fun u gg hu hgg c => by
      have := hbp gg hgg
      rcases hrec u hu with hu' | hu'
      · have := HN1.out u gg hu' c; omega
      · rcases Nw6 u hu' gg c with q | q
        · exact HAP.out gg hgg q
        · omega) (by rw [e11]; exact hX1)
  have HOP' : Hid (Calls Tryz.prog 104 #[.pointer (some ⟨M, 0, none⟩), .slice pp fs.length capp] w6 fun e w' => e = .returned (.tuple #[]) ∧ ∃ F'' vs ns, vs.length = 4 ∧ ns.length = 4 ∧ BK base M w' F'' (upd (upd X1 1 (X1 1 ++ vs)) 5 (X1 5 ++ ns)) ∧ BD M w' F'' (upd (upd X1 1 (X1 1 ++ vs)) 5 (X1 5 ++ ns)) ∧ Kept base M w6 w' ∧ (∀ k, k < w6.heap.size → Out5 M F' k → (Value.slice pp fs.length capp).ownBlock ≠ some k → w'.heap[k]? = w6.heap[k]?) ∧ (∀ k, k < w6.heap.size → Out5 M F' k → Out5 M F'' k) ∧ (∀ u ∈ vs, ∀ k, u.ownBlock = some k → (Value.slice pp fs.length capp).ownBlock = some k ∨ w6.heap.size ≤ k)) := HOP
  have HG6 : Hid (Out5 M F' g ∧ w6.heap[g]? = w1.heap[g]? ∧ (∀ u, Rec X1 u → u.ownBlock ≠ some g)) := ⟨Of6 g (by omega) HF0.out, (Fr6 g (by omega) HF0.out hbg).trans (W15.block g hg.2), fun u hu c => by
      rcases hrec u hu with hu' | hu'
      · have := HN1.out u g hu' c; omega
      · rcases Nw6 u hu' g c with q | q
        · exact hbg q
        · omega⟩
  have HK6 : Hid (Kept base M w w6 ∧ Kept base M w5 w6) := ⟨(Kept.of_below (B05.mono hle)).trans K6, K6⟩
  have HE1 : Hid (X1 8 = X 8 ∧ X1 0 = X 0 ++ vs ∧ X1 1 = X 1 ∧ vs.length = 4) := ⟨e8, e00, e11, hvs⟩
  clear HOP R6 D6 K6 Fr6 Of6 Nw6 HOB' e8 e00 e11 hrec hX1e hvs hns
  go_wp2_with fail
  refine HOP'.out.mono ?_
  rintro e7' w7 ⟨rfl, F'', vs2, ns2, hvs2, hns2, R7, D7, K7, Fr7, Of7, Nw7⟩
  have hw7 := (K7.cell (p := ⟨W0, 0, none⟩) hWb hWM).trans hw6
  have hbg2 : (Value.slice pp fs.length capp).ownBlock ≠ some g := fun c => by have := hbp g c; omega
  have f8 : upd (upd X1 1 (X1 1 ++ vs2)) 5 (X1 5 ++ ns2) 8 = X 8 := by rw [upd_other _ _ (show (8 : Nat) ≠ 5 by omega), upd_other _ _ (show (8 : Nat) ≠ 1 by omega), HE1.out.1]
  have f0 : upd (upd X1 1 (X1 1 ++ vs2)) 5 (X1 5 ++ ns2) 0 = X1 0 := by rw [upd_other _ _ (show (0 : Nat) ≠ 5 by omega), upd_other _ _ (show (0 : Nat) ≠ 1 by omega)]
  have f1 : upd (upd X1 1 (X1 1 ++ vs2)) 5 (X1 5 ++ ns2) 1 = X1 1 ++ vs2 := by rw [upd_other _ _ (show (1 : Nat) ≠ 5 by omega), upd_same]
  obtain ⟨X2, hX2e⟩ : ∃ X2, upd (upd X1 1 (X1 1 ++ vs2)) 5 (X1 5 ++ ns2) = X2 := ⟨_, rfl⟩
  rw [hX2e] at R7 D7 f8 f0 f1
  have hC7 : Coded w7 (.slice pc L capc) L c := by
    by_cases h0 : 0 < L
    · refine (HC.out.below B05).keep (fun gg hgg hl => ?_)
      obtain ⟨q1, q2⟩ := hcv h0 gg hgg
      exact (K7.block gg q1 q2).trans (HK6.out.2.block gg q1 q2)
    · have hL0 : L = 0 := by omega
      subst hL0
      exact .bare pc capc rfl rfl
  have hsz7 := K7.size
  have WH := whole_any base M w7 F'' _ R7 D7 g cap L c (.slice pc L capc) (own_lower (own_below' HOWN.out (fun k hk => by
      obtain rfl : g = k := by simpa [Value.ownBlock] using hk
      exact (Fr7 g (by omega) HG6.out.1 hbg2).trans HG6.out.2.1)) (by omega)) (Of7 g (by omega) HG6.out.1) (fun u hu c => by
      have hu' : Rec X1 u ∨ u ∈ vs2 := by
        rcases hu with hu | hu | hu
        · rw [f0] at hu; exact Or.inl (Or.inl hu)
        · rw [f1] at hu
          rcases List.mem_append.1 hu with hu | hu
          · exact Or.inl (Or.inr (Or.inl hu))
          · exact Or.inr hu
        · rw [f8, ← HE1.out.1] at hu; exact Or.inl (Or.inr (Or.inr hu))
      rcases hu' with hu' | hu'
      · exact HG6.out.2.2 u hu' c
      · rcases Nw7 u hu' g c with q | q
        · exact hbg2 q
        · omega) hC7 (fun h0 => HC.out.blk h0 (by omega)) hL (by rw [f8]; exact hX)
  have WH' : Hid (Calls Tryz.prog 105 #[.pointer (some ⟨M, 0, none⟩), .slice (some ⟨g, 0, none⟩) (L + 8) cap, .slice pc L capc] w7 fun e w' => e = .returned (.bool true) ∧ ∃ F3, BK base M w' F3 (upd X2 8 (X2 8 ++ [.slice (some ⟨g, 0, none⟩) (L + 8) cap])) ∧ BD M w' F3 (upd X2 8 (X2 8 ++ [.slice (some ⟨g, 0, none⟩) (L + 8) cap])) ∧ Kept base M w7 w') := WH
  have HK7 : Hid (Kept base M w w7) := HK6.out.1.trans K7
  have HE2 : Hid (X2 8 = X 8 ∧ X2 0 = X 0 ++ vs ∧ X2 1 = X 1 ++ vs2 ∧ vs2.length = 4) := ⟨f8, f0.trans HE1.out.2.1, by rw [f1, HE1.out.2.2.1], hvs2⟩
  clear WH R7 D7 K7 Fr7 Of7 Nw7 f8 f0 f1 hC7 HOP' hvs2 hns2 hX2e HOWN HBK HD HF1 HN1 HF0 HG6 HK6 B05 W15 W25 HC HT1
  go_wp2_with fail
  refine WH'.out.mono ?_
  rintro e8' w8 ⟨rfl, F3, R8, D8, K8⟩
  have HFIN : Hid (∃ F' X', BK base M w8 F' X' ∧ BD M w8 F' X' ∧ Kept base M w w8 ∧ (X' 0).length ≤ (X 0).length + 4 ∧ (X' 8).length ≤ (X 8).length + 1 ∧ (X' 1).length ≤ (X 1).length + 4) := by
    refine ⟨F3, _, R8, D8, HK7.out.trans K8, ?_, ?_, ?_⟩
    · rw [upd_other _ _ (show (0 : Nat) ≠ 8 by omega), HE2.out.2.1, List.length_append, HE1.out.2.2.2]; omega
    · rw [upd_same, List.length_append, HE2.out.1]; simp
    · rw [upd_other _ _ (show (1 : Nat) ≠ 8 by omega), HE2.out.2.2.1, List.length_append, HE2.out.2.2.2]; omega
  clear R8 D8 K8
  go_wp2_with fail
  go_ret
  exact ⟨rfl, HFIN.out⟩
end Go.Proofs.YtflenkppcclclaaGreatDoor

namespace Go.Proofs.YtflenkppcclclaaGreatDoor
open Go.RowKit

theorem own_coded {w : World} {base : Nat} {v : Value} {cs : List Int} (h : w.ownsRow base 5 1 v cs.length (cs.map (Value.int .u8))) : Coded w v cs.length (fun i => cs.getD i 0) := by
  by_cases h0 : 0 < cs.length
  · obtain ⟨g, cap, rfl, _, hr, hm, hc⟩ := own_at' h h0
    refine .full g 0 cap rfl ⟨fun i hi => ?_, hr, hm, h0⟩
    rw [Nat.zero_add]
    refine hc i _ ?_
    rw [List.getElem?_map, List.getElem?_eq_getElem hi, List.getD_eq_getElem?_getD, List.getElem?_eq_getElem hi]; rfl
  · obtain ⟨p, cap, rfl⟩ := own_len h
    exact .bare p cap (by congr 1; omega) (by omega)

set_option maxHeartbeats 4000000 in
set_option maxRecDepth 100000 in
theorem machine_probed (base M W0 : Nat) (w : World) (F : Nat → Value) (X : Nat → List Value) (h : BK base M w F X) (d : BD M w F X) (hw : w.cell? ⟨W0, 0, none⟩ = some (.pointer (some ⟨M, 0, none⟩))) (hWb : W0 < base) (hWM : W0 ≠ M) (hT : Tab w)
    (p n f : Int) (cv : Value) (L0 : Nat) (c0 : Nat → Int) (C0 : Coded w cv L0 c0) (hby0 : ∀ i, i < L0 → 0 ≤ c0 i ∧ c0 i ≤ 255) (hcv0 : 0 < L0 → ∀ g, cv.ownBlock = some g → g < base ∧ g ≠ M) (s t : ByteArray) (sd : Int) (b : Option Addr) (k e : Nat)
    (hX : ((X 8).length + 1) * 24 ≤ 140737488355328) (hX0 : ((X 0).length + 4) * 24 ≤ 140737488355328) (hX1 : (X 1).length ≤ 4611686018427387904) :
    Calls Tryz.prog 50 #[.pointer (some ⟨W0, 0, none⟩), .agg (opC 4 p n f cv s t sd (.slice b k e))] w (Stepped base M w X) := by
  obtain ⟨pc0, capc0, rfl⟩ := C0.form
  have hW0 : W0 < w.heap.size := block_lt_of_cell hw
  have B0 : Below w.heap.size w (w.alloc (.cells (opC 4 p n f (.slice pc0 L0 capc0) s t sd (.slice b k e)) 70)) := (Below.refl _ _).alloc (Nat.le_refl _) _
  have hz0 : (w.alloc (.cells (opC 4 p n f (.slice pc0 L0 capc0) s t sd (.slice b k e)) 70)).heap.size = w.heap.size + 1 := by simp
  have hh0 := heap_alloc_new w (.cells (opC 4 p n f (.slice pc0 L0 capc0) s t sd (.slice b k e)) 70)
  have e0 : (w.alloc (.cells (opC 4 p n f (.slice pc0 L0 capc0) s t sd (.slice b k e)) 70)).cell? ⟨w.heap.size, 0, none⟩ = some (.int .i64 4) := cell_of_row _ _ _ _ _ _ hh0
  have e4 : (w.alloc (.cells (opC 4 p n f (.slice pc0 L0 capc0) s t sd (.slice b k e)) 70)).cell? ⟨w.heap.size, 4, none⟩ = some (.slice pc0 L0 capc0) := cell_of_row _ _ _ _ _ _ hh0
  have e5 : (w.alloc (.cells (opC 4 p n f (.slice pc0 L0 capc0) s t sd (.slice b k e)) 70)).cell? ⟨w.heap.size, 5, none⟩ = some (.string s) := cell_of_row _ _ _ _ _ _ hh0
  have e3 : (w.alloc (.cells (opC 4 p n f (.slice pc0 L0 capc0) s t sd (.slice b k e)) 70)).cell? ⟨w.heap.size, 3, none⟩ = some (.int .i64 f) := cell_of_row _ _ _ _ _ _ hh0
  clear hh0
  go_enter Tryz.func50, Tryz.ntmps50
  go_wp2_with (refine wpList_box_c rfl 70 _ rfl (.agg (opC 4 p n f (.slice pc0 L0 capc0) s t sd (.slice b k e))) rfl (opC 4 p n f (.slice pc0 L0 capc0) s t sd (.slice b k e)) (opbox _ _ _ _ _ _ _ _ _ _ _ _ _) ?_)
  generalize (w.alloc (.cells (opC 4 p n f (.slice pc0 L0 capc0) s t sd (.slice b k e)) 70)) = w0 at *
  have hlew := h.le
  have HH : Hid (BK base M w F X ∧ BD M w F X ∧ Tab w) := ⟨h, d, hT⟩
  have hw00 := (B0.cell (p := ⟨W0, 0, none⟩) hW0).trans hw
  by_cases hV : ∃ N, VP c0 L0 N
  rotate_left
  · have HPB : Hid (Calls Tryz.prog 97 #[.slice pc0 L0 capc0] w0 fun e w' => e = .returned (.tuple #[.slice none 0 0, .slice none 0 0, .int .i64 1]) ∧ Below w0.heap.size w0 w') := rProbe_bad w0 _ L0 c0 hby0 (C0.below B0) hV
    have HFB : Hid (∀ wx, Below w0.heap.size w0 wx → Stepped base M w X (.returned (.bool true)) wx) := fun wx hB => by
      have hb := B0.trans (hB.mono B0.size)
      exact ⟨rfl, F, X, h.below hb, d.below hb, Kept.of_below (hb.mono hlew), by omega, by omega, by omega⟩
    clear HH h d hT C0 hcv0
    refine HPB.out.mono ?_
    rintro _ wa ⟨rfl, Ba⟩
    have HS : Hid (Stepped base M w X (.returned (.bool true)) wa) := HFB.out wa Ba
    clear HFB Ba
    go_wp2_with fail
    go_ret
    exact HS.out
  obtain ⟨N, V⟩ := hV
  have HPG : Hid (Calls Tryz.prog 97 #[.slice pc0 L0 capc0] w0 fun e w' => ∃ bs vm vq, w0.heap.size ≤ bs ∧ TR bs w' vm vq (pcode c0 N L0) (pfrom c0 N L0) ∧ e = .returned (.tuple #[vm, vq, .int .i64 0]) ∧ Below w0.heap.size w0 w') := by
    have hC := C0.below B0
    cases hC with
    | bare p' cap' hv hL => have := V.lt V.one; omega
    | full cb co cap' hv hC =>
      rw [hv]
      exact (rProbe_any w0 cb co L0 cap' N c0 V.fine0 V.most hby0 hC).mono fun e w' h => h
  refine HPG.out.mono ?_
  rintro _ wa ⟨bs, vm, vq, hbs, TA, rfl, Ba⟩
  obtain ⟨pc, capc, rfl⟩ := own_len TA.own1
  obtain ⟨pq, capq, rfl⟩ := own_len TA.own2
  have BWA : Below w.heap.size w wa := B0.trans (Ba.mono B0.size)
  have hza := Ba.size
  have hq := V.pLen'
  obtain ⟨L, c, hLe, C, hby, hL, hcv⟩ : ∃ (L : Nat) (c : Nat → Int), (pcode c0 N L0).length = L ∧ Coded wa (.slice pc L capc) L c ∧ (∀ i, i < L → 0 ≤ c i ∧ c i ≤ 255) ∧ L + 8 ≤ 140737488355328 ∧ (∀ gg, (Value.slice pc L capc).ownBlock = some gg → w.heap.size ≤ gg ∧ gg < wa.heap.size) := by
    refine ⟨_, fun i => (pcode c0 N L0).getD i 0, rfl, own_coded TA.own1, fun i hi => ?_, by rw [pcode_len]; omega, fun gg hgg => by have := TA.own1.lt gg hgg; omega⟩
    show 0 ≤ (pcode c0 N L0).getD i 0 ∧ (pcode c0 N L0).getD i 0 ≤ 255
    rw [List.getD_eq_getElem?_getD, List.getElem?_eq_getElem hi]
    exact V.pcBytes L0 (Nat.le_refl _) _ (List.getElem_mem hi)
  rw [hLe]
  generalize (pfrom c0 N L0).length = lf at *
  have h := HH.out.1.below BWA
  have d := HH.out.2.1.below BWA
  have hT := HH.out.2.2.below BWA
  have hw := (Ba.cell (p := ⟨W0, 0, none⟩) (by show W0 < w0.heap.size; omega)).trans hw00
  have e0 := (Ba.cell (p := ⟨w.heap.size, 0, none⟩) (by show w.heap.size < w0.heap.size; omega)).trans e0
  have e3 := (Ba.cell (p := ⟨w.heap.size, 3, none⟩) (by show w.heap.size < w0.heap.size; omega)).trans e3
  have e5 := (Ba.cell (p := ⟨w.heap.size, 5, none⟩) (by show w.heap.size < w0.heap.size; omega)).trans e5
  have hFR : ∀ gg, w.heap.size ≤ gg → Out5 M F gg := fun gg hg => HH.out.1.fresh hg
  have HFR : Hid (∀ gg, w.heap.size ≤ gg → Out5 M F gg) := hFR
  have HBWA : Hid (Below w.heap.size w wa) := BWA
  have hW0 : W0 < wa.heap.size := by omega
  have hwa : w.heap.size < wa.heap.size := by omega
  clear TA HPG HH hcv0 C0 hby0 V hFR hw00 hbs B0 Ba BWA
  have B0 : Below wa.heap.size wa wa := Below.refl _ _
  go_wp2_with fail
  refine (lend_any wa (.slice pc L capc) L c (C.below B0) hL).mono ?_
  rintro e1 w1 ⟨g, cap, rfl, hown, B1⟩
  have B01 := B0.trans (B1.mono B0.size)
  have hg : wa.heap.size ≤ g ∧ g < w1.heap.size := hown.lt g rfl
  obtain ⟨Cin, hcap, hcap'⟩ := lent_coded hown
  have a0 := (B1.cell (p := ⟨w.heap.size, 0, none⟩) (by show w.heap.size < wa.heap.size; omega)).trans e0
  have a3 := (B1.cell (p := ⟨w.heap.size, 3, none⟩) (by show w.heap.size < wa.heap.size; omega)).trans e3
  have a5 := (B1.cell (p := ⟨w.heap.size, 5, none⟩) (by show w.heap.size < wa.heap.size; omega)).trans e5
  have hi1 : (L : Int) ≤ (cap : Int) := by omega
  have HOWN : Hid (w1.ownsRow wa.heap.size 5 1 (.slice (some ⟨g, 0, none⟩) (L + 8) cap) (L + 8) (bytesL (lentAt c L) (L + 8))) := hown
  have HD : Hid (BD M wa F X) := d
  have HBK : Hid (BK base M wa F X) := h
  have hle := h.le
  have hlt := h.lt
  have hs1 := B1.size
  clear hown h d
  go_wp2_with fail
  refine (xRun_gen w1 _ L c hby Cin (hT.below B01) s f).mono ?_
  intro e2 w2 hR1
  obtain ⟨r, kk, A1⟩ := run_ans hR1
  obtain ⟨pl, nl, capl, xl, rfl, hnl, hol, hcvl⟩ := A1.form
  have B2 := A1.1
  have B02 := B01.trans (B2.mono B01.size)
  have hs2 := B2.size
  have b3 := (B2.cell (p := ⟨w.heap.size, 3, none⟩) (by show w.heap.size < w1.heap.size; omega)).trans a3
  have b5 := (B2.cell (p := ⟨w.heap.size, 5, none⟩) (by show w.heap.size < w1.heap.size; omega)).trans a5
  have hO2 : w.heap.size < w2.heap.size := by omega
  have HAN : Hid (RunIs c L s f w1 (.returned (.tuple #[.agg #[.int .i64 (oK r), .int .i64 (oF r), .int .i64 (oA r), .string (oS r), .int .i64 (oN r)], .slice pl nl capl, .int .i64 kk])) w2 ∧ Ans w1 (.returned (.tuple #[.agg #[.int .i64 (oK r), .int .i64 (oF r), .int .i64 (oA r), .string (oS r), .int .i64 (oN r)], .slice pl nl capl, .int .i64 kk])) w2 r kk) := ⟨hR1, A1⟩
  have HOL : Hid (w2.ownsRow w1.heap.size 5 1 (.slice pl nl capl) nl xl) := hol
  have HCL : Hid (∀ wx : World, (∀ g, (Value.slice pl nl capl).ownBlock = some g → wx.heap[g]? = w2.heap[g]?) → (convert 25 9 (.slice pl nl capl)).run Tryz.prog wx = .ok (.string (oC r)) wx) := hcvl
  clear hR1 A1 hol hcvl
  obtain ⟨q1, hq1⟩ : ∃ x, oK r = x := ⟨_, rfl⟩
  obtain ⟨q2, hq2⟩ : ∃ x, oF r = x := ⟨_, rfl⟩
  obtain ⟨q3, hq3⟩ : ∃ x, oA r = x := ⟨_, rfl⟩
  obtain ⟨q4, hq4⟩ : ∃ x, oS r = x := ⟨_, rfl⟩
  obtain ⟨q5, hq5⟩ : ∃ x, oN r = x := ⟨_, rfl⟩
  have HQ : Hid (oK r = q1 ∧ oF r = q2 ∧ oA r = q3 ∧ oS r = q4 ∧ oN r = q5) := ⟨hq1, hq2, hq3, hq4, hq5⟩
  rw [hq1, hq2, hq3, hq4, hq5]
  clear hq1 hq2 hq3 hq4 hq5
  go_wp2_with fail
  have B2A : Below w2.heap.size w2 (w2.alloc (.cells #[.int .i64 q1, .int .i64 q2, .int .i64 q3, .string q4, .int .i64 q5] 35)) := (Below.refl _ _).alloc (Nat.le_refl _) _
  have h2A := heap_alloc_new w2 (.cells #[.int .i64 q1, .int .i64 q2, .int .i64 q3, .string q4, .int .i64 q5] 35)
  have hz2 : (w2.alloc (.cells #[.int .i64 q1, .int .i64 q2, .int .i64 q3, .string q4, .int .i64 q5] 35)).heap.size = w2.heap.size + 1 := by simp
  generalize (w2.alloc (.cells #[.int .i64 q1, .int .i64 q2, .int .i64 q3, .string q4, .int .i64 q5] 35)) = w2a at *
  have B02A := B02.trans (B2A.mono B02.size)
  refine (rRun_gen w2a _ L c hby (C.below B02A) s f).mono ?_
  intro e3' w3 hR2
  have A2 := run_same HAN.out.1 HAN.out.2 hR2
  obtain ⟨pm, nm, capm, xm, rfl, hnm, hom, hcvm⟩ := A2.form
  rw [HQ.out.1, HQ.out.2.1, HQ.out.2.2.1, HQ.out.2.2.2.1, HQ.out.2.2.2.2]
  have B3 := A2.1
  have B03 := B02A.trans (B3.mono B02A.size)
  have W23 : Below w2.heap.size w2 w3 := B2A.trans (B3.mono B2A.size)
  have W13 : Below w1.heap.size w1 w3 := B2.trans (W23.mono B2.size)
  have hs3 := B3.size
  have h3A := (B3.block w2.heap.size (by omega)).trans h2A
  have hbl : ∀ gg, (Value.slice pl nl capl).ownBlock = some gg → w1.heap.size ≤ gg ∧ gg < w2.heap.size := fun gg hgg => HOL.out.lt gg hgg
  have cv1 := HCL.out (w3.alloc (.cells #[.int .i64 q1, .int .i64 q2, .int .i64 q3, .string q4, .int .i64 q5] 35)) (fun gg hgg => (Below.heap_alloc w3 _ gg (by have := hbl gg hgg; omega)).trans (W23.block gg (hbl gg hgg).2))
  have cv2 := hcvm (w3.alloc (.cells #[.int .i64 q1, .int .i64 q2, .int .i64 q3, .string q4, .int .i64 q5] 35)) (fun gg hgg => Below.heap_alloc w3 _ gg (hom.lt gg hgg).2)
  generalize oC r = sc at cv1 cv2
  have i0 : w3.cell? ⟨w2.heap.size, 0, none⟩ = some (.int .i64 q1) := cell_of_row _ _ _ _ _ _ h3A
  have i1 : w3.cell? ⟨w2.heap.size, 1, none⟩ = some (.int .i64 q2) := cell_of_row _ _ _ _ _ _ h3A
  have i2 : w3.cell? ⟨w2.heap.size, 2, none⟩ = some (.int .i64 q3) := cell_of_row _ _ _ _ _ _ h3A
  have i3 : w3.cell? ⟨w2.heap.size, 3, none⟩ = some (.string q4) := cell_of_row _ _ _ _ _ _ h3A
  have i4 : w3.cell? ⟨w2.heap.size, 4, none⟩ = some (.int .i64 q5) := cell_of_row _ _ _ _ _ _ h3A
  have hs23 : w2.heap.size < w3.heap.size := by omega
  have B34 : Below w3.heap.size w3 (w3.alloc (.cells #[.int .i64 q1, .int .i64 q2, .int .i64 q3, .string q4, .int .i64 q5] 35)) := (Below.refl _ _).alloc (Nat.le_refl _) _
  have B04 : Below wa.heap.size wa (w3.alloc (.cells #[.int .i64 q1, .int .i64 q2, .int .i64 q3, .string q4, .int .i64 q5] 35)) := B03.trans (B34.mono B03.size)
  have W14 : Below w1.heap.size w1 (w3.alloc (.cells #[.int .i64 q1, .int .i64 q2, .int .i64 q3, .string q4, .int .i64 q5] 35)) := W13.trans (B34.mono W13.size)
  have W24 : Below w2.heap.size w2 (w3.alloc (.cells #[.int .i64 q1, .int .i64 q2, .int .i64 q3, .string q4, .int .i64 q5] 35)) := W23.trans (B34.mono W23.size)
  have hw4 := (B04.cell (p := ⟨W0, 0, none⟩) hW0).trans hw
  have HLK : Hid (Calls Tryz.prog 27 #[.pointer (some ⟨M, 0, none⟩)] (w3.alloc (.cells #[.int .i64 q1, .int .i64 q2, .int .i64 q3, .string q4, .int .i64 q5] 35)) fun e w' => e = .returned (.bool true) ∧ Sm (w3.alloc (.cells #[.int .i64 q1, .int .i64 q2, .int .i64 q3, .string q4, .int .i64 q5] 35)) w') := looks_any base M _ F X (HBK.out.below B04) (HD.out.below B04) (by omega) (by omega) (by have := HD.out.len04; omega) hX1
  have HB04 : Hid (Below wa.heap.size wa (w3.alloc (.cells #[.int .i64 q1, .int .i64 q2, .int .i64 q3, .string q4, .int .i64 q5] 35)) ∧ Below w1.heap.size w1 (w3.alloc (.cells #[.int .i64 q1, .int .i64 q2, .int .i64 q3, .string q4, .int .i64 q5] 35)) ∧ Below w2.heap.size w2 (w3.alloc (.cells #[.int .i64 q1, .int .i64 q2, .int .i64 q3, .string q4, .int .i64 q5] 35))) := ⟨B04, W14, W24⟩
  have hB1 := HBK.out.below B01
  have hD1 := HD.out.below B01
  have hB0 := HBK.out.below B0
  have hD0 := HD.out.below B0
  have HF1 : Hid (∀ gg, w1.heap.size ≤ gg → Out5 M F gg) := fun gg h => hB1.fresh h
  have HN1 : Hid (∀ u gg, Rec X u → u.ownBlock = some gg → gg < wa.heap.size) := fun u gg hu h => (hD0.lt hu h).1
  have HF0 : Hid (Out5 M F g) := hB0.fresh hg.1
  clear hR2 A2 hom hcvm HCL HAN h3A h2A HQ B0 B01 B1 B2 B02 B2A B02A B3 B03 B34 B04 W13 W14 W23 W24 hB1 hD1 hB0 hD0 Cin
  go_wp2_with (go_at_call 56; refine (num_any _ _).mono ?_; rintro e' w' ⟨rfl, hw'⟩; obtain rfl := hw'.symm)
  generalize (w3.alloc (.cells #[.int .i64 q1, .int .i64 q2, .int .i64 q3, .string q4, .int .i64 q5] 35)) = w4 at *
  clear cv1 cv2 i0 i1 i2 i3 i4
  refine HLK.out.mono ?_
  rintro e5' w5 ⟨rfl, S5⟩
  have B5 : Below w4.heap.size w4 w5 := S5.below _
  have B05 := HB04.out.1.trans (B5.mono HB04.out.1.size)
  have W15 := HB04.out.2.1.trans (B5.mono HB04.out.2.1.size)
  have W25 := HB04.out.2.2.trans (B5.mono HB04.out.2.2.size)
  have hw5 := (B05.cell (p := ⟨W0, 0, none⟩) hW0).trans hw
  have hsz5 := W25.size
  have HOB := ownBytes_any base M w5 F X (HBK.out.below B05) (HD.out.below B05) (.slice pl nl capl) nl xl (own_lower (own_below' HOL.out (fun gg hgg => W25.block gg (hbl gg hgg).2)) (by omega)) (by omega)
    (fun gg hgg => HF1.out gg (hbl gg hgg).1) (fun u gg hu hgg c => by have := HN1.out u gg hu c; have := hbl gg hgg; omega) hX0
  have HOB' : Hid (Calls Tryz.prog 101 #[.pointer (some ⟨M, 0, none⟩), .slice pl nl capl] w5 fun e w' => e = .returned (.tuple #[]) ∧ ∃ F' vs ns, vs.length = 4 ∧ ns.length = 4 ∧ BK base M w' F' (upd (upd X 0 (X 0 ++ vs)) 4 (X 4 ++ ns)) ∧ BD M w' F' (upd (upd X 0 (X 0 ++ vs)) 4 (X 4 ++ ns)) ∧ Kept base M w5 w' ∧ (∀ k, k < w5.heap.size → Out5 M F k → (Value.slice pl nl capl).ownBlock ≠ some k → w'.heap[k]? = w5.heap[k]?) ∧ (∀ k, k < w5.heap.size → Out5 M F k → Out5 M F' k) ∧ (∀ u ∈ vs, ∀ k, u.ownBlock = some k → (Value.slice pl nl capl).ownBlock = some k ∨ w5.heap.size ≤ k)) := HOB
  have HX5 : Hid (Below wa.heap.size wa w5 ∧ Below w1.heap.size w1 w5) := ⟨B05, W15⟩
  clear HOB
  go_wp2_with fail
  refine HOB'.out.mono ?_
  rintro e6' w6 ⟨rfl, F', vs, ns, hvs, hns, R6, D6, K6, Fr6, Of6, Nw6⟩
  have hw6 := (K6.cell (p := ⟨W0, 0, none⟩) hWb hWM).trans hw5
  have hbg : (Value.slice pl nl capl).ownBlock ≠ some g := fun c => by have := hbl g c; omega
  have e8 : upd (upd X 0 (X 0 ++ vs)) 4 (X 4 ++ ns) 8 = X 8 := by rw [upd_other _ _ (show (8 : Nat) ≠ 4 by omega), upd_other _ _ (show (8 : Nat) ≠ 0 by omega)]
  have e00 : upd (upd X 0 (X 0 ++ vs)) 4 (X 4 ++ ns) 0 = X 0 ++ vs := by rw [upd_other _ _ (show (0 : Nat) ≠ 4 by omega), upd_same]
  have e11 : upd (upd X 0 (X 0 ++ vs)) 4 (X 4 ++ ns) 1 = X 1 := by rw [upd_other _ _ (show (1 : Nat) ≠ 4 by omega), upd_other _ _ (show (1 : Nat) ≠ 0 by omega)]
  have hC6 : Coded w6 (.slice pc L capc) L c := by
    by_cases h0 : 0 < L
    · refine (C.below B05).keep (fun gg hgg hl => ?_)
      have := hcv gg hgg
      exact Fr6 gg hl (HFR.out gg this.1) (fun e => by have := hbl gg e; omega)
    · have hL0 : L = 0 := by omega
      subst hL0
      exact .bare pc capc rfl rfl
  have WH := whole_any base M w6 F' _ R6 D6 g cap L c (.slice pc L capc) (own_lower (own_below' HOWN.out (fun k hk => by
      obtain rfl : g = k := by simpa [Value.ownBlock] using hk
      exact (Fr6 g (by have := W15.size; omega) HF0.out hbg).trans (W15.block g hg.2))) (by omega)) (Of6 g (by have := W15.size; omega) HF0.out) (fun u hu c => by
      have hu' : Rec X u ∨ u ∈ vs := by
        rcases hu with hu | hu | hu
        · rw [e00] at hu
          rcases List.mem_append.1 hu with hu | hu
          · exact Or.inl (Or.inl hu)
          · exact Or.inr hu
        · rw [e11] at hu; exact Or.inl (Or.inr (Or.inl hu))
        · rw [e8] at hu; exact Or.inl (Or.inr (Or.inr hu))
      rcases hu' with hu' | hu'
      · have := HN1.out u g hu' c; omega
      · rcases Nw6 u hu' g c with q | q
        · exact hbg q
        · have := W15.size; omega) hC6 (fun h0 => C.blk h0 (by omega)) hL (by rw [e8]; exact hX)
  rw [e8] at WH
  have WH' : Hid (Calls Tryz.prog 105 #[.pointer (some ⟨M, 0, none⟩), .slice (some ⟨g, 0, none⟩) (L + 8) cap, .slice pc L capc] w6 fun e w' => e = .returned (.bool true) ∧ ∃ F'', BK base M w' F'' (upd (upd (upd X 0 (X 0 ++ vs)) 4 (X 4 ++ ns)) 8 (X 8 ++ [.slice (some ⟨g, 0, none⟩) (L + 8) cap])) ∧ BD M w' F'' (upd (upd (upd X 0 (X 0 ++ vs)) 4 (X 4 ++ ns)) 8 (X 8 ++ [.slice (some ⟨g, 0, none⟩) (L + 8) cap])) ∧ Kept base M w6 w') := WH
  have HK6 : Hid (Kept base M w w6) := (Kept.of_below (HBWA.out.mono hlew)).trans ((Kept.of_below (B05.mono hle)).trans K6)
  have HVS : Hid (vs.length = 4) := hvs
  clear WH R6 D6 K6 Fr6 Of6 Nw6 e8 e00 e11 hC6 HOB' hvs hns HOL HOWN HBK HD HF1 HN1 HF0 B05 W15 W25 B5 S5 C
  go_wp2_with fail
  refine WH'.out.mono ?_
  rintro e7' w7 ⟨rfl, F'', R7, D7, K7⟩
  have HFIN : Hid (∃ F' X', BK base M w7 F' X' ∧ BD M w7 F' X' ∧ Kept base M w w7 ∧ (X' 0).length ≤ (X 0).length + 4 ∧ (X' 8).length ≤ (X 8).length + 1 ∧ (X' 1).length ≤ (X 1).length + 4) := by
    refine ⟨F'', _, R7, D7, HK6.out.trans K7, ?_, ?_, ?_⟩
    · rw [upd_other _ _ (show (0 : Nat) ≠ 8 by omega), upd_other _ _ (show (0 : Nat) ≠ 4 by omega), upd_same, List.length_append, HVS.out]; omega
    · rw [upd_same, List.length_append]; simp
    · rw [upd_other _ _ (show (1 : Nat) ≠ 8 by omega), upd_other _ _ (show (1 : Nat) ≠ 4 by omega), upd_other _ _ (show (1 : Nat) ≠ 0 by omega)]; omega
  clear R7 D7 K7
  go_wp2_with fail
  go_ret
  exact ⟨rfl, HFIN.out⟩
end Go.Proofs.YtflenkppcclclaaGreatDoor

namespace Go.Proofs.YtflenkppcclclaaGreatDoor
open Go.RowKit

/-! Texts as lists of numbers. -/
def nums (s : ByteArray) : List Int := s.data.toList.map fun b => (b.toNat : Int)
theorem nums_len (s : ByteArray) : (nums s).length = s.size := by
  simp only [nums, List.length_map]
  exact Array.length_toList
def Byt (l : List Int) : Prop := ∀ x ∈ l, 0 ≤ x ∧ x ≤ 255
theorem nums_byt (s : ByteArray) : Byt (nums s) := by
  intro x hx
  simp only [nums, List.mem_map] at hx
  obtain ⟨b, _, rfl⟩ := hx
  have := b.toNat_lt
  omega
theorem ofNat_toNat (b : UInt8) : UInt8.ofNat ((b.toNat : Int)).toNat = b := by simp
theorem str_nums (s : ByteArray) : strOfNums (nums s) = s := by
  cases s with
  | mk d =>
    cases d with
    | mk l =>
      simp only [strOfNums, nums, List.map_map]
      congr 1
      have : ((fun n : Int => UInt8.ofNat n.toNat) ∘ fun b : UInt8 => (b.toNat : Int)) = id := funext fun b => ofNat_toNat b
      rw [this, List.map_id]
theorem nums_inj {a b : ByteArray} (h : nums a = nums b) : a = b := by rw [← str_nums a, ← str_nums b, h]
theorem nums_str {l : List Int} (h : Byt l) : nums (strOfNums l) = l := by
  simp only [strOfNums, nums, List.map_map]
  conv => rhs; rw [← List.map_id l]
  apply List.map_congr_left
  intro x hx
  have := h x hx
  simp only [Function.comp, UInt8.toNat_ofNat', id]
  have e : x.toNat % 256 = x.toNat := Nat.mod_eq_of_lt (by omega)
  rw [show (2 : Nat) ^ 8 = 256 from rfl, e]
  omega
theorem is_str {s : ByteArray} {l : List Int} (h : nums s = l) : s = strOfNums l := by rw [← h, str_nums]
theorem nums_append (a b : ByteArray) : nums (a ++ b) = nums a ++ nums b := by simp [nums]
theorem nums_extract (s : ByteArray) (i j : Nat) : nums (s.extract i j) = ((nums s).drop i).take (j - i) := by
  simp [nums, List.map_take, List.map_drop]
theorem nums_get (s : ByteArray) (i : Nat) (h : i < s.size) : ((s[i]'h).toNat : Int) = (nums s).getD i 0 := by
  have h' : i < s.data.toList.length := by simpa using h
  simp [nums, List.getD, h, ByteArray.getElem_eq_getElem_data]
theorem nums_data (s : ByteArray) (i : Nat) (h : i < s.size) : ((s.data.toList.getD i 0).toNat : Int) = (nums s).getD i 0 := by
  have h' : i < s.data.size := h
  simp [nums, List.getD, Array.getElem?_eq_getElem h']
theorem Byt.at {l : List Int} (h : Byt l) (i : Nat) : 0 ≤ l.getD i 0 ∧ l.getD i 0 ≤ 255 := by
  rw [List.getD_eq_getElem?_getD]
  cases e : l[i]? with
  | none => simp
  | some x => exact h x (List.mem_of_getElem? e)
theorem Byt.set {l : List Int} (h : Byt l) (i : Nat) {v : Int} (h0 : 0 ≤ v) (h1 : v ≤ 255) : Byt (l.set i v) := fun x hx => by
  rcases List.mem_or_eq_of_mem_set hx with hx | rfl
  · exact h x hx
  · exact ⟨h0, h1⟩
theorem Byt.app {a b : List Int} (ha : Byt a) (hb : Byt b) : Byt (a ++ b) := fun x hx => by
  rcases List.mem_append.1 hx with h | h
  · exact ha x h
  · exact hb x h
theorem Byt.take {a : List Int} (ha : Byt a) (n : Nat) : Byt (a.take n) := fun x hx => ha x (List.mem_of_mem_take hx)
theorem Byt.drop {a : List Int} (ha : Byt a) (n : Nat) : Byt (a.drop n) := fun x hx => ha x (List.mem_of_mem_drop hx)
theorem byt_one {v : Int} (h0 : 0 ≤ v) (h1 : v ≤ 255) : Byt [v] := fun x hx => by simp at hx; subst hx; exact ⟨h0, h1⟩
theorem bits_u8 (op : BinOp) (x y : Int) : 0 ≤ bits op .u8 x y ∧ bits op .u8 x y ≤ 255 := by
  have := wf_bits op .u8 x y
  simp [Lit.wf, IntKind.min, IntKind.max, IntKind.signed, IntKind.bits] at this
  omega

/-! P6: the changes in their order. -/
def flipL (l : List Int) (k : Nat) : List Int := l.set (k / 8) (bits .xor .u8 (l.getD (k / 8) 0) (2 ^ (7 - k % 8)))
def markL (k : Nat) : Int := [0, 1, 127, 128, 255].getD k 0
def cutL (l : List Int) (n : Nat) : List Int := l.take n ++ l.drop (n + 1)
def twiceL (l : List Int) (n : Nat) : List Int := l.take n ++ l.getD n 0 :: l.drop n
def mutL (l : List Int) (n : Nat) : Option (List Int) :=
  let L := l.length
  if n < 8 * L then some (flipL l n)
  else if n - 8 * L < 8 * L - 1 then some (flipL (flipL l (n - 8 * L)) (n - 8 * L + 1))
  else if n - 8 * L - (8 * L - 1) < L then some (l.set (n - 8 * L - (8 * L - 1)) (bits .xor .u8 (l.getD (n - 8 * L - (8 * L - 1)) 0) 255))
  else if n - 8 * L - (8 * L - 1) - L < 4 * L then some (l.set ((n - 8 * L - (8 * L - 1) - L) / 4) ((l.getD ((n - 8 * L - (8 * L - 1) - L) / 4) 0 + ((n - 8 * L - (8 * L - 1) - L) % 4 + 1 : Nat)) % 256))
  else if n - 8 * L - (8 * L - 1) - L - 4 * L < 4 * L then some (l.set ((n - 8 * L - (8 * L - 1) - L - 4 * L) / 4) ((l.getD ((n - 8 * L - (8 * L - 1) - L - 4 * L) / 4) 0 - ((n - 8 * L - (8 * L - 1) - L - 4 * L) % 4 + 1 : Nat)) % 256))
  else if n - 8 * L - (8 * L - 1) - L - 4 * L - 4 * L < 5 * L then some (l.set ((n - 8 * L - (8 * L - 1) - L - 4 * L - 4 * L) / 5) (markL ((n - 8 * L - (8 * L - 1) - L - 4 * L - 4 * L) % 5)))
  else if n - 8 * L - (8 * L - 1) - L - 4 * L - 4 * L - 5 * L < L then some (cutL l (n - 8 * L - (8 * L - 1) - L - 4 * L - 4 * L - 5 * L))
  else if n - 8 * L - (8 * L - 1) - L - 4 * L - 4 * L - 5 * L - L < L ∧ L < 24 then some (twiceL l (n - 8 * L - (8 * L - 1) - L - 4 * L - 4 * L - 5 * L - L))
  else none

/-! P7: chance. -/
/-- The seed behind a draw. -/
def nextI (x : Int) : Int :=
  bits .xor .u64 (bits .xor .u64 (bits .xor .u64 x (x / 4096)) (IntKind.u64.wrap (bits .xor .u64 x (x / 4096) * 33554432))) (bits .xor .u64 (bits .xor .u64 x (x / 4096)) (IntKind.u64.wrap (bits .xor .u64 x (x / 4096) * 33554432)) / 134217728)
def sd (x : Int) : Int := nextI (if x = 0 then 88172645463325252 else x)
/-- What is drawn from it, below n. -/
def dr (x : Int) (n : Nat) : Nat := (IntKind.u64.wrap (sd x * 2685821657736338717) / 8589934592).toNat % n
def onceL (l o : List Int) (x : Int) : List Int × Int :=
  let L := l.length
  let w := dr x 6
  let y := sd x
  if L = 0 ∧ w ≠ 3 ∧ w ≠ 4 then (l, y)
  else if w = 0 then (flipL l (dr y (8 * L)), sd y)
  else if w = 1 then (l.set (dr y L) (dr (sd y) 256 : Int), sd (sd y))
  else if w = 2 then (cutL l (dr y L), sd y)
  else if w = 3 then (if 24 ≤ L then (l, y) else (l.take (dr y (L + 1)) ++ (dr (sd y) 256 : Int) :: l.drop (dr y (L + 1)), sd (sd y)))
  else if w = 4 then ((l.take (dr y (L + 1)) ++ o.drop (dr (sd y) (o.length + 1))).take 24, sd (sd y))
  else (l.set (dr y L) (l.getD (dr (sd y) L) 0), sd (sd y))
def timesL (l o : List Int) (x : Int) : Nat → List Int × Int
  | 0 => (l, x)
  | n + 1 => onceL (timesL l o x n).1 o (timesL l o x n).2
def wildL (l o : List Int) (x : Int) : List Int × Int := timesL l o (sd x) (1 + dr x 4)

theorem flip_len (l : List Int) (k : Nat) : (flipL l k).length = l.length := by simp [flipL]
theorem flip_byt {l : List Int} (h : Byt l) (k : Nat) : Byt (flipL l k) := h.set _ (bits_u8 _ _ _).1 (bits_u8 _ _ _).2
theorem cut_len (l : List Int) (k : Nat) (h : k < l.length) : (cutL l k).length = l.length - 1 := by simp [cutL]; omega
theorem cut_byt {l : List Int} (h : Byt l) (k : Nat) : Byt (cutL l k) := (h.take _).app (h.drop _)
theorem put_byt {l : List Int} (h : Byt l) (k : Nat) {v : Int} (h0 : 0 ≤ v) (h1 : v ≤ 255) : Byt (l.take k ++ v :: l.drop k) := (h.take _).app (fun x hx => by
  rcases List.mem_cons.1 hx with rfl | hx
  · exact ⟨h0, h1⟩
  · exact h.drop _ x hx)
theorem put_len (l : List Int) (k : Nat) (v : Int) (h : k ≤ l.length) : (l.take k ++ v :: l.drop k).length = l.length + 1 := by simp; omega
theorem dr_lt (x : Int) (n : Nat) (h : 0 < n) : dr x n < n := Nat.mod_lt _ h
theorem once_byt {l o : List Int} (hl : Byt l) (ho : Byt o) (x : Int) : Byt (onceL l o x).1 := by
  unfold onceL
  dsimp only
  have hd := dr_lt (sd (sd x)) 256 (by omega)
  split
  · exact hl
  split
  · exact flip_byt hl _
  split
  · exact hl.set _ (by omega) (by omega)
  split
  · exact cut_byt hl _
  split
  · split
    · exact hl
    · exact put_byt hl _ (by omega) (by omega)
  split
  · exact ((hl.take _).app (ho.drop _)).take _
  · exact hl.set _ (hl.at _).1 (hl.at _).2
theorem once_len {l o : List Int} (hl : l.length ≤ 24) (ho : o.length ≤ 24) (x : Int) : (onceL l o x).1.length ≤ 24 ∧ (onceL l o x).1.length ≤ l.length + o.length + 1 := by
  unfold onceL
  dsimp only
  split
  · exact ⟨hl, by dsimp only; omega⟩
  split
  · rw [flip_len]; exact ⟨hl, by omega⟩
  split
  · simp; omega
  split
  · simp [cutL]; omega
  split
  · split
    · exact ⟨hl, by dsimp only; omega⟩
    · have := dr_lt (sd x) (l.length + 1) (by omega)
      rw [put_len _ _ _ (by omega)]; omega
  split
  · simp; omega
  · simp; omega
theorem times_byt {l o : List Int} (hl : Byt l) (ho : Byt o) (x : Int) : ∀ n, Byt (timesL l o x n).1
  | 0 => hl
  | n + 1 => once_byt (times_byt hl ho x n) ho _
theorem times_len {l o : List Int} (hl : l.length ≤ 24) (ho : o.length ≤ 24) (x : Int) : ∀ n, (timesL l o x n).1.length ≤ 24 ∧ (timesL l o x n).1.length ≤ l.length + n * (o.length + 1)
  | 0 => ⟨hl, by simp [timesL]⟩
  | n + 1 => by
    have ih := times_len hl ho x n
    have := once_len ih.1 ho (timesL l o x n).2
    refine ⟨this.1, ?_⟩
    rw [Nat.succ_mul]
    have := this.2
    show (onceL _ o _).1.length ≤ _
    omega
end Go.Proofs.YtflenkppcclclaaGreatDoor

