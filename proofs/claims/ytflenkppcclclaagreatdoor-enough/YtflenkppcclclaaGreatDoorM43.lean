import Derived.Test.YtflenkppcclclaaGreatDoorM42
import Derived.Deep.RegionHeld3
import Derived.Deep.DeepFit
import Derived.Test.YtflenkppcclclaaGreatDoorM00
import Derived.Test.YtflenkppcclclaaGreatDoorRows
import Derived.ProofKit
import Derived.LaidMore
import Derived.OpenShut
import Derived.Stop.Joined
import Derived.Deep.Strs
namespace Go.Proofs.YtflenkppcclclaaGreatDoor
open Go.RowKit

theorem fav_end (h : HS) (hl : ∀ k ∈ h.kept, ∀ q, Cls (k.cov q)) : ∀ j, j < 64 → seenN (favI h) j = seenN h.kept j := fun j hj => seen_fav h.kept j hj (fun k hk => hl k hk j)
/-- What the favoured look at, while a run is under way. -/
structure EC (wr W : World) (nb Kb i n : Nat) (t : ByteArray) : Prop where
  bel : Below wr.heap.size wr W
  num : W.cell? ⟨nb, i, none⟩ = some (.int .i64 (n : Nat))
  text : W.cell? ⟨Kb, n, none⟩ = some (.string t)
theorem en_a (wr w7 : World) (nb Kb i n : Nat) (t : ByteArray) (cb co cap gL : Nat) (g : PG) (hnl : nb < wr.heap.size) (hkl : Kb < wr.heap.size) (cn : wr.cell? ⟨nb, i, none⟩ = some (.int .i64 (n : Nat))) (ct : wr.cell? ⟨Kb, n, none⟩ = some (.string t)) (B7 : Below wr.heap.size wr w7) (C7 : Laid w7 cb co gL cap g.c) :
    w7.cell? ⟨nb, i, none⟩ = some (.int .i64 (n : Nat)) ∧ w7.cell? ⟨Kb, n, none⟩ = some (.string t) ∧ Hid (Below wr.heap.size wr w7 ∧ Laid w7 cb co gL cap g.c) ∧ nb ≠ w7.heap.size ∧ Kb ≠ w7.heap.size ∧ (nb < w7.heap.size ∧ Kb < w7.heap.size) :=
  have hs := B7.size
  ⟨(B7.cell (p := ⟨nb, i, none⟩) hnl).trans cn, (B7.cell (p := ⟨Kb, n, none⟩) hkl).trans ct, ⟨B7, C7⟩, by omega, by omega, by omega, by omega⟩
theorem en_b (wr w7 : World) (nb Kb i n : Nat) (t : ByteArray) (cb co cap gL : Nat) (g : PG) (hnl : nb < wr.heap.size) (hkl : Kb < wr.heap.size) (cn : wr.cell? ⟨nb, i, none⟩ = some (.int .i64 (n : Nat))) (ct : wr.cell? ⟨Kb, n, none⟩ = some (.string t)) (B7 : Below (wr.alloc oobj).heap.size (wr.alloc oobj) w7) (C7 : Laid w7 cb co gL cap g.c) :
    w7.cell? ⟨nb, i, none⟩ = some (.int .i64 (n : Nat)) ∧ w7.cell? ⟨Kb, n, none⟩ = some (.string t) ∧ Hid (Below (wr.alloc oobj).heap.size (wr.alloc oobj) w7 ∧ Laid w7 cb co gL cap g.c) ∧ (nb < w7.heap.size ∧ Kb < w7.heap.size) := by
  have B : Below wr.heap.size wr w7 := ((Below.refl _ _).alloc (Nat.le_refl _) _).trans (B7.mono (by simp))
  have hs := B.size
  exact ⟨(B.cell (p := ⟨nb, i, none⟩) hnl).trans cn, (B.cell (p := ⟨Kb, n, none⟩) hkl).trans ct, ⟨B7, C7⟩, by omega, by omega⟩
theorem en_e {wr w7 : World} (B7 : Below (wr.alloc oobj).heap.size (wr.alloc oobj) w7) : Below wr.heap.size wr w7 := ((Below.refl _ _).alloc (Nat.le_refl _) _).trans (B7.mono (by simp))
theorem en_c {wr w7 w8 : World} {nb Kb i n gc : Nat} {t : ByteArray} {g : PG} (B7 : Below wr.heap.size wr w7) (B8 : Below w7.heap.size w7 w8) (hn : nb < w7.heap.size) (hk : Kb < w7.heap.size) (h0 : w7.cell? ⟨nb, i, none⟩ = some (.int .i64 (n : Nat))) (h1 : w7.cell? ⟨Kb, n, none⟩ = some (.string t)) (hg1 : w7.heap.size ≤ gc) (hg2 : gc < w8.heap.size) (hcov : ∀ p, p < 64 → w8.cell? ⟨gc, p, none⟩ = some (.int .u8 ((g.R t).cov p))) :
    w8.cell? ⟨nb, i, none⟩ = some (.int .i64 (n : Nat)) ∧ w8.cell? ⟨Kb, n, none⟩ = some (.string t) ∧ Hid (Below wr.heap.size wr w8 ∧ gc < w8.heap.size ∧ wr.heap.size ≤ gc ∧ ∀ p, p < 64 → w8.cell? ⟨gc, p, none⟩ = some (.int .u8 ((g.R t).cov p))) :=
  ⟨(B8.cell (p := ⟨nb, i, none⟩) hn).trans h0, (B8.cell (p := ⟨Kb, n, none⟩) hk).trans h1, ⟨B7.trans (B8.mono B7.size), hg2, Nat.le_trans B7.size hg1, hcov⟩⟩
theorem en_d {wr w7 w8 : World} {nb Kb i n gc : Nat} {t : ByteArray} {g : PG} (B7 : Below wr.heap.size wr w7) (B8 : Below (w7.alloc oobj).heap.size (w7.alloc oobj) w8) (hn : nb < w7.heap.size) (hk : Kb < w7.heap.size) (h0 : w7.cell? ⟨nb, i, none⟩ = some (.int .i64 (n : Nat))) (h1 : w7.cell? ⟨Kb, n, none⟩ = some (.string t)) (hg1 : (w7.alloc oobj).heap.size ≤ gc) (hg2 : gc < w8.heap.size) (hcov : ∀ p, p < 64 → w8.cell? ⟨gc, p, none⟩ = some (.int .u8 ((g.R t).cov p))) :
    w8.cell? ⟨nb, i, none⟩ = some (.int .i64 (n : Nat)) ∧ w8.cell? ⟨Kb, n, none⟩ = some (.string t) ∧ Hid (Below wr.heap.size wr w8 ∧ w7.heap.size < gc ∧ gc < w8.heap.size ∧ wr.heap.size ≤ w7.heap.size ∧ ∀ p, p < 64 → w8.cell? ⟨gc, p, none⟩ = some (.int .u8 ((g.R t).cov p))) := by
  have B := try_e B8
  have hs : (w7.alloc oobj).heap.size = w7.heap.size + 1 := by simp
  exact ⟨(B.cell (p := ⟨nb, i, none⟩) hn).trans h0, (B.cell (p := ⟨Kb, n, none⟩) hk).trans h1, ⟨B7.trans (B.mono B7.size), by omega, hg2, B7.size, hcov⟩⟩
theorem en_f {wr w7 w8 : World} {nb Kb i n gc : Nat} {t : ByteArray} {g : PG} (B7 : Below (wr.alloc oobj).heap.size (wr.alloc oobj) w7) (B8 : Below w7.heap.size w7 w8) (hn : nb < w7.heap.size) (hk : Kb < w7.heap.size) (h0 : w7.cell? ⟨nb, i, none⟩ = some (.int .i64 (n : Nat))) (h1 : w7.cell? ⟨Kb, n, none⟩ = some (.string t)) (hg1 : w7.heap.size ≤ gc) (hg2 : gc < w8.heap.size) (hcov : ∀ p, p < 64 → w8.cell? ⟨gc, p, none⟩ = some (.int .u8 ((g.R t).cov p))) :
    w8.cell? ⟨nb, i, none⟩ = some (.int .i64 (n : Nat)) ∧ w8.cell? ⟨Kb, n, none⟩ = some (.string t) ∧ Hid (Below wr.heap.size wr w8 ∧ wr.heap.size < gc ∧ gc < w8.heap.size ∧ ∀ p, p < 64 → w8.cell? ⟨gc, p, none⟩ = some (.int .u8 ((g.R t).cov p))) := by
  have B := en_e B7
  have hs : (wr.alloc oobj).heap.size = wr.heap.size + 1 := by simp
  have hs7 := B7.size
  exact ⟨(B8.cell (p := ⟨nb, i, none⟩) hn).trans h0, (B8.cell (p := ⟨Kb, n, none⟩) hk).trans h1, ⟨B.trans (B8.mono B.size), by omega, hg2, hcov⟩⟩
set_option maxHeartbeats 4000000 in
set_option maxRecDepth 100000 in
theorem enough_all (w : World) (v tv : Value) (seed fuel pk : Int) (g : PG) (l : List ByteArray) (A : LA w v tv seed fuel pk g l) (tries : Int) (t0 : -9223372036854775808 ≤ tries) (t1 : tries ≤ 9223372036854775807) :
    Calls Tryz.prog 7 #[v, tv, .int .u64 seed, .int .i64 fuel, .int .i64 tries] w fun e w' => e = .returned (.bool true) ∧ Below w.heap.size w w' := by
  have H0 : Hid (Calls Tryz.prog 12 #[] w fun e w' => e = .returned (.bool true) ∧ Below w.heap.size w w') := A.prowled
  have H1 : Hid (∀ W, Below w.heap.size w W → Calls Tryz.prog 13 #[v, tv, .int .u64 seed, .int .i64 fuel, .int .i64 tries] W fun e w' => ∃ H U, e = .returned (.pointer (some ⟨H, 0, none⟩)) ∧ Below W.heap.size W w' ∧ Prw W.heap.size U H g (frS g l seed (kpickS tries 600).toNat) w') := fun W b => A.fresh W b tries t0 t1
  have H2 : Hid (∀ W, Below w.heap.size w W → Calls Tryz.prog 14 #[v] W fun e w' => ∃ cb co cap, e = .returned (.slice (some ⟨cb, co, none⟩) g.L cap) ∧ Below W.heap.size W w' ∧ Laid w' cb co g.L cap g.c) := A.prog
  have H3 : Hid (∀ W, Calls Tryz.prog 15 #[.int .i64 fuel, .int .i64 200] W fun e w' => e = .returned (.int .i64 pk) ∧ w' = W) := A.pick
  have HTB : Hid (∀ W, Below w.heap.size w W → Tab W) := fun W b => A.tab.below b
  have HOK : Hid (PGok g) := A.ok
  have pk0 := A.pk0
  have pk1 := A.pk1
  have HFU : Hid (g.fuel = 1 + pk) := A.fu
  have hmk := make64
  obtain ⟨h, hh⟩ : ∃ h, frS g l seed (kpickS tries 600).toNat = h := ⟨_, rfl⟩
  rw [hh] at H1
  clear hh A t0 t1
  obtain ⟨gL, hgL⟩ : ∃ x, g.L = x := ⟨_, rfl⟩
  rw [hgL] at H2
  have HGL : Hid (g.L = gL) := hgL
  clear hgL
  go_enter Tryz.func7, Tryz.ntmps7
  go_wp2_with fail
  refine H0.out.mono ?_
  rintro e w1 ⟨rfl, B1⟩
  have HB1 : Hid (Below w.heap.size w w1) := B1
  clear B1 H0
  go_wp2_with fail
  refine (H1.out w1 HB1.out).mono ?_
  rintro e w2 ⟨H, U, rfl, B2, p2⟩
  have HB2 : Hid (Below w.heap.size w w2 ∧ Prw w.heap.size U H g h w2) := ⟨HB1.out.trans (B2.mono HB1.out.size), p2.wide HB1.out.size⟩
  clear B2 p2 H1 HB1
  have hcode : ∃ cb cap, Laid w2 cb 0 gL cap g.c ∧ U cb := by
    obtain ⟨d, _, G⟩ := HB2.out.2.hg
    exact ⟨d.cb, d.cc, by rw [← HGL.out]; exact G.hu.code, G.hu.inC⟩
  obtain ⟨cb, cap, hlaid, hucb⟩ := hcode
  have HR4 : Hid (R1 w U H g h cb 0 cap w2.heap.size (fun _ => 0) (w2.alloc (.cells zero64 5))) := by
    have Ba : Below w2.heap.size w2 (w2.alloc (.cells zero64 5)) := (Below.refl _ _).alloc (Nat.le_refl _) _
    refine ⟨HB2.out.1.trans (Ba.mono HB2.out.1.size), HB2.out.2.below Ba, ?_, by rw [heap_alloc_new, zero64_row], HB2.out.1.size, HB2.out.2.lt, HB2.out.2.lt _ hucb⟩
    rw [HGL.out]
    exact hlaid.below Ba
  clear HB2 hlaid hucb
  go_wp2_with fail
  generalize w2.alloc (.cells zero64 5) = w4 at *
  generalize w2.heap.size = S at *
  have HKP : Hid (Calls Tryz.prog 16 #[.pointer (some ⟨H, 0, none⟩)] w4 fun e w' => e = .returned (.slice (some ⟨w4.heap.size, 0, none⟩) h.kept.length h.kept.length) ∧ w'.heap[w4.heap.size]? = some (.cells (txtL h.kept.length (fun j => (h.kept.getD j in0).text)).toArray 9 (0, 0)) ∧ Below w4.heap.size w4 w') := HR4.out.pw.kepts
  refine HKP.out.mono ?_
  rintro e w5 ⟨rfl, k5, B5⟩
  have HR5 : Hid (R1 w U H g h cb 0 cap S (fun _ => 0) w5 ∧ w5.heap[w4.heap.size]? = some (.cells (txtL h.kept.length (fun j => (h.kept.getD j in0).text)).toArray 9 (0, 0)) ∧ S < w4.heap.size) := ⟨HR4.out.below B5, k5, HR4.out.lt⟩
  clear HKP HR4 k5 B5
  generalize w4.heap.size = Kb at *
  have HFV : Hid (Calls Tryz.prog 20 #[.pointer (some ⟨H, 0, none⟩)] w5 fun e w' => (∃ a c, e = .returned (.slice a (favS h.kept).length c) ∧ w'.ownsRow w5.heap.size 3 1 (.slice a (favS h.kept).length c) (favS h.kept).length ((favS h.kept).map fun n => .int .i64 ((n : Nat) : Int))) ∧ Below w5.heap.size w5 w') := by
    obtain ⟨vk, G, K⟩ := HR5.out.1.pw.kh
    exact xFav_any w5 H vk G h.kept K (inv_size HR5.out.1.pw.inv) (by have := HR5.out.1.pw.inv.most; omega)
  go_wp2_with fail
  refine HFV.out.mono ?_
  rintro e w6 ⟨⟨na, nc, rfl, ho6⟩, B6⟩
  have HR6 : Hid (R2 w U H g h cb 0 cap S w6 (fun _ => 0) w6) := ⟨HR5.out.1.below B6, Fr.refl _ _⟩
  have HKF : Hid (∀ i, i < (favS h.kept).length → ∃ n t nb, FK g h i n t ∧ na = some ⟨nb, 0, none⟩ ∧ nb ≠ S ∧ Kb ≠ S ∧ w6.cell? ⟨nb, i, none⟩ = some (.int .i64 (n : Nat)) ∧ w6.cell? ⟨Kb, n, none⟩ = some (.string t)) := fun i hi => by
    obtain ⟨n, t, k⟩ := fk_of HR6.out.r.pw.inv i hi
    rcases own_form0 ho6 with ⟨_, h0⟩ | ⟨b, cp, e, hb, _, _, hc⟩
    · omega
    · injection e with e1 _ _
      have hbg : w5.heap.size ≤ b := (ho6.lt b (by rw [e1]; rfl)).1
      have hS5 := HR5.out.1.lt
      refine ⟨n, t, b, k, e1, by omega, by have := HR5.out.2.2; omega, ?_, ?_⟩
      · refine hc i _ ?_
        have hnum := k.num
        rw [List.getD_eq_getElem?_getD, List.getElem?_eq_getElem hi] at hnum
        rw [List.getElem?_map, List.getElem?_eq_getElem hi]
        show some (Value.int .i64 (((favS h.kept)[i] : Nat) : Int)) = _
        have h2 : (favS h.kept)[i] = n := hnum
        rw [h2]
      · have hr := (B6.block Kb (Array.getElem?_eq_some_iff.1 HR5.out.2.1).1).trans HR5.out.2.1
        rw [cell_of_row w6 Kb n _ _ _ hr, List.getElem?_toArray, txtL_get _ _ n k.lt, k.text]
  have HN30 : Hid (h.kept.length ≤ 30) := HR6.out.r.pw.inv.most
  have hn30 := HN30.out
  have HFL : Hid ((favS h.kept).length ≤ h.kept.length) := by
    unfold favS
    have := List.length_filter_le (fun n => (chosenS h.kept).contains n) (List.range h.kept.length)
    rw [List.length_range] at this
    exact this
  have hfl := HFL.out
  clear ho6 B6 HFV HR5 HN30 HFL
  obtain ⟨N, hN⟩ : ∃ N, h.kept.length = N := ⟨_, rfl⟩
  obtain ⟨M, hM⟩ : ∃ M, (favS h.kept).length = M := ⟨_, rfl⟩
  have HMM : Hid ((favS h.kept).length = M ∧ h.kept.length = N) := ⟨hM, hN⟩
  rw [hM, hN] at hfl
  rw [hN] at hn30 ⊢
  rw [hM] at HKF ⊢
  clear hM hN
  have hM30 : M ≤ 30 := by omega
  clear hfl
  go_wp2_with fail
  go_loopw [16, 17, 18, 19, 20, 21] (fun lv iv _ _ _ _ wr => ∃ i : Nat, i ≤ M ∧ iv = .int .i64 i ∧ lv = .int .i64 (lastN (favS h.kept) i) ∧ R2 w U H g h cb 0 cap S w6 (seenN ((favI h).take i)) wr) (fun _ iv _ _ _ _ _ => M - (intOf iv).toNat)
  case atStart => exact ⟨0, by omega, rfl, rfl, HR6.out⟩
  case round =>
    obtain ⟨i, hi, rfl, rfl, hR⟩ := hrel
    by_cases hlt : i < M
    · have hi1 : (i : Int) < (M : Int) := by omega
      obtain ⟨n, t, nb, fk, rfl, hnb, hkb, kn, kt⟩ := HKF.out i hlt
      obtain ⟨cn, hnl⟩ := hR.keeps hnb kn
      obtain ⟨ct, hkl⟩ := hR.keeps hkb kt
      have hlast := fk.last
      have hnN : (n : Int) < (N : Int) := by have := fk.lt; have := HMM.out.2; omega
      have hl1 : ¬ (n : Int) ≤ lastN (favS h.kept) i := by omega
      have hl2 : ¬ (N : Int) ≤ (n : Int) := by omega
      have HLN : Hid (lastN (favS h.kept) (i + 1) = (n : Nat)) := by show (((favS h.kept).getD i 0 : Nat) : Int) = _; rw [fk.num]
      have HPG : Hid (∀ W, Below wr.heap.size wr W → Calls Tryz.prog 14 #[v] W fun e w' => ∃ cb co cap, e = .returned (.slice (some ⟨cb, co, none⟩) gL cap) ∧ Below W.heap.size W w' ∧ Laid w' cb co gL cap g.c) := fun W b => H2.out W (hR.r.bel.trans (b.mono hR.r.bel.size))
      have HRN : Hid (∀ W cb co cap, Below wr.heap.size wr W → Laid W cb co gL cap g.c → Calls Tryz.prog 17 #[.slice (some ⟨cb, co, none⟩) gL cap, .string t, .int .i64 (IntKind.i64.wrap (1 + pk))] W (XRun g t W)) := fun W cb co cap b C => by
        have := xRun_pg W cb co cap g HOK.out (by rw [HGL.out]; exact C) (HTB.out W (hR.r.bel.trans (b.mono hR.r.bel.size))) t fk.size
        rw [HGL.out, HFU.out] at this
        have hwp : IntKind.i64.wrap (1 + pk) = 1 + pk := by rw [IntKind.wrap_i64]; omega
        rw [hwp]
        exact this
      have HRR : Hid (R2 w U H g h cb 0 cap S w6 (seenN ((favI h).take i)) wr ∧ FK g h i n t ∧ i < M) := ⟨hR, fk, hlt⟩
      clear hR fk kn kt hlt hlast
      obtain ⟨la, hla⟩ : ∃ x, lastN (favS h.kept) i = x := ⟨_, rfl⟩
      rw [hla] at hl1 ⊢
      clear hla
      have HEC : Hid (EC wr wr nb Kb i n t) := ⟨Below.refl _ _, cn, ct⟩
      have hne1 : nb ≠ wr.heap.size := by omega
      have hne2 : Kb ≠ wr.heap.size := by omega
      go_wp2_with fail
      go_region_held3 (fun W => W.cell? ⟨nb, i, none⟩ = some (.int .i64 (n : Nat)) ∧ W.cell? ⟨Kb, n, none⟩ = some (.string t)) (first | go_keep | exact keep_k hm1 hm2 hd0 hd1 _ _ _ _ _ | exact keep_k hne1 hne2 hd0 hd1 _ _ _ _ _) (first
        | (go_at_call 15; go_fit (H3.out w7); rintro e wk ⟨rfl, hwk⟩; obtain rfl := hwk.symm)
        | (go_at_call 15; go_fit (H3.out (w7.alloc oobj)); rintro e wk ⟨rfl, hwk⟩; obtain rfl := hwk.symm)
        | (go_at_call 14; go_fit (HPG.out wr.drew (Below.refl _ _).drew); rintro e w7 ⟨cb7, co7, cap7, rfl, B7, C7⟩; obtain ⟨hd0, hd1, HB7, hm1, hm2, hs7⟩ := en_a wr w7 nb Kb i n t cb7 co7 cap7 gL g hnl hkl cn ct ⟨B7.os, B7.tape, B7.output, B7.size, B7.block⟩ C7; clear B7 C7)
        | (go_at_call 14; go_fit (HPG.out (wr.alloc oobj).drew ((Below.refl _ _).alloc (Nat.le_refl _) _).drew); rintro e w7 ⟨cb7, co7, cap7, rfl, B7, C7⟩; obtain ⟨hd0, hd1, HBB, hs7⟩ := en_b wr w7 nb Kb i n t cb7 co7 cap7 gL g hnl hkl cn ct ⟨B7.os, B7.tape, B7.output, B7.size, B7.block⟩ C7; clear B7 C7)
        | (go_at_call 17; go_fit (HRN.out w7 cb7 co7 cap7 HB7.out.1 HB7.out.2); rintro e w8 ⟨B8, so, st, gc, hg1, hg2, hcov, rfl⟩; obtain ⟨hd0, hd1, HF⟩ := en_c HB7.out.1 B8 hs7.1 hs7.2 hd0 hd1 hg1 hg2 hcov; clear B8 hg1 hg2 hcov)
        | (go_at_call 17; go_fit (HRN.out (w7.alloc oobj) cb7 co7 cap7 (HB7.out.1.alloc HB7.out.1.size _) (HB7.out.2.below ((Below.refl _ _).alloc (Nat.le_refl _) _))); rintro e w8 ⟨B8, so, st, gc, hg1, hg2, hcov, rfl⟩; obtain ⟨hlt3, i0, i1, i2, i3, i4, j0, j1, j2, j3, j4⟩ := oobj_at w7 w8 B8; obtain ⟨hd0, hd1, HF⟩ := en_d HB7.out.1 B8 hs7.1 hs7.2 hd0 hd1 hg1 hg2 hcov; clear B8 hg1 hg2 hcov)
        | (go_at_call 17; go_fit (HRN.out w7 cb7 co7 cap7 (en_e HBB.out.1) HBB.out.2); rintro e w8 ⟨B8, so, st, gc, hg1, hg2, hcov, rfl⟩; obtain ⟨hlt3, i0, i1, i2, i3, i4, j0, j1, j2, j3, j4⟩ := oobj_at wr w8 (HBB.out.1.trans (B8.mono HBB.out.1.size)); obtain ⟨hd0, hd1, HF⟩ := en_f HBB.out.1 B8 hs7.1 hs7.2 hd0 hd1 hg1 hg2 hcov; clear B8 hg1 hg2 hcov))
      all_goals first
        | (have HFX : Hid (FX wr (w8.alloc (.cells #[.int .i64 (g.R t).kind, .int .i64 (g.R t).fault, .int .i64 (g.R t).place, .string so, .int .i64 st] 35)) w8.heap.size gc g t) := fx_new HF.out
           generalize w8.alloc (.cells #[.int .i64 (g.R t).kind, .int .i64 (g.R t).fault, .int .i64 (g.R t).place, .string so, .int .i64 st] 35) = W4 at HFX ⊢
           generalize w8.heap.size = ob at HFX ⊢)
        | (have HFX : Hid (FX wr (((((w8.setCell ⟨w7.heap.size, 0, none⟩ (.int .i64 (g.R t).kind)).setCell ⟨w7.heap.size, 1, none⟩ (.int .i64 (g.R t).fault)).setCell ⟨w7.heap.size, 2, none⟩ (.int .i64 (g.R t).place)).setCell ⟨w7.heap.size, 3, none⟩ (.string so)).setCell ⟨w7.heap.size, 4, none⟩ (.int .i64 st)) w7.heap.size gc g t) := fx_old HF.out.1 HF.out.2.1 HF.out.2.2.1 HF.out.2.2.2.1 HF.out.2.2.2.2 i0 i1 i2
           generalize ((((w8.setCell ⟨w7.heap.size, 0, none⟩ (.int .i64 (g.R t).kind)).setCell ⟨w7.heap.size, 1, none⟩ (.int .i64 (g.R t).fault)).setCell ⟨w7.heap.size, 2, none⟩ (.int .i64 (g.R t).place)).setCell ⟨w7.heap.size, 3, none⟩ (.string so)).setCell ⟨w7.heap.size, 4, none⟩ (.int .i64 st) = W4 at HFX ⊢
           generalize w7.heap.size = ob at HFX ⊢)
        | (have HFX : Hid (FX wr (((((w8.setCell ⟨wr.heap.size, 0, none⟩ (.int .i64 (g.R t).kind)).setCell ⟨wr.heap.size, 1, none⟩ (.int .i64 (g.R t).fault)).setCell ⟨wr.heap.size, 2, none⟩ (.int .i64 (g.R t).place)).setCell ⟨wr.heap.size, 3, none⟩ (.string so)).setCell ⟨wr.heap.size, 4, none⟩ (.int .i64 st)) wr.heap.size gc g t) := fx_old HF.out.1 HF.out.2.1 HF.out.2.2.1 (Nat.le_refl _) HF.out.2.2.2 i0 i1 i2
           generalize ((((w8.setCell ⟨wr.heap.size, 0, none⟩ (.int .i64 (g.R t).kind)).setCell ⟨wr.heap.size, 1, none⟩ (.int .i64 (g.R t).fault)).setCell ⟨wr.heap.size, 2, none⟩ (.int .i64 (g.R t).place)).setCell ⟨wr.heap.size, 3, none⟩ (.string so)).setCell ⟨wr.heap.size, 4, none⟩ (.int .i64 st) = W4 at HFX ⊢
           generalize wr.heap.size = ob at HFX ⊢)
      all_goals
        have HRC : Hid (R2 w U H g h cb 0 cap S w6 (seenN ((favI h).take i)) W4 ∧ Cv W4 S gc (g.R t).cov) := r2_fx HRR.out.1 HFX.out
        have HCF : Hid ((∀ q, bits .or .u8 ((seenN ((favI h).take i) q : Nat) : Int) ((g.R t).cov q) = ((seenN ((favI h).take (i + 1)) q : Nat) : Int)) ∧ (∀ q, 0 ≤ (g.R t).cov q ∧ (g.R t).cov q ≤ 255) ∧ ∀ q, seenN ((favI h).take i) q < 256) := ⟨HRR.out.2.1.or', HRR.out.2.1.bd, HRR.out.2.1.sd⟩
        have HIN : Hid (i < M) := HRR.out.2.2
        clear HF HFX HRR HEC
        generalize (g.R t).cov = cv at *
        generalize (g.R t).kind = ki at *
        generalize (g.R t).fault = fa at *
        generalize (g.R t).place = pl at *
        go_wp2_with fail
        go_loopw [21] (fun jv wx => ∃ q : Nat, q ≤ 64 ∧ jv = .int .i64 q ∧ R2 w U H g h cb 0 cap S w6 (midN (seenN ((favI h).take i)) (seenN ((favI h).take (i + 1))) q) wx ∧ Cv wx S gc cv) (fun jv _ => 64 - (intOf jv).toNat)
        case atStart => exact ⟨0, by omega, rfl, by rw [mid_zero]; exact HRC.out.1, HRC.out.2⟩
        case round =>
          obtain ⟨q, hq, rfl, hR, hC⟩ := hrel
          by_cases hlq : q < 64
          · have hj1 : (q : Int) < 64 := by omega
            obtain ⟨c2, f2⟩ := hR.r.cell q hlq
            have c1 := hC.cell q hlq
            have hm : midN (seenN ((favI h).take i)) (seenN ((favI h).take (i + 1))) q q = seenN ((favI h).take i) q := by unfold midN; rw [if_neg (by omega)]
            rw [hm] at c2
            have hor := HCF.out.1 q
            have HRS : Hid (∀ n, R2 w U H g h cb 0 cap S w6 (midN (seenN ((favI h).take i)) (seenN ((favI h).take (i + 1))) (q + 1)) ((wr.drewN n).setCell ⟨S, q, none⟩ (.int .u8 ((seenN ((favI h).take (i + 1)) q : Nat) : Int))) ∧ Cv ((wr.drewN n).setCell ⟨S, q, none⟩ (.int .u8 ((seenN ((favI h).take (i + 1)) q : Nat) : Int))) S gc cv) := fun n => by
              have hbd : Below wr.heap.size wr (wr.drewN n) := ⟨rfl, rfl, rfl, Nat.le_refl _, fun _ _ => rfl⟩
              have := (hR.below hbd).set (midN (seenN ((favI h).take i)) (seenN ((favI h).take (i + 1))) (q + 1)) q hlq (mid_next _ _ q)
              rw [show midN (seenN ((favI h).take i)) (seenN ((favI h).take (i + 1))) (q + 1) q = seenN ((favI h).take (i + 1)) q by unfold midN; rw [if_pos (by omega)]] at this
              exact ⟨this, (hC.below hbd).set q _⟩
            have hSl := hR.r.lt
            have hgl := hC.lt
            have hgn := hC.ne
            have hcb := HCF.out.2.1 q
            have hsb := HCF.out.2.2 q
            clear hR hC hm
            generalize seenN ((favI h).take (i + 1)) q = s2 at hor HRS
            generalize seenN ((favI h).take i) q = s1 at c2 hor hsb
            generalize cv q = x at c1 hor hcb
            go_wp2_with fail
            go_region
            go_wp2_with fail
            go_roundw
            case rel => exact ⟨q + 1, by omega, by go_num, (HRS.out 1).1, (HRS.out 1).2⟩
            case measure => simp [intOf]; omega
          · have hj1 : ¬ (q : Int) < 64 := by omega
            obtain rfl : q = 64 := by omega
            have HRF : Hid (R2 w U H g h cb 0 cap S w6 (seenN ((favI h).take (i + 1))) wr) := ⟨hR.r.same (mid_all _ _), hR.fr⟩
            clear hR hC
            go_wp2_with fail
            go_roundw
            case rel => exact ⟨i + 1, by have := HIN.out; omega, by go_num, by rw [HLN.out], HRF.out⟩
            case measure => have := HIN.out; simp [intOf]; omega
    · have hi1 : ¬ (i : Int) < (M : Int) := by omega
      have HRA : Hid (R1 w U H g h cb 0 cap S (seenN h.kept) wr) := by
        have e : (favI h).take i = favI h := List.take_of_length_le (by unfold favI; rw [List.length_map]; have := HMM.out; omega)
        have := hR.r
        rw [e] at this
        exact this.same (fav_end h (inv_cls g.rok this.pw.inv))
      have HSN : Hid (∀ W, Below wr.heap.size wr W → Calls Tryz.prog 19 #[.pointer (some ⟨H, 0, none⟩)] W fun e w' => e = .returned (.slice (some ⟨W.heap.size, 0, none⟩) 64 64) ∧ (w'.heap[W.heap.size]? = some (.cells (rowL (seenN h.kept)).toArray 5 (0, 0)) ∧ Below w.heap.size w w' ∧ w'.heap[S]? = some (.cells (rowL (seenN h.kept)).toArray 5 (0, 0)))) := fun W b => by
        have r := HRA.out.below b
        refine r.pw.seen.mono ?_
        rintro e w' ⟨rfl, hr, hb⟩
        have r2 := r.below hb
        exact ⟨rfl, hr, r2.bel, r2.seen⟩
      have HCV : Hid (∀ (W : World) (b : Nat), W.heap[b]? = some (.cells (rowL (seenN h.kept)).toArray 5 (0, 0)) → (convert 25 9 (.slice (some ⟨b, 0, none⟩) 64 64)).run Tryz.prog W = .ok (.string (seenS h)) W) := fun W b h1 => conv_row h1 W rfl
      have hc0 : (convert 25 9 (.slice (some ⟨S, 0, none⟩) 64 64)).run Tryz.prog wr.drew = .ok (.string (seenS h)) wr.drew := HCV.out wr.drew S HRA.out.seen
      clear hR HKF
      generalize seenS h = sx at *
      go_wp2_with fail
      go_region_with (first
        | (go_at_call 19; go_fit (HSN.out wr.drew (Below.refl _ _).drew); rintro e w9 ⟨rfl, r9, b9, s9⟩; have HB10 : Hid (Below w.heap.size w w9) := b9; have hc1 : (convert 25 9 (.slice (some ⟨wr.heap.size, 0, none⟩) 64 64)).run Tryz.prog w9 = .ok (.string sx) w9 := HCV.out w9 _ r9; have hc2 := HCV.out w9 S s9; clear r9 b9 s9))
      all_goals
        go_wp2_with fail
        go_ret
        exact ⟨by kernel_rfl, HB10.out⟩
end Go.Proofs.YtflenkppcclclaaGreatDoor

namespace Go.Proofs.YtflenkppcclclaaGreatDoor
open Go.ChangeShapes Go.WideShapes Go.ChangeAt Go.WideMaps Go.WideElems Go.RowKit Go.Deep

theorem gShapes : (Rows.runsRow.named.head?.bind fun s => Tryz.prog.globalNamed s) = some 0 := by kernel_rfl
theorem tShapes : (Tryz.prog.globals[0]?).map (·.type) = some 224 := by kernel_rfl
theorem Tryz.cellsInt : Tryz.prog.cellsOf 3 = 1 := by kernel_rfl
theorem Tryz.cellsShape : Tryz.prog.cellsOf 179 = 3 := by kernel_rfl

theorem one_of {cs : List Value} {r : Nat} {v : Value} (h : (cs.drop r).take 1 = [v]) : cs[r]? = some v := by
  have : ((cs.drop r).take 1)[0]? = some v := by rw [h]; rfl
  rw [List.getElem?_take, if_pos (by omega), List.getElem?_drop, Nat.add_zero] at this
  exact this

theorem shape_cells {H : Type} {enc : TypeId × Value → H} {W : World} {base : Nat} {spare : Nat → Bool} {held : Bool} {m : Nat} {cs : List Value} {x : DataW H × List MemPlace} {a b c : Int}
    (h : DataW.trod enc Tryz.prog W base spare held m 179 cs = some x) (hx : x.1 = .agg [.lit (.int .i64 a), .lit (.int .i64 b), .lit (.int .i64 c)]) :
    cs[0]? = some (.int .i64 a) ∧ cs[1]? = some (.int .i64 b) ∧ cs[2]? = some (.int .i64 c) := by
  obtain ⟨y0, y1, y2, n, rfl, hlen, e0, e1, e2⟩ := trod_struct3 Tryz.underlying179 h
  simp only [Tryz.cellsInt] at e0 e1 e2
  obtain ⟨k0, c0, d0, _⟩ := DataW.trod_int Tryz.underlying3 e0
  obtain ⟨k1, c1, d1, _⟩ := DataW.trod_int Tryz.underlying3 e1
  obtain ⟨k2, c2, d2, _⟩ := DataW.trod_int Tryz.underlying3 e2
  rw [d0, d1, d2] at hx
  simp only [DataW.agg.injEq, List.cons.injEq, DataW.lit.injEq, Lit.int.injEq, and_true, true_and] at hx
  obtain ⟨rfl, rfl, rfl⟩ := hx
  exact ⟨one_of c0, one_of c1, one_of c2⟩

/-- The condition gives the table, cell by cell. -/
theorem tab_of_laid {W : World} (h : laidMetH Tryz.prog Rows.runsRow.laid W) : Tab W := by
  rw [MakeChecks.laidMetH_plain _ _ _ (by kernel_rfl)] at h
  obtain ⟨ps, ⟨g0, t0, cs0, f0, p0, q0, hg0, ht0, hv0, hd0, _⟩, _, _⟩ := h
  obtain rfl := Option.some.inj (gShapes.symm.trans hg0)
  obtain rfl := Option.some.inj (tShapes.symm.trans ht0)
  obtain ⟨xs, m1, rfl, hx, hlen, hn, hel⟩ := DataW.trod_array Tryz.underlying224 hd0
  simp only [Prod.mk.injEq] at hx
  have hcell := fun j => World.var?_cell hg0 hv0 j
  intro k hk
  obtain ⟨i, r, hr, rfl⟩ : ∃ i r, r < 3 ∧ k = i * 3 + r := ⟨k / 3, k % 3, by omega, by omega⟩
  have hi : i < 21 := by omega
  have hxi : (xs.map (·.1))[i]? = some (.agg [.lit (.int .i64 (shp (i * 3))), .lit (.int .i64 (shp (i * 3 + 1))), .lit (.int .i64 (shp (i * 3 + 2)))]) := by
    have e : (DataW.agg (xs.map (·.1)) : DataW Unit) = Rows.laid_prowl_program_shapes := hx.1.symm
    unfold Rows.laid_prowl_program_shapes at e
    simp only [DataW.agg.injEq] at e
    rw [e]
    match i, hi with
    | 0, _ | 1, _ | 2, _ | 3, _ | 4, _ | 5, _ | 6, _ | 7, _ | 8, _ | 9, _ | 10, _ | 11, _ | 12, _ | 13, _ | 14, _ | 15, _ | 16, _ | 17, _ | 18, _ | 19, _ | 20, _ => rfl
    | i + 21, hi => omega
  rw [List.getElem?_map, Option.map_eq_some_iff] at hxi
  obtain ⟨x, hx1, hx2⟩ := hxi
  have he := hel i hi
  rw [hx1, Tryz.cellsShape] at he
  obtain ⟨a0, a1, a2⟩ := shape_cells he hx2
  have hc : ∀ r, r < 3 → ∀ v, ((cs0.toList.drop (i * 3)).take 3)[r]? = some v → W.cell? ⟨0, i * 3 + r, none⟩ = some v := by
    intro r hr v hv
    rw [List.getElem?_take, if_pos hr, List.getElem?_drop] at hv
    rw [hcell]
    simpa using hv
  match r, hr with
  | 0, _ => exact hc 0 (by omega) _ a0
  | 1, _ => exact hc 1 (by omega) _ a1
  | 2, _ => exact hc 2 (by omega) _ a2
  | r + 3, hr => omega
end Go.Proofs.YtflenkppcclclaaGreatDoor

