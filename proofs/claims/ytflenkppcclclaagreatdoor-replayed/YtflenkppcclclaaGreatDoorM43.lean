import Derived.Test.YtflenkppcclclaaGreatDoorM42
import Derived.Test.YtflenkppcclclaaGreatDoorM00
import Derived.Test.YtflenkppcclclaaGreatDoorRows
import Derived.ProofKit
import Derived.LaidMore
import Derived.OpenShut
import Derived.Stop.Joined
import Derived.Deep.Strs
namespace Go.Proofs.YtflenkppcclclaaGreatDoor
open Go.RowKit

/-! Replayed. -/
/-- What is known of the i-th that is kept. -/
structure KF (g : PG) (h : HS) (i : Nat) (t : ByteArray) : Prop where
  text : (h.kept.getD i in0).text = t
  size : t.size ≤ 24
  kind : (g.R t).kind = 0
  new : freshN (h.kept.take i) (g.R t).cov 64 = true
  or' : ∀ q, bits .or .u8 ((seenN (h.kept.take i) q : Nat) : Int) ((g.R t).cov q) = ((seenN (h.kept.take (i + 1)) q : Nat) : Int)
  bd : ∀ q, 0 ≤ (g.R t).cov q ∧ (g.R t).cov q ≤ 255
  sd : ∀ q, seenN (h.kept.take i) q < 256
theorem kf_of {g : PG} {h : HS} (inv : Hinv g.R h) (i : Nat) (hi : i < h.kept.length) : ∃ t, KF g h i t := by
  have e : h.kept.getD i in0 = h.kept[i] := by rw [List.getD_eq_getElem?_getD, List.getElem?_eq_getElem hi]; rfl
  obtain ⟨h1, h2, h3, h4⟩ := inv.kept i _ (List.getElem?_eq_getElem hi)
  have hcl := inv_cls g.rok inv
  have hct : ∀ k ∈ h.kept.take i, ∀ p, Cls (k.cov p) := fun k hk => hcl k (List.mem_of_mem_take hk)
  have hcv : ∀ p, Cls ((g.R (h.kept[i]).text).cov p) := g.rok.cov _ h1
  refine ⟨(h.kept[i]).text, by rw [e], h1, h2, ?_, fun q => ?_, fun q => (hcv q).bd, fun q => seen_lt _ _ (fun k hk => hct k hk q)⟩
  · rw [fresh_new _ _ hcv hct, ← h3]
    exact h4
  · have := or_seen h.kept i q hi hcl
    rw [e, h3] at this
    exact this
theorem below_dn {B : Nat} {a w : World} (h : Below B a w) (n : Nat) : Below B a (w.drewN n) := h.trans ⟨rfl, rfl, rfl, Nat.le_refl _, fun _ _ => rfl⟩
set_option maxHeartbeats 4000000 in
set_option maxRecDepth 100000 in
theorem replayed_all (w : World) (v tv : Value) (seed fuel pk : Int) (g : PG) (l : List ByteArray) (A : LA w v tv seed fuel pk g l) (tries : Int) (t0 : -9223372036854775808 ≤ tries) (t1 : tries ≤ 9223372036854775807) :
    Calls Tryz.prog 6 #[v, tv, .int .u64 seed, .int .i64 fuel, .int .i64 tries] w fun e w' => e = .returned (.bool true) ∧ Below w.heap.size w w' := by
  have H0 : Hid (Calls Tryz.prog 12 #[] w fun e w' => e = .returned (.bool true) ∧ Below w.heap.size w w') := A.prowled
  have H1 : Hid (∀ W, Below w.heap.size w W → Calls Tryz.prog 13 #[v, tv, .int .u64 seed, .int .i64 fuel, .int .i64 tries] W fun e w' => ∃ H U, e = .returned (.pointer (some ⟨H, 0, none⟩)) ∧ Below W.heap.size W w' ∧ Prw W.heap.size U H g (frS g l seed (kpickS tries 600).toNat) w') := fun W b => A.fresh W b tries t0 t1
  have H2 : Hid (∀ W, Below w.heap.size w W → Calls Tryz.prog 14 #[v] W fun e w' => ∃ cb co cap, e = .returned (.slice (some ⟨cb, co, none⟩) g.L cap) ∧ Below W.heap.size W w' ∧ Laid w' cb co g.L cap g.c) := A.prog
  have H3 : Hid (∀ W, Calls Tryz.prog 15 #[.int .i64 fuel, .int .i64 200] W fun e w' => e = .returned (.int .i64 pk) ∧ w' = W) := A.pick
  have pk0 := A.pk0
  have pk1 := A.pk1
  have HFU : Hid (g.fuel = 1 + pk) := A.fu
  have hmk := make64
  obtain ⟨h, hh⟩ : ∃ h, frS g l seed (kpickS tries 600).toNat = h := ⟨_, rfl⟩
  rw [hh] at H1
  clear hh A t0 t1
  obtain ⟨gL, hgL⟩ : ∃ x, g.L = x := ⟨_, rfl⟩
  rw [hgL] at H2
  have HGL : Hid (g.L = gL) := hgL
  clear hgL
  go_enter Tryz.func6, Tryz.ntmps6
  go_wp2_with fail
  refine H0.out.mono ?_
  rintro e w1 ⟨rfl, B1⟩
  have HB1 : Hid (Below w.heap.size w w1) := B1
  clear B1 H0
  go_wp2_with fail
  refine (H1.out w1 HB1.out).mono ?_
  rintro e w2 ⟨H, U, rfl, B2, p2⟩
  have HB2 : Hid (Below w.heap.size w w2 ∧ Prw w.heap.size U H g h w2) := ⟨HB1.out.trans (B2.mono HB1.out.size), p2.wide HB1.out.size⟩
  clear B2 p2 H1 HB1
  go_wp2_with fail
  refine (H2.out w2 HB2.out.1).mono ?_
  rintro e w3 ⟨cb, co, cap, rfl, B3, C3⟩
  have HB3 : Hid (Below w.heap.size w w3 ∧ Prw w.heap.size U H g h w3 ∧ Laid w3 cb co gL cap g.c) := ⟨HB2.out.1.trans (B3.mono HB2.out.1.size), HB2.out.2.below B3, C3⟩
  clear B3 C3 H2 HB2
  go_wp2_with fail
  refine (H3.out w3).mono ?_
  rintro e w4 ⟨rfl, hw⟩
  obtain rfl := hw.symm
  have HR4 : Hid (R1 w U H g h cb co cap w3.heap.size (fun _ => 0) (w3.alloc (.cells zero64 5))) := by
    have Ba : Below w3.heap.size w3 (w3.alloc (.cells zero64 5)) := (Below.refl _ _).alloc (Nat.le_refl _) _
    refine ⟨HB3.out.1.trans (Ba.mono HB3.out.1.size), HB3.out.2.1.below Ba, ?_, by rw [heap_alloc_new, zero64_row], HB3.out.1.size, HB3.out.2.1.lt, HB3.out.2.2.blk⟩
    rw [HGL.out]
    exact HB3.out.2.2.below Ba
  clear H3 HB3
  go_wp2_with fail
  generalize w3.alloc (.cells zero64 5) = w4 at *
  generalize w3.heap.size = S at *
  have HKP : Hid (Calls Tryz.prog 16 #[.pointer (some ⟨H, 0, none⟩)] w4 fun e w' => e = .returned (.slice (some ⟨w4.heap.size, 0, none⟩) h.kept.length h.kept.length) ∧ w'.heap[w4.heap.size]? = some (.cells (txtL h.kept.length (fun j => (h.kept.getD j in0).text)).toArray 9 (0, 0)) ∧ Below w4.heap.size w4 w') := HR4.out.pw.kepts
  refine HKP.out.mono ?_
  rintro e w5 ⟨rfl, k5, B5⟩
  have HR5 : Hid (R2 w U H g h cb co cap S w5 (fun _ => 0) w5 ∧ w5.heap[w4.heap.size]? = some (.cells (txtL h.kept.length (fun j => (h.kept.getD j in0).text)).toArray 9 (0, 0)) ∧ S ≠ w4.heap.size) := ⟨⟨HR4.out.below B5, Fr.refl _ _⟩, k5, by have := HR4.out.lt; omega⟩
  clear HKP HR4 k5 B5
  generalize w4.heap.size = Kb at *
  have HKF : Hid (∀ i, i < h.kept.length → ∃ t, KF g h i t ∧ w5.cell? ⟨Kb, i, none⟩ = some (.string t)) := fun i hi => by
    obtain ⟨t, k⟩ := kf_of HR5.out.1.r.pw.inv i hi
    refine ⟨t, k, ?_⟩
    rw [cell_of_row w5 Kb i _ _ _ HR5.out.2.1, List.getElem?_toArray, txtL_get _ _ i hi, k.text]
  have HRU : Hid (∀ wr f (s : ByteArray), R2 w U H g h cb co cap S w5 f wr → s.size ≤ 24 → Calls Tryz.prog 17 #[.slice (some ⟨cb, co, none⟩) gL cap, .string s, .int .i64 (1 + pk)] wr (XRun g s wr)) := fun wr f s r hs => by
    have := r.r.run s hs
    rw [HGL.out, HFU.out] at this
    exact this
  have HN30 : Hid (h.kept.length ≤ 30) := HR5.out.1.r.pw.inv.most
  have hn30 := HN30.out
  obtain ⟨N, hN⟩ : ∃ N, h.kept.length = N := ⟨_, rfl⟩
  rw [hN] at HKF HN30 hn30 ⊢
  have HNN : Hid (h.kept.length = N) := hN
  clear hN
  go_wp2_with fail
  go_loopw [17, 18, 19, 20, 21, 22] (fun iv _ _ _ _ _ wr => ∃ i : Nat, i ≤ N ∧ iv = .int .i64 i ∧ R2 w U H g h cb co cap S w5 (seenN (h.kept.take i)) wr) (fun iv _ _ _ _ _ _ => N - (intOf iv).toNat)
  case atStart => exact ⟨0, by omega, rfl, HR5.out.1⟩
  case round =>
    obtain ⟨i, hi, rfl, hR⟩ := hrel
    by_cases hlt : i < N
    · have hi1 : (i : Int) < (N : Int) := by omega
      obtain ⟨t, kf, kc⟩ := HKF.out i hlt
      obtain ⟨ck, hkl⟩ := hR.keeps (fun c => HR5.out.2.2 c.symm) kc
      have H6 : Hid (Calls Tryz.prog 17 #[.slice (some ⟨cb, co, none⟩) gL cap, .string t, .int .i64 (1 + pk)] wr (XRun g t wr)) := HRU.out wr _ t hR kf.size
      have HRR : Hid (R2 w U H g h cb co cap S w5 (seenN (h.kept.take i)) wr ∧ KF g h i t ∧ i < N) := ⟨hR, kf, hlt⟩
      clear hR kf kc hlt
      go_wp2_with fail
      refine H6.out.mono ?_
      rintro e w6 ⟨B6, so, st, gc, hg1, hg2, hcov, he⟩
      rw [HRR.out.2.1.kind] at he
      subst he
      have HRC : Hid (R2 w U H g h cb co cap S w5 (seenN (h.kept.take i)) w6 ∧ Cv w6 S gc (g.R t).cov) := ⟨HRR.out.1.below B6, hcov, by have := HRR.out.1.r.lt; omega, hg2⟩
      have HCF : Hid (freshN (h.kept.take i) (g.R t).cov 64 = true ∧ (∀ q, bits .or .u8 ((seenN (h.kept.take i) q : Nat) : Int) ((g.R t).cov q) = ((seenN (h.kept.take (i + 1)) q : Nat) : Int)) ∧ (∀ q, 0 ≤ (g.R t).cov q ∧ (g.R t).cov q ≤ 255) ∧ ∀ q, seenN (h.kept.take i) q < 256) := ⟨HRR.out.2.1.new, HRR.out.2.1.or', HRR.out.2.1.bd, HRR.out.2.1.sd⟩
      have HIN : Hid (i < N) := HRR.out.2.2
      clear H6 B6 hg1 hg2 hcov HRR ck hkl
      generalize (g.R t).cov = cv at *
      generalize (g.R t).fault = fa at *
      generalize (g.R t).place = pl at *
      have HR7 : Hid (R2 w U H g h cb co cap S w5 (seenN (h.kept.take i)) (w6.alloc (.cells #[.int .i64 0, .int .i64 fa, .int .i64 pl, .string so, .int .i64 st] 35)) ∧ Cv (w6.alloc (.cells #[.int .i64 0, .int .i64 fa, .int .i64 pl, .string so, .int .i64 st] 35)) S gc cv) := ⟨HRC.out.1.below ((Below.refl _ _).alloc (Nat.le_refl _) _), HRC.out.2.below ((Below.refl _ _).alloc (Nat.le_refl _) _)⟩
      clear HRC
      go_wp2_with fail
      generalize w6.alloc (.cells #[.int .i64 0, .int .i64 fa, .int .i64 pl, .string so, .int .i64 st] 35) = w7 at *
      go_loopw [21, 22] (fun fv jv wx => ∃ q : Nat, q ≤ 64 ∧ jv = .int .i64 q ∧ fv = .bool (freshN (h.kept.take i) cv q) ∧ R2 w U H g h cb co cap S w5 (midN (seenN (h.kept.take i)) (seenN (h.kept.take (i + 1))) q) wx ∧ Cv wx S gc cv) (fun _ jv _ => 64 - (intOf jv).toNat)
      case atStart => exact ⟨0, by omega, rfl, rfl, by rw [mid_zero]; exact HR7.out.1, HR7.out.2⟩
      case round =>
        obtain ⟨q, hq, rfl, rfl, hR, hC⟩ := hrel
        by_cases hlq : q < 64
        · have hj1 : (q : Int) < 64 := by omega
          obtain ⟨c2, f2⟩ := hR.r.cell q hlq
          have c1 := hC.cell q hlq
          have hm : midN (seenN (h.kept.take i)) (seenN (h.kept.take (i + 1))) q q = seenN (h.kept.take i) q := by unfold midN; rw [if_neg (by omega)]
          rw [hm] at c2
          have hfn := fresh_next (h.kept.take i) cv q
          have hor := HCF.out.2.1 q
          have HRS : Hid (∀ n, R2 w U H g h cb co cap S w5 (midN (seenN (h.kept.take i)) (seenN (h.kept.take (i + 1))) (q + 1)) ((wr.drewN n).setCell ⟨S, q, none⟩ (.int .u8 ((seenN (h.kept.take (i + 1)) q : Nat) : Int))) ∧ Cv ((wr.drewN n).setCell ⟨S, q, none⟩ (.int .u8 ((seenN (h.kept.take (i + 1)) q : Nat) : Int))) S gc cv) := fun n => by
            have hbd : Below wr.heap.size wr (wr.drewN n) := ⟨rfl, rfl, rfl, Nat.le_refl _, fun _ _ => rfl⟩
            have := (hR.below hbd).set (midN (seenN (h.kept.take i)) (seenN (h.kept.take (i + 1))) (q + 1)) q hlq (mid_next _ _ q)
            rw [show midN (seenN (h.kept.take i)) (seenN (h.kept.take (i + 1))) (q + 1) q = seenN (h.kept.take (i + 1)) q by unfold midN; rw [if_pos (by omega)]] at this
            exact ⟨this, (hC.below hbd).set q _⟩
          have hSl := hR.r.lt
          have hgl := hC.lt
          have hgn := hC.ne
          have hcb := HCF.out.2.2.1 q
          have hsb := HCF.out.2.2.2 q
          clear hR hC hm
          obtain ⟨fq, hfq⟩ : ∃ b, freshN (h.kept.take i) cv q = b := ⟨_, rfl⟩
          obtain ⟨fr, hfr⟩ : ∃ b, freshN (h.kept.take i) cv (q + 1) = b := ⟨_, rfl⟩
          rw [hfq] at hfn ⊢
          rw [hfr] at hfn
          have HFR : Hid (freshN (h.kept.take i) cv (q + 1) = fr) := hfr
          clear hfr hfq
          generalize seenN (h.kept.take (i + 1)) q = s2 at hor HRS
          generalize seenN (h.kept.take i) q = s1 at c2 hor hfn hsb
          generalize cv q = x at c1 hor hfn hcb
          cases fq with
          | true =>
            obtain rfl : fr = true := by rw [hfn]; rfl
            clear hfn
            go_wp2_with fail
            go_quiet (fail)
            go_wp2_with fail
            go_region
            go_wp2_with fail
            go_roundw
            case rel => exact ⟨q + 1, by omega, by go_num, by rw [HFR.out], (HRS.out _).1, (HRS.out _).2⟩
            case measure => simp [intOf]; omega
          | false =>
            obtain ⟨y, han⟩ : ∃ y, bits .andNot .u8 x (s1 : Int) = y := ⟨_, rfl⟩
            rw [han] at hfn
            by_cases hy : y = 0
            · subst hy
              obtain rfl : fr = false := by rw [hfn]; rfl
              clear hfn
              go_wp2_with fail
              go_quiet (fail)
              go_wp2_with fail
              go_region
              go_wp2_with fail
              go_roundw
              case rel => exact ⟨q + 1, by omega, by go_num, by rw [HFR.out], (HRS.out _).1, (HRS.out _).2⟩
              case measure => simp [intOf]; omega
            · obtain rfl : fr = true := by rw [hfn]; simp [hy]
              clear hfn
              go_wp2_with fail
              go_quiet (fail)
              go_wp2_with fail
              go_region
              go_wp2_with fail
              go_roundw
              case rel => exact ⟨q + 1, by omega, by go_num, by rw [HFR.out]; simp [hy], (HRS.out _).1, (HRS.out _).2⟩
              case measure => simp [intOf]; omega
        · have hj1 : ¬ (q : Int) < 64 := by omega
          obtain rfl : q = 64 := by omega
          have HRF : Hid (R2 w U H g h cb co cap S w5 (seenN (h.kept.take (i + 1))) wr) := ⟨hR.r.same (mid_all _ _), hR.fr⟩
          rw [HCF.out.1]
          clear hR hC
          go_wp2_with fail
          go_roundw
          case rel => exact ⟨i + 1, by have := HIN.out; omega, by go_num, HRF.out⟩
          case measure => have := HIN.out; simp [intOf]; omega
    · have hi1 : ¬ (i : Int) < (N : Int) := by omega
      have HRA : Hid (R1 w U H g h cb co cap S (seenN h.kept) wr) := by
        have e : h.kept.take i = h.kept := List.take_of_length_le (by have := HNN.out; omega)
        have := hR.r
        rw [e] at this
        exact this
      have HCR : Hid (Calls Tryz.prog 18 #[.pointer (some ⟨H, 0, none⟩)] wr fun e w' => (∃ v, e = .returned v ∧ CL w' v h.found) ∧ Below wr.heap.size wr w') := HRA.out.pw.crashes (by have := found_le HRA.out.pw.inv HRA.out.pw.ok.fok; omega)
      have HM : Hid (h.found.length ≤ 120000) := found_le HRA.out.pw.inv HRA.out.pw.ok.fok
      clear hR HKF HRU
      go_wp2_with fail
      refine HCR.out.mono ?_
      rintro e w6 ⟨⟨v6, rfl, cl6⟩, B6⟩
      have HR6 : Hid (R1 w U H g h cb co cap S (seenN h.kept) w6) := HRA.out.below B6
      have hM := HM.out
      have hvf : ∃ ao cp, v6 = .slice ao h.found.length cp := by
        rcases cl6.form with ⟨e, h0⟩ | ⟨b, cp, e, _⟩
        · exact ⟨none, 0, by rw [e, h0]; rfl⟩
        · exact ⟨_, cp, e⟩
      obtain ⟨ao, cp, rfl⟩ := hvf
      have HCC : Hid (∀ j, j < h.found.length → ∃ b, ao = some ⟨b, 0, none⟩ ∧ b < w6.heap.size ∧ w6.cell? ⟨b, j * 3, none⟩ = some (.string (h.found.getD j cr0).text) ∧ w6.cell? ⟨b, j * 3 + 1, none⟩ = some (.int .i64 (h.found.getD j cr0).fault) ∧ w6.cell? ⟨b, j * 3 + 2, none⟩ = some (.int .i64 (h.found.getD j cr0).place)) := fun j hj => by
        rcases cl6.form with ⟨_, h0⟩ | ⟨b, cp', e, hb, _, hc⟩
        · rw [h0] at hj; simp at hj
        · injection e with e1 _ _
          obtain ⟨f1, f2, f3⟩ := fcells_at h.found j hj
          exact ⟨b, e1, hb, hc _ _ f1, hc _ _ f2, hc _ _ f3⟩
      have HFF : Hid (∀ j, j < h.found.length → (h.found.getD j cr0).text.size ≤ 24 ∧ (g.R (h.found.getD j cr0).text).kind = 1 ∧ (g.R (h.found.getD j cr0).text).fault = (h.found.getD j cr0).fault ∧ (g.R (h.found.getD j cr0).text).place = (h.found.getD j cr0).place ∧ ∀ k, k < j → ¬ ((h.found.getD k cr0).fault = (h.found.getD j cr0).fault ∧ (h.found.getD k cr0).place = (h.found.getD j cr0).place)) := fun j hj => by
        have e : ∀ k (hk : k < h.found.length), h.found.getD k cr0 = h.found[k] := fun k hk => by rw [List.getD_eq_getElem?_getD, List.getElem?_eq_getElem hk]; rfl
        obtain ⟨f1, f2, f3, f4, f5⟩ := HR6.out.pw.inv.found j _ (List.getElem?_eq_getElem hj)
        rw [e j hj]
        refine ⟨f1, f2, f3, f4, fun k hk hc => ?_⟩
        have hk' : k < h.found.length := by omega
        rw [e k hk'] at hc
        rw [List.any_eq_false] at f5
        apply f5 (h.found[k]) (List.mem_take_iff_getElem.2 ⟨k, by omega, rfl⟩)
        unfold sameCr
        rw [decide_eq_true hc.1, decide_eq_true hc.2]
        rfl
      have HRU : Hid (∀ W (s : ByteArray), Below w6.heap.size w6 W → s.size ≤ 24 → Calls Tryz.prog 17 #[.slice (some ⟨cb, co, none⟩) gL cap, .string s, .int .i64 (1 + pk)] W (XRun g s W)) := fun W s b hs => by
        have := (HR6.out.below b).run s hs
        rw [HGL.out, HFU.out] at this
        exact this
      have HSN : Hid (∀ W, Below w6.heap.size w6 W → Calls Tryz.prog 19 #[.pointer (some ⟨H, 0, none⟩)] W fun e w' => e = .returned (.slice (some ⟨W.heap.size, 0, none⟩) 64 64) ∧ (w'.heap[W.heap.size]? = some (.cells (rowL (seenN h.kept)).toArray 5 (0, 0)) ∧ Below w.heap.size w w' ∧ w'.heap[S]? = some (.cells (rowL (seenN h.kept)).toArray 5 (0, 0)))) := fun W b => by
        have r := HR6.out.below b
        refine r.pw.seen.mono ?_
        rintro e w' ⟨rfl, hr, hb⟩
        have r2 := r.below hb
        exact ⟨rfl, hr, r2.bel, r2.seen⟩
      have HSS : Hid (∀ W, Below w6.heap.size w6 W → W.heap[S]? = some (.cells (rowL (seenN h.kept)).toArray 5 (0, 0))) := fun W b => (HR6.out.below b).seen
      have HCV : Hid (∀ (W : World) (b : Nat), W.heap[b]? = some (.cells (rowL (seenN h.kept)).toArray 5 (0, 0)) → (convert 25 9 (.slice (some ⟨b, 0, none⟩) 64 64)).run Tryz.prog W = .ok (.string (seenS h)) W) := fun W b h1 => conv_row h1 W rfl
      clear cl6 B6 HCR HRA HM HR6
      obtain ⟨M, hMM⟩ : ∃ M, h.found.length = M := ⟨_, rfl⟩
      rw [hMM] at HCC HFF hM ⊢
      clear hMM
      go_wp2_with fail
      go_loopw [24, 25, 26, 27, 28] (fun iv _ _ _ _ wr => ∃ i : Nat, i ≤ M ∧ iv = .int .i64 i ∧ Below w6.heap.size w6 wr) (fun iv _ _ _ _ _ => M - (intOf iv).toNat)
      case atStart => exact ⟨0, by omega, rfl, Below.refl _ _⟩
      case round =>
        obtain ⟨i, hi, rfl, hB⟩ := hrel
        by_cases hlt : i < M
        · have hi1 : (i : Int) < (M : Int) := by omega
          obtain ⟨b, rfl, hbl, c0, c1, c2⟩ := HCC.out i hlt
          obtain ⟨f1, f2, f3, f4, f5⟩ := HFF.out i hlt
          have d0 := (hB.cell (p := ⟨b, i * 3, none⟩) hbl).trans c0
          have d1 := (hB.cell (p := ⟨b, i * 3 + 1, none⟩) hbl).trans c1
          have d2 := (hB.cell (p := ⟨b, i * 3 + 2, none⟩) hbl).trans c2
          have hbw : b < wr.heap.size := Nat.lt_of_lt_of_le hbl hB.size
          have H7 : Hid (Calls Tryz.prog 17 #[.slice (some ⟨cb, co, none⟩) gL cap, .string (h.found.getD i cr0).text, .int .i64 (1 + pk)] wr (XRun g (h.found.getD i cr0).text wr)) := HRU.out wr _ hB f1
          have HB7 : Hid (Below w6.heap.size w6 wr ∧ i < M ∧ b < w6.heap.size) := ⟨hB, hlt, hbl⟩
          have HX : Hid ((g.R (h.found.getD i cr0).text).kind = 1 ∧ (g.R (h.found.getD i cr0).text).fault = (h.found.getD i cr0).fault ∧ (g.R (h.found.getD i cr0).text).place = (h.found.getD i cr0).place) := ⟨f2, f3, f4⟩
          have HNE : Hid (∀ k, k < i → ¬ ((h.found.getD k cr0).fault = (h.found.getD i cr0).fault ∧ (h.found.getD k cr0).place = (h.found.getD i cr0).place)) := f5
          clear hB hlt f1 f2 f3 f4 f5 c0 c1 c2
          obtain ⟨tx, htx⟩ : ∃ tx, (h.found.getD i cr0).text = tx := ⟨_, rfl⟩
          rw [htx] at d0 H7 HX
          obtain ⟨fa, hfa⟩ : ∃ fa, (h.found.getD i cr0).fault = fa := ⟨_, rfl⟩
          obtain ⟨pl, hpl⟩ : ∃ pl, (h.found.getD i cr0).place = pl := ⟨_, rfl⟩
          rw [hfa] at d1 HX HNE
          rw [hpl] at d2 HX HNE
          have HFA : Hid ((h.found.getD i cr0).fault = fa ∧ (h.found.getD i cr0).place = pl) := ⟨hfa, hpl⟩
          clear htx hfa hpl
          go_wp2_with fail
          refine H7.out.mono ?_
          rintro e w7 ⟨B7, so, st, gc, hg1, hg2, hcov, he⟩
          rw [HX.out.1, HX.out.2.1, HX.out.2.2] at he
          subst he
          have e0 := (B7.cell (p := ⟨b, i * 3, none⟩) hbw).trans d0
          have e1 := (B7.cell (p := ⟨b, i * 3 + 1, none⟩) hbw).trans d1
          have e2 := (B7.cell (p := ⟨b, i * 3 + 2, none⟩) hbw).trans d2
          have hb7 : b < w7.heap.size := Nat.lt_of_lt_of_le hbw B7.size
          have HB8 : Hid (Below w6.heap.size w6 (w7.alloc (.cells #[.int .i64 1, .int .i64 fa, .int .i64 pl, .string so, .int .i64 st] 35)) ∧ i < M ∧ b < w6.heap.size) := ⟨(HB7.out.1.trans (B7.mono HB7.out.1.size)).alloc (by have := HB7.out.1.size; have := B7.size; omega) _, HB7.out.2⟩
          clear H7 B7 hg1 hg2 hcov HB7 d0 d1 d2 hbw HX
          go_wp2_with fail
          go_quiet (fail)
          go_wp2_with fail
          go_loopw [28] (fun jv wr => ∃ j : Nat, j ≤ i ∧ jv = .int .i64 j ∧ Below w6.heap.size w6 wr) (fun jv _ => i - (intOf jv).toNat)
          case atStart => exact ⟨0, by omega, rfl, below_dn HB8.out.1 _⟩
          case round =>
            obtain ⟨j, hj, rfl, hB⟩ := hrel
            have hiM := HB8.out.2.1
            by_cases hlj : j < i
            · have hj1 : (j : Int) < (i : Int) := by omega
              have hj2 : (j : Int) < (M : Int) := by omega
              obtain ⟨b2, hb2, hbl, c0, c1, c2⟩ := HCC.out j (by omega)
              obtain rfl : b = b2 := by injection hb2 with x; injection x with y _ _
              obtain ⟨b3, hb3, _, a0, a1, a2⟩ := HCC.out i (by omega)
              obtain rfl : b = b3 := by injection hb3 with x; injection x with y _ _
              have hne := HNE.out j hlj
              clear hb2 hb3
              rw [HFA.out.1] at a1
              rw [HFA.out.2] at a2
              have d1 := (hB.cell (p := ⟨b, j * 3 + 1, none⟩) hbl).trans c1
              have d2 := (hB.cell (p := ⟨b, j * 3 + 2, none⟩) hbl).trans c2
              have k1 := (hB.cell (p := ⟨b, i * 3 + 1, none⟩) hbl).trans a1
              have k2 := (hB.cell (p := ⟨b, i * 3 + 2, none⟩) hbl).trans a2
              have hbw : b < wr.heap.size := Nat.lt_of_lt_of_le hbl hB.size
              have HB9 : Hid (Below w6.heap.size w6 wr ∧ j < i) := ⟨hB, hlj⟩
              clear hB c0 c1 c2 a0 a1 a2 hlj
              generalize (h.found.getD j cr0).fault = fj at *
              generalize (h.found.getD j cr0).place = pj at *
              by_cases hf : fj = fa
              · have hp : ¬ pj = pl := fun c => hne ⟨hf, c⟩
                subst hf
                clear hne
                go_wp2_with fail
                go_quiet (fail)
                go_wp2_with fail
                go_roundw
                case rel => exact ⟨j + 1, by have := HB9.out.2; omega, by go_num, below_dn HB9.out.1 _⟩
                case measure => have := HB9.out.2; simp [intOf]; omega
              · clear hne
                go_wp2_with fail
                go_quiet (fail)
                go_wp2_with fail
                go_roundw
                case rel => exact ⟨j + 1, by have := HB9.out.2; omega, by go_num, below_dn HB9.out.1 _⟩
                case measure => have := HB9.out.2; simp [intOf]; omega
            · have hj1 : ¬ (j : Int) < (i : Int) := by omega
              have HB9 : Hid (Below w6.heap.size w6 wr) := hB
              clear hB
              go_wp2_with fail
              go_roundw
              case rel => exact ⟨i + 1, by omega, by go_num, HB9.out⟩
              case measure => simp [intOf]; omega
        · have hi1 : ¬ (i : Int) < (M : Int) := by omega
          have HB9 : Hid (Below w6.heap.size w6 wr) := hB
          have hc0 := HCV.out wr.drew S (HSS.out wr.drew hB.drew)
          clear hB
          generalize seenS h = sx at *
          have hn31 : (N : Int) ≤ 30 := by omega
          go_wp2_with fail
          go_region_with (first
            | (go_at_call 19; go_fit (HSN.out wr.drew HB9.out.drew); rintro e w9 ⟨rfl, r9, b9, s9⟩; have HB10 : Hid (Below w.heap.size w w9) := b9; have hc1 : (convert 25 9 (.slice (some ⟨wr.heap.size, 0, none⟩) 64 64)).run Tryz.prog w9 = .ok (.string sx) w9 := HCV.out w9 _ r9; have hc2 := HCV.out w9 S s9; clear r9 b9 s9))
          all_goals
            go_wp2_with fail
            go_ret
            exact ⟨by kernel_rfl, HB10.out⟩
end Go.Proofs.YtflenkppcclclaaGreatDoor

namespace Go.Proofs.YtflenkppcclclaaGreatDoor
open Go.ChangeShapes Go.WideShapes Go.ChangeAt Go.WideMaps Go.WideElems Go.RowKit Go.Deep

theorem gShapes : (Rows.runsRow.named.head?.bind fun s => Tryz.prog.globalNamed s) = some 0 := by kernel_rfl
theorem tShapes : (Tryz.prog.globals[0]?).map (·.type) = some 224 := by kernel_rfl
theorem Tryz.cellsInt : Tryz.prog.cellsOf 3 = 1 := by kernel_rfl
theorem Tryz.cellsShape : Tryz.prog.cellsOf 179 = 3 := by kernel_rfl

theorem one_of {cs : List Value} {r : Nat} {v : Value} (h : (cs.drop r).take 1 = [v]) : cs[r]? = some v := by
  have : ((cs.drop r).take 1)[0]? = some v := by rw [h]; rfl
  rw [List.getElem?_take, if_pos (by omega), List.getElem?_drop, Nat.add_zero] at this
  exact this

theorem shape_cells {H : Type} {enc : TypeId × Value → H} {W : World} {base : Nat} {spare : Nat → Bool} {held : Bool} {m : Nat} {cs : List Value} {x : DataW H × List MemPlace} {a b c : Int}
    (h : DataW.trod enc Tryz.prog W base spare held m 179 cs = some x) (hx : x.1 = .agg [.lit (.int .i64 a), .lit (.int .i64 b), .lit (.int .i64 c)]) :
    cs[0]? = some (.int .i64 a) ∧ cs[1]? = some (.int .i64 b) ∧ cs[2]? = some (.int .i64 c) := by
  obtain ⟨y0, y1, y2, n, rfl, hlen, e0, e1, e2⟩ := trod_struct3 Tryz.underlying179 h
  simp only [Tryz.cellsInt] at e0 e1 e2
  obtain ⟨k0, c0, d0, _⟩ := DataW.trod_int Tryz.underlying3 e0
  obtain ⟨k1, c1, d1, _⟩ := DataW.trod_int Tryz.underlying3 e1
  obtain ⟨k2, c2, d2, _⟩ := DataW.trod_int Tryz.underlying3 e2
  rw [d0, d1, d2] at hx
  simp only [DataW.agg.injEq, List.cons.injEq, DataW.lit.injEq, Lit.int.injEq, and_true, true_and] at hx
  obtain ⟨rfl, rfl, rfl⟩ := hx
  exact ⟨one_of c0, one_of c1, one_of c2⟩

/-- The condition gives the table, cell by cell. -/
theorem tab_of_laid {W : World} (h : laidMetH Tryz.prog Rows.runsRow.laid W) : Tab W := by
  rw [MakeChecks.laidMetH_plain _ _ _ (by kernel_rfl)] at h
  obtain ⟨ps, ⟨g0, t0, cs0, f0, p0, q0, hg0, ht0, hv0, hd0, _⟩, _, _⟩ := h
  obtain rfl := Option.some.inj (gShapes.symm.trans hg0)
  obtain rfl := Option.some.inj (tShapes.symm.trans ht0)
  obtain ⟨xs, m1, rfl, hx, hlen, hn, hel⟩ := DataW.trod_array Tryz.underlying224 hd0
  simp only [Prod.mk.injEq] at hx
  have hcell := fun j => World.var?_cell hg0 hv0 j
  intro k hk
  obtain ⟨i, r, hr, rfl⟩ : ∃ i r, r < 3 ∧ k = i * 3 + r := ⟨k / 3, k % 3, by omega, by omega⟩
  have hi : i < 21 := by omega
  have hxi : (xs.map (·.1))[i]? = some (.agg [.lit (.int .i64 (shp (i * 3))), .lit (.int .i64 (shp (i * 3 + 1))), .lit (.int .i64 (shp (i * 3 + 2)))]) := by
    have e : (DataW.agg (xs.map (·.1)) : DataW Unit) = Rows.laid_prowl_program_shapes := hx.1.symm
    unfold Rows.laid_prowl_program_shapes at e
    simp only [DataW.agg.injEq] at e
    rw [e]
    match i, hi with
    | 0, _ | 1, _ | 2, _ | 3, _ | 4, _ | 5, _ | 6, _ | 7, _ | 8, _ | 9, _ | 10, _ | 11, _ | 12, _ | 13, _ | 14, _ | 15, _ | 16, _ | 17, _ | 18, _ | 19, _ | 20, _ => rfl
    | i + 21, hi => omega
  rw [List.getElem?_map, Option.map_eq_some_iff] at hxi
  obtain ⟨x, hx1, hx2⟩ := hxi
  have he := hel i hi
  rw [hx1, Tryz.cellsShape] at he
  obtain ⟨a0, a1, a2⟩ := shape_cells he hx2
  have hc : ∀ r, r < 3 → ∀ v, ((cs0.toList.drop (i * 3)).take 3)[r]? = some v → W.cell? ⟨0, i * 3 + r, none⟩ = some v := by
    intro r hr v hv
    rw [List.getElem?_take, if_pos hr, List.getElem?_drop] at hv
    rw [hcell]
    simpa using hv
  match r, hr with
  | 0, _ => exact hc 0 (by omega) _ a0
  | 1, _ => exact hc 1 (by omega) _ a1
  | 2, _ => exact hc 2 (by omega) _ a2
  | r + 3, hr => omega
end Go.Proofs.YtflenkppcclclaaGreatDoor

