import Derived.Test.YtflenkppcclclaaGreatDoorM45
import Derived.BigQuiet
namespace Go.Proofs.YtflenkppcclclaaGreatDoor
open Go.RowKit

theorem dn_below {B : Nat} {a w : World} (h : Below B a w) (n : Nat) : Below B a (w.drewN n) := h.trans ⟨rfl, rfl, rfl, Nat.le_refl _, fun _ _ => rfl⟩
set_option maxHeartbeats 4000000 in
set_option maxRecDepth 100000 in
theorem resumed_all (w : World) (v tv : Value) (seed fuel pk : Int) (g : PG) (l : List ByteArray) (A : LA w v tv seed fuel pk g l) (tries cut : Int) (t0 : -9223372036854775808 ≤ tries) (t1 : tries ≤ 9223372036854775807) (m0 : -9223372036854775808 ≤ cut) (m1 : cut ≤ 9223372036854775807) :
    Calls Tryz.prog 9 #[v, tv, .int .u64 seed, .int .i64 fuel, .int .i64 tries, .int .i64 cut] w fun e w' => e = .returned (.bool true) ∧ Below w.heap.size w w' := by
  have H0 : Hid (Calls Tryz.prog 12 #[] w fun e w' => e = .returned (.bool true) ∧ Below w.heap.size w w') := A.prowled
  have H1 : Hid (∀ W, Below w.heap.size w W → Calls Tryz.prog 13 #[v, tv, .int .u64 seed, .int .i64 fuel, .int .i64 tries] W fun e w' => ∃ H U, e = .returned (.pointer (some ⟨H, 0, none⟩)) ∧ Below W.heap.size W w' ∧ Prw W.heap.size U H g (frS g l seed (kpickS tries 600).toNat) w') := fun W b => A.fresh W b tries t0 t1
  have H2 : Hid (∀ W, Below w.heap.size w W → Calls Tryz.prog 14 #[v] W fun e w' => ∃ cb co cap, e = .returned (.slice (some ⟨cb, co, none⟩) g.L cap) ∧ Below W.heap.size W w' ∧ Laid w' cb co g.L cap g.c) := A.prog
  have H3 : Hid (∀ W, Calls Tryz.prog 15 #[.int .i64 fuel, .int .i64 200] W fun e w' => e = .returned (.int .i64 pk) ∧ w' = W) := A.pick
  have H4 : Hid (∀ W, Below w.heap.size w W → ∀ cb co cap, Laid W cb co g.L cap g.c → ∀ lg : ByteArray, lg.size ≤ 9223372036854775806 → Calls Tryz.prog 24 #[.slice (some ⟨cb, co, none⟩) g.L cap, .string lg, .int .u64 seed, .int .i64 (IntKind.i64.wrap (1 + pk))] W (ResPost W.heap.size g seed lg W)) := fun W b cb co cap C lg hs => by
    have hwp : IntKind.i64.wrap (1 + pk) = 1 + pk := by have h0 := A.pk0; have h1 := A.pk1; rw [IntKind.wrap_i64]; omega
    rw [hwp]
    exact A.resume W b cb co cap C lg hs
  have HPC : Hid (∀ W (n : Int), 1 ≤ n → n ≤ 1000000000 → Calls Tryz.prog 15 #[.int .i64 cut, .int .i64 n] W fun e w' => e = .returned (.int .i64 (kpickS cut n)) ∧ w' = W) := fun W n h1 h2 => kpick_any cut n m0 m1 h1 h2 W
  have HRP : Hid (Replays g.R (frS g l seed (kpickS tries 600).toNat)) := fr_replays _ _ _ _
  have pk0 := A.pk0
  have pk1 := A.pk1
  have HOK : Hid (PGok g) := A.ok
  obtain ⟨h, hh⟩ : ∃ h, frS g l seed (kpickS tries 600).toNat = h := ⟨_, rfl⟩
  rw [hh] at H1 HRP
  clear hh A t0 t1 m0 m1
  obtain ⟨gL, hgL⟩ : ∃ x, g.L = x := ⟨_, rfl⟩
  rw [hgL] at H2 H4
  clear hgL
  go_enter Tryz.func9, Tryz.ntmps9
  go_wp2_with fail
  refine H0.out.mono ?_
  rintro e w1 ⟨rfl, B1⟩
  have HB1 : Hid (Below w.heap.size w w1) := B1
  clear B1 H0
  go_wp2_with fail
  refine (H1.out w1 HB1.out).mono ?_
  rintro e w2 ⟨H, U, rfl, B2, p2⟩
  have HB2 : Hid (Below w.heap.size w w2 ∧ Prw w.heap.size U H g h w2) := ⟨HB1.out.trans (B2.mono HB1.out.size), p2.wide HB1.out.size⟩
  clear B2 p2 H1 HB1
  have HXP : Hid (Calls Tryz.prog 23 #[.pointer (some ⟨H, 0, none⟩)] w2 fun e w' => e = .returned (.string (strOfNums (logL h.hist))) ∧ Below w2.heap.size w2 w') := HB2.out.2.log
  have hsl : (strOfNums (logL h.hist)).size ≤ 10000000 := log_small HB2.out.2.inv HOK.out
  have HRS : Hid (∀ n, n ≤ (strOfNums (logL h.hist)).size → ∃ h1, RsF g seed h h1 (strOfNums (logL h.hist)) n (endL ((nums (strOfNums (logL h.hist))).take n))) := fun n hn => by
    rw [nums_str (log_byt _)]
    exact rsf_of HB2.out.2.inv HRP.out seed n hn
  generalize strOfNums (logL h.hist) = lg at *
  go_wp2_with fail
  refine HXP.out.mono ?_
  rintro e w3 ⟨rfl, B3⟩
  have HB3 : Hid (Below w.heap.size w w3 ∧ Prw w.heap.size U H g h w3) := ⟨HB2.out.1.trans (B3.mono HB2.out.1.size), HB2.out.2.below B3⟩
  clear B3 HXP HB2
  have hpc := kpick_bd cut ((lg.size : Int) + 1) (by omega)
  have H5 : Hid (Calls Tryz.prog 15 #[.int .i64 cut, .int .i64 ((lg.size : Int) + 1)] w3 fun e w' => e = .returned (.int .i64 (kpickS cut ((lg.size : Int) + 1))) ∧ w' = w3) := HPC.out w3 ((lg.size : Int) + 1) (by omega) (by omega)
  obtain ⟨n, hn⟩ : ∃ n : Nat, kpickS cut ((lg.size : Int) + 1) = n := ⟨(kpickS cut ((lg.size : Int) + 1)).toNat, by omega⟩
  rw [hn] at H5 hpc
  have hnl : n ≤ lg.size := by omega
  clear hn hpc HPC
  obtain ⟨h1, hrs⟩ := HRS.out n hnl
  have HRF : Hid (RsF g seed h h1 lg n (endL ((nums lg).take n))) := hrs
  have HIX : Hid (∀ q, q < lg.size → (∀ W : World, (Instr.index 9 (.string lg) (.int .i64 (q : Int))).run Tryz.prog W = .ok (.int .u8 ((nums lg).getD q 0)) W)) := fun q hq => idx_str' lg q hq
  have HLN : Hid ((nums lg).length = lg.size) := nums_len lg
  clear hrs HRS HRP
  go_wp2_with fail
  refine H5.out.mono ?_
  rintro e w4 ⟨rfl, hw⟩
  obtain rfl := hw.symm
  clear H5
  have HRZ : Hid (∀ W cb co cap, Below w3.heap.size w3 W → Laid W cb co gL cap g.c → Calls Tryz.prog 24 #[.slice (some ⟨cb, co, none⟩) gL cap, .string (lg.extract 0 n), .int .u64 seed, .int .i64 (IntKind.i64.wrap (1 + pk))] W fun e w' => ∃ K, e = .returned (.tuple #[.pointer (some ⟨K, 0, none⟩), .int .i64 0, .int .i64 0]) ∧ Duo w H K g h h1 w') := fun W cb co cap b C => by
    have bb : Below w.heap.size w W := HB3.out.1.trans (b.mono HB3.out.1.size)
    refine (H4.out W bb cb co cap C (lg.extract 0 n) (by rw [Lib.size_eq, Lib.extract_data, List.length_take, List.length_drop, ← Lib.size_eq]; omega)).mono ?_
    rintro e w' ⟨B, ⟨h2, K, V, hf2, rfl, pw⟩ | ⟨h2, n2, hf2, rfl⟩⟩
    · rw [HRF.out.fol] at hf2
      injection hf2 with q _
      subst q
      exact ⟨K, rfl, bb.trans (B.mono bb.size), ⟨U, (HB3.out.2.below b).below B⟩, ⟨V, pw.wide bb.size⟩⟩
    · rw [HRF.out.fol] at hf2; cases hf2
  have HPG : Hid (∀ W, Below w3.heap.size w3 W → Calls Tryz.prog 14 #[v] W fun e w' => ∃ cb co cap, e = .returned (.slice (some ⟨cb, co, none⟩) gL cap) ∧ Below W.heap.size W w' ∧ Laid w' cb co gL cap g.c) := fun W b => H2.out W (HB3.out.1.trans (b.mono HB3.out.1.size))
  clear H2 H4
  go_wp2_with fail
  go_loopw [17] (fun ev wr => ∃ e : Nat, e ≤ n ∧ ev = .int .i64 e ∧ (∀ j, e ≤ j → j < n → (nums lg).getD j 0 ≠ 10) ∧ wr = w3) (fun ev _ => (intOf ev).toNat)
  case atStart => exact ⟨n, Nat.le_refl _, rfl, fun j h1 h2 => by omega, rfl⟩
  case round =>
    obtain ⟨e, he, rfl, hno, hwr⟩ := hrel
    obtain rfl := hwr.symm
    have HNO : Hid (∀ j, e ≤ j → j < n → (nums lg).getD j 0 ≠ 10) := hno
    clear hno
    have hgo : (0 < e ∧ (nums lg).getD (e - 1) 0 ≠ 10) ∨ (e = endL ((nums lg).take n) ∧ (e = 0 ∨ (0 < e ∧ (nums lg).getD (e - 1) 0 = 10))) := by
      by_cases h0 : 0 < e
      · by_cases h10 : (nums lg).getD (e - 1) 0 = 10
        · exact Or.inr ⟨endL_cut _ n e (by rw [HLN.out]; exact hnl) he HNO.out (Or.inr h10), Or.inr ⟨h0, h10⟩⟩
        · exact Or.inl ⟨h0, h10⟩
      · exact Or.inr ⟨endL_cut _ n e (by rw [HLN.out]; exact hnl) he HNO.out (Or.inl (by omega)), Or.inl (by omega)⟩
    rcases hgo with ⟨h0, h10⟩ | ⟨heq, hcase⟩
    · have hi0 : (0 : Int) < (e : Int) := by omega
      have hx := HIX.out (e - 1) (by omega)
      have ec : (((e - 1 : Nat) : Nat) : Int) = (e : Int) - 1 := by omega
      rw [ec] at hx
      obtain ⟨x, hxx⟩ : ∃ x, (nums lg).getD (e - 1) 0 = x := ⟨_, rfl⟩
      rw [hxx] at hx h10
      have HXX : Hid ((nums lg).getD (e - 1) 0 = x) := hxx
      clear hxx ec
      go_wp2_with fail
      go_roundw
      case rel => exact ⟨e - 1, by omega, by go_num, fun j h1 h2 => by
        by_cases c : j = e - 1
        · rw [c, HXX.out]; exact h10
        · exact HNO.out j (by omega) h2, trivial⟩
      case measure => simp [intOf]; omega
    · have HRE : Hid (RsF g seed h h1 lg n e) := by rw [heq]; exact HRF
      clear HRF HNO heq
      have hx0 : (¬ (0 : Int) < (e : Int)) ∨ (0 < (e : Int) ∧ ∀ W : World, (Instr.index 9 (.string lg) (.int .i64 ((e : Int) - 1))).run Tryz.prog W = .ok (.int .u8 10) W) := by
        rcases hcase with c | ⟨c1, c2⟩
        · exact Or.inl (by omega)
        · right
          refine ⟨by omega, ?_⟩
          have hx := HIX.out (e - 1) (by omega)
          have ec : (((e - 1 : Nat) : Nat) : Int) = (e : Int) - 1 := by omega
          rw [ec, c2] at hx
          exact hx
      clear hcase
      have hnI : (n : Int) ≤ (lg.size : Int) := by omega
      have heI : (e : Int) ≤ (lg.size : Int) := by omega
      have hen : (e : Int) ≤ (n : Int) := by omega
      rcases hx0 with hi0 | ⟨hi0, hx⟩
      all_goals
        go_wp2_with fail
        clear hi0
        try clear hx
        go_region_held3 (fun _ => True) (trivial) (first
          | (go_at_call 14; go_fit (HPG.out w3.drew (Below.refl _ _).drew); rintro r w5 ⟨cb, co, cap, rfl, B5, C5⟩; have HB5 : Hid (Below w3.heap.size w3 w5 ∧ Laid w5 cb co gL cap g.c) := ⟨⟨B5.os, B5.tape, B5.output, B5.size, B5.block⟩, C5⟩; clear B5 C5)
          | (go_at_call 15; go_fit (H3.out w5); rintro r wk ⟨rfl, hwk⟩; obtain rfl := hwk.symm)
          | (go_at_call 24; go_fit (HRZ.out w5 cb co cap HB5.out.1 HB5.out.2); rintro r w6 ⟨K, rfl, d6⟩; have HD6 : Hid (Duo w H K g h h1 w6) := d6; clear d6))
        have HXQ : Hid (∀ W, Below w6.heap.size w6 W → Calls Tryz.prog 23 #[.pointer (some ⟨K, 0, none⟩)] W fun r w' => r = .returned (.string (lg.extract 0 e)) ∧ Duo w H K g h h1 w') := fun W b => by
          have d := HD6.out.below b
          obtain ⟨V, q⟩ := d.q
          have := q.log
          rw [HRE.out.log] at this
          exact this.mono fun e w' ⟨x, y⟩ => ⟨x, d.below y⟩
        clear HRZ HPG H3 HB5 HB3
        have hwp : IntKind.i64.wrap (1 + pk) = 1 + pk := by rw [IntKind.wrap_i64]; omega
        simp only [hwp]
        go_wp2_with fail
        go_region_held3 (fun _ => True) (trivial) (first
          | (go_at_call 23; go_fit (HXQ.out w6.drew (Below.refl _ _).drew); rintro r w7 ⟨rfl, d7⟩; have HD7 : Hid (Duo w H K g h h1 w7) := d7; clear d7))
        clear HXQ HD6
        have HCE : Hid (cntL true ((nums lg).take e) = (h1.kept.length, h1.found.length)) := HRE.out.cnt
        have HEL : Hid (e ≤ lg.size) := by show e ≤ _; omega
        go_wp2_with fail
        go_loopw [21, 22, 23] (fun kv fv iv wr => ∃ i : Nat, i ≤ e ∧ iv = .int .i64 i ∧ kv = .int .i64 ((cntL true ((nums lg).take i)).1 : Nat) ∧ fv = .int .i64 ((cntL true ((nums lg).take i)).2 : Nat) ∧ wr = w7) (fun _ _ iv _ => e - (intOf iv).toNat)
        case atStart => exact ⟨0, Nat.zero_le _, rfl, rfl, rfl, rfl⟩
        case round =>
          obtain ⟨i, hie, rfl, rfl, rfl, hwr⟩ := hrel
          obtain rfl := hwr.symm
          by_cases hlt : i < e
          · have hi1 : (i : Int) < (e : Int) := by omega
            have hil : i < lg.size := by omega
            have hcn := cnt_next (nums lg) i (by rw [HLN.out]; exact hil)
            have hxi := HIX.out i hil
            have hle := cnt_le ((nums lg).take i) true
            rw [List.length_take] at hle
            obtain ⟨ka, hka⟩ : ∃ ka, (cntL true ((nums lg).take i)).1 = ka := ⟨_, rfl⟩
            obtain ⟨fa, hfa⟩ : ∃ fa, (cntL true ((nums lg).take i)).2 = fa := ⟨_, rfl⟩
            rw [show cntL true ((nums lg).take i) = (ka, fa) from Prod.ext hka hfa] at hcn
            rw [hka, hfa] at hle ⊢
            have hka1 : ka ≤ 10000000 := by omega
            have hfa1 : fa ≤ 10000000 := by omega
            clear hka hfa hle
            obtain ⟨x, hx'⟩ : ∃ x, (nums lg).getD i 0 = x := ⟨_, rfl⟩
            rw [hx'] at hcn hxi
            clear hx'
            by_cases h0 : i = 0
            · rw [if_pos (Or.inl h0)] at hcn
              have hzd : ((i : Int) == 0) = true := by rw [beq_iff_eq]; omega
              clear h0
              by_cases h113 : x = 113
              · subst h113
                rw [if_pos rfl] at hcn
                have HNX : Hid (cntL true ((nums lg).take (i + 1)) = (ka + 1, fa)) := hcn
                clear hcn
                go_wp2_with fail
                all_goals
                  go_roundw
                  case rel => exact ⟨i + 1, by omega, by go_num, by rw [HNX.out]; go_num, by rw [HNX.out], trivial⟩
                  case measure => simp [intOf]; omega
              · rw [if_neg h113] at hcn
                have HNX : Hid (cntL true ((nums lg).take (i + 1)) = (ka, fa + 1)) := hcn
                clear hcn
                go_wp2_with fail
                all_goals
                  go_roundw
                  case rel => exact ⟨i + 1, by omega, by go_num, by rw [HNX.out], by rw [HNX.out]; go_num, trivial⟩
                  case measure => simp [intOf]; omega
            · have hzd : ((i : Int) == 0) = false := by rw [beq_eq_false_iff_ne]; omega
              have hp := HIX.out (i - 1) (by omega)
              have ec : (((i - 1 : Nat) : Nat) : Int) = (i : Int) - 1 := by omega
              rw [ec] at hp
              obtain ⟨y, hy'⟩ : ∃ y, (nums lg).getD (i - 1) 0 = y := ⟨_, rfl⟩
              rw [hy'] at hcn hp
              clear hy' ec
              by_cases h10 : y = 10
              · subst h10
                rw [if_pos (Or.inr rfl)] at hcn
                by_cases h113 : x = 113
                · subst h113
                  rw [if_pos rfl] at hcn
                  have HNX : Hid (cntL true ((nums lg).take (i + 1)) = (ka + 1, fa)) := hcn
                  clear hcn
                  go_wp2_with fail
                  all_goals
                    go_roundw
                    case rel => exact ⟨i + 1, by omega, by go_num, by rw [HNX.out]; go_num, by rw [HNX.out], trivial⟩
                    case measure => simp [intOf]; omega
                · rw [if_neg h113] at hcn
                  have HNX : Hid (cntL true ((nums lg).take (i + 1)) = (ka, fa + 1)) := hcn
                  clear hcn
                  go_wp2_with fail
                  all_goals
                    go_roundw
                    case rel => exact ⟨i + 1, by omega, by go_num, by rw [HNX.out], by rw [HNX.out]; go_num, trivial⟩
                    case measure => simp [intOf]; omega
              · rw [if_neg (fun c => c.elim h0 h10)] at hcn
                have HNX : Hid (cntL true ((nums lg).take (i + 1)) = (ka, fa)) := hcn
                clear hcn
                go_wp2_with fail
                all_goals
                  go_roundw
                  case rel => exact ⟨i + 1, by omega, by go_num, by rw [HNX.out], by rw [HNX.out], trivial⟩
                  case measure => simp [intOf]; omega
          · have hi1 : ¬ (i : Int) < (e : Int) := by omega
            have hie' : i = e := by omega
            rw [hie', HCE.out]
            clear HCE HIX hie'
            have HKP : Hid (Calls Tryz.prog 16 #[.pointer (some ⟨H, 0, none⟩)] w7 fun e w' => e = .returned (.slice (some ⟨w7.heap.size, 0, none⟩) h.kept.length h.kept.length) ∧ ((∀ i, i < h.kept.length → w'.cell? ⟨w7.heap.size, i, none⟩ = some (.string (h.kept.getD i in0).text)) ∧ w7.heap.size < w'.heap.size ∧ Below w7.heap.size w7 w')) := HD7.out.keptP
            go_wp2_with fail
            refine HKP.out.mono ?_
            rintro r w8 ⟨rfl, k8, hl8, B8⟩
            have HD8 : Hid (Duo w H K g h h1 w8 ∧ (∀ i, i < h.kept.length → w8.cell? ⟨w7.heap.size, i, none⟩ = some (.string (h.kept.getD i in0).text)) ∧ w7.heap.size < w8.heap.size) := ⟨HD7.out.below B8, k8, hl8⟩
            clear k8 hl8 B8 HKP HD7
            generalize w7.heap.size = Kp at *
            have HCP : Hid (Calls Tryz.prog 18 #[.pointer (some ⟨H, 0, none⟩)] w8 fun e w' => (∃ ao cp, e = .returned (.slice ao h.found.length cp) ∧ CrAt ao h.found w') ∧ Below w8.heap.size w8 w') := HD8.out.1.crashP
            go_wp2_with fail
            refine HCP.out.mono ?_
            rintro r w9 ⟨⟨ca, cc, rfl, c9⟩, B9⟩
            have HD9 : Hid (Duo w H K g h h1 w9 ∧ (∀ i, i < h.kept.length → w9.cell? ⟨Kp, i, none⟩ = some (.string (h.kept.getD i in0).text)) ∧ Kp < w9.heap.size ∧ CrAt ca h.found w9) := ⟨HD8.out.1.below B9, fun i hi => (B9.cell (p := ⟨Kp, i, none⟩) HD8.out.2.2).trans (HD8.out.2.1 i hi), Nat.lt_of_lt_of_le HD8.out.2.2 B9.size, c9⟩
            clear c9 B9 HCP HD8
            have HKQ : Hid (Calls Tryz.prog 16 #[.pointer (some ⟨K, 0, none⟩)] w9 fun e w' => e = .returned (.slice (some ⟨w9.heap.size, 0, none⟩) h1.kept.length h1.kept.length) ∧ ((∀ i, i < h1.kept.length → w'.cell? ⟨w9.heap.size, i, none⟩ = some (.string (h1.kept.getD i in0).text)) ∧ w9.heap.size < w'.heap.size ∧ Below w9.heap.size w9 w')) := HD9.out.1.swap.keptP
            go_wp2_with fail
            refine HKQ.out.mono ?_
            rintro r w10 ⟨rfl, k10, hl10, B10⟩
            have HD10 : Hid (Duo w H K g h h1 w10 ∧ (∀ i, i < h.kept.length → w10.cell? ⟨Kp, i, none⟩ = some (.string (h.kept.getD i in0).text)) ∧ Kp < w10.heap.size ∧ CrAt ca h.found w10 ∧ (∀ i, i < h1.kept.length → w10.cell? ⟨w9.heap.size, i, none⟩ = some (.string (h1.kept.getD i in0).text)) ∧ w9.heap.size < w10.heap.size) := ⟨HD9.out.1.below B10, fun i hi => (B10.cell (p := ⟨Kp, i, none⟩) HD9.out.2.2.1).trans (HD9.out.2.1 i hi), Nat.lt_of_lt_of_le HD9.out.2.2.1 B10.size, HD9.out.2.2.2.below B10, k10, hl10⟩
            clear k10 hl10 B10 HKQ HD9
            generalize w9.heap.size = Kq at *
            have HCQ : Hid (Calls Tryz.prog 18 #[.pointer (some ⟨K, 0, none⟩)] w10 fun e w' => (∃ ao cp, e = .returned (.slice ao h1.found.length cp) ∧ CrAt ao h1.found w') ∧ Below w10.heap.size w10 w') := HD10.out.1.swap.crashP
            go_wp2_with fail
            refine HCQ.out.mono ?_
            rintro r w11 ⟨⟨da, dc, rfl, c11⟩, B11⟩
            have HD11 : Hid (Duo w H K g h h1 w11) := HD10.out.1.below B11
            have HAA : Hid (∀ i, i < h1.kept.length → ∃ t, w11.cell? ⟨Kq, i, none⟩ = some (.string t) ∧ w11.cell? ⟨Kp, i, none⟩ = some (.string t) ∧ Kq < w11.heap.size ∧ Kp < w11.heap.size) := fun i hi => by
              obtain ⟨q1, q2⟩ := HRE.out.kept i hi
              have hs := B11.size
              refine ⟨_, (B11.cell (p := ⟨Kq, i, none⟩) HD10.out.2.2.2.2.2).trans (HD10.out.2.2.2.2.1 i hi), ?_, Nat.lt_of_lt_of_le HD10.out.2.2.2.2.2 hs, Nat.lt_of_lt_of_le HD10.out.2.2.1 hs⟩
              rw [q2]
              exact (B11.cell (p := ⟨Kp, i, none⟩) HD10.out.2.2.1).trans (HD10.out.2.1 i q1)
            have HBB : Hid (∀ i, i < h1.found.length → ∃ b b' t f p, da = some ⟨b, 0, none⟩ ∧ ca = some ⟨b', 0, none⟩ ∧ b < w11.heap.size ∧ b' < w11.heap.size ∧ w11.cell? ⟨b, i * 3, none⟩ = some (.string t) ∧ w11.cell? ⟨b, i * 3 + 1, none⟩ = some (.int .i64 f) ∧ w11.cell? ⟨b, i * 3 + 2, none⟩ = some (.int .i64 p) ∧ w11.cell? ⟨b', i * 3, none⟩ = some (.string t) ∧ w11.cell? ⟨b', i * 3 + 1, none⟩ = some (.int .i64 f) ∧ w11.cell? ⟨b', i * 3 + 2, none⟩ = some (.int .i64 p)) := fun i hi => by
              obtain ⟨q1, q2⟩ := HRE.out.found i hi
              obtain ⟨b, e1, hb, x0, x1, x2⟩ := c11 i hi
              obtain ⟨b', e1', hb', y0, y1, y2⟩ := (HD10.out.2.2.2.1.below B11) i q1
              rw [q2] at x0 x1 x2
              exact ⟨b, b', _, _, _, e1, e1', hb, hb', x0, x1, x2, y0, y1, y2⟩
            have HEQ : Hid (lg.size ≤ n → h1.kept = h.kept ∧ h1.found = h.found) := HRE.out.all
            have hlk := HRE.out.lk
            have hlf := HRE.out.lf
            have hk30 : h.kept.length ≤ 30 := by obtain ⟨V, q⟩ := HD11.out.p; exact q.inv.most
            have hf12 : h.found.length ≤ 120000 := by obtain ⟨V, q⟩ := HD11.out.p; exact found_le q.inv q.ok.fok
            clear c11 B11 HCQ HD10 HRE
            obtain ⟨N, hN⟩ : ∃ N, h.kept.length = N := ⟨_, rfl⟩
            obtain ⟨M, hM⟩ : ∃ M, h.found.length = M := ⟨_, rfl⟩
            obtain ⟨N1, hN1⟩ : ∃ N, h1.kept.length = N := ⟨_, rfl⟩
            obtain ⟨M1, hM1⟩ : ∃ M, h1.found.length = M := ⟨_, rfl⟩
            have HNM : Hid (h.kept.length = N ∧ h.found.length = M ∧ h1.kept.length = N1 ∧ h1.found.length = M1) := ⟨hN, hM, hN1, hM1⟩
            rw [hN, hN1] at hlk
            rw [hM, hM1] at hlf
            rw [hN] at hk30 ⊢
            rw [hM] at hf12 ⊢
            rw [hN1] at HAA ⊢
            rw [hM1] at HBB ⊢
            clear hN hM hN1 hM1
            have hg1 : ¬ (N : Int) < (N1 : Int) := by omega
            have hg2 : ¬ (M : Int) < (M1 : Int) := by omega
            go_wp2_with fail
            go_loopw [28] (fun iv wr => ∃ i : Nat, i ≤ N1 ∧ iv = .int .i64 i ∧ Below w11.heap.size w11 wr) (fun iv _ => N1 - (intOf iv).toNat)
            case atStart => exact ⟨0, by omega, rfl, Below.refl _ _⟩
            case round =>
              obtain ⟨i2, hi2, rfl, hB⟩ := hrel
              by_cases hlt2 : i2 < N1
              · have hj1 : (i2 : Int) < (N1 : Int) := by omega
                have hj2 : (i2 : Int) < (N : Int) := by omega
                obtain ⟨t, ct1, ct2, hkq, hkp⟩ := HAA.out i2 hlt2
                have d1 := (hB.cell (p := ⟨Kq, i2, none⟩) hkq).trans ct1
                have d2 := (hB.cell (p := ⟨Kp, i2, none⟩) hkp).trans ct2
                have hkq' := Nat.lt_of_lt_of_le hkq hB.size
                have hkp' := Nat.lt_of_lt_of_le hkp hB.size
                have HB12 : Hid (Below w11.heap.size w11 wr ∧ i2 < N1) := ⟨hB, hlt2⟩
                clear hB ct1 ct2 hkq hkp hlt2
                go_wp2_with fail
                go_quiet (fail)
                go_wp2_with fail
                go_roundw
                case rel => exact ⟨i2 + 1, by have := HB12.out.2; omega, by go_num, dn_below HB12.out.1 _⟩
                case measure => have := HB12.out.2; simp [intOf]; omega
              · have hj1 : ¬ (i2 : Int) < (N1 : Int) := by omega
                have HB12 : Hid (Below w11.heap.size w11 wr) := hB
                clear hB
                go_wp2_with fail
                go_loopw [29] (fun iv wr => ∃ i : Nat, i ≤ M1 ∧ iv = .int .i64 i ∧ Below w11.heap.size w11 wr) (fun iv _ => M1 - (intOf iv).toNat)
                case atStart => exact ⟨0, by omega, rfl, HB12.out⟩
                case round =>
                  obtain ⟨i3, hi3, rfl, hB⟩ := hrel
                  by_cases hlt3 : i3 < M1
                  · have hm1 : (i3 : Int) < (M1 : Int) := by omega
                    have hm2 : (i3 : Int) < (M : Int) := by omega
                    obtain ⟨b, b', t, f, pl, rfl, rfl, hb, hb', x0, x1, x2, y0, y1, y2⟩ := HBB.out i3 hlt3
                    have a0 := (hB.cell (p := ⟨b, i3 * 3, none⟩) hb).trans x0
                    have a1 := (hB.cell (p := ⟨b, i3 * 3 + 1, none⟩) hb).trans x1
                    have a2 := (hB.cell (p := ⟨b, i3 * 3 + 2, none⟩) hb).trans x2
                    have c0 := (hB.cell (p := ⟨b', i3 * 3, none⟩) hb').trans y0
                    have c1 := (hB.cell (p := ⟨b', i3 * 3 + 1, none⟩) hb').trans y1
                    have c2 := (hB.cell (p := ⟨b', i3 * 3 + 2, none⟩) hb').trans y2
                    have hbl := Nat.lt_of_lt_of_le hb hB.size
                    have hbl' := Nat.lt_of_lt_of_le hb' hB.size
                    have HB13 : Hid (Below w11.heap.size w11 wr ∧ i3 < M1) := ⟨hB, hlt3⟩
                    clear hB x0 x1 x2 y0 y1 y2 hb hb' hlt3
                    go_wp2_with fail
                    go_quiet (fail)
                    go_wp2_with fail
                    go_roundw
                    case rel => exact ⟨i3 + 1, by have := HB13.out.2; omega, by go_num, dn_below HB13.out.1 _⟩
                    case measure => have := HB13.out.2; simp [intOf]; omega
                  · have hm1 : ¬ (i3 : Int) < (M1 : Int) := by omega
                    have HD14 : Hid (Duo w H K g h h1 wr) := HD11.out.below hB
                    clear hB HAA HBB
                    by_cases hnn : n < lg.size
                    · have hn1 : (n : Int) < (lg.size : Int) := by omega
                      go_wp2_with fail
                      go_quiet (fail)
                      go_wp2_with fail
                      go_ret
                      exact ⟨by kernel_rfl, dn_below HD14.out.bel _⟩
                    · have hn1 : ¬ (n : Int) < (lg.size : Int) := by omega
                      obtain ⟨ek, ef⟩ := HEQ.out (by omega)
                      obtain rfl : N1 = N := by have := HNM.out; rw [ek] at this; omega
                      obtain rfl : M1 = M := by have := HNM.out; rw [ef] at this; omega
                      have HSK : Hid (∀ W, Duo w H K g h h1 W → Calls Tryz.prog 19 #[.pointer (some ⟨K, 0, none⟩)] W fun e w' => e = .returned (.slice (some ⟨W.heap.size, 0, none⟩) 64 64) ∧ (w'.heap[W.heap.size]? = some (.cells (rowL (seenN h.kept)).toArray 5 (0, 0)) ∧ Below W.heap.size W w' ∧ Duo w H K g h h1 w')) := fun W d => by
                        obtain ⟨V, q⟩ := d.q
                        have := q.seen
                        rw [ek] at this
                        exact this.mono fun e w' ⟨x, y, z⟩ => ⟨x, y, z, d.below z⟩
                      have HSH : Hid (∀ W, Duo w H K g h h1 W → Calls Tryz.prog 19 #[.pointer (some ⟨H, 0, none⟩)] W fun e w' => e = .returned (.slice (some ⟨W.heap.size, 0, none⟩) 64 64) ∧ (w'.heap[W.heap.size]? = some (.cells (rowL (seenN h.kept)).toArray 5 (0, 0)) ∧ Below W.heap.size W w' ∧ Duo w H K g h h1 w')) := fun W d => by
                        obtain ⟨V, q⟩ := d.p
                        exact q.seen.mono fun e w' ⟨x, y, z⟩ => ⟨x, y, z, d.below z⟩
                      have HCV : Hid (∀ (w0 W : World) (b : Nat), w0.heap[b]? = some (.cells (rowL (seenN h.kept)).toArray 5 (0, 0)) → W.heap[b]? = w0.heap[b]? → (convert 25 9 (.slice (some ⟨b, 0, none⟩) 64 64)).run Tryz.prog W = .ok (.string (seenS h)) W) := fun w0 W b h1 h2 => conv_row h1 W h2
                      clear ek ef HEQ HNM
                      generalize seenS h = sx at *
                      go_wp2_with fail
                      refine wp_region_noPanic ?_
                      refine wp_region_held_drew (S := fun _ : World => True) (by kernel_rfl) trivial (fun hHeld => ?_)
                      refine wpAnyH_take (i := 0) (oi := { dst := some 174, op := Op.move (Operand.tmp 16), type := 3, pos := "keeps.go:355", after := #[], guard := none }) (v := ?_) rfl (by kernel_rfl) (by kernel_rfl) (by kernel_rfl) (fun _ _ _ h => h) (Or.inl ⟨by rfl, ?_⟩) (by assumption) ?_
                      rotate_left
                      · intro w hSw; go_simp; try (with_reducible rfl)
                      try simp only [Act.put, List.setIfInBounds_toArray, List.set_cons_zero, List.set_cons_succ]
                      refine wpAnyH_take (i := 1) (oi := { dst := some 175, op := Op.move (Operand.tmp 15), type := 9, pos := "keeps.go:355", after := #[], guard := none }) (v := ?_) rfl (by kernel_rfl) (by kernel_rfl) (by kernel_rfl) (fun _ _ _ h => h) (Or.inl ⟨by rfl, ?_⟩) (by assumption) ?_
                      rotate_left
                      · intro w hSw; go_simp; try (with_reducible rfl)
                      try simp only [Act.put, List.setIfInBounds_toArray, List.set_cons_zero, List.set_cons_succ]
                      refine wpAnyH_take (i := 2) (oi := { dst := some 176, op := Op.call { callee := Callee.builtin Builtin.len, args := #[Operand.tmp 175], argTypes := #[9] }, type := 3, pos := "keeps.go:355", after := #[{ on := 1, ground := Ground.data }], guard := none }) (v := ?_) rfl (by kernel_rfl) (by kernel_rfl) (by kernel_rfl) (fun _ _ _ h => h) (Or.inl ⟨by rfl, ?_⟩) (by assumption) ?_
                      rotate_left
                      · intro w hSw; go_simp; try (with_reducible rfl)
                      try simp only [Act.put, List.setIfInBounds_toArray, List.set_cons_zero, List.set_cons_succ]
                      refine wpAnyH_take (i := 3) (oi := { dst := some 177, op := Op.binOp BinOp.lss 3 (Operand.tmp 174) (Operand.tmp 176) 3, type := 4, pos := "keeps.go:355", after := #[{ on := 0, ground := Ground.data }, { on := 2, ground := Ground.data }], guard := none }) (v := ?_) rfl (by kernel_rfl) (by kernel_rfl) (by kernel_rfl) (fun _ _ _ h => h) (Or.inl ⟨by rfl, ?_⟩) (by assumption) ?_
                      rotate_left
                      · intro w hSw; go_simp; try (with_reducible rfl)
                      try simp only [Act.put, List.setIfInBounds_toArray, List.set_cons_zero, List.set_cons_succ]
                      refine wpAnyH_take (i := 4) (oi := { dst := some 178, op := Op.move (Operand.tmp 177), type := 4, pos := "keeps.go:355", after := #[{ on := 3, ground := Ground.data }], guard := none }) (v := ?_) rfl (by kernel_rfl) (by kernel_rfl) (by kernel_rfl) (fun _ _ _ h => h) (Or.inl ⟨by rfl, ?_⟩) (by assumption) ?_
                      rotate_left
                      · intro w hSw; go_simp; try (with_reducible rfl)
                      try simp only [Act.put, List.setIfInBounds_toArray, List.set_cons_zero, List.set_cons_succ]
                      refine wpAnyH_take (i := 5) (oi := { dst := some 179, op := Op.move (Operand.tmp 21), type := 3, pos := "keeps.go:355", after := #[{ on := 4, ground := Ground.guard }], guard := some (4, false) }) (v := ?_) rfl (by kernel_rfl) (by kernel_rfl) (by kernel_rfl) (fun _ _ _ h => h) (Or.inl ⟨by rfl, ?_⟩) (by assumption) ?_
                      rotate_left
                      · intro w hSw; go_simp; try (with_reducible rfl)
                      try simp only [Act.put, List.setIfInBounds_toArray, List.set_cons_zero, List.set_cons_succ]
                      refine wpAnyH_take (i := 6) (oi := { dst := some 180, op := Op.move (Operand.tmp 24), type := 26, pos := "keeps.go:355", after := #[{ on := 4, ground := Ground.guard }], guard := some (4, false) }) (v := ?_) rfl (by kernel_rfl) (by kernel_rfl) (by kernel_rfl) (fun _ _ _ h => h) (Or.inl ⟨by rfl, ?_⟩) (by assumption) ?_
                      rotate_left
                      · intro w hSw; go_simp; try (with_reducible rfl)
                      try simp only [Act.put, List.setIfInBounds_toArray, List.set_cons_zero, List.set_cons_succ]
                      refine wpAnyH_take (i := 7) (oi := { dst := some 181, op := Op.call { callee := Callee.builtin Builtin.len, args := #[Operand.tmp 180], argTypes := #[26] }, type := 3, pos := "keeps.go:355", after := #[{ on := 6, ground := Ground.data }, { on := 4, ground := Ground.guard }], guard := some (4, false) }) (v := ?_) rfl (by kernel_rfl) (by kernel_rfl) (by kernel_rfl) (fun _ _ _ h => h) (Or.inl ⟨by rfl, ?_⟩) (by assumption) ?_
                      rotate_left
                      · intro w hSw; go_simp; try (with_reducible rfl)
                      try simp only [Act.put, List.setIfInBounds_toArray, List.set_cons_zero, List.set_cons_succ]
                      refine wpAnyH_take (i := 8) (oi := { dst := some 182, op := Op.binOp BinOp.eql 3 (Operand.tmp 179) (Operand.tmp 181) 3, type := 4, pos := "keeps.go:355", after := #[{ on := 5, ground := Ground.data }, { on := 7, ground := Ground.data }, { on := 4, ground := Ground.guard }], guard := some (4, false) }) (v := ?_) rfl (by kernel_rfl) (by kernel_rfl) (by kernel_rfl) (fun _ _ _ h => h) (Or.inl ⟨by rfl, ?_⟩) (by assumption) ?_
                      rotate_left
                      · intro w hSw; go_simp; try (with_reducible rfl)
                      try simp only [Act.put, List.setIfInBounds_toArray, List.set_cons_zero, List.set_cons_succ]
                      refine wpAnyH_take (i := 9) (oi := { dst := some 183, op := Op.move (Operand.tmp 182), type := 4, pos := "keeps.go:355", after := #[{ on := 8, ground := Ground.data }, { on := 4, ground := Ground.chain }, { on := 4, ground := Ground.guard }], guard := some (4, false) }) (v := ?_) rfl (by kernel_rfl) (by kernel_rfl) (by kernel_rfl) (fun _ _ _ h => h) (Or.inl ⟨by rfl, ?_⟩) (by assumption) ?_
                      rotate_left
                      · intro w hSw; go_simp; try (with_reducible rfl)
                      try simp only [Act.put, List.setIfInBounds_toArray, List.set_cons_zero, List.set_cons_succ]
                      refine wpAnyH_take (i := 10) (oi := { dst := some 184, op := Op.move (Operand.tmp 22), type := 3, pos := "keeps.go:355", after := #[{ on := 9, ground := Ground.guard }], guard := some (9, true) }) (v := ?_) rfl (by kernel_rfl) (by kernel_rfl) (by kernel_rfl) (fun _ _ _ h => h) (Or.inl ⟨by rfl, ?_⟩) (by assumption) ?_
                      rotate_left
                      · intro w hSw; go_simp; try (with_reducible rfl)
                      try simp only [Act.put, List.setIfInBounds_toArray, List.set_cons_zero, List.set_cons_succ]
                      refine wpAnyH_take (i := 11) (oi := { dst := some 185, op := Op.move (Operand.tmp 25), type := 39, pos := "keeps.go:355", after := #[{ on := 9, ground := Ground.guard }], guard := some (9, true) }) (v := ?_) rfl (by kernel_rfl) (by kernel_rfl) (by kernel_rfl) (fun _ _ _ h => h) (Or.inl ⟨by rfl, ?_⟩) (by assumption) ?_
                      rotate_left
                      · intro w hSw; go_simp; try (with_reducible rfl)
                      try simp only [Act.put, List.setIfInBounds_toArray, List.set_cons_zero, List.set_cons_succ]
                      refine wpAnyH_take (i := 12) (oi := { dst := some 186, op := Op.call { callee := Callee.builtin Builtin.len, args := #[Operand.tmp 185], argTypes := #[39] }, type := 3, pos := "keeps.go:355", after := #[{ on := 11, ground := Ground.data }, { on := 9, ground := Ground.guard }], guard := some (9, true) }) (v := ?_) rfl (by kernel_rfl) (by kernel_rfl) (by kernel_rfl) (fun _ _ _ h => h) (Or.inl ⟨by rfl, ?_⟩) (by assumption) ?_
                      rotate_left
                      · intro w hSw; go_simp; try (with_reducible rfl)
                      try simp only [Act.put, List.setIfInBounds_toArray, List.set_cons_zero, List.set_cons_succ]
                      refine wpAnyH_take (i := 13) (oi := { dst := some 187, op := Op.binOp BinOp.eql 3 (Operand.tmp 184) (Operand.tmp 186) 3, type := 4, pos := "keeps.go:355", after := #[{ on := 10, ground := Ground.data }, { on := 12, ground := Ground.data }, { on := 9, ground := Ground.guard }], guard := some (9, true) }) (v := ?_) rfl (by kernel_rfl) (by kernel_rfl) (by kernel_rfl) (fun _ _ _ h => h) (Or.inl ⟨by rfl, ?_⟩) (by assumption) ?_
                      rotate_left
                      · intro w hSw; go_simp; try (with_reducible rfl)
                      try simp only [Act.put, List.setIfInBounds_toArray, List.set_cons_zero, List.set_cons_succ]
                      refine wpAnyH_take (i := 14) (oi := { dst := some 188, op := Op.pick (Operand.tmp 183) (Operand.tmp 187) (Operand.const (Value.bool false)), type := 4, pos := "keeps.go:355", after := #[{ on := 9, ground := Ground.data }, { on := 13, ground := Ground.data }, { on := 4, ground := Ground.guard }], guard := some (4, false) }) (v := ?_) rfl (by kernel_rfl) (by kernel_rfl) (by kernel_rfl) (fun _ _ _ h => h) (Or.inl ⟨by rfl, ?_⟩) (by assumption) ?_
                      rotate_left
                      · intro w hSw; go_simp; try (with_reducible rfl)
                      try simp only [Act.put, List.setIfInBounds_toArray, List.set_cons_zero, List.set_cons_succ]
                      refine wpAnyH_take (i := 15) (oi := { dst := some 189, op := Op.move (Operand.tmp 188), type := 4, pos := "keeps.go:355", after := #[{ on := 14, ground := Ground.data }, { on := 9, ground := Ground.chain }, { on := 4, ground := Ground.guard }], guard := some (4, false) }) (v := ?_) rfl (by kernel_rfl) (by kernel_rfl) (by kernel_rfl) (fun _ _ _ h => h) (Or.inl ⟨by rfl, ?_⟩) (by assumption) ?_
                      rotate_left
                      · intro w hSw; go_simp; try (with_reducible rfl)
                      try simp only [Act.put, List.setIfInBounds_toArray, List.set_cons_zero, List.set_cons_succ]
                      refine wpAnyH_take (i := 16) (oi := { dst := some 190, op := Op.move (Operand.tmp 18), type := 29, pos := "keeps.go:355", after := #[{ on := 15, ground := Ground.guard }], guard := some (15, true) }) (v := ?_) rfl (by kernel_rfl) (by kernel_rfl) (by kernel_rfl) (fun _ _ _ h => h) (Or.inl ⟨by rfl, ?_⟩) (by assumption) ?_
                      rotate_left
                      · intro w hSw; go_simp; try (with_reducible rfl)
                      try simp only [Act.put, List.setIfInBounds_toArray, List.set_cons_zero, List.set_cons_succ]
                      refine wpAnyH_take (i := 19) (oi := { dst := some 193, op := Op.move (Operand.tmp 14), type := 29, pos := "keeps.go:355", after := #[{ on := 15, ground := Ground.guard }], guard := some (15, true) }) (v := ?_) rfl (by kernel_rfl) (by kernel_rfl) (by kernel_rfl) (fun _ _ _ h => h) (Or.inl ⟨by rfl, ?_⟩) (by assumption) ?_
                      rotate_left
                      · intro w hSw; go_simp; try (with_reducible rfl)
                      try simp only [Act.put, List.setIfInBounds_toArray, List.set_cons_zero, List.set_cons_succ]
                      refine wpAnyH_ready (rs := [17]) (by kernel_rfl) (by simp) ?_
                      refine AllReadyH.cons (o := { dst := some 191, op := Op.call { callee := Callee.value (Operand.func 19), args := #[Operand.tmp 190], argTypes := #[29] }, type := 25, pos := "keeps.go:355", after := #[{ on := 16, ground := Ground.data }, { on := 15, ground := Ground.chain }, { on := 15, ground := Ground.guard }], guard := some (15, true) }) rfl (fun KK hKK => ?_) AllReadyH.nil
                      go_simp
                      refine (HSK.out wr.drew (HD14.out.below (Below.refl _ _).drew)).mono ?_
                      rintro r w12 ⟨rfl, r12, b12, d12⟩
                      have HD12 : Hid (Duo w H K g h h1 w12) := d12; have hc1 : (convert 25 9 (.slice (some ⟨wr.heap.size, 0, none⟩) 64 64)).run Tryz.prog w12 = .ok (.string sx) w12 := HCV.out w12 w12 _ r12 rfl; have HR12 : Hid (w12.heap[wr.heap.size]? = some (.cells (rowL (seenN h.kept)).toArray 5 (0, 0))) := r12; clear r12 b12 d12
                      refine hKK.out _ _ trivial (fun hHeld' => ?_)
                      clear hKK KK
                      try simp only [Act.put, List.setIfInBounds_toArray, List.set_cons_zero, List.set_cons_succ]
                      refine wpAnyH_ready (rs := [18, 20]) (by kernel_rfl) (by simp) ?_
                      refine AllReadyH.cons (o := { dst := some 192, op := Op.convert 25 9 (Operand.tmp 191), type := 9, pos := "keeps.go:355", after := #[{ on := 17, ground := Ground.data }, { on := 15, ground := Ground.guard }], guard := some (15, true) }) rfl (fun KK hKK => ?_) ?_
                      focus
                        go_simp
                        refine hKK.out _ _ trivial (fun hHeld' => ?_)
                        clear hKK KK
                        try simp only [Act.put, List.setIfInBounds_toArray, List.set_cons_zero, List.set_cons_succ]
                        refine wpAnyH_ready (rs := [20]) (by kernel_rfl) (by simp) ?_
                        refine AllReadyH.cons (o := { dst := some 194, op := Op.call { callee := Callee.value (Operand.func 19), args := #[Operand.tmp 193], argTypes := #[29] }, type := 25, pos := "keeps.go:355", after := #[{ on := 19, ground := Ground.data }, { on := 17, ground := Ground.chain }, { on := 15, ground := Ground.guard }], guard := some (15, true) }) rfl (fun KK hKK => ?_) AllReadyH.nil
                        go_simp
                        refine (HSH.out w12 HD12.out).mono ?_
                        rintro r w13 ⟨rfl, r13, b13, d13⟩
                        have HD13 : Hid (Duo w H K g h h1 w13) := d13; have hc2 : (convert 25 9 (.slice (some ⟨wr.heap.size, 0, none⟩) 64 64)).run Tryz.prog w13 = .ok (.string sx) w13 := HCV.out w12 w13 _ HR12.out (b13.block _ (Array.getElem?_eq_some_iff.1 HR12.out).1); have hc3 : (convert 25 9 (.slice (some ⟨w12.heap.size, 0, none⟩) 64 64)).run Tryz.prog w13 = .ok (.string sx) w13 := HCV.out w13 w13 _ r13 rfl; clear r13 b13 d13
                        refine hKK.out _ _ trivial (fun hHeld' => ?_)
                        clear hKK KK
                        try simp only [Act.put, List.setIfInBounds_toArray, List.set_cons_zero, List.set_cons_succ]
                        refine wpAnyH_ready (rs := [21]) (by kernel_rfl) (by simp) ?_
                        refine AllReadyH.cons (o := { dst := some 195, op := Op.convert 25 9 (Operand.tmp 194), type := 9, pos := "keeps.go:355", after := #[{ on := 20, ground := Ground.data }, { on := 15, ground := Ground.guard }], guard := some (15, true) }) rfl (fun KK hKK => ?_) AllReadyH.nil
                        go_simp
                        refine hKK.out _ _ trivial (fun hHeld' => ?_)
                        clear hKK KK
                        try simp only [Act.put, List.setIfInBounds_toArray, List.set_cons_zero, List.set_cons_succ]
                        refine wpAnyH_take (i := 22) (oi := { dst := some 196, op := Op.binOp BinOp.eql 9 (Operand.tmp 192) (Operand.tmp 195) 9, type := 4, pos := "keeps.go:355", after := #[{ on := 18, ground := Ground.data }, { on := 21, ground := Ground.data }, { on := 15, ground := Ground.guard }], guard := some (15, true) }) (v := ?_) rfl (by kernel_rfl) (by kernel_rfl) (by kernel_rfl) (fun _ _ _ h => h) (Or.inl ⟨by rfl, ?_⟩) (by assumption) ?_
                        rotate_left
                        · intro w hSw; go_simp; try (with_reducible rfl)
                        try simp only [Act.put, List.setIfInBounds_toArray, List.set_cons_zero, List.set_cons_succ]
                        refine wpAnyH_take (i := 23) (oi := { dst := some 197, op := Op.pick (Operand.tmp 189) (Operand.tmp 196) (Operand.const (Value.bool false)), type := 4, pos := "keeps.go:355", after := #[{ on := 15, ground := Ground.data }, { on := 22, ground := Ground.data }, { on := 4, ground := Ground.guard }], guard := some (4, false) }) (v := ?_) rfl (by kernel_rfl) (by kernel_rfl) (by kernel_rfl) (fun _ _ _ h => h) (Or.inl ⟨by rfl, ?_⟩) (by assumption) ?_
                        rotate_left
                        · intro w hSw; go_simp; try (with_reducible rfl)
                        try simp only [Act.put, List.setIfInBounds_toArray, List.set_cons_zero, List.set_cons_succ]
                        refine wpAnyH_take (i := 24) (oi := { dst := some 198, op := Op.pick (Operand.tmp 178) (Operand.const (Value.bool true)) (Operand.tmp 197), type := 4, pos := "keeps.go:355", after := #[{ on := 4, ground := Ground.data }, { on := 23, ground := Ground.data }], guard := none }) (v := ?_) rfl (by kernel_rfl) (by kernel_rfl) (by kernel_rfl) (fun _ _ _ h => h) (Or.inl ⟨by rfl, ?_⟩) (by assumption) ?_
                        rotate_left
                        · intro w hSw; go_simp; try (with_reducible rfl)
                        try simp only [Act.put, List.setIfInBounds_toArray, List.set_cons_zero, List.set_cons_succ]
                        refine wpAnyH_take (i := 25) (oi := { dst := some 12, op := Op.assign (Operand.tmp 198), type := 4, pos := "keeps.go:355", after := #[{ on := 24, ground := Ground.data }, { on := 20, ground := Ground.chain }, { on := 0, ground := Ground.phase }, { on := 1, ground := Ground.phase }, { on := 2, ground := Ground.phase }, { on := 3, ground := Ground.phase }, { on := 4, ground := Ground.phase }, { on := 5, ground := Ground.phase }, { on := 6, ground := Ground.phase }, { on := 7, ground := Ground.phase }, { on := 8, ground := Ground.phase }, { on := 9, ground := Ground.phase }, { on := 10, ground := Ground.phase }, { on := 11, ground := Ground.phase }, { on := 12, ground := Ground.phase }, { on := 13, ground := Ground.phase }, { on := 14, ground := Ground.phase }, { on := 15, ground := Ground.phase }, { on := 16, ground := Ground.phase }, { on := 17, ground := Ground.phase }, { on := 18, ground := Ground.phase }, { on := 19, ground := Ground.phase }, { on := 20, ground := Ground.phase }, { on := 21, ground := Ground.phase }, { on := 22, ground := Ground.phase }, { on := 23, ground := Ground.phase }, { on := 24, ground := Ground.phase }], guard := none }) (v := ?_) rfl (by kernel_rfl) (by kernel_rfl) (by kernel_rfl) (fun _ _ _ h => h) (Or.inl ⟨by rfl, ?_⟩) (by assumption) ?_
                        rotate_left
                        · intro w hSw; go_simp; try (with_reducible rfl)
                        try simp only [Act.put, List.setIfInBounds_toArray, List.set_cons_zero, List.set_cons_succ]
                        refine wpAnyH_done (by kernel_rfl) ?_ _
                        refine NoPanic.normal ?_
                        go_wp2_with fail
                        go_ret
                        exact ⟨by kernel_rfl, HD13.out.bel⟩
                      refine AllReadyH.cons (o := { dst := some 194, op := Op.call { callee := Callee.value (Operand.func 19), args := #[Operand.tmp 193], argTypes := #[29] }, type := 25, pos := "keeps.go:355", after := #[{ on := 19, ground := Ground.data }, { on := 17, ground := Ground.chain }, { on := 15, ground := Ground.guard }], guard := some (15, true) }) rfl (fun KK hKK => ?_) AllReadyH.nil
                      go_simp
                      refine (HSH.out w12 HD12.out).mono ?_
                      rintro r w13 ⟨rfl, r13, b13, d13⟩
                      have HD13 : Hid (Duo w H K g h h1 w13) := d13; have hc2 : (convert 25 9 (.slice (some ⟨wr.heap.size, 0, none⟩) 64 64)).run Tryz.prog w13 = .ok (.string sx) w13 := HCV.out w12 w13 _ HR12.out (b13.block _ (Array.getElem?_eq_some_iff.1 HR12.out).1); have hc3 : (convert 25 9 (.slice (some ⟨w12.heap.size, 0, none⟩) 64 64)).run Tryz.prog w13 = .ok (.string sx) w13 := HCV.out w13 w13 _ r13 rfl; clear r13 b13 d13
                      refine hKK.out _ _ trivial (fun hHeld' => ?_)
                      clear hKK KK
                      try simp only [Act.put, List.setIfInBounds_toArray, List.set_cons_zero, List.set_cons_succ]
                      refine wpAnyH_ready (rs := [18, 21]) (by kernel_rfl) (by simp) ?_
                      refine AllReadyH.cons (o := { dst := some 192, op := Op.convert 25 9 (Operand.tmp 191), type := 9, pos := "keeps.go:355", after := #[{ on := 17, ground := Ground.data }, { on := 15, ground := Ground.guard }], guard := some (15, true) }) rfl (fun KK hKK => ?_) ?_
                      focus
                        go_simp
                        refine hKK.out _ _ trivial (fun hHeld' => ?_)
                        clear hKK KK
                        try simp only [Act.put, List.setIfInBounds_toArray, List.set_cons_zero, List.set_cons_succ]
                        refine wpAnyH_ready (rs := [21]) (by kernel_rfl) (by simp) ?_
                        refine AllReadyH.cons (o := { dst := some 195, op := Op.convert 25 9 (Operand.tmp 194), type := 9, pos := "keeps.go:355", after := #[{ on := 20, ground := Ground.data }, { on := 15, ground := Ground.guard }], guard := some (15, true) }) rfl (fun KK hKK => ?_) AllReadyH.nil
                        go_simp
                        refine hKK.out _ _ trivial (fun hHeld' => ?_)
                        clear hKK KK
                        try simp only [Act.put, List.setIfInBounds_toArray, List.set_cons_zero, List.set_cons_succ]
                        refine wpAnyH_take (i := 22) (oi := { dst := some 196, op := Op.binOp BinOp.eql 9 (Operand.tmp 192) (Operand.tmp 195) 9, type := 4, pos := "keeps.go:355", after := #[{ on := 18, ground := Ground.data }, { on := 21, ground := Ground.data }, { on := 15, ground := Ground.guard }], guard := some (15, true) }) (v := ?_) rfl (by kernel_rfl) (by kernel_rfl) (by kernel_rfl) (fun _ _ _ h => h) (Or.inl ⟨by rfl, ?_⟩) (by assumption) ?_
                        rotate_left
                        · intro w hSw; go_simp; try (with_reducible rfl)
                        try simp only [Act.put, List.setIfInBounds_toArray, List.set_cons_zero, List.set_cons_succ]
                        refine wpAnyH_take (i := 23) (oi := { dst := some 197, op := Op.pick (Operand.tmp 189) (Operand.tmp 196) (Operand.const (Value.bool false)), type := 4, pos := "keeps.go:355", after := #[{ on := 15, ground := Ground.data }, { on := 22, ground := Ground.data }, { on := 4, ground := Ground.guard }], guard := some (4, false) }) (v := ?_) rfl (by kernel_rfl) (by kernel_rfl) (by kernel_rfl) (fun _ _ _ h => h) (Or.inl ⟨by rfl, ?_⟩) (by assumption) ?_
                        rotate_left
                        · intro w hSw; go_simp; try (with_reducible rfl)
                        try simp only [Act.put, List.setIfInBounds_toArray, List.set_cons_zero, List.set_cons_succ]
                        refine wpAnyH_take (i := 24) (oi := { dst := some 198, op := Op.pick (Operand.tmp 178) (Operand.const (Value.bool true)) (Operand.tmp 197), type := 4, pos := "keeps.go:355", after := #[{ on := 4, ground := Ground.data }, { on := 23, ground := Ground.data }], guard := none }) (v := ?_) rfl (by kernel_rfl) (by kernel_rfl) (by kernel_rfl) (fun _ _ _ h => h) (Or.inl ⟨by rfl, ?_⟩) (by assumption) ?_
                        rotate_left
                        · intro w hSw; go_simp; try (with_reducible rfl)
                        try simp only [Act.put, List.setIfInBounds_toArray, List.set_cons_zero, List.set_cons_succ]
                        refine wpAnyH_take (i := 25) (oi := { dst := some 12, op := Op.assign (Operand.tmp 198), type := 4, pos := "keeps.go:355", after := #[{ on := 24, ground := Ground.data }, { on := 20, ground := Ground.chain }, { on := 0, ground := Ground.phase }, { on := 1, ground := Ground.phase }, { on := 2, ground := Ground.phase }, { on := 3, ground := Ground.phase }, { on := 4, ground := Ground.phase }, { on := 5, ground := Ground.phase }, { on := 6, ground := Ground.phase }, { on := 7, ground := Ground.phase }, { on := 8, ground := Ground.phase }, { on := 9, ground := Ground.phase }, { on := 10, ground := Ground.phase }, { on := 11, ground := Ground.phase }, { on := 12, ground := Ground.phase }, { on := 13, ground := Ground.phase }, { on := 14, ground := Ground.phase }, { on := 15, ground := Ground.phase }, { on := 16, ground := Ground.phase }, { on := 17, ground := Ground.phase }, { on := 18, ground := Ground.phase }, { on := 19, ground := Ground.phase }, { on := 20, ground := Ground.phase }, { on := 21, ground := Ground.phase }, { on := 22, ground := Ground.phase }, { on := 23, ground := Ground.phase }, { on := 24, ground := Ground.phase }], guard := none }) (v := ?_) rfl (by kernel_rfl) (by kernel_rfl) (by kernel_rfl) (fun _ _ _ h => h) (Or.inl ⟨by rfl, ?_⟩) (by assumption) ?_
                        rotate_left
                        · intro w hSw; go_simp; try (with_reducible rfl)
                        try simp only [Act.put, List.setIfInBounds_toArray, List.set_cons_zero, List.set_cons_succ]
                        refine wpAnyH_done (by kernel_rfl) ?_ _
                        refine NoPanic.normal ?_
                        go_wp2_with fail
                        go_ret
                        exact ⟨by kernel_rfl, HD13.out.bel⟩
                      refine AllReadyH.cons (o := { dst := some 195, op := Op.convert 25 9 (Operand.tmp 194), type := 9, pos := "keeps.go:355", after := #[{ on := 20, ground := Ground.data }, { on := 15, ground := Ground.guard }], guard := some (15, true) }) rfl (fun KK hKK => ?_) AllReadyH.nil
                      go_simp
                      refine hKK.out _ _ trivial (fun hHeld' => ?_)
                      clear hKK KK
                      try simp only [Act.put, List.setIfInBounds_toArray, List.set_cons_zero, List.set_cons_succ]
                      refine wpAnyH_ready (rs := [18]) (by kernel_rfl) (by simp) ?_
                      refine AllReadyH.cons (o := { dst := some 192, op := Op.convert 25 9 (Operand.tmp 191), type := 9, pos := "keeps.go:355", after := #[{ on := 17, ground := Ground.data }, { on := 15, ground := Ground.guard }], guard := some (15, true) }) rfl (fun KK hKK => ?_) AllReadyH.nil
                      go_simp
                      refine hKK.out _ _ trivial (fun hHeld' => ?_)
                      clear hKK KK
                      try simp only [Act.put, List.setIfInBounds_toArray, List.set_cons_zero, List.set_cons_succ]
                      refine wpAnyH_take (i := 22) (oi := { dst := some 196, op := Op.binOp BinOp.eql 9 (Operand.tmp 192) (Operand.tmp 195) 9, type := 4, pos := "keeps.go:355", after := #[{ on := 18, ground := Ground.data }, { on := 21, ground := Ground.data }, { on := 15, ground := Ground.guard }], guard := some (15, true) }) (v := ?_) rfl (by kernel_rfl) (by kernel_rfl) (by kernel_rfl) (fun _ _ _ h => h) (Or.inl ⟨by rfl, ?_⟩) (by assumption) ?_
                      rotate_left
                      · intro w hSw; go_simp; try (with_reducible rfl)
                      try simp only [Act.put, List.setIfInBounds_toArray, List.set_cons_zero, List.set_cons_succ]
                      refine wpAnyH_take (i := 23) (oi := { dst := some 197, op := Op.pick (Operand.tmp 189) (Operand.tmp 196) (Operand.const (Value.bool false)), type := 4, pos := "keeps.go:355", after := #[{ on := 15, ground := Ground.data }, { on := 22, ground := Ground.data }, { on := 4, ground := Ground.guard }], guard := some (4, false) }) (v := ?_) rfl (by kernel_rfl) (by kernel_rfl) (by kernel_rfl) (fun _ _ _ h => h) (Or.inl ⟨by rfl, ?_⟩) (by assumption) ?_
                      rotate_left
                      · intro w hSw; go_simp; try (with_reducible rfl)
                      try simp only [Act.put, List.setIfInBounds_toArray, List.set_cons_zero, List.set_cons_succ]
                      refine wpAnyH_take (i := 24) (oi := { dst := some 198, op := Op.pick (Operand.tmp 178) (Operand.const (Value.bool true)) (Operand.tmp 197), type := 4, pos := "keeps.go:355", after := #[{ on := 4, ground := Ground.data }, { on := 23, ground := Ground.data }], guard := none }) (v := ?_) rfl (by kernel_rfl) (by kernel_rfl) (by kernel_rfl) (fun _ _ _ h => h) (Or.inl ⟨by rfl, ?_⟩) (by assumption) ?_
                      rotate_left
                      · intro w hSw; go_simp; try (with_reducible rfl)
                      try simp only [Act.put, List.setIfInBounds_toArray, List.set_cons_zero, List.set_cons_succ]
                      refine wpAnyH_take (i := 25) (oi := { dst := some 12, op := Op.assign (Operand.tmp 198), type := 4, pos := "keeps.go:355", after := #[{ on := 24, ground := Ground.data }, { on := 20, ground := Ground.chain }, { on := 0, ground := Ground.phase }, { on := 1, ground := Ground.phase }, { on := 2, ground := Ground.phase }, { on := 3, ground := Ground.phase }, { on := 4, ground := Ground.phase }, { on := 5, ground := Ground.phase }, { on := 6, ground := Ground.phase }, { on := 7, ground := Ground.phase }, { on := 8, ground := Ground.phase }, { on := 9, ground := Ground.phase }, { on := 10, ground := Ground.phase }, { on := 11, ground := Ground.phase }, { on := 12, ground := Ground.phase }, { on := 13, ground := Ground.phase }, { on := 14, ground := Ground.phase }, { on := 15, ground := Ground.phase }, { on := 16, ground := Ground.phase }, { on := 17, ground := Ground.phase }, { on := 18, ground := Ground.phase }, { on := 19, ground := Ground.phase }, { on := 20, ground := Ground.phase }, { on := 21, ground := Ground.phase }, { on := 22, ground := Ground.phase }, { on := 23, ground := Ground.phase }, { on := 24, ground := Ground.phase }], guard := none }) (v := ?_) rfl (by kernel_rfl) (by kernel_rfl) (by kernel_rfl) (fun _ _ _ h => h) (Or.inl ⟨by rfl, ?_⟩) (by assumption) ?_
                      rotate_left
                      · intro w hSw; go_simp; try (with_reducible rfl)
                      try simp only [Act.put, List.setIfInBounds_toArray, List.set_cons_zero, List.set_cons_succ]
                      refine wpAnyH_done (by kernel_rfl) ?_ _
                      refine NoPanic.normal ?_
                      go_wp2_with fail
                      go_ret
                      exact ⟨by kernel_rfl, HD13.out.bel⟩
end Go.Proofs.YtflenkppcclclaaGreatDoor

