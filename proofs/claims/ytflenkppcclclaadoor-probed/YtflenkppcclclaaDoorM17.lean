import Derived.Test.YtflenkppcclclaaDoorM16
import Derived.BigQuiet
import Derived.Test.YtflenkppcclclaaDoorM00
import Derived.Test.YtflenkppcclclaaDoorRows
import Derived.ProofKit
import Derived.LaidMore
import Derived.OpenShut
import Derived.Stop.Joined
import Derived.Deep.Strs
import Derived.Test.YtflenkppcclclaaDoorTie
import Derived.Test.YtflenkppcclclaaDoorCards
import Derived.ShutString
import Derived.ChangeOld
import Derived.Below
import Derived.SevenTiedAt
namespace Go.Proofs.YtflenkppcclclaaDoor
open Go.RowKit

theorem kprogram_any (w : World) (v : Value) (L : Nat) (c : Nat → Int) (hby : ∀ i, i < L → 0 ≤ c i ∧ c i ≤ 255) (C : Coded w v L c) (hT : Tab w) :
    Calls Tryd.prog 12 #[v] w fun e w' => Below w.heap.size w w' ∧ ∃ cb co L' cap c' N', VP c' L' N' ∧ Laid w' cb co L' cap c' ∧ e = .returned (.slice (some ⟨cb, co, none⟩) L' cap) := by
  go_enter Tryd.func12, Tryd.ntmps12
  go_wp2_with fail
  refine (xCheck_gen w v L c hby C hT).mono ?_
  rintro e w1 ⟨n, b, hC, rfl, B1⟩
  cases b with
  | true =>
    rcases hC with ⟨h, _⟩ | ⟨_, hL, N, F, _⟩
    · cases h
    · cases C with
      | bare p cap hv h0 => have := F.pos; omega
      | full cb co cap hv C =>
        subst hv
        have HC := C.below B1
        clear C
        go_wp2_with fail
        go_ret
        exact ⟨B1, cb, co, L, cap, c, N, F.vp hL, HC, rfl⟩
  | false =>
    clear hC
    go_wp2_with fail
    refine (example_any w1).mono ?_
    rintro e w2 ⟨rfl, hw2⟩
    have C2 := laidE w1
    rw [← hw2] at C2
    have B2 : Below w.heap.size w w2 := by rw [hw2]; exact B1.alloc B1.size _
    clear hw2
    go_wp2_with fail
    go_ret
    exact ⟨B2, _, _, _, _, _, _, vE, C2, rfl⟩

theorem qE : qOf (bgn cE 7) 10 = 18 := by kernel_rfl
theorem pcE : pc cE 7 10 0 = 20 ∧ pc cE 7 10 1 = 0 ∧ pc cE 7 10 7 = 15 ∧ pc cE 7 10 17 = 0 := by
  refine ⟨?_, ?_, ?_, ?_⟩ <;> kernel_rfl
theorem pfE : pf cE 7 10 0 = -1 ∧ pf cE 7 10 2 = 0 ∧ pf cE 7 10 17 = 9 := by
  refine ⟨?_, ?_, ?_⟩ <;> kernel_rfl

set_option maxHeartbeats 1000000 in
theorem kprobed_any (w : World) (hT : Tab w) : Calls Tryd.prog 11 #[] w fun e w' => e = .returned (.bool true) ∧ Below w.heap.size w w' := by
  go_enter Tryd.func11, Tryd.ntmps11
  go_wp2_with fail
  refine (ran_any w hT).mono ?_
  rintro e w1 ⟨rfl, B1⟩
  go_wp2_with fail
  refine (example_any w1).mono ?_
  rintro e w2 ⟨rfl, hw2⟩
  have C2 := laidE w1
  rw [← hw2] at C2
  have B2 : Below w.heap.size w w2 := by rw [hw2]; exact B1.alloc B1.size _
  clear hw2
  go_wp2_with fail
  refine (xProbe_any w2 _ _ _ _ _ _ vE C2 (hT.below B2)).mono ?_
  rintro e w3 ⟨base, W, vc, vf, hW, hR, rfl, B3⟩
  obtain ⟨g1, cap1, g2, cap2, rfl, rfl, T⟩ := hR.two hW vE.qPos
  rw [qE] at T ⊢
  have B23 := B2.trans (B3.mono B2.size)
  have hr1 := T.code.room
  have hr2 := T.code.room'
  have hr3 := T.room
  have a0 := T.code.cell 0 (by omega)
  have a1 := T.code.cell 1 (by omega)
  have a7 := T.code.cell 7 (by omega)
  have a17 := T.code.cell 17 (by omega)
  rw [pcE.1] at a0
  rw [pcE.2.1] at a1
  rw [pcE.2.2.1] at a7
  rw [pcE.2.2.2] at a17
  have d0 := T.from' 0 (by omega)
  have d2 := T.from' 2 (by omega)
  have d17 := T.from' 17 (by omega)
  rw [pfE.1] at d0
  rw [pfE.2.1] at d2
  rw [pfE.2.2] at d17
  simp only [Nat.zero_add] at a0 a1 a7 a17
  clear T hR
  go_wp2_with fail
  go_ret
  exact ⟨rfl, B23⟩

theorem q_strict (f : Nat → Bool) (p : Nat) : ∀ d, qOf f p + d ≤ qOf f (p + d)
  | 0 => Nat.le_refl _
  | d + 1 => by have := q_strict f p d; have := q_le_r f (p + d); rw [← Nat.add_assoc p d 1, q_succ]; omega
/-- Where the look through the places stands: at k, with a of them met. -/
def At3 (f : Nat → Bool) (L k a : Nat) : Prop := a ≤ L ∧ (k = qOf f a ∨ (a < L ∧ f a = true ∧ k = qOf f a + 1) ∨ (a < L ∧ k = rOf f a))
theorem pf_r (c : Nat → Int) (N : Nat) {p L : Nat} (h : p < L) : pf c N L (rOf (bgn c N) p) = (p : Int) := by unfold pf; rw [List.getD_eq_getElem?_getD, pfrom_r c N h]; rfl
theorem pf_q (c : Nat → Int) (N : Nat) {p L : Nat} (h : p < L) (hb : bgn c N p = true) : pf c N L (qOf (bgn c N) p) = -1 ∧ pf c N L (qOf (bgn c N) p + 1) = -1 := by
  obtain ⟨h1, h2⟩ := pfrom_q c N h hb
  unfold pf
  rw [List.getD_eq_getElem?_getD, List.getD_eq_getElem?_getD, h1, h2]
  exact ⟨rfl, rfl⟩
theorem at3_step {c : Nat → Int} {N L k a : Nat} (h : At3 (bgn c N) L k a) (hk : k < qOf (bgn c N) L) :
    (pf c N L k = -1 ∧ At3 (bgn c N) L (k + 1) a) ∨ (pf c N L k = (a : Int) ∧ At3 (bgn c N) L (k + 1) (a + 1)) := by
  obtain ⟨ha, rfl | ⟨h1, h2, rfl⟩ | ⟨h1, rfl⟩⟩ := h
  · have hlt : a < L := by
      rcases Nat.lt_or_ge a L with h | h
      · exact h
      · have : a = L := by omega
        subst this; omega
    cases hb : bgn c N a with
    | true => exact Or.inl ⟨(pf_q c N hlt hb).1, ha, Or.inr (Or.inl ⟨hlt, hb, rfl⟩)⟩
    | false =>
      right
      rw [← r_no hb]
      exact ⟨pf_r c N hlt, by omega, Or.inl (q_succ _ _).symm⟩
  · exact Or.inl ⟨(pf_q c N h1 h2).2, ha, Or.inr (Or.inr ⟨h1, by rw [r_yes h2]⟩)⟩
  · exact Or.inr ⟨pf_r c N h1, by omega, Or.inl (q_succ _ _).symm⟩
theorem at3_end {f : Nat → Bool} {L a : Nat} (h : At3 f L (qOf f L) a) : a = L := by
  obtain ⟨ha, h | ⟨h1, h2, h⟩ | ⟨h1, h⟩⟩ := h
  · have := q_strict f a (L - a)
    rw [show a + (L - a) = L by omega] at this
    omega
  · have := q_strict f (a + 1) (L - (a + 1))
    rw [show a + 1 + (L - (a + 1)) = L by omega, q_succ, r_yes h2] at this
    omega
  · have := q_strict f (a + 1) (L - (a + 1))
    rw [show a + 1 + (L - (a + 1)) = L by omega, q_succ] at this
    omega

theorem short_size' (s : ByteArray) : (if 24 < s.size then s.extract 0 24 else s).size ≤ 24 := by
  split
  · rw [Lib.size_eq, Lib.extract_data, List.length_take]; omega
  · omega

/-- A cover as a text. -/
def covS (cnt : Nat → Int) : ByteArray := strOfNums ((List.range 64).map fun i => classS (cnt i))
theorem conv_cov {w : World} {g : Nat} {cnt : Nat → Int} (hh : w.heap[g]? = some (.cells (covL cnt 64).toArray 5 (0, 0))) :
    (convert 25 9 (.slice (some ⟨g, 0, none⟩) 64 64)).run Tryd.prog w = .ok (.string (covS cnt)) w := by
  refine run_convert_bytes_arg w 25 5 Tryd.underlying25 Tryd.underlying5 g 0 64 64 ((List.range 64).map fun i => classS (cnt i)) (by simp) (fun i hi => ?_) 9 Tryd.underlying9
  have hi' : i < 64 := by simpa using hi
  rw [Nat.zero_add, cov_cell hh i hi']
  simp [List.getD, List.getElem?_range hi']

set_option maxRecDepth 100000 in
set_option maxHeartbeats 4000000 in
theorem probed_all (w : World) (v : Value) (L0 : Nat) (c0 : Nat → Int) (hby : ∀ i, i < L0 → 0 ≤ c0 i ∧ c0 i ≤ 255) (C0 : Coded w v L0 c0) (hT : Tab w) (input : ByteArray) (hin : input.size ≤ 9223372036854775807) (fuel : Int) (h1 : -9223372036854775808 ≤ fuel) (h2 : fuel ≤ 9223372036854775807) :
    Calls Tryd.prog 4 #[v, .string input, .int .i64 fuel] w fun e w' => e = .returned (.bool true) ∧ Below w.heap.size w w' := by
  go_enter Tryd.func4, Tryd.ntmps4
  go_wp2_with fail
  refine (kprobed_any w hT).mono ?_
  rintro e w1 ⟨rfl, B1⟩
  go_wp2_with fail
  refine (kprogram_any w1 v L0 c0 hby (C0.below B1) (hT.below B1)).mono ?_
  rintro e w2 ⟨B2, cb, co, L, cap, c, N, V, C, rfl⟩
  have B02 := B1.trans (B2.mono B1.size)
  have hs := short_size' input
  have hshort := short_any input hin w2
  generalize (if 24 < input.size then input.extract 0 24 else input) = s at hs hshort
  have HSH : Hid (Calls Tryd.prog 8 #[.string input, .int .i64 24] w2 fun e w' => e = .returned (.string s) ∧ w' = w2) := hshort
  clear hshort
  go_wp2_with fail
  refine HSH.out.mono ?_
  rintro e w' ⟨rfl, hw'⟩
  obtain rfl := hw'
  go_wp2_with fail
  refine (pick_any fuel 501 h1 h2 (by omega) (by omega) _).mono ?_
  rintro e w'' ⟨⟨f, rfl, hf0, hf1⟩, hw''⟩
  obtain rfl := hw''
  go_wp2_with fail
  refine (xProbe_any w'' cb co L cap N c V C (hT.below B02)).mono ?_
  rintro e w3 ⟨base, W, vc, vf, hW, hR, rfl, B3⟩
  obtain ⟨g1, cap1, g2, cap2, rfl, rfl, T⟩ := hR.two hW V.qPos
  have B03 := B02.trans (B3.mono B02.size)
  have hQ240 := V.pLen'
  have HQ : Hid (∀ k a, At3 (bgn c N) L k a → k < qOf (bgn c N) L → (w3.cell? ⟨g2, k, none⟩ = some (.int .i64 (-1)) ∧ At3 (bgn c N) L (k + 1) a) ∨ (w3.cell? ⟨g2, k, none⟩ = some (.int .i64 (a : Int)) ∧ At3 (bgn c N) L (k + 1) (a + 1))) := by
    intro k a h hk
    have hc := T.from' k hk
    rcases at3_step h hk with ⟨e, h⟩ | ⟨e, h⟩
    · exact Or.inl ⟨by rw [hc, e], h⟩
    · exact Or.inr ⟨by rw [hc, e], h⟩
  have HE : Hid (∀ a, At3 (bgn c N) L (qOf (bgn c N) L) a → a = L) := fun a h => at3_end h
  have H0 : Hid (At3 (bgn c N) L 0 0) := ⟨Nat.zero_le _, Or.inl rfl⟩
  have hLL : L ≤ 80 := V.most
  have HRUN : Hid (∀ (wa : World) (o : Obj), Below w3.heap.size w3 wa → wa.heap.size < 9223372036854775807 ∨ True → Calls Tryd.prog 10 #[.slice (some ⟨g1, 0, none⟩) (qOf (bgn c N) L) cap1, .string s, .int .i64 f] (wa.alloc o) (AnswerE (pc c N L) (pent (pc c N L) (nOf c N N)) s f (wa.alloc o))) := by
    intro wa o hB _
    have hB' : Below w3.heap.size w3 (wa.alloc o) := hB.alloc hB.size _
    refine (xRun_gen (wa.alloc o) _ _ (pc c N L) V.spP.byte (.full g1 0 cap1 rfl (T.code.below hB')) ((hT.below B03).below hB') s f).mono ?_
    rintro e w6 (⟨h, _⟩ | ⟨_, h, _⟩ | ⟨_, ent, hent, h⟩)
    · exact absurd h V.canP
    · unfold badArg at h; omega
    · rw [V.entsP hent] at h; exact h
  have hcap2 := T.room
  have hcap1 := T.code.room
  have hcap1' := T.code.room'
  have hroom := C.room
  have HPF : Hid (∀ m, m < N → w3.cell? ⟨g2, rOf (bgn c N) (pos c m), none⟩ = some (.int .i64 (pos c m : Int)) ∧ rOf (bgn c N) (pos c m) < qOf (bgn c N) L) := by
    intro m hm
    have hl := V.lt hm
    have hq : rOf (bgn c N) (pos c m) < qOf (bgn c N) L := by
      have := q_le (f := bgn c N) (hl : pos c m + 1 ≤ L)
      rw [q_succ] at this; omega
    exact ⟨by rw [T.from' _ hq, pf_r c N hl], hq⟩
  have hg2lt : g2 < w3.heap.size := T.lt
  have hg1lt : g1 < w3.heap.size := T.code.blk
  have HT3 : Hid (Tab w3) := hT.below B03
  have HC3 : Hid (Laid w3 cb co L cap c) := C.below B3
  have HV : Hid (VP c L N) := V
  clear T hR B1 B2 B02 HSH C V
  generalize hQ : qOf (bgn c N) L = Q at *
  go_wp2_with fail
  go_loopw [14, 15] (fun a i wr => ∃ k a' : Nat, k ≤ Q ∧ a = .int .i64 a' ∧ i = .int .i64 k ∧ At3 (bgn c N) L k a' ∧ wr = w3) (fun _ i _ => Q - (intOf i).toNat)
  case atStart => exact ⟨0, 0, by omega, rfl, rfl, H0.out, rfl⟩
  case round =>
    obtain ⟨k, a, hk, rfl, rfl, hat, hwr⟩ := hrel
    obtain rfl := hwr.symm
    have haL : a ≤ L := hat.1
    by_cases hlt : k < Q
    · have hi1 : (k : Int) < (Q : Int) := by omega
      have hi2 : (k : Int) < (cap2 : Int) := by omega
      rcases HQ.out k a hat hlt with ⟨hc, hn⟩ | ⟨hc, hn⟩
      · have HN : Hid (At3 (bgn c N) L (k + 1) a) := hn
        clear hat hn
        go_wp2_with fail
        go_roundw
        case rel => exact ⟨k + 1, a, by omega, rfl, by go_num, HN.out, by first | rfl | trivial⟩
        case measure => simp [intOf]; omega
      · have HN : Hid (At3 (bgn c N) L (k + 1) (a + 1)) := hn
        have hn0 : ¬ (a : Int) < 0 := by omega
        clear hat hn
        go_wp2_with fail
        go_roundw
        case rel => exact ⟨k + 1, a + 1, by omega, by go_num, by go_num, HN.out, by first | rfl | trivial⟩
        case measure => simp [intOf]; omega
    · have e : k = Q := by omega
      subst e
      obtain rfl := HE.out a hat
      clear hat HQ HE H0
      go_wp2_with fail
      refine (xRun_any w3 cb co a cap N c HV.out HC3.out HT3.out s f hs (by omega) (by omega)).mono ?_
      rintro e w4 ⟨n, τ, hτ, he, hn, B4, gk, hgk, hcov, rfl⟩
      have Hτ : Hid (τ = after c (entAt (bgn c N) a) f (ρ0 s) n ∧ τ.σ.ended = true ∧ ∀ m, m < n → (after c (entAt (bgn c N) a) f (ρ0 s) m).σ.ended = false) := ⟨hτ, he, hn⟩
      have HCOV : Hid (w4.heap[gk]? = some (.cells (covL τ.cnt 64).toArray 5 (0, 0))) := hcov
      clear hτ he hn hcov
      go_wp2_with fail
      refine (HRUN.out w4 _ B4 (Or.inr trivial)).mono ?_
      rintro e w6 ⟨n', τ', hτ', he', hn', B6, gm, hgm, hcov', rfl⟩
      obtain ⟨hτ, he, hn⟩ := Hτ.out
      have hcov := HCOV.out
      have tw := twin_end HV.out hs hf0 (by rw [← hτ]; exact he) hn (by rw [← hτ']; exact he') hn'
      rw [← hτ, ← hτ'] at tw
      obtain ⟨m, hm, hp, hp'⟩ := tw.place he
      have hcnt := tw.cnt
      rw [tw.kind, tw.fault, tw.out, tw.steps, hp']
      rw [hp] at B6
      obtain ⟨hcf, hrq⟩ := HPF.out m hm
      obtain ⟨r, hr⟩ : ∃ r, rOf (bgn c N) (pos c m) = r := ⟨_, rfl⟩
      obtain ⟨p, hpp⟩ : ∃ p, pos c m = p := ⟨_, rfl⟩
      rw [hpp] at B6 hr hcf hrq
      rw [hpp, hr]
      rw [hr] at hcf hrq
      generalize τ.σ.kind = kd at *
      generalize τ.σ.fault = fl at *
      generalize strOfNums τ.σ.out = so at *
      generalize τ.σ.steps = st at *
      have hsz4 := B4.size
      have hsz6 : w4.heap.size + 1 ≤ w6.heap.size := by have := B6.size; simp at this; omega
      have hb4 : ∀ j v, (#[Value.int .i64 kd, .int .i64 fl, .int .i64 (p : Int), .string so, .int .i64 st])[j]? = some v → w6.cell? ⟨w4.heap.size, j, none⟩ = some v := fun j v hv => by
        rw [B6.cell (p := ⟨w4.heap.size, j, none⟩) (by simp), World.cell?_alloc_new]; exact hv
      have a0 := hb4 0 _ rfl
      have a1 := hb4 1 _ rfl
      have a2 := hb4 2 _ rfl
      have a3 := hb4 3 _ rfl
      have a4 := hb4 4 _ rfl
      have hcf6 : w6.cell? ⟨g2, r, none⟩ = some (.int .i64 (p : Int)) := (B6.cell (p := ⟨g2, r, none⟩) (by simp; omega)).trans ((World.cell?_alloc_past _ _ _ (by show g2 < w4.heap.size; omega)).trans ((B4.cell (p := ⟨g2, r, none⟩) hg2lt).trans hcf))
      have B06 : Below w.heap.size w w6 := (B03.trans (B4.mono B03.size)).trans ((((Below.refl _ _).alloc (Nat.le_refl _) _).trans (B6.mono (by simp))).mono (by have := B03.size; omega))
      have hgkl : gk < w4.heap.size := (Array.getElem?_eq_some_iff.1 hcov).1
      have hgml : gm < w6.heap.size := (Array.getElem?_eq_some_iff.1 hcov').1
      have hk6 : w6.heap[gk]? = some (.cells (covL τ.cnt 64).toArray 5 (0, 0)) := (B6.block gk (by simp; omega)).trans ((Below.heap_alloc _ _ _ hgkl).trans hcov)
      have hm6 : w6.heap[gm]? = some (.cells (covL τ.cnt 64).toArray 5 (0, 0)) := by rw [← hcnt]; exact hcov'
      have hi3 : (r : Int) < (k : Int) := by omega
      have hi4 : ¬ (r : Int) < 0 := by omega
      have hi5 : ¬ (k : Int) ≤ (r : Int) := by omega
      have hg6 : g2 < w6.heap.size := by omega
      have hA6 : w4.heap.size < w6.heap.size := by omega
      have HK6 : Hid (w6.heap[gk]? = some (.cells (covL τ.cnt 64).toArray 5 (0, 0))) := hk6
      have HM6 : Hid (w6.heap[gm]? = some (.cells (covL τ.cnt 64).toArray 5 (0, 0))) := hm6
      clear hk6 hm6 hcov hcov' hcnt tw hb4 B6 B4 hτ hτ' hn hn' he he' HRUN HPF hcf hp hp' HC3 HT3
      go_wp2_with fail
      go_quiet (fail)
      have cv1 := conv_cov (w := ((w6.alloc (.cells #[.int .i64 kd, .int .i64 fl, .int .i64 (r : Int), .string so, .int .i64 st] 27)).drewN nq).setCell ⟨w6.heap.size, 2, none⟩ (.int .i64 (p : Int))) (g := gk) (cnt := τ.cnt) ((heap_setCell_other _ ⟨w6.heap.size, 2, none⟩ _ _ (by show gk ≠ w6.heap.size; omega)).trans ((Below.heap_alloc w6 _ _ (by omega)).trans HK6.out))
      have cv2 := conv_cov (w := ((w6.alloc (.cells #[.int .i64 kd, .int .i64 fl, .int .i64 (r : Int), .string so, .int .i64 st] 27)).drewN nq).setCell ⟨w6.heap.size, 2, none⟩ (.int .i64 (p : Int))) (g := gm) (cnt := τ.cnt) ((heap_setCell_other _ ⟨w6.heap.size, 2, none⟩ _ _ (by show gm ≠ w6.heap.size; omega)).trans ((Below.heap_alloc w6 _ _ hgml).trans HM6.out))
      generalize covS τ.cnt = sc at cv1 cv2
      clear HK6 HM6
      go_wp2_with fail
      go_ret
      refine ⟨by simp, ?_⟩
      have B07 : Below w.heap.size w (w6.alloc (.cells #[.int .i64 kd, .int .i64 fl, .int .i64 (r : Int), .string so, .int .i64 st] 27)) := B06.alloc B06.size _
      exact (show Below w.heap.size w ((w6.alloc (.cells #[.int .i64 kd, .int .i64 fl, .int .i64 (r : Int), .string so, .int .i64 st] 27)).drewN nq) from ⟨B07.os, B07.tape, B07.output, B07.size, B07.block⟩).setCell (p := ⟨w6.heap.size, 2, none⟩) (by show w.heap.size ≤ w6.heap.size; exact B06.size) _
end Go.Proofs.YtflenkppcclclaaDoor

namespace Go.Proofs.YtflenkppcclclaaDoor
open Go.ChangeShapes Go.WideShapes Go.ChangeAt Go.WideMaps Go.WideElems Go.RowKit Go.Deep

theorem gShapes : (Rows.echoedRow.named.head?.bind fun s => Tryd.prog.globalNamed s) = some 0 := by kernel_rfl
theorem tShapes : (Tryd.prog.globals[0]?).map (·.type) = some 95 := by kernel_rfl
theorem Tryd.cellsInt : Tryd.prog.cellsOf 3 = 1 := by kernel_rfl
theorem Tryd.cellsShape : Tryd.prog.cellsOf 75 = 3 := by kernel_rfl

theorem one_of {cs : List Value} {r : Nat} {v : Value} (h : (cs.drop r).take 1 = [v]) : cs[r]? = some v := by
  have : ((cs.drop r).take 1)[0]? = some v := by rw [h]; rfl
  rw [List.getElem?_take, if_pos (by omega), List.getElem?_drop, Nat.add_zero] at this
  exact this

theorem shape_cells {H : Type} {enc : TypeId × Value → H} {W : World} {base : Nat} {spare : Nat → Bool} {held : Bool} {m : Nat} {cs : List Value} {x : DataW H × List MemPlace} {a b c : Int}
    (h : DataW.trod enc Tryd.prog W base spare held m 75 cs = some x) (hx : x.1 = .agg [.lit (.int .i64 a), .lit (.int .i64 b), .lit (.int .i64 c)]) :
    cs[0]? = some (.int .i64 a) ∧ cs[1]? = some (.int .i64 b) ∧ cs[2]? = some (.int .i64 c) := by
  obtain ⟨y0, y1, y2, n, rfl, hlen, e0, e1, e2⟩ := trod_struct3 Tryd.underlying75 h
  simp only [Tryd.cellsInt] at e0 e1 e2
  obtain ⟨k0, c0, d0, _⟩ := DataW.trod_int Tryd.underlying3 e0
  obtain ⟨k1, c1, d1, _⟩ := DataW.trod_int Tryd.underlying3 e1
  obtain ⟨k2, c2, d2, _⟩ := DataW.trod_int Tryd.underlying3 e2
  rw [d0, d1, d2] at hx
  simp only [DataW.agg.injEq, List.cons.injEq, DataW.lit.injEq, Lit.int.injEq, and_true, true_and] at hx
  obtain ⟨rfl, rfl, rfl⟩ := hx
  exact ⟨one_of c0, one_of c1, one_of c2⟩

/-- The condition gives the table, cell by cell. -/
theorem tab_of_laid {W : World} (h : laidMetH Tryd.prog Rows.echoedRow.laid W) : Tab W := by
  rw [MakeChecks.laidMetH_plain _ _ _ (by kernel_rfl)] at h
  obtain ⟨ps, ⟨g0, t0, cs0, f0, p0, q0, hg0, ht0, hv0, hd0, _⟩, _, _⟩ := h
  obtain rfl := Option.some.inj (gShapes.symm.trans hg0)
  obtain rfl := Option.some.inj (tShapes.symm.trans ht0)
  obtain ⟨xs, m1, rfl, hx, hlen, hn, hel⟩ := DataW.trod_array Tryd.underlying95 hd0
  simp only [Prod.mk.injEq] at hx
  have hcell := fun j => World.var?_cell hg0 hv0 j
  intro k hk
  obtain ⟨i, r, hr, rfl⟩ : ∃ i r, r < 3 ∧ k = i * 3 + r := ⟨k / 3, k % 3, by omega, by omega⟩
  have hi : i < 21 := by omega
  have hxi : (xs.map (·.1))[i]? = some (.agg [.lit (.int .i64 (shp (i * 3))), .lit (.int .i64 (shp (i * 3 + 1))), .lit (.int .i64 (shp (i * 3 + 2)))]) := by
    have e : (DataW.agg (xs.map (·.1)) : DataW Unit) = Rows.laid_prowl_program_shapes := hx.1.symm
    unfold Rows.laid_prowl_program_shapes at e
    simp only [DataW.agg.injEq] at e
    rw [e]
    match i, hi with
    | 0, _ | 1, _ | 2, _ | 3, _ | 4, _ | 5, _ | 6, _ | 7, _ | 8, _ | 9, _ | 10, _ | 11, _ | 12, _ | 13, _ | 14, _ | 15, _ | 16, _ | 17, _ | 18, _ | 19, _ | 20, _ => rfl
    | i + 21, hi => omega
  rw [List.getElem?_map, Option.map_eq_some_iff] at hxi
  obtain ⟨x, hx1, hx2⟩ := hxi
  have he := hel i hi
  rw [hx1, Tryd.cellsShape] at he
  obtain ⟨a0, a1, a2⟩ := shape_cells he hx2
  have hc : ∀ r, r < 3 → ∀ v, ((cs0.toList.drop (i * 3)).take 3)[r]? = some v → W.cell? ⟨0, i * 3 + r, none⟩ = some v := by
    intro r hr v hv
    rw [List.getElem?_take, if_pos hr, List.getElem?_drop] at hv
    rw [hcell]
    simpa using hv
  match r, hr with
  | 0, _ => exact hc 0 (by omega) _ a0
  | 1, _ => exact hc 1 (by omega) _ a1
  | 2, _ => exact hc 2 (by omega) _ a2
  | r + 3, hr => omega
end Go.Proofs.YtflenkppcclclaaDoor

namespace Go.Proofs.YtflenkppcclclaaDoor
open Go.ChangeShapes Go.WideShapes Go.ChangeAt Go.RowKit
open Go.ChangeMaps (open_string shut_string)

theorem Tryd.own : ownKnob Tryd.prog.godebug = none := by kernel_rfl
theorem Tryd.cellsU8 : Tryd.prog.cellsOf 5 = 1 := by kernel_rfl
theorem int_bounds {x : Int} (h : (Lit.int .i64 x).wf = true) : -9223372036854775808 ≤ x ∧ x ≤ 9223372036854775807 := by
  simp [Lit.wf, IntKind.min, IntKind.max, IntKind.signed, IntKind.bits] at h
  exact ⟨by omega, by omega⟩

/-- Bytes that came in, read again behind a call that has left them alone. -/
theorem bytes_again {H : Type} {enc : TypeId × Value → H} {W W' : World} {a : Addr} {len cap : Nat} {zs : List Int} (hl : len ≤ cap) (hm : cap ≤ maxLen) (hz : zs.length = cap)
    (hcell : ∀ i, i < zs.length → W.cell? (a.add i) = some (.int .u8 (zs.getD i 0))) (hwz : ∀ n ∈ zs, (Lit.int .u8 n).wf = true) (bel : Below W.heap.size W W') :
    DataW.Trod enc Tryd.prog W' 0 (fun b => decide (b < W.heap.size)) true 25 (.slice (some a) len cap) (.slice (lits .u8 (zs.take len)) (lits .u8 (zs.drop len))) (MemPlace.row a zs.length) := by
  by_cases h0 : zs.length = 0
  · have hc0 : cap = 0 := by omega
    have hl0 : len = 0 := by omega
    subst hc0 hl0
    have t0 := shut_ints (enc := enc) (w := W') (base := 0) (spare := fun b => decide (b < W.heap.size)) (held := true) (a := a) (len := 0) (cap := 0) (zs := zs) 0 Tryd.underlying25 Tryd.underlying5 Tryd.cellsU8 (Nat.zero_le _) (Nat.le_refl _) hm (by simp [h0]) (fun i hi => by omega) hwz
    exact ⟨2, by simpa [Value.cells] using t0⟩
  · have hb : a.block < W.heap.size := block_lt_of_cell (hcell 0 (by omega))
    have t0 := shut_ints (enc := enc) (w := W') (base := 0) (spare := fun b => decide (b < W.heap.size)) (held := true) (a := a) (len := len) (cap := cap) (zs := zs) 0 Tryd.underlying25 Tryd.underlying5 Tryd.cellsU8 (Nat.zero_le _) hl hm (by simp [hb, hz]) (fun i hi => (bel.cell (p := a.add i) (block_lt_of_cell (hcell i hi))).trans (hcell i hi)) hwz
    exact ⟨2, by simpa [Value.cells] using t0⟩
/-- Bytes that came in, as the walk takes them. -/
theorem bytes_coded {W : World} {a : Addr} {len cap : Nat} {zs : List Int} (hl : len ≤ cap) (hm : cap ≤ maxLen) (hz : zs.length = cap)
    (hcell : ∀ i, i < zs.length → W.cell? (a.add i) = some (.int .u8 (zs.getD i 0))) (hwz : ∀ n ∈ zs, (Lit.int .u8 n).wf = true) :
    Coded W (.slice (some a) len cap) len (fun i => zs.getD i 0) ∧ ∀ i, i < len → 0 ≤ zs.getD i 0 ∧ zs.getD i 0 ≤ 255 := by
  constructor
  · by_cases h0 : len = 0
    · subst h0; exact .bare (some a) cap rfl rfl
    · obtain ⟨b, off, spot⟩ := a
      have hspot : spot = none := by simpa [Addr.add] using World.cell?_spot (hcell 0 (by omega))
      subst hspot
      exact .full b off cap rfl ⟨fun i hi => by rw [← add_plain]; exact hcell i (by omega), hl, hm, by omega⟩
  · intro i hi
    have := range_u8 hwz i
    rw [List.getD_eq_getElem?_getD]
    exact this

/-- The door's own heap meets the condition. -/
theorem door_met (os : Os) (args : Array Value) : laidMetH Tryd.prog Rows.probedRow.laid ((World.doorLaid Tryd.prog 400 os).forCall (fun _ _ => 0) ⟨#[], args, []⟩).memory :=
  laidMetH_of_parts3 (fuel := 8) (laidMet_of_run' 8 (by kernel_rfl) (by kernel_rfl)) (by kernel_rfl) (by kernel_rfl)

set_option maxRecDepth 100000 in
theorem probed_lifted (os : Os) (started : os.Started) (H : Type) (enc : TypeId × Value → H) :
    ReturnsInHanded {} Tryd.checked os 4 .any (fun w args => (Rows.probedSpec.pre enc Tryd.prog Tryd.f4 [] false w args ∧ laidMetH Tryd.prog Rows.probedRow.laid w) ∧ sizedMet enc Tryd.prog Tryd.f4 (OpenSpec.ofChange Rows.probedSpec) false w args)
      (Rows.probedSpec.post enc Tryd.prog Tryd.f4 false true false false) := by
  refine returnsInHanded_of_change_and (C := Tryd.checked) (X := fun w _ => laidMetH Tryd.prog Rows.probedRow.laid w) (fun _ _ _ hh h => h.of_heap hh) Tryd.own started (by kernel_rfl) Tryd.func4
    (ChangeSpec.witness_shaped (enc := enc) (C := Tryd.checked) (os := os) (X := fun w _ => laidMetH Tryd.prog Rows.probedRow.laid w) false (World.doorLaid Tryd.prog 400 os) #[.slice none 0 0, .string ByteArray.empty, .int .i64 0] 8 rfl (World.shaped_of_RefB (by kernel_rfl) (by kernel_rfl)) (by kernel_rfl) (by kernel_rfl) (by kernel_rfl) (door_met os _)) ?_
  intro W base args ds gs before hval0 hW _ _ hL _
  have hval : ∀ (j : Nat) t v, Tryd.f4.params[j]? = some t → args[j]? = some v → Value.okWide Tryd.prog W .any base t v := hval0
  have hW' := hW
  obtain ⟨p, q, hA0, hV, rfl, hfz, hnd⟩ := hW
  have hA : DataW.TrodAll enc Tryd.prog W 0 (fun _ => true) true Tryd.f4.params.toList args.toList ds p := hA0
  rw [Tryd.params4] at hA hval
  obtain ⟨v0, v1, v2, d0, d1, d2, p0, p1, p2, rfl, rfl, rfl, h0, h1, h2⟩ := trodAll_three hA
  obtain ⟨rfl, rfl⟩ := trodVars_none hV
  obtain ⟨a1, rfl, rfl, rfl, w1⟩ := open_string Tryd.underlying9 (hval 1 9 v1 rfl rfl) h1
  obtain ⟨a2, rfl, rfl, rfl, w2⟩ := open_int Tryd.underlying3 (hval 2 3 v2 rfl rfl) h2
  obtain ⟨a0, len, cap, rfl⟩ := okWide_slice Tryd.underlying25 (hval 0 25 v0 rfl rfl)
  obtain ⟨fuel, hf⟩ := h0
  clear hA0 hval0
  have hb := int_bounds w2
  have w1' : a1.size ≤ 9223372036854775807 := by unfold maxLen at w1; omega
  rcases open_ints Tryd.underlying25 Tryd.underlying5 Tryd.cellsU8 hf with ⟨hcs, hx⟩ | ⟨a, len', cap', zs, hcs, _, hl, hm, hz, hx, hcell, hwz⟩
  · simp [Value.cells] at hcs
    obtain ⟨rfl, rfl, rfl⟩ := hcs
    simp only [Prod.mk.injEq] at hx
    obtain ⟨rfl, rfl⟩ := hx
    refine (probed_all W (.slice none 0 0) 0 (fun _ => 0) (fun _ h => by omega) (.bare none 0 rfl rfl) (tab_of_laid hL) a1 w1' a2 hb.1 hb.2).mono fun e W' ⟨he, bel⟩ => ?_
    subst he
    exact ⟨_, rfl, _, _, _, [], _, [], hW', trodAll_mk1 (shut_bool Tryd.underlying4 _), trodAll_mk3 (shut_slice_nil Tryd.underlying25) (shut_string Tryd.underlying9 w1) (shut_int Tryd.underlying3 w2), rfl, bel.frame _, fun h => by cases h⟩
  · simp [Value.cells] at hcs
    obtain ⟨rfl, rfl, rfl⟩ := hcs
    simp only [Prod.mk.injEq] at hx
    obtain ⟨rfl, rfl⟩ := hx
    simp only [if_true] at hz
    obtain ⟨C, hby⟩ := bytes_coded hl hm hz hcell hwz
    refine (probed_all W _ len (fun i => zs.getD i 0) hby C (tab_of_laid hL) a1 w1' a2 hb.1 hb.2).mono fun e W' ⟨he, bel⟩ => ?_
    subst he
    exact ⟨_, rfl, _, _, _, [], _, [], hW', trodAll_mk1 (shut_bool Tryd.underlying4 _), trodAll_mk3 (bytes_again hl hm hz hcell hwz bel) (shut_string Tryd.underlying9 w1) (shut_int Tryd.underlying3 w2), rfl, bel.frame _, fun h => by cases h⟩

theorem probed_over : Rows.ProbedSaid :=
  OpenClaim.holds_of_wide 4 Tryd.f4 rfl rfl rfl rfl rfl rfl rfl ⟨rfl, rfl, rfl, rfl, rfl⟩ rfl rfl rfl rfl rfl (by kernel_rfl) Tryd.func4 (by kernel_rfl)
    (of_decide_eq_true (by kernel_rfl)) (by unfold Func.isWrapper; first | (rw [if_pos (by decide +kernel)]; kernel_rfl) | (rw [if_neg (by decide +kernel)]; exact ⟨rfl, rfl⟩))
    (fun os started H enc _ => probed_lifted os started H enc)

theorem probed_holds : Rows.ProbedCardSaid :=
  Claim7.holds_tied_plain_at .later [] [.data] true Rows.probedCard.stood.harness false
    probed_over (fun _ h => by cases h) (by kernel_rfl) (fun _ h => by cases h) probed_row_tie rfl ⟨rfl, rfl⟩ (by kernel_rfl) rfl
    (fun f fn hf hfn => by
      obtain rfl : f = 4 := Option.some.inj ((show Tryd.prog.funcNamed Rows.probedRow.func = some 4 by kernel_rfl).symm.trans hf) |>.symm
      obtain rfl : fn = Tryd.f4 := (Option.some.inj (Tryd.func4.symm.trans hfn)).symm
      exact ⟨by kernel_rfl, fun j t ht => by
        rw [Tryd.params4] at ht
        have hm : t ∈ [25, 9, 3] := by simpa using Array.mem_of_getElem? ht
        have hall : ([25, 9, 3].all fun u => !Tryd.prog.wantsStandIn u) = true := by kernel_rfl
        exact (show Tryd.prog.wantsStandIn t = false by simpa using List.all_eq_true.1 hall t hm)⟩)
    (by kernel_rfl)
#print axioms probed_holds
end Go.Proofs.YtflenkppcclclaaDoor

