import Derived.Test.YtflenkppcclclaaDoorM23
import Derived.Test.YtflenkppcclclaaDoorM05
import Derived.Test.YtflenkppcclclaaDoorM06
namespace Go.Proofs.YtflenkppcclclaaDoor
open Go.RowKit

theorem q_strict (f : Nat → Bool) (p : Nat) : ∀ d, qOf f p + d ≤ qOf f (p + d)
  | 0 => Nat.le_refl _
  | d + 1 => by have := q_strict f p d; have := q_le_r f (p + d); rw [← Nat.add_assoc p d 1, q_succ]; omega
/-- Where the look through the places stands: at k, with a of them met. -/
def At3 (f : Nat → Bool) (L k a : Nat) : Prop := a ≤ L ∧ (k = qOf f a ∨ (a < L ∧ f a = true ∧ k = qOf f a + 1) ∨ (a < L ∧ k = rOf f a))
theorem pf_r (c : Nat → Int) (N : Nat) {p L : Nat} (h : p < L) : pf c N L (rOf (bgn c N) p) = (p : Int) := by unfold pf; rw [List.getD_eq_getElem?_getD, pfrom_r c N h]; rfl
theorem pf_q (c : Nat → Int) (N : Nat) {p L : Nat} (h : p < L) (hb : bgn c N p = true) : pf c N L (qOf (bgn c N) p) = -1 ∧ pf c N L (qOf (bgn c N) p + 1) = -1 := by
  obtain ⟨h1, h2⟩ := pfrom_q c N h hb
  unfold pf
  rw [List.getD_eq_getElem?_getD, List.getD_eq_getElem?_getD, h1, h2]
  exact ⟨rfl, rfl⟩
theorem at3_step {c : Nat → Int} {N L k a : Nat} (h : At3 (bgn c N) L k a) (hk : k < qOf (bgn c N) L) :
    (pf c N L k = -1 ∧ At3 (bgn c N) L (k + 1) a) ∨ (pf c N L k = (a : Int) ∧ At3 (bgn c N) L (k + 1) (a + 1)) := by
  obtain ⟨ha, rfl | ⟨h1, h2, rfl⟩ | ⟨h1, rfl⟩⟩ := h
  · have hlt : a < L := by
      rcases Nat.lt_or_ge a L with h | h
      · exact h
      · have : a = L := by omega
        subst this; omega
    cases hb : bgn c N a with
    | true => exact Or.inl ⟨(pf_q c N hlt hb).1, ha, Or.inr (Or.inl ⟨hlt, hb, rfl⟩)⟩
    | false =>
      right
      rw [← r_no hb]
      exact ⟨pf_r c N hlt, by omega, Or.inl (q_succ _ _).symm⟩
  · exact Or.inl ⟨(pf_q c N h1 h2).2, ha, Or.inr (Or.inr ⟨h1, by rw [r_yes h2]⟩)⟩
  · exact Or.inr ⟨pf_r c N h1, by omega, Or.inl (q_succ _ _).symm⟩
theorem at3_end {f : Nat → Bool} {L a : Nat} (h : At3 f L (qOf f L) a) : a = L := by
  obtain ⟨ha, h | ⟨h1, h2, h⟩ | ⟨h1, h⟩⟩ := h
  · have := q_strict f a (L - a)
    rw [show a + (L - a) = L by omega] at this
    omega
  · have := q_strict f (a + 1) (L - (a + 1))
    rw [show a + 1 + (L - (a + 1)) = L by omega, q_succ, r_yes h2] at this
    omega
  · have := q_strict f (a + 1) (L - (a + 1))
    rw [show a + 1 + (L - (a + 1)) = L by omega, q_succ] at this
    omega

set_option maxRecDepth 100000 in
set_option maxHeartbeats 4000000 in
theorem probed_all (w : World) (v : Value) (L0 : Nat) (c0 : Nat → Int) (hby : ∀ i, i < L0 → 0 ≤ c0 i ∧ c0 i ≤ 255) (C0 : Coded w v L0 c0) (hT : Tab w) (input : ByteArray) (hin : input.size ≤ 9223372036854775807) (fuel : Int) (h1 : -9223372036854775808 ≤ fuel) (h2 : fuel ≤ 9223372036854775807) :
    Calls Tryd.prog 4 #[v, .string input, .int .i64 fuel] w fun e w' => e = .returned (.bool true) ∧ Below w.heap.size w w' := by
  go_enter Tryd.func4, Tryd.ntmps4
  go_wp2_with fail
  refine (kprobed_any w hT).mono ?_
  rintro e w1 ⟨rfl, B1⟩
  go_wp2_with fail
  refine (kprogram_any w1 v L0 c0 hby (C0.below B1) (hT.below B1)).mono ?_
  rintro e w2 ⟨B2, cb, co, L, cap, c, N, V, C, rfl⟩
  have B02 := B1.trans (B2.mono B1.size)
  have hs := short_size' input
  have hshort := short_any input hin w2
  generalize (if 24 < input.size then input.extract 0 24 else input) = s at hs hshort
  have HSH : Hid (Calls Tryd.prog 8 #[.string input, .int .i64 24] w2 fun e w' => e = .returned (.string s) ∧ w' = w2) := hshort
  clear hshort
  go_wp2_with fail
  refine HSH.out.mono ?_
  rintro e w' ⟨rfl, hw'⟩
  obtain rfl := hw'
  go_wp2_with fail
  refine (pick_any fuel 501 h1 h2 (by omega) (by omega) _).mono ?_
  rintro e w'' ⟨⟨f, rfl, hf0, hf1⟩, hw''⟩
  obtain rfl := hw''
  go_wp2_with fail
  refine (xProbe_any w'' cb co L cap N c V C (hT.below B02)).mono ?_
  rintro e w3 ⟨base, W, vc, vf, hW, hR, rfl, B3⟩
  obtain ⟨g1, cap1, g2, cap2, rfl, rfl, T⟩ := hR.two hW V.qPos
  have B03 := B02.trans (B3.mono B02.size)
  have hQ240 := V.pLen'
  have HQ : Hid (∀ k a, At3 (bgn c N) L k a → k < qOf (bgn c N) L → (w3.cell? ⟨g2, k, none⟩ = some (.int .i64 (-1)) ∧ At3 (bgn c N) L (k + 1) a) ∨ (w3.cell? ⟨g2, k, none⟩ = some (.int .i64 (a : Int)) ∧ At3 (bgn c N) L (k + 1) (a + 1))) := by
    intro k a h hk
    have hc := T.from' k hk
    rcases at3_step h hk with ⟨e, h⟩ | ⟨e, h⟩
    · exact Or.inl ⟨by rw [hc, e], h⟩
    · exact Or.inr ⟨by rw [hc, e], h⟩
  have HE : Hid (∀ a, At3 (bgn c N) L (qOf (bgn c N) L) a → a = L) := fun a h => at3_end h
  have H0 : Hid (At3 (bgn c N) L 0 0) := ⟨Nat.zero_le _, Or.inl rfl⟩
  have hLL : L ≤ 80 := V.most
  have HRUN : Hid (∀ (wa : World) (o : Obj), Below w3.heap.size w3 wa → wa.heap.size < 9223372036854775807 ∨ True → Calls Tryd.prog 10 #[.slice (some ⟨g1, 0, none⟩) (qOf (bgn c N) L) cap1, .string s, .int .i64 f] (wa.alloc o) (AnswerE (pc c N L) (pent (pc c N L) (nOf c N N)) s f (wa.alloc o))) := by
    intro wa o hB _
    have hB' : Below w3.heap.size w3 (wa.alloc o) := hB.alloc hB.size _
    refine (xRun_gen (wa.alloc o) _ _ (pc c N L) V.spP.byte (.full g1 0 cap1 rfl (T.code.below hB')) ((hT.below B03).below hB') s f).mono ?_
    rintro e w6 (⟨h, _⟩ | ⟨_, h, _⟩ | ⟨_, ent, hent, h⟩)
    · exact absurd h V.canP
    · unfold badArg at h; omega
    · rw [V.entsP hent] at h; exact h
  have hcap2 := T.room
  have hcap1 := T.code.room
  have hcap1' := T.code.room'
  have hroom := C.room
  have HPF : Hid (∀ m, m < N → w3.cell? ⟨g2, rOf (bgn c N) (pos c m), none⟩ = some (.int .i64 (pos c m : Int)) ∧ rOf (bgn c N) (pos c m) < qOf (bgn c N) L) := by
    intro m hm
    have hl := V.lt hm
    have hq : rOf (bgn c N) (pos c m) < qOf (bgn c N) L := by
      have := q_le (f := bgn c N) (hl : pos c m + 1 ≤ L)
      rw [q_succ] at this; omega
    exact ⟨by rw [T.from' _ hq, pf_r c N hl], hq⟩
  have hg2lt : g2 < w3.heap.size := T.lt
  have hg1lt : g1 < w3.heap.size := T.code.blk
  have HT3 : Hid (Tab w3) := hT.below B03
  have HC3 : Hid (Laid w3 cb co L cap c) := C.below B3
  have HV : Hid (VP c L N) := V
  clear T hR B1 B2 B02 HSH C V
  generalize hQ : qOf (bgn c N) L = Q at *
  go_wp2_with fail
  go_loopw [14, 15] (fun a i wr => ∃ k a' : Nat, k ≤ Q ∧ a = .int .i64 a' ∧ i = .int .i64 k ∧ At3 (bgn c N) L k a' ∧ wr = w3) (fun _ i _ => Q - (intOf i).toNat)
  case atStart => exact ⟨0, 0, by omega, rfl, rfl, H0.out, rfl⟩
  case round =>
    obtain ⟨k, a, hk, rfl, rfl, hat, hwr⟩ := hrel
    obtain rfl := hwr.symm
    have haL : a ≤ L := hat.1
    by_cases hlt : k < Q
    · have hi1 : (k : Int) < (Q : Int) := by omega
      have hi2 : (k : Int) < (cap2 : Int) := by omega
      rcases HQ.out k a hat hlt with ⟨hc, hn⟩ | ⟨hc, hn⟩
      · have HN : Hid (At3 (bgn c N) L (k + 1) a) := hn
        clear hat hn
        go_wp2_with fail
        go_roundw
        case rel => exact ⟨k + 1, a, by omega, rfl, by go_num, HN.out, by first | rfl | trivial⟩
        case measure => simp [intOf]; omega
      · have HN : Hid (At3 (bgn c N) L (k + 1) (a + 1)) := hn
        have hn0 : ¬ (a : Int) < 0 := by omega
        clear hat hn
        go_wp2_with fail
        go_roundw
        case rel => exact ⟨k + 1, a + 1, by omega, by go_num, by go_num, HN.out, by first | rfl | trivial⟩
        case measure => simp [intOf]; omega
    · have e : k = Q := by omega
      subst e
      obtain rfl := HE.out a hat
      clear hat HQ HE H0
      go_wp2_with fail
      refine (xRun_any w3 cb co a cap N c HV.out HC3.out HT3.out s f hs (by omega) (by omega)).mono ?_
      rintro e w4 ⟨n, τ, hτ, he, hn, B4, gk, hgk, hcov, rfl⟩
      have Hτ : Hid (τ = after c (entAt (bgn c N) a) f (ρ0 s) n ∧ τ.σ.ended = true ∧ ∀ m, m < n → (after c (entAt (bgn c N) a) f (ρ0 s) m).σ.ended = false) := ⟨hτ, he, hn⟩
      have HCOV : Hid (w4.heap[gk]? = some (.cells (covL τ.cnt 64).toArray 5 (0, 0))) := hcov
      clear hτ he hn hcov
      go_wp2_with fail
      refine (HRUN.out w4 _ B4 (Or.inr trivial)).mono ?_
      rintro e w6 ⟨n', τ', hτ', he', hn', B6, gm, hgm, hcov', rfl⟩
      obtain ⟨hτ, he, hn⟩ := Hτ.out
      have hcov := HCOV.out
      have tw := twin_end HV.out hs hf0 (by rw [← hτ]; exact he) hn (by rw [← hτ']; exact he') hn'
      rw [← hτ, ← hτ'] at tw
      obtain ⟨m, hm, hp, hp'⟩ := tw.place he
      have hcnt := tw.cnt
      rw [tw.kind, tw.fault, tw.out, tw.steps, hp']
      rw [hp] at B6
      obtain ⟨hcf, hrq⟩ := HPF.out m hm
      obtain ⟨r, hr⟩ : ∃ r, rOf (bgn c N) (pos c m) = r := ⟨_, rfl⟩
      obtain ⟨p, hpp⟩ : ∃ p, pos c m = p := ⟨_, rfl⟩
      rw [hpp] at B6 hr hcf hrq
      rw [hpp, hr]
      rw [hr] at hcf hrq
      generalize τ.σ.kind = kd at *
      generalize τ.σ.fault = fl at *
      generalize strOfNums τ.σ.out = so at *
      generalize τ.σ.steps = st at *
      have hsz4 := B4.size
      have hsz6 : w4.heap.size + 1 ≤ w6.heap.size := by have := B6.size; simp at this; omega
      have hb4 : ∀ j v, (#[Value.int .i64 kd, .int .i64 fl, .int .i64 (p : Int), .string so, .int .i64 st])[j]? = some v → w6.cell? ⟨w4.heap.size, j, none⟩ = some v := fun j v hv => by
        rw [B6.cell (p := ⟨w4.heap.size, j, none⟩) (by simp), World.cell?_alloc_new]; exact hv
      have a0 := hb4 0 _ rfl
      have a1 := hb4 1 _ rfl
      have a2 := hb4 2 _ rfl
      have a3 := hb4 3 _ rfl
      have a4 := hb4 4 _ rfl
      have hcf6 : w6.cell? ⟨g2, r, none⟩ = some (.int .i64 (p : Int)) := (B6.cell (p := ⟨g2, r, none⟩) (by simp; omega)).trans ((World.cell?_alloc_past _ _ _ (by show g2 < w4.heap.size; omega)).trans ((B4.cell (p := ⟨g2, r, none⟩) hg2lt).trans hcf))
      have B06 : Below w.heap.size w w6 := (B03.trans (B4.mono B03.size)).trans ((((Below.refl _ _).alloc (Nat.le_refl _) _).trans (B6.mono (by simp))).mono (by have := B03.size; omega))
      have hgkl : gk < w4.heap.size := (Array.getElem?_eq_some_iff.1 hcov).1
      have hgml : gm < w6.heap.size := (Array.getElem?_eq_some_iff.1 hcov').1
      have hk6 : w6.heap[gk]? = some (.cells (covL τ.cnt 64).toArray 5 (0, 0)) := (B6.block gk (by simp; omega)).trans ((Below.heap_alloc _ _ _ hgkl).trans hcov)
      have hm6 : w6.heap[gm]? = some (.cells (covL τ.cnt 64).toArray 5 (0, 0)) := by rw [← hcnt]; exact hcov'
      have hi3 : (r : Int) < (k : Int) := by omega
      have hi4 : ¬ (r : Int) < 0 := by omega
      have hi5 : ¬ (k : Int) ≤ (r : Int) := by omega
      have hg6 : g2 < w6.heap.size := by omega
      have hA6 : w4.heap.size < w6.heap.size := by omega
      have HK6 : Hid (w6.heap[gk]? = some (.cells (covL τ.cnt 64).toArray 5 (0, 0))) := hk6
      have HM6 : Hid (w6.heap[gm]? = some (.cells (covL τ.cnt 64).toArray 5 (0, 0))) := hm6
      clear hk6 hm6 hcov hcov' hcnt tw hb4 B6 B4 hτ hτ' hn hn' he he' HRUN HPF hcf hp hp' HC3 HT3
      go_wp2_with fail
      go_quiet (fail)
      have cv1 := conv_cov (w := ((w6.alloc (.cells #[.int .i64 kd, .int .i64 fl, .int .i64 (r : Int), .string so, .int .i64 st] 27)).drewN nq).setCell ⟨w6.heap.size, 2, none⟩ (.int .i64 (p : Int))) (g := gk) (cnt := τ.cnt) ((heap_setCell_other _ ⟨w6.heap.size, 2, none⟩ _ _ (by show gk ≠ w6.heap.size; omega)).trans ((Below.heap_alloc w6 _ _ (by omega)).trans HK6.out))
      have cv2 := conv_cov (w := ((w6.alloc (.cells #[.int .i64 kd, .int .i64 fl, .int .i64 (r : Int), .string so, .int .i64 st] 27)).drewN nq).setCell ⟨w6.heap.size, 2, none⟩ (.int .i64 (p : Int))) (g := gm) (cnt := τ.cnt) ((heap_setCell_other _ ⟨w6.heap.size, 2, none⟩ _ _ (by show gm ≠ w6.heap.size; omega)).trans ((Below.heap_alloc w6 _ _ hgml).trans HM6.out))
      generalize covS τ.cnt = sc at cv1 cv2
      clear HK6 HM6
      go_wp2_with fail
      go_ret
      refine ⟨by simp, ?_⟩
      have B07 : Below w.heap.size w (w6.alloc (.cells #[.int .i64 kd, .int .i64 fl, .int .i64 (r : Int), .string so, .int .i64 st] 27)) := B06.alloc B06.size _
      exact (show Below w.heap.size w ((w6.alloc (.cells #[.int .i64 kd, .int .i64 fl, .int .i64 (r : Int), .string so, .int .i64 st] 27)).drewN nq) from ⟨B07.os, B07.tape, B07.output, B07.size, B07.block⟩).setCell (p := ⟨w6.heap.size, 2, none⟩) (by show w.heap.size ≤ w6.heap.size; exact B06.size) _
end Go.Proofs.YtflenkppcclclaaDoor

namespace Go.Proofs.YtflenkppcclclaaDoor
open Go.RowKit

theorem Mrk.all {w w' : World} (h : Mrk w) (b : Below w.heap.size w w') : Mrk w' := h.below b (World.block_lt_of_cell? w ⟨1, 0, none⟩ (h 0 (by omega)))
theorem mutA : mutS ⟨#[97]⟩ 15 = some [158] ∧ mutS ⟨#[97]⟩ 30 = some [97, 97] ∧ mutS ⟨#[97]⟩ 31 = none := by decide +kernel
theorem strA : strOfNums [158] = ⟨#[158]⟩ ∧ strOfNums [97, 97] = ⟨#[97, 97]⟩ := by decide +kernel

/-- The calls of 'changed', as far as it looks at them. -/
structure ChA (w : World) (s : ByteArray) (b : Bool) (e : Ending) (w' : World) : Prop where
  bel : Below w.heap.size w w'
  ans : e = .returned (.tuple #[.string s, .bool b])
theorem mutA_calls (w : World) (hM : Mrk w) : Calls Tryd.prog 15 #[.string ⟨#[97]⟩, .int .i64 15] w (ChA w ⟨#[158]⟩ true) ∧ Calls Tryd.prog 15 #[.string ⟨#[97]⟩, .int .i64 30] w (ChA w ⟨#[97, 97]⟩ true) ∧ Calls Tryd.prog 15 #[.string ⟨#[97]⟩, .int .i64 31] w (ChA w ⟨#[]⟩ false) := by
  refine ⟨(xMutant_any w hM ⟨#[97]⟩ (by decide) 15 (by omega) (by omega)).mono ?_, (xMutant_any w hM ⟨#[97]⟩ (by decide) 30 (by omega) (by omega)).mono ?_, (xMutant_any w hM ⟨#[97]⟩ (by decide) 31 (by omega) (by omega)).mono ?_⟩
  · rw [mutA.1]
    rintro e w' ⟨B, rfl⟩
    exact ⟨B, by rw [← strA.1]; rfl⟩
  · rw [mutA.2.1]
    rintro e w' ⟨B, rfl⟩
    exact ⟨B, by rw [← strA.2]; rfl⟩
  · rw [mutA.2.2]
    rintro e w' ⟨B, rfl⟩
    exact ⟨B, rfl⟩
theorem wildA_calls (w : World) : ∃ t y, y ≠ 0 ∧ Calls Tryd.prog 17 #[.string ⟨#[97, 98, 99]⟩, .string ⟨#[120, 121, 122]⟩, .int .u64 0] w (WildAns w t y) :=
  ⟨_, _, (wild_moves _ _ 0 (by omega) (by omega)).1, xWild_any w ⟨#[97, 98, 99]⟩ ⟨#[120, 121, 122]⟩ (by decide) (by decide) 0 (by omega) (by omega)⟩

set_option maxHeartbeats 1000000 in
set_option maxRecDepth 100000 in
theorem kchanged_any (w : World) (hT : Tab w) (hM : Mrk w) : Calls Tryd.prog 14 #[] w fun e w' => e = .returned (.bool true) ∧ Below w.heap.size w w' := by
  have HM : Hid (∀ w', Below w.heap.size w w' → Mrk w') := fun w' B => hM.all B
  have HP : Hid (Calls Tryd.prog 11 #[] w fun e w' => e = .returned (.bool true) ∧ Below w.heap.size w w') := kprobed_any w hT
  clear hT hM
  go_enter Tryd.func14, Tryd.ntmps14
  go_wp2_with fail
  refine HP.out.mono ?_
  rintro e w1 ⟨rfl, B1⟩
  go_wp2_with fail
  refine (mutA_calls w1 (HM.out _ B1)).1.mono ?_
  rintro e w2 ⟨B2, rfl⟩
  have B02 := B1.trans (B2.mono B1.size)
  go_wp2_with fail
  refine (mutA_calls w2 (HM.out _ B02)).2.1.mono ?_
  rintro e w3 ⟨B3, rfl⟩
  have B03 := B02.trans (B3.mono B02.size)
  go_wp2_with fail
  refine (mutA_calls w3 (HM.out _ B03)).2.2.mono ?_
  rintro e w4 ⟨B4, rfl⟩
  have B04 := B03.trans (B4.mono B03.size)
  obtain ⟨t, y, hy, HW⟩ := wildA_calls w4
  have HW' : Hid (Calls Tryd.prog 17 #[.string ⟨#[97, 98, 99]⟩, .string ⟨#[120, 121, 122]⟩, .int .u64 0] w4 (WildAns w4 t y)) := HW
  clear HW
  go_wp2_with fail
  refine HW'.out.mono ?_
  rintro e w5 ⟨B5, rfl⟩
  have HB : Hid (Below w.heap.size w w5) := B04.trans (B5.mono B04.size)
  clear B1 B2 B02 B3 B03 B4 B04 B5
  have hconv : (convert 25 9 (.slice (some ⟨w5.heap.size, 0, none⟩) 1 1)).run Tryd.prog (w5.alloc (.cells #[.int .u8 158] 5)) = .ok (.string ⟨#[158]⟩) (w5.alloc (.cells #[.int .u8 158] 5)) :=
    run_convert_bytes_arg _ 25 5 Tryd.underlying25 Tryd.underlying5 w5.heap.size 0 1 1 [158] rfl (fun i hi => by
      rw [Nat.zero_add, World.cell?_alloc_new]
      match i, hi with
      | 0, _ => rfl
      | i + 1, hi => simp at hi) 9 Tryd.underlying9
  go_wp2_with fail
  go_ret
  have hy' : (y != 0) = true := by simpa using hy
  exact ⟨by show Ending.returned (.bool (y != 0)) = _; rw [hy'], HB.out.alloc HB.out.size _⟩

def kpickS (c n : Int) : Int := if c < 0 then -((c + 1).tmod n) else c % n
theorem kpick_bd (c n : Int) (hn : 1 ≤ n) : 0 ≤ kpickS c n ∧ kpickS c n < n := by
  unfold kpickS
  by_cases h : c < 0
  · rw [if_pos h]
    have e : -((c + 1).tmod n) = (-(c + 1)) % n := by rw [← Int.tmod_eq_emod_of_nonneg (by omega), Int.neg_tmod]
    rw [e]
    exact ⟨Int.emod_nonneg _ (by omega), Int.emod_lt_of_pos _ (by omega)⟩
  · rw [if_neg h]
    exact ⟨Int.emod_nonneg _ (by omega), Int.emod_lt_of_pos _ (by omega)⟩
theorem kpick_any (c n : Int) (h1 : -9223372036854775808 ≤ c) (h2 : c ≤ 9223372036854775807) (hn : 1 ≤ n) (hn' : n ≤ 1000) (w : World) : Calls Tryd.prog 9 #[.int .i64 c, .int .i64 n] w fun e w' => e = .returned (.int .i64 (kpickS c n)) ∧ w' = w := by
  unfold kpickS
  by_cases h : c < 0
  · rw [if_pos h]
    go_enter Tryd.func9, Tryd.ntmps9
    go_wp2
    go_ret
    exact ⟨rfl, rfl⟩
  · rw [if_neg h]
    go_enter Tryd.func9, Tryd.ntmps9
    go_wp2
    go_ret
    exact ⟨rfl, rfl⟩

set_option maxHeartbeats 2000000 in
set_option maxRecDepth 100000 in
theorem wildly_core (w : World) (s0 t : ByteArray) (ht : t.size ≤ 24) (hs0 : s0.size ≤ 24) (input other : ByteArray) (seed times : Int) (N : Nat) (hN : N < 20) (hsd0 : 0 ≤ seed) (hsd1 : seed ≤ 18446744073709551615)
    (HK : Hid (Calls Tryd.prog 14 #[] w fun e w' => e = .returned (.bool true) ∧ Below w.heap.size w w'))
    (HS : Hid (∀ w', Calls Tryd.prog 8 #[.string input, .int .i64 24] w' fun e w'' => e = .returned (.string s0) ∧ w'' = w'))
    (HT : Hid (∀ w', Calls Tryd.prog 8 #[.string other, .int .i64 24] w' fun e w'' => e = .returned (.string t) ∧ w'' = w'))
    (HP : Hid (∀ w', Calls Tryd.prog 9 #[.int .i64 times, .int .i64 20] w' fun e w'' => e = .returned (.int .i64 (N : Int)) ∧ w'' = w'))
    (HW : Hid (∀ (s : ByteArray) (x : Int), s.size ≤ 24 → 0 ≤ x → x ≤ 18446744073709551615 → ∃ (a : ByteArray) (n : Int), a.size ≤ 24 ∧ a.size ≤ s.size + 4 * (t.size + 1) ∧ n ≠ 0 ∧ n ≠ x ∧ 0 ≤ n ∧ n ≤ 18446744073709551615 ∧ ∀ w', Calls Tryd.prog 17 #[.string s, .string t, .int .u64 x] w' (WildAns w' a n))) :
    Calls Tryd.prog 6 #[.string input, .string other, .int .u64 seed, .int .i64 times] w fun e w' => e = .returned (.bool true) ∧ Below w.heap.size w w' := by
  go_enter Tryd.func6, Tryd.ntmps6
  go_wp2_with fail
  refine HK.out.mono ?_
  rintro e w1 ⟨rfl, B1⟩
  go_wp2_with fail
  refine (HS.out w1).mono ?_
  rintro e w2 ⟨rfl, hw2⟩
  obtain rfl := hw2.symm
  go_wp2_with fail
  refine (HT.out w1).mono ?_
  rintro e w2 ⟨rfl, hw2⟩
  obtain rfl := hw2.symm
  go_wp2_with fail
  go_loopw [10, 12, 13] (fun sv xv i wr => ∃ (s : ByteArray) (x : Int) (k : Nat), s.size ≤ 24 ∧ 0 ≤ x ∧ x ≤ 18446744073709551615 ∧ k ≤ 1 + N ∧ sv = .string s ∧ xv = .int .u64 x ∧ i = .int .i64 k ∧ Below w.heap.size w wr) (fun _ _ i _ => 1 + N - (intOf i).toNat)
  case atStart => exact ⟨s0, seed, 0, hs0, hsd0, hsd1, by omega, rfl, rfl, rfl, B1⟩
  case round =>
    obtain ⟨s, x, k, hs, hx0, hx1, hk, rfl, rfl, rfl, B⟩ := hrel
    obtain ⟨a, n, ha, ha', hn, hnx, hn0, hn1, HC⟩ := HW.out s x hs hx0 hx1
    have HC' : Hid (∀ w', Calls Tryd.prog 17 #[.string s, .string t, .int .u64 x] w' (WildAns w' a n)) := HC
    have HB : Hid (Below w.heap.size w wr) := B
    clear HC B B1
    go_wp2_with fail
    refine (HP.out wr).mono ?_
    rintro e w2 ⟨rfl, hw2⟩
    obtain rfl := hw2.symm
    by_cases hlt : k < 1 + N
    · have hi1 : (k : Int) < 1 + (N : Int) := by omega
      go_wp2_with fail
      refine (HC'.out wr).mono ?_
      rintro e w3 ⟨B3, rfl⟩
      go_wp2_with fail
      refine (HC'.out w3).mono ?_
      rintro e w4 ⟨B4, rfl⟩
      have HB4 : Hid (Below w.heap.size w w4) := by
        have B03 := HB.out.trans (B3.mono HB.out.size)
        exact B03.trans (B4.mono B03.size)
      clear B3 B4
      have hb1 : (n == 0) = false := by simpa using hn
      have hb2 : (n == x) = false := by simpa using hnx
      have e1 : ¬ (24 : Int) < (a.size : Int) := by omega
      have e2 : ¬ ((s.size : Int) + 4 * ((t.size : Int) + 1) < (a.size : Int)) := by omega
      generalize hA : a.size = A at ha e1 e2
      generalize hS : s.size = SS at hs e2
      generalize hTT : t.size = TT at ht e2
      go_wp2_with fail
      go_roundw
      case rel => exact ⟨a, n, k + 1, by omega, hn0, hn1, by omega, rfl, rfl, by go_num, HB4.out⟩
      case measure => simp [intOf]; omega
    · have hi1 : ¬ (k : Int) < 1 + (N : Int) := by omega
      go_wp2_with fail
      go_ret
      exact ⟨rfl, HB.out⟩
end Go.Proofs.YtflenkppcclclaaDoor

namespace Go.Proofs.YtflenkppcclclaaDoor
open Go.RowKit

theorem xor_back (x y : Int) (h0 : 0 ≤ x) (h1 : x ≤ 255) (g0 : 0 ≤ y) (g1 : y ≤ 255) : bits .xor .u8 (bits .xor .u8 x y) y = x := by
  obtain ⟨n, rfl⟩ : ∃ n : Nat, x = n := ⟨x.toNat, by omega⟩
  obtain ⟨m, rfl⟩ : ∃ m : Nat, y = m := ⟨y.toNat, by omega⟩
  have e : bits .xor .u8 (n : Int) (m : Int) = (((BitVec.ofNat 8 n ^^^ BitVec.ofNat 8 m).toNat : Nat) : Int) := by
    have e1 : bits .xor .u8 (n : Int) (m : Int) = IntKind.u8.wrap ((BitVec.ofInt 8 (n : Int) ^^^ BitVec.ofInt 8 (m : Int)).toNat : Int) := rfl
    have hlt := (BitVec.ofInt 8 (n : Int) ^^^ BitVec.ofInt 8 (m : Int)).isLt
    rw [e1, IntKind.wrap_u8, BitVec.ofInt_natCast, BitVec.ofInt_natCast]
    rw [BitVec.ofInt_natCast, BitVec.ofInt_natCast] at hlt
    omega
  have e2 : ∀ k : Nat, bits .xor .u8 (k : Int) (m : Int) = (((BitVec.ofNat 8 k ^^^ BitVec.ofNat 8 m).toNat : Nat) : Int) := fun k => by
    have e1 : bits .xor .u8 (k : Int) (m : Int) = IntKind.u8.wrap ((BitVec.ofInt 8 (k : Int) ^^^ BitVec.ofInt 8 (m : Int)).toNat : Int) := rfl
    have hlt := (BitVec.ofInt 8 (k : Int) ^^^ BitVec.ofInt 8 (m : Int)).isLt
    rw [e1, IntKind.wrap_u8, BitVec.ofInt_natCast, BitVec.ofInt_natCast]
    rw [BitVec.ofInt_natCast, BitVec.ofInt_natCast] at hlt
    omega
  rw [e, e2, BitVec.ofNat_toNat, BitVec.setWidth_eq, BitVec.xor_assoc, BitVec.xor_self, BitVec.xor_zero, BitVec.toNat_ofNat, Nat.mod_eq_of_lt (by omega)]
theorem pow7 (k : Nat) : (0 : Int) ≤ 2 ^ (7 - k) ∧ (2 : Int) ^ (7 - k) ≤ 255 := by
  have h : 7 - k ≤ 7 := by omega
  generalize 7 - k = j at h ⊢
  match j, h with
  | 0, _ | 1, _ | 2, _ | 3, _ | 4, _ | 5, _ | 6, _ | 7, _ => decide
  | j + 8, h => omega
theorem getD_set (l : List Int) (q : Nat) (v : Int) (hq : q < l.length) : (l.set q v).getD q 0 = v := by
  rw [List.getD_eq_getElem?_getD, List.getElem?_set_self hq]
  rfl
theorem set_back (l : List Int) (q : Nat) (hq : q < l.length) (v : Int) : (l.set q v).set q (l.getD q 0) = l := by
  rw [List.set_set]
  apply List.ext_getElem?
  intro i
  rw [List.getElem?_set]
  split
  · rename_i h
    subst h
    rw [List.getD_eq_getElem?_getD, List.getElem?_eq_getElem hq]
    rfl
  · rfl
theorem flip_back {l : List Int} (hb : Byt l) (k : Nat) (hk : k < 8 * l.length) : flipL (flipL l k) k = l := by
  have hq : k / 8 < l.length := by omega
  have p := pow7 (k % 8)
  have b := hb.at (k / 8)
  unfold flipL
  rw [getD_set _ _ _ hq, xor_back _ _ b.1 b.2 p.1 p.2, set_back _ _ hq]
theorem getD_set_ne (l : List Int) (q r : Nat) (v : Int) (h : q ≠ r) : (l.set q v).getD r 0 = l.getD r 0 := by
  rw [List.getD_eq_getElem?_getD, List.getD_eq_getElem?_getD, List.getElem?_set_ne h]
theorem bits_swap (x y z : Int) (h0 : 0 ≤ x) (h1 : x ≤ 255) (g0 : 0 ≤ y) (g1 : y ≤ 255) (k0 : 0 ≤ z) (k1 : z ≤ 255) : bits .xor .u8 (bits .xor .u8 x y) z = bits .xor .u8 (bits .xor .u8 x z) y := by
  obtain ⟨n, rfl⟩ : ∃ n : Nat, x = n := ⟨x.toNat, by omega⟩
  obtain ⟨m, rfl⟩ : ∃ m : Nat, y = m := ⟨y.toNat, by omega⟩
  obtain ⟨r, rfl⟩ : ∃ r : Nat, z = r := ⟨z.toNat, by omega⟩
  have e2 : ∀ k j : Nat, bits .xor .u8 (k : Int) (j : Int) = (((BitVec.ofNat 8 k ^^^ BitVec.ofNat 8 j).toNat : Nat) : Int) := fun k j => by
    have e1 : bits .xor .u8 (k : Int) (j : Int) = IntKind.u8.wrap ((BitVec.ofInt 8 (k : Int) ^^^ BitVec.ofInt 8 (j : Int)).toNat : Int) := rfl
    have hlt := (BitVec.ofInt 8 (k : Int) ^^^ BitVec.ofInt 8 (j : Int)).isLt
    rw [e1, IntKind.wrap_u8, BitVec.ofInt_natCast, BitVec.ofInt_natCast]
    rw [BitVec.ofInt_natCast, BitVec.ofInt_natCast] at hlt
    omega
  rw [e2, e2, e2, e2, BitVec.ofNat_toNat, BitVec.setWidth_eq, BitVec.ofNat_toNat, BitVec.setWidth_eq, BitVec.xor_assoc, BitVec.xor_comm (BitVec.ofNat 8 m), ← BitVec.xor_assoc]
theorem flip_swap {l : List Int} (hb : Byt l) (k j : Nat) (hk : k < 8 * l.length) (hj : j < 8 * l.length) : flipL (flipL l k) j = flipL (flipL l j) k := by
  have hq : k / 8 < l.length := by omega
  have hr : j / 8 < l.length := by omega
  have p := pow7 (k % 8)
  have p' := pow7 (j % 8)
  have b := hb.at (k / 8)
  unfold flipL
  by_cases h : k / 8 = j / 8
  · rw [h] at hq b ⊢
    rw [getD_set _ _ _ hr, getD_set _ _ _ hr, List.set_set, List.set_set, bits_swap _ _ _ b.1 b.2 p.1 p.2 p'.1 p'.2]
  · rw [getD_set_ne _ _ _ _ h, getD_set_ne _ _ _ _ (fun h' => h h'.symm), List.set_comm _ _ h]
theorem two_back {l : List Int} (hb : Byt l) (k : Nat) (hk : k + 1 < 8 * l.length) : flipL (flipL (flipL (flipL l k) (k + 1)) k) (k + 1) = l := by
  have hl1 : (flipL l k).length = l.length := flip_len _ _
  rw [flip_swap (flip_byt hb k) (k + 1) k (by omega) (by omega), flip_back hb k (by omega), flip_back hb (k + 1) hk]
theorem cut_twice (l : List Int) (m : Nat) (hm : m < l.length) : cutL (twiceL l m) m = l := by
  unfold cutL twiceL
  have h1 : (l.take m).length = m := by simp; omega
  have e1 : (l.take m ++ l.getD m 0 :: l.drop m).take m = l.take m := by
    rw [List.take_append_of_le_length (by omega), List.take_take, Nat.min_self]
  have e2 : (l.take m ++ l.getD m 0 :: l.drop m).drop (m + 1) = l.drop m := by
    rw [List.drop_append, List.drop_of_length_le (by omega), h1, show m + 1 - m = 1 by omega]
    simp
  rw [e1, e2, List.take_append_drop]

/-- Which change it is. -/
theorem mut_at (l : List Int) (L : Nat) (hl : l.length = L) (hL : 0 < L) (m : Nat) :
    (m < 8 * L → mutL l m = some (flipL l m)) ∧
    (m < 8 * L - 1 → mutL l (8 * L + m) = some (flipL (flipL l m) (m + 1))) ∧
    (m < L → mutL l (16 * L - 1 + m) = some (l.set m (bits .xor .u8 (l.getD m 0) 255))) ∧
    (m < 4 * L → mutL l (17 * L - 1 + m) = some (l.set (m / 4) ((l.getD (m / 4) 0 + (m % 4 + 1 : Nat)) % 256))) ∧
    (m < 4 * L → mutL l (21 * L - 1 + m) = some (l.set (m / 4) ((l.getD (m / 4) 0 - (m % 4 + 1 : Nat)) % 256))) ∧
    (m < 5 * L → mutL l (25 * L - 1 + m) = some (l.set (m / 5) (markL (m % 5)))) ∧
    (m < L → mutL l (30 * L - 1 + m) = some (cutL l m)) ∧
    (m < L → L < 24 → mutL l (31 * L - 1 + m) = some (twiceL l m)) ∧
    (mutL l (31 * L - 1 + (if L < 24 then L else 0) + m) = none) := by
  subst hl
  unfold mutL
  dsimp only
  refine ⟨fun h => ?_, fun h => ?_, fun h => ?_, fun h => ?_, fun h => ?_, fun h => ?_, fun h => ?_, fun h h' => ?_, ?_⟩
  · rw [if_pos h]
  · rw [if_neg (by omega), if_pos (by omega), show 8 * l.length + m - 8 * l.length = m by omega]
  · rw [if_neg (by omega), if_neg (by omega), if_pos (by omega), show 16 * l.length - 1 + m - 8 * l.length - (8 * l.length - 1) = m by omega]
  · rw [if_neg (by omega), if_neg (by omega), if_neg (by omega), if_pos (by omega), show 17 * l.length - 1 + m - 8 * l.length - (8 * l.length - 1) - l.length = m by omega]
  · rw [if_neg (by omega), if_neg (by omega), if_neg (by omega), if_neg (by omega), if_pos (by omega), show 21 * l.length - 1 + m - 8 * l.length - (8 * l.length - 1) - l.length - 4 * l.length = m by omega]
  · rw [if_neg (by omega), if_neg (by omega), if_neg (by omega), if_neg (by omega), if_neg (by omega), if_pos (by omega), show 25 * l.length - 1 + m - 8 * l.length - (8 * l.length - 1) - l.length - 4 * l.length - 4 * l.length = m by omega]
  · rw [if_neg (by omega), if_neg (by omega), if_neg (by omega), if_neg (by omega), if_neg (by omega), if_neg (by omega), if_pos (by omega), show 30 * l.length - 1 + m - 8 * l.length - (8 * l.length - 1) - l.length - 4 * l.length - 4 * l.length - 5 * l.length = m by omega]
  · rw [if_neg (by omega), if_neg (by omega), if_neg (by omega), if_neg (by omega), if_neg (by omega), if_neg (by omega), if_neg (by omega), if_pos (by omega), show 31 * l.length - 1 + m - 8 * l.length - (8 * l.length - 1) - l.length - 4 * l.length - 4 * l.length - 5 * l.length - l.length = m by omega]
  · by_cases h24 : l.length < 24
    · rw [if_pos h24, if_neg (by omega), if_neg (by omega), if_neg (by omega), if_neg (by omega), if_neg (by omega), if_neg (by omega), if_neg (by omega), if_neg (by omega)]
    · rw [if_neg h24, if_neg (by omega), if_neg (by omega), if_neg (by omega), if_neg (by omega), if_neg (by omega), if_neg (by omega), if_neg (by omega), if_neg (by omega)]
end Go.Proofs.YtflenkppcclclaaDoor

