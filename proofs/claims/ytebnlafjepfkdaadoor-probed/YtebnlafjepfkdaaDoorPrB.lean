import Derived.Test.YtebnlafjepfkdaaDoorPrA
namespace Go.Proofs.YtebnlafjepfkdaaDoor
open Go.RowKit

/-- Which number the m-th instruction, or its Probe, has in the probed code. -/
def nOf (c : Nat → Int) (N m : Nat) : Nat := m + cntB (bgn c N) (pos c m)
theorem VP.n_succ {c : Nat → Int} {L N : Nat} (V : VP c L N) {m : Nat} (hm : m < N) : nOf c N (m + 1) = nOf c N m + 1 + (if bgn c N (pos c m) then 1 else 0) := by
  unfold nOf
  rw [(V.q_next hm).2]
  show m + 1 + (cntB _ _ + _) = _
  omega
theorem VP.pos_q {c : Nat → Int} {L N : Nat} (V : VP c L N) : ∀ m, m ≤ N → pos (pc c N L) (nOf c N m) = qOf (bgn c N) (pos c m)
  | 0, _ => rfl
  | m + 1, h => by
    have hm : m < N := by omega
    have ih := V.pos_q m (by omega)
    rw [V.n_succ hm, (V.q_next hm).1]
    cases hb : bgn c N (pos c m) with
    | false =>
      show pos (pc c N L) (nOf c N m + 1) = _
      show pos (pc c N L) (nOf c N m) + szOf (pc c N L (pos (pc c N L) (nOf c N m))).toNat = _
      rw [ih, ← r_no hb, pc_r c N (V.lt hm), V.trOp hm]
    | true =>
      show pos (pc c N L) (nOf c N m + 1 + 1) = _
      have e1 : pos (pc c N L) (nOf c N m + 1) = rOf (bgn c N) (pos c m) := by
        show pos (pc c N L) (nOf c N m) + szOf (pc c N L (pos (pc c N L) (nOf c N m))).toNat = _
        rw [ih, (pc_q c N (V.lt hm) hb).1, r_yes hb]; rfl
      show pos (pc c N L) (nOf c N m + 1) + szOf (pc c N L (pos (pc c N L) (nOf c N m + 1))).toNat = _
      rw [e1, pc_r c N (V.lt hm), V.trOp hm]
theorem VP.pos_r {c : Nat → Int} {L N : Nat} (V : VP c L N) {m : Nat} (hm : m < N) {k : Nat} (hk : k + 1 = nOf c N (m + 1)) : pos (pc c N L) k = rOf (bgn c N) (pos c m) := by
  have ih := V.pos_q m (by omega)
  rw [V.n_succ hm] at hk
  cases hb : bgn c N (pos c m) with
  | false => rw [hb] at hk; simp at hk; rw [hk, ih, r_no hb]
  | true =>
    rw [hb] at hk; simp at hk
    rw [show k = nOf c N m + 1 by omega]
    show pos (pc c N L) (nOf c N m) + szOf (pc c N L (pos (pc c N L) (nOf c N m))).toNat = _
    rw [ih, (pc_q c N (V.lt hm) hb).1, r_yes hb]; rfl
theorem VP.which {c : Nat → Int} {L N : Nat} (V : VP c L N) : ∀ M, M ≤ N → ∀ k, k < nOf c N M → ∃ m, m < M ∧ ((k = nOf c N m ∧ bgn c N (pos c m) = true) ∨ k + 1 = nOf c N (m + 1))
  | 0, _, k, hk => by have : nOf c N 0 = 0 := rfl
                      omega
  | M + 1, hM, k, hk => by
    by_cases h : k < nOf c N M
    · obtain ⟨m, hm, e⟩ := V.which M (by omega) k h
      exact ⟨m, by omega, e⟩
    · refine ⟨M, by omega, ?_⟩
      have := V.n_succ (m := M) (by omega)
      cases hb : bgn c N (pos c M) with
      | false => rw [hb] at this; simp at this; right; omega
      | true =>
        rw [hb] at this; simp at this
        by_cases h2 : k = nOf c N M
        · exact Or.inl ⟨h2, rfl⟩
        · right; omega
theorem cnt_le_pos (f : Nat → Bool) (p : Nat) : cntB f p ≤ p := cntB_le f p
theorem VP.trByte {c : Nat → Int} {L N : Nat} (V : VP c L N) {p : Nat} (hp : p < L) : 0 ≤ tr c N p ∧ tr c N p ≤ 255 := by
  have hb := V.byte p hp
  have hm := V.most
  unfold tr
  cases h : sndL c N p with
  | false => exact hb
  | true =>
    unfold sndL at h
    rw [List.any_eq_true] at h
    obtain ⟨t, ht, e⟩ := h
    simp only [Bool.and_eq_true, beq_iff_eq] at e
    obtain ⟨s, hs, e3⟩ := V.jump t (List.mem_range.1 ht) e.1
    have h4 := V.lt hs
    rw [e.2] at e3
    have := cntB_le (bgn c N) (c p).toNat
    rw [if_pos rfl]
    omega
theorem VP.pcBytes {c : Nat → Int} {L N : Nat} (V : VP c L N) : ∀ p, p ≤ L → ∀ x ∈ pcode c N p, 0 ≤ x ∧ x ≤ 255
  | 0, _, x, hx => by cases hx
  | p + 1, h, x, hx => by
    unfold pcode at hx
    rw [List.mem_append, List.mem_append] at hx
    have hm := V.most
    rcases hx with hx | hx | hx
    · exact V.pcBytes p (by omega) x hx
    · cases hb : bgn c N p with
      | false => rw [hb] at hx; cases hx
      | true =>
        rw [hb] at hx
        simp at hx
        have := cntB_le (bgn c N) p
        rcases hx with rfl | rfl <;> omega
    · simp at hx
      subst hx
      exact V.trByte (by omega)
theorem VP.spP {c : Nat → Int} {L N : Nat} (V : VP c L N) : SP (pc c N L) (qOf (bgn c N) L) (nOf c N N) 20 where
  most := V.pLen'
  z20 := Nat.le_refl _
  byte := by
    intro i hi
    rw [← pcode_len c N L] at hi
    unfold pc
    rw [List.getD_eq_getElem?_getD, List.getElem?_eq_getElem hi]
    exact V.pcBytes L (Nat.le_refl _) _ (List.getElem_mem hi)
  op := by
    intro k hk
    obtain ⟨m, hm, ⟨rfl, hb⟩ | e⟩ := V.which N (Nat.le_refl _) k hk
    · rw [V.pos_q m (by omega), (pc_q c N (V.lt hm) hb).1]; decide
    · rw [V.pos_r hm e, pc_r c N (V.lt hm), V.trOp hm]
      have := V.op m hm
      omega
  fits := by
    intro k hk
    obtain ⟨m, hm, ⟨rfl, hb⟩ | e⟩ := V.which N (Nat.le_refl _) k hk
    · rw [V.pos_q m (by omega), (pc_q c N (V.lt hm) hb).1]
      show qOf _ _ + 2 ≤ _
      rw [← r_yes hb]
      have := q_le (f := bgn c N) (V.lt hm : pos c m + 1 ≤ L)
      rw [q_succ] at this
      omega
    · rw [V.pos_r hm e, pc_r c N (V.lt hm), V.trOp hm, ← (V.q_next hm).1]
      exact q_le (by have := V.fits hm; exact this)
  cell := by
    intro k hk
    obtain ⟨m, hm, ⟨rfl, hb⟩ | e⟩ := V.which N (Nat.le_refl _) k hk
    · rw [V.pos_q m (by omega), (pc_q c N (V.lt hm) hb).1]; intro h; cases h
    · rw [V.pos_r hm e, pc_r c N (V.lt hm), V.trOp hm]
      intro h
      have hop := V.byte _ (V.lt hm)
      have h2 : szOf (c (pos c m)).toNat = 2 := by
        have := holds_two (kk := (c (pos c m)).toNat) (by rw [Int.toNat_of_nonneg hop.1]; exact h)
        exact this.1
      have hfit := V.fits hm
      rw [← V.r_snd hm h2, pc_r c N (by omega), V.trSnd hm h2]
      have hnl : leadsB (c (pos c m)) = false := by
        unfold holdsB at h
        unfold leadsB
        simp at h ⊢
        omega
      rw [hnl]
      exact V.cell m hm h

theorem VP.fineP {c : Nat → Int} {L N : Nat} (V : VP c L N) : Fine (pc c N L) (qOf (bgn c N) L) (nOf c N N) 20 where
  sp := V.spP
  last := by rw [V.pos_q N (Nat.le_refl _), V.last]
  well := by
    have h1 := V.one
    have hn := V.n_succ (m := N - 1) (by omega)
    rw [show N - 1 + 1 = N by omega] at hn
    unfold wellAt
    rw [if_neg (by omega), V.pos_r (m := N - 1) (by omega) (by rw [show N - 1 + 1 = N by omega]; omega), pc_r c N (V.lt (by omega)), V.trOp (by omega)]
    exact V.stop
  led := by
    intro k hk
    unfold badT
    obtain ⟨m, hm, ⟨rfl, hb⟩ | e⟩ := V.which N (Nat.le_refl _) k hk
    · rw [V.pos_q m (by omega), (pc_q c N (V.lt hm) hb).1]; rfl
    · rw [V.pos_r hm e, pc_r c N (V.lt hm), V.trOp hm]
      cases hl : leadsB (c (pos c m)) with
      | false => rfl
      | true =>
        have h2 := leads_size hl
        have hfit := V.fits hm
        obtain ⟨s, hs, e3⟩ := V.jump m hm hl
        rw [← V.r_snd hm h2, pc_r c N (by omega), V.trSnd hm h2, hl, if_pos rfl, ← e3]
        have e4 : ((pos c s : Int) + 2 * cntB (bgn c N) ((pos c s : Int)).toNat).toNat = qOf (bgn c N) (pos c s) := by
          rw [Int.toNat_natCast]; unfold qOf; omega
        rw [e4, ← V.pos_q s (by omega), started_of]
        · rfl
        · obtain ⟨d, hd⟩ : ∃ d, N = s + 1 + d := ⟨N - (s + 1), by omega⟩
          have h5 := V.n_succ hs
          have h6 : nOf c N (s + 1) ≤ nOf c N N := by
            unfold nOf
            have h7 := V.mono (m := s + 1) d (by omega)
            rw [← hd] at h7
            have h8 := cnt_mono (bgn c N) (pos c (s + 1)) (pos c N - pos c (s + 1))
            rw [show pos c (s + 1) + (pos c N - pos c (s + 1)) = pos c N by omega] at h8
            omega
          omega
theorem VP.probeP {c : Nat → Int} {L N : Nat} (V : VP c L N) : probeIn (pc c N L) (nOf c N N) = true := by
  have h1 := V.one
  have hn := V.n_succ (m := 0) h1
  have h0 : nOf c N 0 = 0 := rfl
  have hb := V.first
  refine probeIn_of _ (m := 0) ?_ ?_
  · unfold nOf; omega
  · have := V.pos_q 0 (by omega)
    rw [h0] at this
    rw [this]
    exact (pc_q c N (V.lt h1) hb).1
theorem VP.nLt {c : Nat → Int} {L N : Nat} (V : VP c L N) {m : Nat} (hm : m < N) : nOf c N m < nOf c N N := by
  have h5 := V.n_succ hm
  have h7 := V.mono (m := m + 1) (N - (m + 1)) (by omega)
  rw [show m + 1 + (N - (m + 1)) = N by omega] at h7
  have h8 := cnt_mono (bgn c N) (pos c (m + 1)) (pos c N - pos c (m + 1))
  rw [show pos c (m + 1) + (pos c N - pos c (m + 1)) = pos c N by omega] at h8
  unfold nOf at h5 ⊢
  omega
/-- The entries of the probed code: a Probe tells its block; no other instruction begins one. -/
theorem VP.entP {c : Nat → Int} {L N : Nat} (V : VP c L N) {m : Nat} (hm : m < N) : (bgn c N (pos c m) = true → pent (pc c N L) (nOf c N N) (qOf (bgn c N) (pos c m)) = (cntB (bgn c N) (pos c m) : Int)) ∧ pent (pc c N L) (nOf c N N) (rOf (bgn c N) (pos c m)) = -1 := by
  constructor
  · intro hb
    unfold pent
    have : prb (pc c N L) (nOf c N N) (qOf (bgn c N) (pos c m)) = true := by
      unfold prb
      rw [List.any_eq_true]
      refine ⟨nOf c N m, List.mem_range.2 (V.nLt hm), ?_⟩
      rw [V.pos_q m (by omega), (pc_q c N (V.lt hm) hb).1]; simp
    rw [this, if_pos rfl, (pc_q c N (V.lt hm) hb).2]
  · unfold pent
    have : prb (pc c N L) (nOf c N N) (rOf (bgn c N) (pos c m)) = false := by
      cases h : prb (pc c N L) (nOf c N N) (rOf (bgn c N) (pos c m)) with
      | false => rfl
      | true =>
        unfold prb at h
        rw [List.any_eq_true] at h
        obtain ⟨t, _, e⟩ := h
        simp only [Bool.and_eq_true, beq_iff_eq] at e
        rw [e.1, pc_r c N (V.lt hm), V.trOp hm] at e
        have := V.op m hm
        omega
    rw [this]; rfl
end Go.Proofs.YtebnlafjepfkdaaDoor
