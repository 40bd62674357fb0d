import Derived.Test.YtflenkppcclclaaGreatDoorM11
import Derived.Test.YtflenkppcclclaaGreatDoorM13
import Derived.Test.YtflenkppcclclaaGreatDoorM10
import Derived.Test.YtflenkppcclclaaGreatDoorM09
import Derived.Test.YtflenkppcclclaaGreatDoorM07
namespace Go.Proofs.YtflenkppcclclaaGreatDoor
open Go.RowKit

/-- Which number the m-th instruction, or its Probe, has in the probed code. -/
def nOf (c : Nat → Int) (N m : Nat) : Nat := m + cntB (bgn c N) (pos c m)
theorem VP.n_succ {c : Nat → Int} {L N : Nat} (V : VP c L N) {m : Nat} (hm : m < N) : nOf c N (m + 1) = nOf c N m + 1 + (if bgn c N (pos c m) then 1 else 0) := by
  unfold nOf
  rw [(V.q_next hm).2]
  show m + 1 + (cntB _ _ + _) = _
  omega
theorem VP.pos_q {c : Nat → Int} {L N : Nat} (V : VP c L N) : ∀ m, m ≤ N → pos (pc c N L) (nOf c N m) = qOf (bgn c N) (pos c m)
  | 0, _ => rfl
  | m + 1, h => by
    have hm : m < N := by omega
    have ih := V.pos_q m (by omega)
    rw [V.n_succ hm, (V.q_next hm).1]
    cases hb : bgn c N (pos c m) with
    | false =>
      show pos (pc c N L) (nOf c N m + 1) = _
      show pos (pc c N L) (nOf c N m) + szOf (pc c N L (pos (pc c N L) (nOf c N m))).toNat = _
      rw [ih, ← r_no hb, pc_r c N (V.lt hm), V.trOp hm]
    | true =>
      show pos (pc c N L) (nOf c N m + 1 + 1) = _
      have e1 : pos (pc c N L) (nOf c N m + 1) = rOf (bgn c N) (pos c m) := by
        show pos (pc c N L) (nOf c N m) + szOf (pc c N L (pos (pc c N L) (nOf c N m))).toNat = _
        rw [ih, (pc_q c N (V.lt hm) hb).1, r_yes hb]; rfl
      show pos (pc c N L) (nOf c N m + 1) + szOf (pc c N L (pos (pc c N L) (nOf c N m + 1))).toNat = _
      rw [e1, pc_r c N (V.lt hm), V.trOp hm]
theorem VP.pos_r {c : Nat → Int} {L N : Nat} (V : VP c L N) {m : Nat} (hm : m < N) {k : Nat} (hk : k + 1 = nOf c N (m + 1)) : pos (pc c N L) k = rOf (bgn c N) (pos c m) := by
  have ih := V.pos_q m (by omega)
  rw [V.n_succ hm] at hk
  cases hb : bgn c N (pos c m) with
  | false => rw [hb] at hk; simp at hk; rw [hk, ih, r_no hb]
  | true =>
    rw [hb] at hk; simp at hk
    rw [show k = nOf c N m + 1 by omega]
    show pos (pc c N L) (nOf c N m) + szOf (pc c N L (pos (pc c N L) (nOf c N m))).toNat = _
    rw [ih, (pc_q c N (V.lt hm) hb).1, r_yes hb]; rfl
theorem VP.which {c : Nat → Int} {L N : Nat} (V : VP c L N) : ∀ M, M ≤ N → ∀ k, k < nOf c N M → ∃ m, m < M ∧ ((k = nOf c N m ∧ bgn c N (pos c m) = true) ∨ k + 1 = nOf c N (m + 1))
  | 0, _, k, hk => by have : nOf c N 0 = 0 := rfl
                      omega
  | M + 1, hM, k, hk => by
    by_cases h : k < nOf c N M
    · obtain ⟨m, hm, e⟩ := V.which M (by omega) k h
      exact ⟨m, by omega, e⟩
    · refine ⟨M, by omega, ?_⟩
      have := V.n_succ (m := M) (by omega)
      cases hb : bgn c N (pos c M) with
      | false => rw [hb] at this; simp at this; right; omega
      | true =>
        rw [hb] at this; simp at this
        by_cases h2 : k = nOf c N M
        · exact Or.inl ⟨h2, rfl⟩
        · right; omega
theorem cnt_le_pos (f : Nat → Bool) (p : Nat) : cntB f p ≤ p := cntB_le f p
theorem VP.trByte {c : Nat → Int} {L N : Nat} (V : VP c L N) {p : Nat} (hp : p < L) : 0 ≤ tr c N p ∧ tr c N p ≤ 255 := by
  have hb := V.byte p hp
  have hm := V.most
  unfold tr
  cases h : sndL c N p with
  | false => exact hb
  | true =>
    unfold sndL at h
    rw [List.any_eq_true] at h
    obtain ⟨t, ht, e⟩ := h
    simp only [Bool.and_eq_true, beq_iff_eq] at e
    obtain ⟨s, hs, e3⟩ := V.jump t (List.mem_range.1 ht) e.1
    have h4 := V.lt hs
    rw [e.2] at e3
    have := cntB_le (bgn c N) (c p).toNat
    rw [if_pos rfl]
    omega
theorem VP.pcBytes {c : Nat → Int} {L N : Nat} (V : VP c L N) : ∀ p, p ≤ L → ∀ x ∈ pcode c N p, 0 ≤ x ∧ x ≤ 255
  | 0, _, x, hx => by cases hx
  | p + 1, h, x, hx => by
    unfold pcode at hx
    rw [List.mem_append, List.mem_append] at hx
    have hm := V.most
    rcases hx with hx | hx | hx
    · exact V.pcBytes p (by omega) x hx
    · cases hb : bgn c N p with
      | false => rw [hb] at hx; cases hx
      | true =>
        rw [hb] at hx
        simp at hx
        have := cntB_le (bgn c N) p
        rcases hx with rfl | rfl <;> omega
    · simp at hx
      subst hx
      exact V.trByte (by omega)
theorem VP.spP {c : Nat → Int} {L N : Nat} (V : VP c L N) : SP (pc c N L) (qOf (bgn c N) L) (nOf c N N) 20 where
  most := V.pLen'
  z20 := Nat.le_refl _
  byte := by
    intro i hi
    rw [← pcode_len c N L] at hi
    unfold pc
    rw [List.getD_eq_getElem?_getD, List.getElem?_eq_getElem hi]
    exact V.pcBytes L (Nat.le_refl _) _ (List.getElem_mem hi)
  op := by
    intro k hk
    obtain ⟨m, hm, ⟨rfl, hb⟩ | e⟩ := V.which N (Nat.le_refl _) k hk
    · rw [V.pos_q m (by omega), (pc_q c N (V.lt hm) hb).1]; decide
    · rw [V.pos_r hm e, pc_r c N (V.lt hm), V.trOp hm]
      have := V.op m hm
      omega
  fits := by
    intro k hk
    obtain ⟨m, hm, ⟨rfl, hb⟩ | e⟩ := V.which N (Nat.le_refl _) k hk
    · rw [V.pos_q m (by omega), (pc_q c N (V.lt hm) hb).1]
      show qOf _ _ + 2 ≤ _
      rw [← r_yes hb]
      have := q_le (f := bgn c N) (V.lt hm : pos c m + 1 ≤ L)
      rw [q_succ] at this
      omega
    · rw [V.pos_r hm e, pc_r c N (V.lt hm), V.trOp hm, ← (V.q_next hm).1]
      exact q_le (by have := V.fits hm; exact this)
  cell := by
    intro k hk
    obtain ⟨m, hm, ⟨rfl, hb⟩ | e⟩ := V.which N (Nat.le_refl _) k hk
    · rw [V.pos_q m (by omega), (pc_q c N (V.lt hm) hb).1]; intro h; cases h
    · rw [V.pos_r hm e, pc_r c N (V.lt hm), V.trOp hm]
      intro h
      have hop := V.byte _ (V.lt hm)
      have h2 : szOf (c (pos c m)).toNat = 2 := by
        have := holds_two (kk := (c (pos c m)).toNat) (by rw [Int.toNat_of_nonneg hop.1]; exact h)
        exact this.1
      have hfit := V.fits hm
      rw [← V.r_snd hm h2, pc_r c N (by omega), V.trSnd hm h2]
      have hnl : leadsB (c (pos c m)) = false := by
        unfold holdsB at h
        unfold leadsB
        simp at h ⊢
        omega
      rw [hnl]
      exact V.cell m hm h

theorem VP.fineP {c : Nat → Int} {L N : Nat} (V : VP c L N) : Fine (pc c N L) (qOf (bgn c N) L) (nOf c N N) 20 where
  sp := V.spP
  last := by rw [V.pos_q N (Nat.le_refl _), V.last]
  well := by
    have h1 := V.one
    have hn := V.n_succ (m := N - 1) (by omega)
    rw [show N - 1 + 1 = N by omega] at hn
    unfold wellAt
    rw [if_neg (by omega), V.pos_r (m := N - 1) (by omega) (by rw [show N - 1 + 1 = N by omega]; omega), pc_r c N (V.lt (by omega)), V.trOp (by omega)]
    exact V.stop
  led := by
    intro k hk
    unfold badT
    obtain ⟨m, hm, ⟨rfl, hb⟩ | e⟩ := V.which N (Nat.le_refl _) k hk
    · rw [V.pos_q m (by omega), (pc_q c N (V.lt hm) hb).1]; rfl
    · rw [V.pos_r hm e, pc_r c N (V.lt hm), V.trOp hm]
      cases hl : leadsB (c (pos c m)) with
      | false => rfl
      | true =>
        have h2 := leads_size hl
        have hfit := V.fits hm
        obtain ⟨s, hs, e3⟩ := V.jump m hm hl
        rw [← V.r_snd hm h2, pc_r c N (by omega), V.trSnd hm h2, hl, if_pos rfl, ← e3]
        have e4 : ((pos c s : Int) + 2 * cntB (bgn c N) ((pos c s : Int)).toNat).toNat = qOf (bgn c N) (pos c s) := by
          rw [Int.toNat_natCast]; unfold qOf; omega
        rw [e4, ← V.pos_q s (by omega), started_of]
        · rfl
        · obtain ⟨d, hd⟩ : ∃ d, N = s + 1 + d := ⟨N - (s + 1), by omega⟩
          have h5 := V.n_succ hs
          have h6 : nOf c N (s + 1) ≤ nOf c N N := by
            unfold nOf
            have h7 := V.mono (m := s + 1) d (by omega)
            rw [← hd] at h7
            have h8 := cnt_mono (bgn c N) (pos c (s + 1)) (pos c N - pos c (s + 1))
            rw [show pos c (s + 1) + (pos c N - pos c (s + 1)) = pos c N by omega] at h8
            omega
          omega
theorem VP.probeP {c : Nat → Int} {L N : Nat} (V : VP c L N) : probeIn (pc c N L) (nOf c N N) = true := by
  have h1 := V.one
  have hn := V.n_succ (m := 0) h1
  have h0 : nOf c N 0 = 0 := rfl
  have hb := V.first
  refine probeIn_of _ (m := 0) ?_ ?_
  · unfold nOf; omega
  · have := V.pos_q 0 (by omega)
    rw [h0] at this
    rw [this]
    exact (pc_q c N (V.lt h1) hb).1
theorem VP.nLt {c : Nat → Int} {L N : Nat} (V : VP c L N) {m : Nat} (hm : m < N) : nOf c N m < nOf c N N := by
  have h5 := V.n_succ hm
  have h7 := V.mono (m := m + 1) (N - (m + 1)) (by omega)
  rw [show m + 1 + (N - (m + 1)) = N by omega] at h7
  have h8 := cnt_mono (bgn c N) (pos c (m + 1)) (pos c N - pos c (m + 1))
  rw [show pos c (m + 1) + (pos c N - pos c (m + 1)) = pos c N by omega] at h8
  unfold nOf at h5 ⊢
  omega
/-- The entries of the probed code: a Probe tells its block; no other instruction begins one. -/
theorem VP.entP {c : Nat → Int} {L N : Nat} (V : VP c L N) {m : Nat} (hm : m < N) : (bgn c N (pos c m) = true → pent (pc c N L) (nOf c N N) (qOf (bgn c N) (pos c m)) = (cntB (bgn c N) (pos c m) : Int)) ∧ pent (pc c N L) (nOf c N N) (rOf (bgn c N) (pos c m)) = -1 := by
  constructor
  · intro hb
    unfold pent
    have : prb (pc c N L) (nOf c N N) (qOf (bgn c N) (pos c m)) = true := by
      unfold prb
      rw [List.any_eq_true]
      refine ⟨nOf c N m, List.mem_range.2 (V.nLt hm), ?_⟩
      rw [V.pos_q m (by omega), (pc_q c N (V.lt hm) hb).1]; simp
    rw [this, if_pos rfl, (pc_q c N (V.lt hm) hb).2]
  · unfold pent
    have : prb (pc c N L) (nOf c N N) (rOf (bgn c N) (pos c m)) = false := by
      cases h : prb (pc c N L) (nOf c N N) (rOf (bgn c N) (pos c m)) with
      | false => rfl
      | true =>
        unfold prb at h
        rw [List.any_eq_true] at h
        obtain ⟨t, _, e⟩ := h
        simp only [Bool.and_eq_true, beq_iff_eq] at e
        rw [e.1, pc_r c N (V.lt hm), V.trOp hm] at e
        have := V.op m hm
        omega
    rw [this]; rfl

/-- What 'do' makes hangs on the places only by what it makes of them. -/
theorem doS_move (σ : St) (k : Nat) (n n' x y x' y' : Int) (hk : k ≤ 20) (hn : k ≠ 14 → k ≠ 15 → n = n') :
    (doS { σ with place := y', next := x' } k n') = { doS { σ with place := y, next := x } k n with place := y', next := (doS { σ with place := y', next := x' } k n').next } ∧ (doS { σ with place := y, next := x } k n).place = y ∧
    (((doS { σ with place := y, next := x } k n).next = x ∧ (doS { σ with place := y', next := x' } k n').next = x') ∨ ((k = 14 ∨ k = 15) ∧ (doS { σ with place := y, next := x } k n).next = n ∧ (doS { σ with place := y', next := x' } k n').next = n')) := by
  match k, hk with
  | 0, _ | 1, _ | 3, _ | 4, _ | 5, _ | 6, _ | 7, _ | 8, _ | 9, _ | 10, _ | 12, _ | 13, _ | 16, _ | 17, _ | 19, _ | 20, _ =>
    have e := hn (by decide) (by decide)
    subst e
    exact ⟨rfl, rfl, Or.inl ⟨rfl, rfl⟩⟩
  | 14, _ => exact ⟨rfl, rfl, Or.inr ⟨Or.inl rfl, rfl, rfl⟩⟩
  | 2, _ =>
    by_cases he : 0 < σ.input.size
    · simp [doS, he]
    · simp [doS, he]
  | 11, _ =>
    simp only [doS, tkOf, shp, shapeCells]
    simp
    split <;> simp [fin]
  | 15, _ =>
    simp only [doS, tkOf, shp, shapeCells]
    simp
    split <;> simp
  | 18, _ =>
    simp only [doS, putS, tkOf, shp, shapeCells]
    simp
    split <;> simp [fin]
  | k + 21, hk => omega

/-- The probed program's run is where the program's is. -/
structure Twin (c : Nat → Int) (N : Nat) (ρ ρ' : RS) : Prop where
  stack : ρ'.σ.stack = ρ.σ.stack
  cells : ρ'.σ.cells = ρ.σ.cells
  input : ρ'.σ.input = ρ.σ.input
  out : ρ'.σ.out = ρ.σ.out
  kind : ρ'.σ.kind = ρ.σ.kind
  fault : ρ'.σ.fault = ρ.σ.fault
  steps : ρ'.σ.steps = ρ.σ.steps
  ended : ρ'.σ.ended = ρ.σ.ended
  cnt : ρ'.cnt = ρ.cnt
  ah : ρ'.ah = ρ.ah
  next : ρ.σ.ended = false → ∃ m, m < N ∧ ρ.σ.next = (pos c m : Int) ∧ ρ'.σ.next = (qOf (bgn c N) (pos c m) : Int)
  place : ρ.σ.ended = true → ∃ m, m < N ∧ ρ.σ.place = (pos c m : Int) ∧ ρ'.σ.place = (rOf (bgn c N) (pos c m) : Int)

theorem second_p {c : Nat → Int} {L N : Nat} (V : VP c L N) {m : Nat} (hm : m < N) :
    second (pc c N L) (rOf (bgn c N) (pos c m)) = if leadsB (c (pos c m)) then second c (pos c m) + 2 * cntB (bgn c N) (second c (pos c m)).toNat else second c (pos c m) := by
  obtain ⟨kk, A, _⟩ := V.at hm
  have hk := A.k
  have hfit := V.fits hm
  have hs := szOf_pos (c (pos c m)).toNat (by rw [A.op, Int.toNat_natCast]; omega)
  unfold second
  rw [pc_r c N (V.lt hm), V.trOp hm]
  by_cases e : shp ((c (pos c m)).toNat * 3) = 2
  · have h2 : szOf (c (pos c m)).toNat = 2 := by omega
    rw [if_pos e, if_pos e, ← V.r_snd hm h2, pc_r c N (by omega), V.trSnd hm h2]
  · rw [if_neg e, if_neg e]
    have : leadsB (c (pos c m)) = false := by
      cases h : leadsB (c (pos c m)) with
      | false => rfl
      | true => have := leads_size h; omega
    rw [this]; rfl

/-- The round of an instruction, where the probed run stands behind the Probe. -/
theorem twin_op {c : Nat → Int} {L N : Nat} (V : VP c L N) {fuel : Int} {ρ : RS} {m : Nat} (hm : m < N) (hx : ρ.σ.next = (pos c m : Int))
    (hfit : ∀ τ, τ = roundS c (entAt (bgn c N) L) fuel ρ → τ.σ.ended = false → ∃ t, t < N ∧ τ.σ.next = (pos c t : Int))
    {cnt' : Nat → Int} {ah' : Int} (hc : cnt' = (roundS c (entAt (bgn c N) L) fuel ρ).cnt) (ha : ah' = (roundS c (entAt (bgn c N) L) fuel ρ).ah) {y : Int} :
    Twin c N (roundS c (entAt (bgn c N) L) fuel ρ) (roundS (pc c N L) (pent (pc c N L) (nOf c N N)) fuel { σ := { ρ.σ with next := (rOf (bgn c N) (pos c m) : Int), place := y }, cnt := cnt', ah := ah' }) := by
  have hE := (V.entP hm).2
  have hop := V.op m hm
  have hby := V.byte _ (V.lt hm)
  have hk : (c (pos c m)).toNat ≤ 20 := by omega
  have hS := second_p V hm
  have hfit' := hfit _ rfl
  clear hfit
  have eσ : (roundS c (entAt (bgn c N) L) fuel ρ).σ = advS { ρ.σ with place := (pos c m : Int), next := (pos c m : Int) } (c (pos c m)).toNat (second c (pos c m)) fuel := by
    show advS { ρ.σ with place := ρ.σ.next } (c ρ.σ.next.toNat).toNat (second c ρ.σ.next.toNat) fuel = _
    have : ({ ρ.σ with place := ρ.σ.next } : St) = { ρ.σ with place := (pos c m : Int), next := (pos c m : Int) } := by rw [← hx]
    rw [this, hx, Int.toNat_natCast]
  have eσ' : (roundS (pc c N L) (pent (pc c N L) (nOf c N N)) fuel { σ := { ρ.σ with next := (rOf (bgn c N) (pos c m) : Int), place := y }, cnt := cnt', ah := ah' }).σ = advS { ρ.σ with place := (rOf (bgn c N) (pos c m) : Int), next := (rOf (bgn c N) (pos c m) : Int) } (c (pos c m)).toNat (second (pc c N L) (rOf (bgn c N) (pos c m))) fuel := by
    show advS { ρ.σ with next := (rOf (bgn c N) (pos c m) : Int), place := (rOf (bgn c N) (pos c m) : Int) } (pc c N L (rOf (bgn c N) (pos c m) : Int).toNat).toNat (second (pc c N L) (rOf (bgn c N) (pos c m) : Int).toNat) fuel = _
    rw [Int.toNat_natCast, pc_r c N (V.lt hm), V.trOp hm]
  have ec' : (roundS (pc c N L) (pent (pc c N L) (nOf c N N)) fuel { σ := { ρ.σ with next := (rOf (bgn c N) (pos c m) : Int), place := y }, cnt := cnt', ah := ah' }).cnt = cnt' := by
    show (if pent (pc c N L) (nOf c N N) (rOf (bgn c N) (pos c m) : Int).toNat = -1 then cnt' else _) = cnt'
    rw [Int.toNat_natCast, hE, if_pos rfl]
  have ea' : (roundS (pc c N L) (pent (pc c N L) (nOf c N N)) fuel { σ := { ρ.σ with next := (rOf (bgn c N) (pos c m) : Int), place := y }, cnt := cnt', ah := ah' }).ah = ah' := by
    show (if pent (pc c N L) (nOf c N N) (rOf (bgn c N) (pos c m) : Int).toNat = -1 then ah' else _) = ah'
    rw [Int.toNat_natCast, hE, if_pos rfl]
  generalize roundS (pc c N L) (pent (pc c N L) (nOf c N N)) fuel { σ := { ρ.σ with next := (rOf (bgn c N) (pos c m) : Int), place := y }, cnt := cnt', ah := ah' } = τ' at eσ' ec' ea'
  generalize roundS c (entAt (bgn c N) L) fuel ρ = τ at eσ hc ha hfit'
  have hcc := ec'.trans hc
  have haa := ea'.trans ha
  clear ec' ea' hc ha hE
  unfold advS at eσ eσ'
  rw [if_neg (by omega)] at eσ eσ'
  by_cases es : ρ.σ.steps = fuel
  · rw [if_pos es] at eσ eσ'
    refine ⟨?_, ?_, ?_, ?_, ?_, ?_, ?_, ?_, hcc, haa, ?_, ?_⟩
    all_goals rw [eσ]
    all_goals first | (rw [eσ']; rfl) | (intro h; cases h; done) | (intro _; exact ⟨m, hm, rfl, by rw [eσ']; rfl⟩)
  rw [if_neg es] at eσ eσ'
  by_cases er : misfitS ρ.σ.stack.length (shp ((c (pos c m)).toNat * 3 + 1)) (shp ((c (pos c m)).toNat * 3 + 2)) ≠ 0
  · rw [if_pos er] at eσ eσ'
    refine ⟨?_, ?_, ?_, ?_, ?_, ?_, ?_, ?_, hcc, haa, ?_, ?_⟩
    all_goals rw [eσ]
    all_goals first | (rw [eσ']; rfl) | (intro h; cases h; done) | (intro _; exact ⟨m, hm, rfl, by rw [eσ']; rfl⟩)
  rw [if_neg er] at eσ eσ'
  have hl : (c (pos c m)).toNat ≠ 14 → (c (pos c m)).toNat ≠ 15 → leadsB (c (pos c m)) = false := by
    intro h1 h2
    unfold leadsB
    simp
    omega
  obtain ⟨D1, D2, D3⟩ := doS_move { ρ.σ with steps := ρ.σ.steps + 1 } (c (pos c m)).toNat (second c (pos c m)) (second (pc c N L) (rOf (bgn c N) (pos c m))) ((pos c m : Int) + shp ((c (pos c m)).toNat * 3)) (pos c m : Int) ((rOf (bgn c N) (pos c m) : Int) + shp ((c (pos c m)).toNat * 3)) (rOf (bgn c N) (pos c m) : Int) hk (fun h1 h2 => by rw [hS, hl h1 h2]; rfl)
  have eσ2 : τ.σ = doS { ρ.σ with steps := ρ.σ.steps + 1, place := (pos c m : Int), next := (pos c m : Int) + shp ((c (pos c m)).toNat * 3) } (c (pos c m)).toNat (second c (pos c m)) := eσ
  have eσ3 : τ'.σ = doS { ρ.σ with steps := ρ.σ.steps + 1, place := (rOf (bgn c N) (pos c m) : Int), next := (rOf (bgn c N) (pos c m) : Int) + shp ((c (pos c m)).toNat * 3) } (c (pos c m)).toNat (second (pc c N L) (rOf (bgn c N) (pos c m))) := eσ'
  clear eσ eσ'
  have D1' : τ'.σ = { τ.σ with place := (rOf (bgn c N) (pos c m) : Int), next := τ'.σ.next } := by rw [eσ2, eσ3]; exact D1
  have D2' : τ.σ.place = (pos c m : Int) := by rw [eσ2]; exact D2
  have D3' : (τ.σ.next = (pos c m : Int) + shp ((c (pos c m)).toNat * 3) ∧ τ'.σ.next = (rOf (bgn c N) (pos c m) : Int) + shp ((c (pos c m)).toNat * 3)) ∨ (((c (pos c m)).toNat = 14 ∨ (c (pos c m)).toNat = 15) ∧ τ.σ.next = second c (pos c m) ∧ τ'.σ.next = second (pc c N L) (rOf (bgn c N) (pos c m))) := by rw [eσ2, eσ3]; exact D3
  clear D1 D2 D3 eσ2 eσ3
  obtain ⟨nx, hnx⟩ : ∃ nx, τ'.σ.next = nx := ⟨_, rfl⟩
  rw [hnx] at D1' D3'
  have s3 := (szOf_pos _ hk).2.2
  refine ⟨?_, ?_, ?_, ?_, ?_, ?_, ?_, ?_, hcc, haa, ?_, ?_⟩
  all_goals try (rw [D1']; done)
  · intro hne
    obtain ⟨t, ht, e⟩ := hfit' hne
    refine ⟨t, ht, e, ?_⟩
    rw [hnx]
    rcases D3' with ⟨d1, d2⟩ | ⟨d0, d1, d2⟩
    · have e2 : pos c t = pos c (m + 1) := by
        have : pos c (m + 1) = pos c m + szOf (c (pos c m)).toNat := rfl
        omega
      rw [e2, (V.q_next hm).1, d2]
      omega
    · have hlead : leadsB (c (pos c m)) = true := by
        unfold leadsB
        simp
        omega
      rw [d2, hS, hlead, if_pos rfl, ← d1, e, Int.toNat_natCast]
      unfold qOf
      omega
  · intro _
    exact ⟨m, hm, D2', by rw [D1']⟩

theorem entAt_in {f : Nat → Bool} {L p : Nat} (h : p < L) : entAt f L p = if f p then (cntB f p : Int) else -1 := by unfold entAt entB; rw [if_pos h]

/-- A round of the program is one or two of the probed one. -/
theorem twin_round {c : Nat → Int} {L N : Nat} (V : VP c L N) {fuel : Int} {ρ ρ' : RS} (hT : Twin c N ρ ρ') (he : ρ.σ.ended = false)
    (hfit : ∀ τ, τ = roundS c (entAt (bgn c N) L) fuel ρ → τ.σ.ended = false → ∃ t, t < N ∧ τ.σ.next = (pos c t : Int)) :
    Twin c N (roundS c (entAt (bgn c N) L) fuel ρ) (roundS (pc c N L) (pent (pc c N L) (nOf c N N)) fuel ρ') ∨
    ((roundS (pc c N L) (pent (pc c N L) (nOf c N N)) fuel ρ').σ.ended = false ∧ Twin c N (roundS c (entAt (bgn c N) L) fuel ρ) (roundS (pc c N L) (pent (pc c N L) (nOf c N N)) fuel (roundS (pc c N L) (pent (pc c N L) (nOf c N N)) fuel ρ'))) := by
  obtain ⟨m, hm, hx, hx'⟩ := hT.next he
  have hlt := V.lt hm
  obtain ⟨⟨st', ce', in', ou', nx', ki', fa', pl', sp', en'⟩, cn', ah'⟩ := ρ'
  obtain ⟨t1, t2, t3, t4, t5, t6, t7, t8, t9, t10, _, _⟩ := hT
  simp only at t1 t2 t3 t4 t5 t6 t7 t8 t9 t10 hx'
  subst t1 t2 t3 t4 t5 t6 t7 t8 t9 t10 hx'
  cases hb : bgn c N (pos c m) with
  | false =>
    left
    have := twin_op V (fuel := fuel) hm hx hfit (cnt' := ρ.cnt) (ah' := ρ.ah) (y := pl')
      (by show _ = if entAt (bgn c N) L ρ.σ.next.toNat = -1 then _ else _; rw [hx, Int.toNat_natCast, entAt_in hlt, hb]; rfl)
      (by show _ = if entAt (bgn c N) L ρ.σ.next.toNat = -1 then _ else _; rw [hx, Int.toNat_natCast, entAt_in hlt, hb]; rfl)
    rw [r_no hb] at this
    exact this
  | true =>
    right
    have hE := (V.entP hm).1 hb
    have hq := (pc_q c N hlt hb)
    have e1 : roundS (pc c N L) (pent (pc c N L) (nOf c N N)) fuel { σ := { stack := ρ.σ.stack, cells := ρ.σ.cells, input := ρ.σ.input, out := ρ.σ.out, next := (qOf (bgn c N) (pos c m) : Int), kind := ρ.σ.kind, fault := ρ.σ.fault, place := pl', steps := ρ.σ.steps, ended := ρ.σ.ended }, cnt := ρ.cnt, ah := ρ.ah } =
        { σ := { ρ.σ with next := (rOf (bgn c N) (pos c m) : Int), place := (qOf (bgn c N) (pos c m) : Int) }, cnt := comeS ρ.cnt ρ.ah (cntB (bgn c N) (pos c m) : Int), ah := (cntB (bgn c N) (pos c m) : Int) + 1 } := by
      unfold roundS
      simp only [Int.toNat_natCast]
      rw [hE, hq.1, if_neg (by omega), if_neg (by omega)]
      have : (rOf (bgn c N) (pos c m) : Int) = (qOf (bgn c N) (pos c m) : Int) + 2 := by rw [r_yes hb]; omega
      rw [this]
      rfl
    rw [e1]
    refine ⟨he, ?_⟩
    refine twin_op V (fuel := fuel) hm hx hfit ?_ ?_
    · show _ = if entAt (bgn c N) L ρ.σ.next.toNat = -1 then _ else _
      rw [hx, Int.toNat_natCast, entAt_in hlt, hb, if_pos rfl, if_neg (by omega)]
    · show _ = if entAt (bgn c N) L ρ.σ.next.toNat = -1 then _ else _
      rw [hx, Int.toNat_natCast, entAt_in hlt, hb, if_pos rfl, if_neg (by omega)]
end Go.Proofs.YtflenkppcclclaaGreatDoor

namespace Go.Proofs.YtflenkppcclclaaGreatDoor
open Go.RowKit

theorem SP.snd {c : Nat → Int} {L N z : Nat} (S : SP c L N z) {m : Nat} (hm : m < N) : soundB c L z (pos c m) = true := by
  unfold soundB
  have h1 := S.op m hm
  have h2 := S.fits m hm
  have h3 := S.cell m hm
  cases hb : holdsB (c (pos c m)) with
  | false => simp; exact ⟨h1, h2⟩
  | true => simp; exact ⟨⟨h1, h2⟩, h3 hb⟩
/-- There is one way to cut the bytes into instructions. -/
theorem SP.same {c : Nat → Int} {L N M z : Nat} (S : SP c L N z) (hN : pos c N = L) (S' : SP c L M z) (h : pos c M = L ∨ pos c M < L ∧ soundB c L z (pos c M) = false) : M = N := by
  rcases Nat.lt_trichotomy M N with hlt | he | hgt
  · have h1 := S.lt hlt
    rcases h with h | ⟨_, h⟩
    · omega
    · rw [S.snd hlt] at h; cases h
  · exact he
  · have := S'.lt hgt; omega
theorem SP.stop {c : Nat → Int} {L N M z : Nat} (S : SP c L N z) (hN : pos c N < L ∧ soundB c L z (pos c N) = false) (S' : SP c L M z) (h : pos c M = L ∨ pos c M < L ∧ soundB c L z (pos c M) = false) : M = N := by
  rcases Nat.lt_trichotomy M N with hlt | he | hgt
  · have h1 := S.lt hlt
    rcases h with h | ⟨_, h⟩
    · omega
    · rw [S.snd hlt] at h; cases h
  · exact he
  · rw [S'.snd hgt] at hN; cases hN.2
theorem SP.more {c : Nat → Int} {L N z y : Nat} (S : SP c L N z) (h : z ≤ y) (hy : y ≤ 20) : SP c L N y :=
  ⟨S.most, hy, S.byte, fun m hm => by have := S.op m hm; omega, S.fits, S.cell⟩
theorem WT.same {c : Nat → Int} {N r s : Nat} {b d : Bool} (h : WT c N r b) (k : WT c N s d) : r = s ∧ b = d := by
  rcases h with ⟨rfl, rfl, h⟩ | ⟨rfl, t, ht, rfl, hb, h⟩ <;> rcases k with ⟨rfl, rfl, k⟩ | ⟨rfl, u, hu, rfl, kb, k⟩
  · exact ⟨rfl, rfl⟩
  · rw [h u hu] at kb; cases kb
  · rw [k t ht] at hb; cases hb
  · refine ⟨?_, rfl⟩
    rcases Nat.lt_trichotomy t u with q | q | q
    · rw [k t q] at hb; cases hb
    · rw [q]
    · rw [h u q] at kb; cases kb
/-- 'flaw' and 'wrong' say the same. -/
theorem FlawIs.same {c : Nat → Int} {L most z r s : Nat} {b d : Bool} (h : FlawIs c L most z r b) (k : FlawIs c L most z s d) : r = s ∧ b = d := by
  rcases h with ⟨h1, rfl, rfl⟩ | ⟨h1, N, S, h⟩ <;> rcases k with ⟨k1, rfl, rfl⟩ | ⟨k1, M, T, k⟩
  · exact ⟨rfl, rfl⟩
  · omega
  · omega
  · rcases h with ⟨p1, p2, rfl, rfl⟩ | ⟨hN, h⟩ <;> rcases k with ⟨q1, q2, rfl, rfl⟩ | ⟨hM, k⟩
    · rw [S.stop ⟨p1, p2⟩ T (Or.inr ⟨q1, q2⟩)]; exact ⟨rfl, rfl⟩
    · have := S.stop ⟨p1, p2⟩ T (Or.inl hM); subst this; omega
    · have := S.same hN T (Or.inr ⟨q1, q2⟩); subst this; omega
    · have := S.same hN T (Or.inl hM)
      subst this
      rcases h with ⟨h, rfl, rfl⟩ | ⟨h, h'⟩ <;> rcases k with ⟨k, rfl, rfl⟩ | ⟨k, k'⟩
      · exact ⟨rfl, rfl⟩
      · rw [h] at k; cases k
      · rw [h] at k; cases k
      · exact h'.same k'
end Go.Proofs.YtflenkppcclclaaGreatDoor

namespace Go.Proofs.YtflenkppcclclaaGreatDoor
open Go.RowKit

set_option maxHeartbeats 400000 in
theorem flaw_no (w : World) (cb co L cap N : Nat) (c : Nat → Int) (V : VP c L N) (C : Laid w cb co L cap c) (hT : Tab w) :
    Calls Tryz.prog 70 #[.slice (some ⟨cb, co, none⟩) L cap, .int .i64 80, .int .u8 19] w fun e w' => e = .returned (.tuple #[.int .i64 0, .bool false]) ∧ Below w.heap.size w w' := by
  have hmost := V.most
  have h80 : ¬ (80 : Int) < (L : Int) := by omega
  have hLL : ¬ (L : Int) < (L : Int) := by omega
  go_enter Tryz.func70, Tryz.ntmps70
  go_wp2_with fail
  refine (soundBytes_yes w cb co L cap N c V C hT).mono ?_
  rintro e w1 ⟨rfl, B1⟩
  go_wp2_with fail
  refine (endsWell_yes w1 cb co L cap N c V (C.below B1) (hT.below B1)).mono ?_
  rintro e w2 ⟨rfl, B2⟩
  have B12 := B1.trans (B2.mono B1.size)
  go_wp2_with fail
  refine (wrongTarget_no w2 cb co L cap N c V (C.below B12) (hT.below B12)).mono ?_
  rintro e w3 ⟨rfl, B3⟩
  go_wp2_with fail
  go_ret2
  exact ⟨rfl, B12.trans (B3.mono B12.size)⟩

theorem canRun_yes (w : World) (cb co L cap N : Nat) (c : Nat → Int) (V : VP c L N) (C : Laid w cb co L cap c) (hT : Tab w) :
    Calls Tryz.prog 35 #[.slice (some ⟨cb, co, none⟩) L cap] w fun e w' => e = .returned (.bool true) ∧ Below w.heap.size w w' := by
  go_enter Tryz.func35, Tryz.ntmps35
  go_wp2_with fail
  refine (flaw_no w cb co L cap N c V C hT).mono ?_
  rintro e w1 ⟨rfl, B1⟩
  go_wp2_with fail
  go_ret
  exact ⟨rfl, B1⟩
end Go.Proofs.YtflenkppcclclaaGreatDoor

