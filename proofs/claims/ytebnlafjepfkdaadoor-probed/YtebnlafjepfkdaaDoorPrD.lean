import Derived.Test.YtebnlafjepfkdaaDoorPrB
import Derived.Test.YtebnlafjepfkdaaDoorSame
import Derived.Test.YtebnlafjepfkdaaDoorGenTop
import Derived.Test.YtebnlafjepfkdaaDoorExam
namespace Go.Proofs.YtebnlafjepfkdaaDoor
open Go.RowKit

theorem inv0 {c : Nat → Int} {L : Nat} {S : Nat → Prop} (hG : Good c L S) {input : ByteArray} {fuel : Int} (hin : input.size ≤ 24) (hf0 : 0 ≤ fuel) : Inv L S fuel (ρ0 input) :=
  ⟨Int.le_refl 0, by show (0 : Int) ≤ 300; omega, fun _ => hG.zero, by show 0 ≤ 32; omega, hin, by show 0 ≤ 16; omega, Int.le_refl 0, hf0, fun _ => Int.le_refl 0, Int.le_refl 0, by show (0 : Int) ≤ 256; omega⟩

theorem twin_after {c : Nat → Int} {L N : Nat} (V : VP c L N) {input : ByteArray} {fuel : Int} (hin : input.size ≤ 24) (hf0 : 0 ≤ fuel) :
    ∀ k, (∀ i, i < k → (after c (entAt (bgn c N) L) fuel (ρ0 input) i).σ.ended = false) →
      Inv L (fun p => ∃ m, m < N ∧ pos c m = p) fuel (after c (entAt (bgn c N) L) fuel (ρ0 input) k) ∧
      ∃ k', Twin c N (after c (entAt (bgn c N) L) fuel (ρ0 input) k) (after (pc c N L) (pent (pc c N L) (nOf c N N)) fuel (ρ0 input) k') ∧ ∀ i, i < k' → (after (pc c N L) (pent (pc c N L) (nOf c N N)) fuel (ρ0 input) i).σ.ended = false := by
  intro k
  induction k with
  | zero =>
    intro _
    exact ⟨inv0 V.good hin hf0, 0, ⟨rfl, rfl, rfl, rfl, rfl, rfl, rfl, rfl, rfl, rfl, fun _ => ⟨0, V.one, rfl, rfl⟩, fun h => by cases h⟩, fun i hi => by omega⟩
  | succ k ih =>
    intro h
    obtain ⟨hI, k', hT, hk'⟩ := ih (fun i hi => h i (by omega))
    have he := h k (by omega)
    have hI2 := (advS_inv V.good (fun p hp => ent_bounds (bgn c N) L p hp V.most) hI he).1
    refine ⟨hI2, ?_⟩
    have hfit : ∀ τ, τ = roundS c (entAt (bgn c N) L) fuel (after c (entAt (bgn c N) L) fuel (ρ0 input) k) → τ.σ.ended = false → ∃ t, t < N ∧ τ.σ.next = (pos c t : Int) := by
      intro τ hτ hne
      subst hτ
      obtain ⟨t, ht, e⟩ := hI2.start hne
      have := hI2.next0
      exact ⟨t, ht, by omega⟩
    have hlast : (after (pc c N L) (pent (pc c N L) (nOf c N N)) fuel (ρ0 input) k').σ.ended = false := hT.ended.trans he
    rcases twin_round V hT he hfit with h1 | ⟨h0, h1⟩
    · refine ⟨k' + 1, h1, fun i hi => ?_⟩
      by_cases e : i = k'
      · subst e; exact hlast
      · exact hk' i (by omega)
    · refine ⟨k' + 2, h1, fun i hi => ?_⟩
      by_cases e : i = k'
      · subst e; exact hlast
      · by_cases e2 : i = k' + 1
        · subst e2; exact h0
        · exact hk' i (by omega)

theorem twin_end {c : Nat → Int} {L N : Nat} (V : VP c L N) {input : ByteArray} {fuel : Int} (hin : input.size ≤ 24) (hf0 : 0 ≤ fuel) {n n' : Nat}
    (h1 : (after c (entAt (bgn c N) L) fuel (ρ0 input) n).σ.ended = true) (h2 : ∀ i, i < n → (after c (entAt (bgn c N) L) fuel (ρ0 input) i).σ.ended = false)
    (h3 : (after (pc c N L) (pent (pc c N L) (nOf c N N)) fuel (ρ0 input) n').σ.ended = true) (h4 : ∀ i, i < n' → (after (pc c N L) (pent (pc c N L) (nOf c N N)) fuel (ρ0 input) i).σ.ended = false) :
    Twin c N (after c (entAt (bgn c N) L) fuel (ρ0 input) n) (after (pc c N L) (pent (pc c N L) (nOf c N N)) fuel (ρ0 input) n') := by
  obtain ⟨_, k', hT, hk'⟩ := twin_after V hin hf0 n h2
  have := once h3 h4 (hT.ended.trans h1) hk'
  subst this
  exact hT

/-- The probed code can be run, and its entries are its Probes. -/
theorem VP.canP {c : Nat → Int} {L N : Nat} (V : VP c L N) : ¬ CanIs (pc c N L) (qOf (bgn c N) L) false := by
  have F := V.fineP
  have hF : FlawIs (pc c N L) (qOf (bgn c N) L) 240 20 0 false := Or.inr ⟨F.sp.most, nOf c N N, F.sp, Or.inr ⟨F.last, Or.inr ⟨F.well, Or.inl ⟨rfl, rfl, F.led⟩⟩⟩⟩
  rintro (h | ⟨r, _, h | ⟨_, ⟨r2, h⟩ | ⟨M, F2, h⟩⟩⟩)
  · cases h.1
  · cases h.1
  · have := (hF.same h).2; cases this
  · have := F.sp.same F.last F2.sp (Or.inl F2.last)
    subst this
    rw [V.probeP] at h; cases h
theorem VP.entsP {c : Nat → Int} {L N : Nat} (V : VP c L N) {ent : Nat → Int} (h : EntIs (pc c N L) (qOf (bgn c N) L) ent) : ent = pent (pc c N L) (nOf c N N) := by
  rcases h with ⟨M, _, F, _⟩ | ⟨M, r, _, F, _, rfl⟩
  · have h1 := F.sp.op 0 F.one
    have h2 : pc c N L (pos (pc c N L) 0) = 20 := (pc_q c N (V.lt V.one) V.first).1
    rw [h2] at h1
    omega
  · have := V.fineP.sp.same V.fineP.last F.sp (Or.inl F.last)
    subst this
    rfl
end Go.Proofs.YtebnlafjepfkdaaDoor
