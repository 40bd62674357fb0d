import Derived.Test.YtebnlafjepfkdaaDoorGenF
namespace Go.Proofs.YtebnlafjepfkdaaDoor
open Go.RowKit

theorem SP.snd {c : Nat → Int} {L N z : Nat} (S : SP c L N z) {m : Nat} (hm : m < N) : soundB c L z (pos c m) = true := by
  unfold soundB
  have h1 := S.op m hm
  have h2 := S.fits m hm
  have h3 := S.cell m hm
  cases hb : holdsB (c (pos c m)) with
  | false => simp; exact ⟨h1, h2⟩
  | true => simp; exact ⟨⟨h1, h2⟩, h3 hb⟩
/-- There is one way to cut the bytes into instructions. -/
theorem SP.same {c : Nat → Int} {L N M z : Nat} (S : SP c L N z) (hN : pos c N = L) (S' : SP c L M z) (h : pos c M = L ∨ pos c M < L ∧ soundB c L z (pos c M) = false) : M = N := by
  rcases Nat.lt_trichotomy M N with hlt | he | hgt
  · have h1 := S.lt hlt
    rcases h with h | ⟨_, h⟩
    · omega
    · rw [S.snd hlt] at h; cases h
  · exact he
  · have := S'.lt hgt; omega
theorem SP.stop {c : Nat → Int} {L N M z : Nat} (S : SP c L N z) (hN : pos c N < L ∧ soundB c L z (pos c N) = false) (S' : SP c L M z) (h : pos c M = L ∨ pos c M < L ∧ soundB c L z (pos c M) = false) : M = N := by
  rcases Nat.lt_trichotomy M N with hlt | he | hgt
  · have h1 := S.lt hlt
    rcases h with h | ⟨_, h⟩
    · omega
    · rw [S.snd hlt] at h; cases h
  · exact he
  · rw [S'.snd hgt] at hN; cases hN.2
theorem SP.more {c : Nat → Int} {L N z y : Nat} (S : SP c L N z) (h : z ≤ y) (hy : y ≤ 20) : SP c L N y :=
  ⟨S.most, hy, S.byte, fun m hm => by have := S.op m hm; omega, S.fits, S.cell⟩
theorem WT.same {c : Nat → Int} {N r s : Nat} {b d : Bool} (h : WT c N r b) (k : WT c N s d) : r = s ∧ b = d := by
  rcases h with ⟨rfl, rfl, h⟩ | ⟨rfl, t, ht, rfl, hb, h⟩ <;> rcases k with ⟨rfl, rfl, k⟩ | ⟨rfl, u, hu, rfl, kb, k⟩
  · exact ⟨rfl, rfl⟩
  · rw [h u hu] at kb; cases kb
  · rw [k t ht] at hb; cases hb
  · refine ⟨?_, rfl⟩
    rcases Nat.lt_trichotomy t u with q | q | q
    · rw [k t q] at hb; cases hb
    · rw [q]
    · rw [h u q] at kb; cases kb
/-- 'flaw' and 'wrong' say the same. -/
theorem FlawIs.same {c : Nat → Int} {L most z r s : Nat} {b d : Bool} (h : FlawIs c L most z r b) (k : FlawIs c L most z s d) : r = s ∧ b = d := by
  rcases h with ⟨h1, rfl, rfl⟩ | ⟨h1, N, S, h⟩ <;> rcases k with ⟨k1, rfl, rfl⟩ | ⟨k1, M, T, k⟩
  · exact ⟨rfl, rfl⟩
  · omega
  · omega
  · rcases h with ⟨p1, p2, rfl, rfl⟩ | ⟨hN, h⟩ <;> rcases k with ⟨q1, q2, rfl, rfl⟩ | ⟨hM, k⟩
    · rw [S.stop ⟨p1, p2⟩ T (Or.inr ⟨q1, q2⟩)]; exact ⟨rfl, rfl⟩
    · have := S.stop ⟨p1, p2⟩ T (Or.inl hM); subst this; omega
    · have := S.same hN T (Or.inr ⟨q1, q2⟩); subst this; omega
    · have := S.same hN T (Or.inl hM)
      subst this
      rcases h with ⟨h, rfl, rfl⟩ | ⟨h, h'⟩ <;> rcases k with ⟨k, rfl, rfl⟩ | ⟨k, k'⟩
      · exact ⟨rfl, rfl⟩
      · rw [h] at k; cases k
      · rw [h] at k; cases k
      · exact h'.same k'
end Go.Proofs.YtebnlafjepfkdaaDoor
