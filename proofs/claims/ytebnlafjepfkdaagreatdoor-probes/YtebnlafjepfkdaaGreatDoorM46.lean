import Derived.Test.YtebnlafjepfkdaaGreatDoorM44
import Derived.Test.YtebnlafjepfkdaaGreatDoorM45
namespace Go.Proofs.YtebnlafjepfkdaaGreatDoor
open Go.RowKit

/-- Code with a probe ahead of each byte that f marks; byte p reads v p. -/
def gcode (f : Nat → Bool) (v : Nat → Int) : Nat → List Int
  | 0 => []
  | p + 1 => gcode f v p ++ ((if f p then [20, (cntB f p : Int)] else []) ++ [v p])
theorem gcode_len (f : Nat → Bool) (v : Nat → Int) : ∀ p, (gcode f v p).length = qOf f p
  | 0 => rfl
  | p + 1 => by
    unfold gcode
    rw [List.length_append, List.length_append, gcode_len f v p, q_succ]
    cases h : f p
    · rw [r_no h]; simp
    · rw [r_yes h]; simp
theorem pcode_g (c : Nat → Int) (N : Nat) : ∀ p, pcode c N p = gcode (bgn c N) (tr c N) p
  | 0 => rfl
  | p + 1 => by unfold pcode gcode; rw [pcode_g c N p]
theorem gcode_congr {f : Nat → Bool} {v u : Nat → Int} : ∀ {L : Nat}, (∀ p, p < L → v p = u p) → gcode f v L = gcode f u L
  | 0, _ => rfl
  | L + 1, h => by unfold gcode; rw [gcode_congr (fun p hp => h p (by omega)), h L (by omega)]
def put1 (v : Nat → Int) (p : Nat) (x : Int) (j : Nat) : Int := if j = p then x else v j
theorem gcode_set (f : Nat → Bool) (v : Nat → Int) (x : Int) (p : Nat) : ∀ L, p < L → (gcode f v L).set (rOf f p) x = gcode f (put1 v p x) L
  | 0, h => by omega
  | L + 1, h => by
    unfold gcode
    by_cases e : p = L
    · subst e
      have hg : gcode f (put1 v p x) p = gcode f v p := gcode_congr fun j hj => by unfold put1; rw [if_neg (by omega)]
      have hx : put1 v p x p = x := by unfold put1; rw [if_pos rfl]
      rw [hg, hx, List.set_append_right _ _ (by rw [gcode_len]; exact q_le_r f p), gcode_len]
      cases hf : f p
      · rw [r_no hf, Nat.sub_self]; rfl
      · rw [r_yes hf, Nat.add_sub_cancel_left]; rfl
    · have hlt : rOf f p < qOf f L := by
        have h1 := q_succ f p
        have h2 := q_le (f := f) (p := p + 1) (r := L) (by omega)
        omega
      have hx : put1 v p x L = v L := by unfold put1; rw [if_neg (by omega)]
      rw [List.set_append_left _ _ (by rw [gcode_len]; exact hlt), gcode_set f v x p L (by omega), hx]

/-- The bytes, the jumps of the first m instructions brought on. -/
def vm (c : Nat → Int) (N m p : Nat) : Int := if (List.range m).any (fun t => leadsB (c (pos c t)) && pos c t + 1 == p) then c p + 2 * cntB (bgn c N) (c p).toNat else c p
theorem vm_zero (c : Nat → Int) (N : Nat) : vm c N 0 = c := by funext p; unfold vm; simp
theorem vm_all (c : Nat → Int) (N : Nat) : vm c N N = tr c N := rfl
theorem vm_no {c : Nat → Int} {N m : Nat} (h : leadsB (c (pos c m)) = false) : vm c N (m + 1) = vm c N m := by
  funext p
  unfold vm
  rw [List.range_succ, List.any_append]
  simp [h]
theorem vm_yes {c : Nat → Int} {N m : Nat} (h : leadsB (c (pos c m)) = true) : vm c N (m + 1) = put1 (vm c N m) (pos c m + 1) (c (pos c m + 1) + 2 * cntB (bgn c N) (c (pos c m + 1)).toNat) := by
  funext p
  unfold put1
  by_cases e : p = pos c m + 1
  · rw [if_pos e]
    unfold vm
    rw [List.range_succ, List.any_append]
    subst e
    simp [h]
  · rw [if_neg e]
    unfold vm
    rw [List.range_succ, List.any_append]
    have hb : (pos c m + 1 == p) = false := by rw [beq_eq_false_iff_ne]; omega
    simp [h, hb]

/-- A place of the bytes stands just once among the places. -/
theorem pfrom_once (c : Nat → Int) (N p : Nat) : ∀ L i, (pfrom c N L)[i]? = some (p : Int) → i = rOf (bgn c N) p
  | 0, i, h => by simp [pfrom] at h
  | L + 1, i, h => by
    unfold pfrom at h
    by_cases hi : i < qOf (bgn c N) L
    · rw [List.getElem?_append_left (by rw [pfrom_len]; exact hi)] at h
      exact pfrom_once c N p L i h
    · rw [List.getElem?_append_right (by rw [pfrom_len]; omega), pfrom_len] at h
      cases hb : bgn c N L with
      | false =>
        rw [hb] at h
        obtain ⟨j, hj⟩ : ∃ j, i - qOf (bgn c N) L = j := ⟨_, rfl⟩
        rw [hj] at h
        match j, h with
        | 0, h =>
          have e : L = p := by have : (L : Int) = (p : Int) := by simpa using h
                               omega
          subst e
          rw [r_no hb]; omega
        | j + 1, h => simp at h
      | true =>
        rw [hb] at h
        obtain ⟨j, hj⟩ : ∃ j, i - qOf (bgn c N) L = j := ⟨_, rfl⟩
        rw [hj] at h
        match j, h with
        | 0, h => simp at h
        | 1, h => simp at h
        | 2, h =>
          have e : L = p := by have : (L : Int) = (p : Int) := by simpa using h
                               omega
          subst e
          rw [r_yes hb]; omega
        | j + 3, h => simp at h
theorem place_from {c : Nat → Int} {N L p : Nat} {r : Int} (hp : p < L) (h : PlaceIs (pf c N L) (qOf (bgn c N) L) (p : Int) r) : r = (rOf (bgn c N) p : Int) := by
  have hget : ∀ i, i < qOf (bgn c N) L → (pfrom c N L)[i]? = some (pf c N L i) := fun i hi => by
    rw [← pfrom_len c N L] at hi
    rw [List.getElem?_eq_getElem hi]
    unfold pf
    rw [List.getD_eq_getElem?_getD, List.getElem?_eq_getElem hi]; rfl
  rcases h with ⟨i, h1, h2, _, rfl⟩ | ⟨h1, _⟩
  · have := pfrom_once c N p L i (by rw [hget i h1, h2])
    rw [this]
  · have hr : rOf (bgn c N) p < qOf (bgn c N) L := by
      have h1 := q_succ (bgn c N) p
      have h2 := q_le (f := bgn c N) (p := p + 1) (r := L) (by omega)
      omega
    have h3 := hget _ hr
    rw [pfrom_r c N hp] at h3
    exact absurd (Option.some.inj h3).symm (h1 _ hr)

/-- The blocks, as numbers. -/
def blN (c : Nat → Int) (N k : Nat) : Int := match (blkl c N N)[k]? with
  | some (.int .i64 x) => x
  | _ => 0
theorem blN_at {c : Nat → Int} {N k : Nat} (h : k < cntR c N N) : ∃ t, t < N ∧ blN c N k = (pos c t : Int) ∧ (blkl c N N)[k]? = some (.int .i64 (blN c N k)) ∧ rbegAt c t N = true ∧ cntR c N t = k := by
  obtain ⟨t, h1, h2, h3, h4⟩ := blk_at (c := c) (N := N) N k h
  have e : blN c N k = (pos c t : Int) := by unfold blN; rw [h2]
  exact ⟨t, h1, e, by rw [e]; exact h2, h3, h4⟩
theorem place_block {c : Nat → Int} {L N p : Nat} {r : Int} (F : Fine c L N 19) (hL : L ≤ 80) (h : PlaceIs (blN c N) (cntR c N N) (p : Int) r) : r = if bgn c N p then (cntB (bgn c N) p : Int) else -1 := by
  rcases h with ⟨k, h1, h2, _, rfl⟩ | ⟨h1, rfl⟩
  · obtain ⟨t, a, b, _, d, e⟩ := blN_at h1
    have hp : pos c t = p := by rw [b] at h2; omega
    subst hp
    rw [bgn_pos F.sp a, d, if_pos rfl, cnt_is F t (by omega), e]
  · cases hb : bgn c N p with
    | false => rfl
    | true =>
      exfalso
      obtain ⟨t, ht, rfl⟩ := (F.vp hL).begins hb
      have hr : rbegAt c t N = true := by rw [← bgn_pos F.sp ht]; exact hb
      have hlt := cntR_lt (N := N) hr ht
      obtain ⟨t', a, b, _, d, e⟩ := blN_at hlt
      have ht' : t' = t := by
        rcases Nat.lt_trichotomy t' t with x | x | x
        · have := cntR_lt (N := N) d x; omega
        · exact x
        · have := cntR_lt (N := N) hr x; omega
      subst ht'
      exact h1 _ hlt b
end Go.Proofs.YtebnlafjepfkdaaGreatDoor

