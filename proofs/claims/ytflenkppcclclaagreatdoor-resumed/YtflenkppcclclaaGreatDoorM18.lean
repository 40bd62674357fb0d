import Derived.Test.YtflenkppcclclaaGreatDoorM17
namespace Go.Proofs.YtflenkppcclclaaGreatDoor
open Go.RowKit

/-! Lines: written and read. -/
def unDig (c : Int) : Option Int := if 48 ≤ c ∧ c ≤ 57 then some (c - 48) else if 97 ≤ c ∧ c ≤ 102 then some (c - 87) else none
def decodeL : List Int → Option (List Int)
  | [] => some []
  | [_] => none
  | a :: b :: l => match unDig a, unDig b, decodeL l with
    | some x, some y, some r => some ((16 * x + y) :: r)
    | _, _, _ => none
/-- A line's letter and its input. -/
def readL : List Int → Option (Bool × ByteArray)
  | a :: b :: rest => if (a = 113 ∨ a = 99) ∧ b = 32 ∧ rest.length ≤ 48 ∧ rest.length % 2 = 0 then (decodeL rest).map fun l => (decide (a = 113), strOfNums l) else none
  | _ => none
def bodyL (b : Bool) (s : ByteArray) : List Int := letter b :: 32 :: hexL (nums s)
theorem line_body (b : Bool) (s : ByteArray) : lineL b s = bodyL b s ++ [10] := rfl
theorem unDig_dig (n : Int) (h0 : 0 ≤ n) (h1 : n ≤ 15) : unDig (dig n) = some n ∧ dig n ≠ 10 := by
  obtain ⟨k, rfl⟩ : ∃ k : Nat, n = k := ⟨n.toNat, by omega⟩
  have hk : k < 16 := by omega
  match k, hk with
  | 0, _ | 1, _ | 2, _ | 3, _ | 4, _ | 5, _ | 6, _ | 7, _ | 8, _ | 9, _ | 10, _ | 11, _ | 12, _ | 13, _ | 14, _ | 15, _ => decide
  | k + 16, h => omega
theorem dig_unDig {c x : Int} (h : unDig c = some x) : dig x = c ∧ 0 ≤ x ∧ x ≤ 15 := by
  unfold unDig at h
  split at h
  · injection h with h
    obtain ⟨k, rfl⟩ : ∃ k : Nat, x = k := ⟨x.toNat, by omega⟩
    have hk : k < 10 := by omega
    obtain rfl : c = k + 48 := by omega
    match k, hk with
    | 0, _ | 1, _ | 2, _ | 3, _ | 4, _ | 5, _ | 6, _ | 7, _ | 8, _ | 9, _ => decide
    | k + 10, h => omega
  · split at h
    · injection h with h
      obtain ⟨k, rfl⟩ : ∃ k : Nat, x = k := ⟨x.toNat, by omega⟩
      obtain rfl : c = k + 87 := by omega
      have hk : 10 ≤ k ∧ k < 16 := by omega
      obtain ⟨j, rfl⟩ : ∃ j, k = j + 10 := ⟨k - 10, by omega⟩
      have hj : j < 6 := by omega
      match j, hj with
      | 0, _ | 1, _ | 2, _ | 3, _ | 4, _ | 5, _ => decide
      | j + 6, h => omega
    · cases h
theorem hex_len : ∀ l : List Int, (hexL l).length = 2 * l.length
  | [] => rfl
  | x :: l => by simp [hexL, hex_len l]; omega
theorem decode_hex : ∀ l : List Int, Byt l → decodeL (hexL l) = some l
  | [], _ => rfl
  | x :: l, h => by
    have hx := h x (by simp)
    have ih := decode_hex l (fun y hy => h y (by simp [hy]))
    have d1 := (unDig_dig (x / 16) (by omega) (by omega)).1
    have d2 := (unDig_dig (x % 16) (by omega) (by omega)).1
    simp only [hexL, decodeL, d1, d2, ih]
    congr 2
    omega
theorem hex_no10 : ∀ l : List Int, Byt l → (10 : Int) ∉ hexL l
  | [], _ => by simp [hexL]
  | x :: l, h => by
    have hx := h x (by simp)
    have ih := hex_no10 l (fun y hy => h y (by simp [hy]))
    have d1 := (unDig_dig (x / 16) (by omega) (by omega)).2
    have d2 := (unDig_dig (x % 16) (by omega) (by omega)).2
    simp only [hexL, List.mem_cons, not_or]
    exact ⟨fun e => d1 e.symm, fun e => d2 e.symm, ih⟩
theorem hex_decode : ∀ (r l : List Int), decodeL r = some l → hexL l = r ∧ Byt l ∧ r.length = 2 * l.length
  | [], l, e => by cases e; exact ⟨rfl, (fun x hx => by simp at hx), rfl⟩
  | [_], _, e => by cases e
  | a :: b :: r, l, e => by
    unfold decodeL at e
    split at e
    · rename_i x y r' h1 h2 h3
      injection e with e
      subst e
      obtain ⟨g1, g2, g3⟩ := hex_decode r r' h3
      obtain ⟨p1, p2, p3⟩ := dig_unDig h1
      obtain ⟨q1, q2, q3⟩ := dig_unDig h2
      refine ⟨?_, ?_, ?_⟩
      · simp only [hexL]
        rw [show (16 * x + y) / 16 = x by omega, show (16 * x + y) % 16 = y by omega, p1, q1, g1]
      · intro z hz
        rcases List.mem_cons.1 hz with rfl | hz
        · omega
        · exact g2 z hz
      · simp [g3]; omega
    · cases e
theorem read_body (b : Bool) (s : ByteArray) (hs : s.size ≤ 24) : readL (bodyL b s) = some (b, s) := by
  have h1 := hex_len (nums s)
  rw [nums_len] at h1
  show (if (letter b = 113 ∨ letter b = 99) ∧ (32 : Int) = 32 ∧ (hexL (nums s)).length ≤ 48 ∧ (hexL (nums s)).length % 2 = 0 then (decodeL (hexL (nums s))).map fun l => (decide (letter b = 113), strOfNums l) else none) = _
  rw [if_pos ⟨by cases b <;> simp [letter], rfl, by omega, by omega⟩, decode_hex _ (nums_byt s)]
  cases b <;> simp [str_nums, letter]
theorem body_no10 (b : Bool) (s : ByteArray) : (10 : Int) ∉ bodyL b s := by
  unfold bodyL letter
  simp only [List.mem_cons, not_or]
  exact ⟨by cases b <;> decide, by decide, hex_no10 _ (nums_byt s)⟩
theorem read_is {l : List Int} {b : Bool} {s : ByteArray} (h : readL l = some (b, s)) : l = bodyL b s ∧ s.size ≤ 24 := by
  unfold readL at h
  split at h
  · rename_i a c rest
    split at h
    · rename_i hc
      obtain ⟨ha, rfl, h1, h2⟩ := hc
      cases hd : decodeL rest with
      | none => rw [hd] at h; cases h
      | some t =>
        rw [hd] at h
        simp only [Option.map_some, Option.some.injEq, Prod.mk.injEq] at h
        obtain ⟨hb, rfl⟩ := h
        obtain ⟨g1, g2, g3⟩ := hex_decode rest t hd
        refine ⟨?_, by rw [str_size]; omega⟩
        unfold bodyL letter
        rw [nums_str g2, g1]
        rcases ha with rfl | rfl
        · simp at hb; subst hb; rfl
        · simp at hb; subst hb; rfl
    · cases h
  · cases h

/-! A text's whole lines. -/
def linesA (acc : List Int) : List Int → List (List Int)
  | [] => []
  | x :: l => if x = 10 then acc :: linesA [] l else linesA (acc ++ [x]) l
def linesL (l : List Int) : List (List Int) := linesA [] l
theorem linesA_none : ∀ (a acc : List Int), (10 : Int) ∉ a → linesA acc a = []
  | [], _, _ => rfl
  | x :: a, acc, h => by
    unfold linesA
    rw [if_neg (fun e => h (by simp [e]))]
    exact linesA_none a _ (fun e => h (by simp [e]))
theorem linesA_cut : ∀ (a b acc : List Int), (10 : Int) ∉ a → linesA acc (a ++ 10 :: b) = (acc ++ a) :: linesL b
  | [], b, acc, _ => by simp [linesA, linesL]
  | x :: a, b, acc, h => by
    show (if x = 10 then _ else linesA (acc ++ [x]) (a ++ 10 :: b)) = _
    rw [if_neg (fun e => h (by simp [e])), linesA_cut a b _ (fun e => h (by simp [e]))]
    simp
theorem lines_cut (a b : List Int) (h : (10 : Int) ∉ a) : linesL (a ++ 10 :: b) = a :: linesL b := linesA_cut a b [] h
theorem lines_none (a : List Int) (h : (10 : Int) ∉ a) : linesL a = [] := linesA_none a [] h
/-- The lines, laid one behind the other again. -/
def joinL : List (List Int) → List Int
  | [] => []
  | x :: l => x ++ 10 :: joinL l
/-- A text is its whole lines, and what stands behind its last end of a line. -/
theorem lines_split : ∀ l : List Int, ∃ r, l = joinL (linesL l) ++ r ∧ (10 : Int) ∉ r ∧ ∀ x ∈ linesL l, (10 : Int) ∉ x := by
  suffices H : ∀ (l acc : List Int), (10 : Int) ∉ acc → (∃ r, acc ++ l = joinL (linesA acc l) ++ r ∧ (10 : Int) ∉ r ∧ ∀ x ∈ linesA acc l, (10 : Int) ∉ x) from fun l => by
    have := H l [] (by simp)
    simpa [linesL] using this
  intro l
  induction l with
  | nil => intro acc h; exact ⟨acc, by simp [linesA, joinL], h, by simp [linesA]⟩
  | cons x l ih =>
    intro acc h
    unfold linesA
    by_cases e : x = 10
    · subst e
      rw [if_pos rfl]
      obtain ⟨r, h1, h2, h3⟩ := ih [] (by simp)
      refine ⟨r, ?_, h2, ?_⟩
      · rw [List.nil_append] at h1
        show acc ++ 10 :: l = (acc ++ 10 :: joinL (linesA [] l)) ++ r
        conv => lhs; rw [h1]
        simp
      · intro y hy
        rcases List.mem_cons.1 hy with rfl | hy
        · exact h
        · exact h3 y hy
    · rw [if_neg e]
      obtain ⟨r, h1, h2, h3⟩ := ih (acc ++ [x]) (by simp [h]; exact fun q => e q.symm)
      exact ⟨r, by simpa using h1, h2, h3⟩
theorem lines_join : ∀ (ls : List (List Int)) (r : List Int), (∀ x ∈ ls, (10 : Int) ∉ x) → linesL (joinL ls ++ r) = ls ++ linesL r
  | [], r, _ => rfl
  | x :: ls, r, h => by
    show linesL ((x ++ 10 :: joinL ls) ++ r) = _
    rw [List.append_assoc, List.cons_append, lines_cut _ _ (h x (by simp)), lines_join ls r (fun y hy => h y (by simp [hy]))]
    rfl
theorem log_join : ∀ l : List (Bool × ByteArray), logL l = joinL (l.map fun x => bodyL x.1 x.2)
  | [] => rfl
  | x :: l => by
    show lineL x.1 x.2 ++ logL l = bodyL x.1 x.2 ++ 10 :: joinL _
    rw [log_join l, line_body]
    simp

/-! To follow a log. -/
def followS (R : ByteArray → Sh) : Nat → HS → List (List Int) → HS × Option Nat
  | _, h, [] => (h, none)
  | k, h, l :: ls => match readL l with
    | none => (h, some k)
    | some x => if (tryS R h x.2).2 = letter x.1 then followS R (k + 1) (tryS R h x.2).1 ls else ((tryS R h x.2).1, some k)
theorem follow_ok (R : ByteArray → Sh) : ∀ (ls : List (List Int)) (k : Nat) (h h' : HS), followS R k h ls = (h', none) → ∃ l : List (Bool × ByteArray), ls = l.map (fun x => bodyL x.1 x.2) ∧ (∀ x ∈ l, x.2.size ≤ 24) ∧ retry R h l = some h'
  | [], _, _, _, e => by
    injection e with e _
    subst e
    exact ⟨[], rfl, by simp, rfl⟩
  | y :: ls, k, h, h', e => by
    unfold followS at e
    split at e
    · cases e
    · rename_i x hx
      split at e
      · rename_i hl
        obtain ⟨l, h1, h2, h3⟩ := follow_ok R ls (k + 1) _ h' e
        obtain ⟨g1, g2⟩ := read_is (b := x.1) (s := x.2) hx
        refine ⟨x :: l, by rw [List.map_cons, ← h1, ← g1], ?_, ?_⟩
        · intro z hz
          rcases List.mem_cons.1 hz with rfl | hz
          · exact g2
          · exact h2 z hz
        · show (if _ then _ else _) = _
          rw [if_pos hl]; exact h3
      · cases e
theorem follow_of (R : ByteArray → Sh) : ∀ (l : List (Bool × ByteArray)) (k : Nat) (h h' : HS), (∀ x ∈ l, x.2.size ≤ 24) → retry R h l = some h' → followS R k h (l.map fun x => bodyL x.1 x.2) = (h', none)
  | [], _, _, _, _, e => by cases e; rfl
  | x :: l, k, h, h', hl, e => by
    unfold retry at e
    rw [List.map_cons]
    unfold followS
    rw [read_body _ _ (hl x (by simp))]
    dsimp only
    split at e
    · rename_i q
      rw [if_pos q]
      exact follow_of R l (k + 1) _ h' (fun y hy => hl y (by simp [hy])) e
    · cases e
/-- A wrong line is wrong, whatever follows it. -/
theorem follow_bad (R : ByteArray → Sh) : ∀ (ls : List (List Int)) (k : Nat) (h h' : HS) (n : Nat), followS R k h ls = (h', some n) → k ≤ n ∧ n - k < ls.length ∧ ∀ more, followS R k h (ls.take (n - k + 1) ++ more) = (h', some n)
  | [], _, _, _, _, e => by cases e
  | y :: ls, k, h, h', n, e => by
    unfold followS at e
    split at e
    · rename_i hy
      injection e with e1 e2
      injection e2 with e2
      subst e1 e2
      refine ⟨Nat.le_refl _, by simp, fun more => ?_⟩
      rw [Nat.sub_self, Nat.zero_add, List.take_succ_cons, List.take_zero, List.singleton_append]
      unfold followS
      rw [hy]
    · rename_i x hx
      split at e
      · rename_i hl
        obtain ⟨h1, h2, h3⟩ := follow_bad R ls (k + 1) _ h' n e
        refine ⟨by omega, by simp; omega, fun more => ?_⟩
        rw [show n - k + 1 = (n - (k + 1) + 1) + 1 by omega, List.take_succ_cons, List.cons_append]
        unfold followS
        rw [hx]
        dsimp only
        rw [if_pos hl]
        exact h3 more
      · rename_i hl
        injection e with e1 e2
        injection e2 with e2
        subst e1 e2
        refine ⟨Nat.le_refl _, by simp, fun more => ?_⟩
        rw [Nat.sub_self, Nat.zero_add, List.take_succ_cons, List.take_zero, List.singleton_append]
        unfold followS
        rw [hx]
        dsimp only
        rw [if_neg hl]
end Go.Proofs.YtflenkppcclclaaGreatDoor

namespace Go.Proofs.YtflenkppcclclaaGreatDoor
open Go.RowKit

/-! Which are favoured: P11. -/
theorem shortest_some (kept : List Inp) (fits : Nat → Bool) : ∀ (n b : Nat), shortest kept fits n = some b → b < n ∧ fits b = true
  | 0, b, e => by cases e
  | n + 1, b, e => by
    unfold shortest at e
    split at e
    · split at e
      · rename_i hf
        injection e with e
        subst e
        exact ⟨by omega, hf⟩
      · cases e
    · rename_i c hc
      have ih := shortest_some kept fits n c hc
      split at e
      · rename_i hf
        injection e with e
        subst e
        simp at hf
        exact ⟨by omega, hf.1⟩
      · injection e with e
        subst e
        exact ⟨by omega, ih.2⟩
theorem shortest_none (kept : List Inp) (fits : Nat → Bool) : ∀ n, shortest kept fits n = none → ∀ m, m < n → fits m = false
  | 0, _, m, hm => by omega
  | n + 1, e, m, hm => by
    unfold shortest at e
    split at e
    · rename_i hc
      split at e
      · cases e
      · rename_i hf
        by_cases h : m = n
        · subst h; simpa using hf
        · exact shortest_none kept fits n hc m (by omega)
    · split at e <;> cases e
structure FavOk (kept : List Inp) (l : List Nat) : Prop where
  lt : ∀ n ∈ l, n < kept.length
  nodup : l.Nodup
theorem favOne_ok {kept : List Inp} {l : List Nat} (h : FavOk kept l) (p : Nat) (b : Int) : FavOk kept (favOne kept p b l) ∧ (∀ n ∈ l, n ∈ favOne kept p b l) ∧ ∀ m, m < kept.length → keyAt kept p b m = true → (favOne kept p b l).any (keyAt kept p b) = true := by
  unfold favOne
  by_cases ha : l.any (keyAt kept p b) = true
  · rw [if_pos ha]
    exact ⟨h, fun _ hn => hn, fun _ _ _ => ha⟩
  · rw [if_neg ha]
    split
    · rename_i hs
      refine ⟨h, fun _ hn => hn, fun m hm hk => ?_⟩
      have := shortest_none kept _ _ hs m hm
      rw [this] at hk; cases hk
    · rename_i n hs
      obtain ⟨h1, h2⟩ := shortest_some kept _ _ _ hs
      have hni : n ∉ l := fun hin => ha (List.any_eq_true.2 ⟨n, hin, h2⟩)
      refine ⟨⟨fun m hm => ?_, ?_⟩, fun m hm => by simp [hm], fun m _ _ => ?_⟩
      · rcases List.mem_append.1 hm with hm | hm
        · exact h.lt m hm
        · simp at hm; omega
      · rw [List.nodup_append]
        refine ⟨h.nodup, by simp, ?_⟩
        intro a ha' c hc
        simp at hc
        subst hc
        exact fun e => hni (e ▸ ha')
      · rw [List.any_append]; simp [h2]
theorem any_mono {l l' : List Nat} {f : Nat → Bool} (h : ∀ n ∈ l, n ∈ l') (ha : l.any f = true) : l'.any f = true := by
  obtain ⟨n, hn, hf⟩ := List.any_eq_true.1 ha
  exact List.any_eq_true.2 ⟨n, h n hn, hf⟩
theorem favBits_ok {kept : List Inp} (p : Nat) : ∀ (k : Nat) (l : List Nat), FavOk kept l → FavOk kept (favBits kept p k l) ∧ (∀ n ∈ l, n ∈ favBits kept p k l) ∧ ∀ j, j < k → ∀ m, m < kept.length → keyAt kept p (bitN j) m = true → (favBits kept p k l).any (keyAt kept p (bitN j)) = true
  | 0, _, h => ⟨h, fun _ hn => hn, fun j hj => by omega⟩
  | k + 1, l, h => by
    obtain ⟨h1, h2, h3⟩ := favBits_ok p k l h
    obtain ⟨g1, g2, g3⟩ := favOne_ok h1 p (bitN k)
    refine ⟨g1, fun n hn => g2 n (h2 n hn), fun j hj m hm hk => ?_⟩
    by_cases e : j = k
    · subst e; exact g3 m hm hk
    · exact any_mono g2 (h3 j (by omega) m hm hk)
theorem favPlaces_ok (kept : List Inp) : ∀ q, FavOk kept (favPlaces kept q) ∧ ∀ p, p < q → ∀ j, j < 8 → ∀ m, m < kept.length → keyAt kept p (bitN j) m = true → (favPlaces kept q).any (keyAt kept p (bitN j)) = true
  | 0 => ⟨⟨(fun n hn => by simp [favPlaces] at hn), List.nodup_nil⟩, fun p hp => by omega⟩
  | q + 1 => by
    obtain ⟨h1, h2⟩ := favPlaces_ok kept q
    obtain ⟨g1, g2, g3⟩ := favBits_ok (kept := kept) q 8 _ h1
    refine ⟨g1, fun p hp j hj m hm hk => ?_⟩
    by_cases e : p = q
    · subst e; exact g3 j hj m hm hk
    · exact any_mono g2 (h2 p (by omega) j hj m hm hk)
theorem chosen_ok (kept : List Inp) : FavOk kept (chosenS kept) := (favPlaces_ok kept 64).1
theorem fav_mem (kept : List Inp) (n : Nat) : n ∈ favS kept ↔ n ∈ chosenS kept := by
  unfold favS
  rw [List.mem_filter, List.mem_range, List.contains_iff_mem]
  exact ⟨fun h => h.2, fun h => ⟨(chosen_ok kept).lt n h, h⟩⟩
theorem fav_lt (kept : List Inp) : ∀ n ∈ favS kept, n < kept.length := fun n hn => (chosen_ok kept).lt n ((fav_mem kept n).1 hn)
theorem fav_rising (kept : List Inp) : (favS kept).Pairwise (· < ·) := List.Pairwise.filter _ List.pairwise_lt_range
theorem fav_perm (kept : List Inp) : (favS kept).Perm (chosenS kept) := by
  refine (List.perm_ext_iff_of_nodup ?_ (chosen_ok kept).nodup).2 (fav_mem kept)
  exact (fav_rising kept).imp (fun h => Nat.ne_of_lt h)
/-- A bit of a cover. -/
theorem cls_bit {x : Int} (h : Cls x) (h0 : x ≠ 0) : ∃ j, j < 8 ∧ x = bitN j := by
  rcases h with rfl | rfl | rfl | rfl | rfl | rfl | rfl | rfl | rfl
  · exact absurd rfl h0
  · exact ⟨0, by omega, rfl⟩
  · exact ⟨1, by omega, rfl⟩
  · exact ⟨2, by omega, rfl⟩
  · exact ⟨3, by omega, rfl⟩
  · exact ⟨4, by omega, rfl⟩
  · exact ⟨5, by omega, rfl⟩
  · exact ⟨6, by omega, rfl⟩
  · exact ⟨7, by omega, rfl⟩
theorem bit_cls {j : Nat} (h : j < 8) : Cls (bitN j) := by
  unfold bitN Cls
  match j, h with
  | 0, _ | 1, _ | 2, _ | 3, _ | 4, _ | 5, _ | 6, _ | 7, _ => decide
  | j + 8, h => omega
/-- Whatever bit one has, a favoured one has. -/
theorem fav_has (kept : List Inp) (p : Nat) (hp : p < 64) (i : Nat) (k : Inp) (hi : kept[i]? = some k) (hc : Cls (k.cov p)) (h0 : k.cov p ≠ 0) : ∃ n ∈ favS kept, ∃ k', kept[n]? = some k' ∧ k'.cov p = k.cov p := by
  obtain ⟨j, hj, e⟩ := cls_bit hc h0
  have hlt := (List.getElem?_eq_some_iff.1 hi).1
  have hk : keyAt kept p (bitN j) i = true := by
    unfold keyAt hasB
    rw [hi, ← e]
    simp [h0]
  obtain ⟨n, hn, hf⟩ := List.any_eq_true.1 ((favPlaces_ok kept 64).2 p hp j hj i hlt hk)
  have hnl := (chosen_ok kept).lt n hn
  refine ⟨n, (fav_mem kept n).2 hn, _, List.getElem?_eq_getElem hnl, ?_⟩
  unfold keyAt hasB at hf
  rw [List.getElem?_eq_getElem hnl] at hf
  simp at hf
  rw [e]
  exact hf.1
theorem fav_some {R : ByteArray → Sh} {h : HS} (p : Hinv R h) (hR : ROk R) (hk : 0 < h.kept.length) : favS h.kept ≠ [] := by
  have e := List.getElem?_eq_getElem hk
  obtain ⟨h1, _, h3, h4⟩ := p.kept 0 _ e
  unfold newS at h4
  obtain ⟨q, hq, hb⟩ := List.any_eq_true.1 h4
  rw [List.mem_range] at hq
  simp at hb
  obtain ⟨n, hn, _⟩ := fav_has h.kept q hq 0 _ e (by rw [h3]; exact hR.cov _ h1 q) hb
  intro c
  rw [c] at hn
  cases hn

/-! What all have seen. -/
theorem bits_or_u8_nat (a b : Nat) (ha : a < 256) (hb : b < 256) : bits .or .u8 (a : Int) (b : Int) = ((a ||| b : Nat) : Int) := by
  have hx : a ||| b < 2 ^ 8 := Nat.or_lt_two_pow (by omega) (by omega)
  have h1 : (BitVec.ofInt 8 (a : Int)).toNat = a := by
    rw [BitVec.ofInt_natCast, BitVec.toNat_ofNat]; exact Nat.mod_eq_of_lt (by omega)
  have h2 : (BitVec.ofInt 8 (b : Int)).toNat = b := by
    rw [BitVec.ofInt_natCast, BitVec.toNat_ofNat]; exact Nat.mod_eq_of_lt (by omega)
  show IntKind.u8.wrap ((BitVec.ofInt 8 (a : Int) ||| BitVec.ofInt 8 (b : Int)).toNat : Int) = _
  rw [BitVec.toNat_or, h1, h2, IntKind.wrap_u8]
  omega
theorem bits_not_u8_nat (a b : Nat) (ha : a < 256) (hb : b < 256) : bits .andNot .u8 (a : Int) (b : Int) = ((a &&& (255 - b) : Nat) : Int) := by
  have hx : a &&& (255 - b) < 2 ^ 8 := Nat.and_lt_two_pow _ (by omega)
  have h1 : (BitVec.ofInt 8 (a : Int)).toNat = a := by
    rw [BitVec.ofInt_natCast, BitVec.toNat_ofNat]; exact Nat.mod_eq_of_lt (by omega)
  have h2 : (BitVec.ofInt 8 (b : Int)).toNat = b := by
    rw [BitVec.ofInt_natCast, BitVec.toNat_ofNat]; exact Nat.mod_eq_of_lt (by omega)
  show IntKind.u8.wrap ((BitVec.ofInt 8 (a : Int) &&& ~~~ BitVec.ofInt 8 (b : Int)).toNat : Int) = _
  rw [BitVec.toNat_and, BitVec.toNat_not, h1, h2, IntKind.wrap_u8, show 2 ^ 8 - 1 - b = 255 - b by omega]
  omega
def seenN (l : List Inp) (p : Nat) : Nat := l.foldl (fun a k => a ||| (k.cov p).toNat) 0
theorem fold_bits (p j : Nat) : ∀ (l : List Inp) (a : Nat), (l.foldl (fun a k => a ||| (k.cov p).toNat) a).testBit j = (a.testBit j || l.any fun k => (k.cov p).toNat.testBit j)
  | [], a => by simp
  | k :: l, a => by
    rw [List.foldl_cons, fold_bits p j l, Nat.testBit_or, List.any_cons, Bool.or_assoc]
theorem seen_bits (l : List Inp) (p j : Nat) : (seenN l p).testBit j = l.any fun k => (k.cov p).toNat.testBit j := by
  unfold seenN
  rw [fold_bits]
  simp
theorem fold_lt (p : Nat) : ∀ (l : List Inp) (a : Nat), a < 256 → (∀ k ∈ l, Cls (k.cov p)) → l.foldl (fun a k => a ||| (k.cov p).toNat) a < 256
  | [], a, h, _ => h
  | k :: l, a, h, hc => by
    rw [List.foldl_cons]
    have := (hc k (by simp)).bd
    exact fold_lt p l _ (Nat.or_lt_two_pow (n := 8) (by omega) (by omega)) (fun q hq => hc q (by simp [hq]))
theorem seen_lt (l : List Inp) (p : Nat) (hc : ∀ k ∈ l, Cls (k.cov p)) : seenN l p < 256 := fold_lt p l 0 (by omega) hc
theorem seen_snoc (l : List Inp) (k : Inp) (p : Nat) : seenN (l ++ [k]) p = seenN l p ||| (k.cov p).toNat := by
  unfold seenN
  rw [List.foldl_append]
  rfl
theorem bit_test {i j : Nat} (hi : i < 8) : (bitN i).toNat.testBit j = decide (i = j) := by
  unfold bitN
  have : ((2 : Int) ^ i).toNat = 2 ^ i := by
    match i, hi with
    | 0, _ | 1, _ | 2, _ | 3, _ | 4, _ | 5, _ | 6, _ | 7, _ => rfl
    | i + 8, h => omega
  rw [this, Nat.testBit_two_pow]
theorem bit_inj {i j : Nat} (hi : i < 8) (hj : j < 8) (h : bitN i = bitN j) : i = j := by
  have := bit_test (i := i) (j := i) hi
  rw [h, bit_test hj] at this
  simp at this
  exact this.symm
/-- Is there something new? In bits. -/
theorem new_bits (l : List Inp) (p : Nat) (c : Int) (hc : Cls c) (hl : ∀ k ∈ l, Cls (k.cov p)) : (bits .andNot .u8 c (seenN l p : Nat) ≠ 0) ↔ (c ≠ 0 ∧ (l.any fun k => hasB (k.cov p) c) = false) := by
  have hs := seen_lt l p hl
  by_cases h0 : c = 0
  · subst h0
    rw [show (0 : Int) = ((0 : Nat) : Int) from rfl, bits_not_u8_nat 0 _ (by omega) hs]
    simp
  · obtain ⟨j, hj, rfl⟩ := cls_bit hc h0
    have hb := (bit_cls hj).bd
    obtain ⟨n, hn⟩ : ∃ n : Nat, bitN j = n := ⟨(bitN j).toNat, by omega⟩
    have ht : ∀ i, n.testBit i = decide (j = i) := fun i => by
      have := bit_test (j := i) hj
      rw [hn] at this
      simpa using this
    have key : (n &&& (255 - seenN l p)) ≠ 0 ↔ (seenN l p).testBit j = false := by
      have hsub : (255 - seenN l p).testBit j = !(seenN l p).testBit j := by
        have := Nat.testBit_two_pow_sub_succ (x := seenN l p) (n := 8) (by omega) j
        rw [show 2 ^ 8 - (seenN l p + 1) = 255 - seenN l p by omega] at this
        rw [this]; simp [hj]
      constructor
      · intro h
        cases e : (seenN l p).testBit j with
        | false => rfl
        | true =>
          exfalso
          apply h
          apply Nat.eq_of_testBit_eq
          intro i
          rw [Nat.testBit_and, ht i]
          by_cases q : j = i
          · subst q; rw [hsub, e]; simp
          · simp [q]
      · intro h e
        have : (n &&& (255 - seenN l p)).testBit j = true := by rw [Nat.testBit_and, ht j, hsub, h]; simp
        rw [e] at this
        simp at this
    rw [hn, bits_not_u8_nat n _ (by omega) hs]
    rw [show (((n &&& (255 - seenN l p) : Nat) : Int) ≠ 0) ↔ (n &&& (255 - seenN l p)) ≠ 0 by omega, key, seen_bits]
    have e2 : (l.any fun k => (k.cov p).toNat.testBit j) = l.any fun k => hasB (k.cov p) (n : Int) := by
      rw [Bool.eq_iff_iff, List.any_eq_true, List.any_eq_true]
      refine exists_congr fun k => and_congr_right fun hk => ?_
      unfold hasB
      have hcl := hl k hk
      by_cases hz : k.cov p = 0
      · rw [hz]; simp; omega
      · obtain ⟨i, hi, e⟩ := cls_bit hcl hz
        rw [e, bit_test hi, ← hn]
        simp only [decide_eq_true_eq, Bool.and_eq_true]
        exact ⟨fun q => by subst q; exact ⟨rfl, by rw [← e]; exact hz⟩, fun q => bit_inj hi hj q.1⟩
    rw [e2]
    exact ⟨fun q => ⟨by rw [← hn]; exact h0, q⟩, fun q => q.2⟩
/-- What the favoured ones have seen is what all have seen. -/
theorem seen_fav (kept : List Inp) (p : Nat) (hp : p < 64) (hl : ∀ k ∈ kept, Cls (k.cov p)) : seenN ((favS kept).map fun n => kept.getD n ⟨⟨#[]⟩, fun _ => 0⟩) p = seenN kept p := by
  apply Nat.eq_of_testBit_eq
  intro j
  rw [seen_bits, seen_bits, Bool.eq_iff_iff, List.any_eq_true, List.any_eq_true]
  constructor
  · rintro ⟨k, hk, ht⟩
    obtain ⟨n, hn, rfl⟩ := List.mem_map.1 hk
    have hlt := fav_lt kept n hn
    exact ⟨_, List.getElem_mem hlt, by simpa [List.getD, List.getElem?_eq_getElem hlt] using ht⟩
  · rintro ⟨k, hk, ht⟩
    obtain ⟨i, hi⟩ := List.getElem?_of_mem hk
    have h0 : k.cov p ≠ 0 := fun c => by rw [c] at ht; simp at ht
    obtain ⟨n, hn, k', h1, h2⟩ := fav_has kept p hp i k hi (hl k hk) h0
    refine ⟨_, List.mem_map.2 ⟨n, hn, rfl⟩, ?_⟩
    rw [List.getD_eq_getElem?_getD, h1, Option.getD_some, h2]
    exact ht
end Go.Proofs.YtflenkppcclclaaGreatDoor

