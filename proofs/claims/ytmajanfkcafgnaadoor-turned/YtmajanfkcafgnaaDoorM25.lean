import Derived.Test.YtmajanfkcafgnaaDoorM24
namespace Go.Proofs.YtmajanfkcafgnaaDoor
open Go.RowKit

theorem xor_back (x y : Int) (h0 : 0 ≤ x) (h1 : x ≤ 255) (g0 : 0 ≤ y) (g1 : y ≤ 255) : bits .xor .u8 (bits .xor .u8 x y) y = x := by
  obtain ⟨n, rfl⟩ : ∃ n : Nat, x = n := ⟨x.toNat, by omega⟩
  obtain ⟨m, rfl⟩ : ∃ m : Nat, y = m := ⟨y.toNat, by omega⟩
  have e : bits .xor .u8 (n : Int) (m : Int) = (((BitVec.ofNat 8 n ^^^ BitVec.ofNat 8 m).toNat : Nat) : Int) := by
    have e1 : bits .xor .u8 (n : Int) (m : Int) = IntKind.u8.wrap ((BitVec.ofInt 8 (n : Int) ^^^ BitVec.ofInt 8 (m : Int)).toNat : Int) := rfl
    have hlt := (BitVec.ofInt 8 (n : Int) ^^^ BitVec.ofInt 8 (m : Int)).isLt
    rw [e1, IntKind.wrap_u8, BitVec.ofInt_natCast, BitVec.ofInt_natCast]
    rw [BitVec.ofInt_natCast, BitVec.ofInt_natCast] at hlt
    omega
  have e2 : ∀ k : Nat, bits .xor .u8 (k : Int) (m : Int) = (((BitVec.ofNat 8 k ^^^ BitVec.ofNat 8 m).toNat : Nat) : Int) := fun k => by
    have e1 : bits .xor .u8 (k : Int) (m : Int) = IntKind.u8.wrap ((BitVec.ofInt 8 (k : Int) ^^^ BitVec.ofInt 8 (m : Int)).toNat : Int) := rfl
    have hlt := (BitVec.ofInt 8 (k : Int) ^^^ BitVec.ofInt 8 (m : Int)).isLt
    rw [e1, IntKind.wrap_u8, BitVec.ofInt_natCast, BitVec.ofInt_natCast]
    rw [BitVec.ofInt_natCast, BitVec.ofInt_natCast] at hlt
    omega
  rw [e, e2, BitVec.ofNat_toNat, BitVec.setWidth_eq, BitVec.xor_assoc, BitVec.xor_self, BitVec.xor_zero, BitVec.toNat_ofNat, Nat.mod_eq_of_lt (by omega)]
theorem pow7 (k : Nat) : (0 : Int) ≤ 2 ^ (7 - k) ∧ (2 : Int) ^ (7 - k) ≤ 255 := by
  have h : 7 - k ≤ 7 := by omega
  generalize 7 - k = j at h ⊢
  match j, h with
  | 0, _ | 1, _ | 2, _ | 3, _ | 4, _ | 5, _ | 6, _ | 7, _ => decide
  | j + 8, h => omega
theorem getD_set (l : List Int) (q : Nat) (v : Int) (hq : q < l.length) : (l.set q v).getD q 0 = v := by
  rw [List.getD_eq_getElem?_getD, List.getElem?_set_self hq]
  rfl
theorem set_back (l : List Int) (q : Nat) (hq : q < l.length) (v : Int) : (l.set q v).set q (l.getD q 0) = l := by
  rw [List.set_set]
  apply List.ext_getElem?
  intro i
  rw [List.getElem?_set]
  split
  · rename_i h
    subst h
    rw [List.getD_eq_getElem?_getD, List.getElem?_eq_getElem hq]
    rfl
  · rfl
theorem flip_back {l : List Int} (hb : Byt l) (k : Nat) (hk : k < 8 * l.length) : flipL (flipL l k) k = l := by
  have hq : k / 8 < l.length := by omega
  have p := pow7 (k % 8)
  have b := hb.at (k / 8)
  unfold flipL
  rw [getD_set _ _ _ hq, xor_back _ _ b.1 b.2 p.1 p.2, set_back _ _ hq]
theorem getD_set_ne (l : List Int) (q r : Nat) (v : Int) (h : q ≠ r) : (l.set q v).getD r 0 = l.getD r 0 := by
  rw [List.getD_eq_getElem?_getD, List.getD_eq_getElem?_getD, List.getElem?_set_ne h]
theorem bits_swap (x y z : Int) (h0 : 0 ≤ x) (h1 : x ≤ 255) (g0 : 0 ≤ y) (g1 : y ≤ 255) (k0 : 0 ≤ z) (k1 : z ≤ 255) : bits .xor .u8 (bits .xor .u8 x y) z = bits .xor .u8 (bits .xor .u8 x z) y := by
  obtain ⟨n, rfl⟩ : ∃ n : Nat, x = n := ⟨x.toNat, by omega⟩
  obtain ⟨m, rfl⟩ : ∃ m : Nat, y = m := ⟨y.toNat, by omega⟩
  obtain ⟨r, rfl⟩ : ∃ r : Nat, z = r := ⟨z.toNat, by omega⟩
  have e2 : ∀ k j : Nat, bits .xor .u8 (k : Int) (j : Int) = (((BitVec.ofNat 8 k ^^^ BitVec.ofNat 8 j).toNat : Nat) : Int) := fun k j => by
    have e1 : bits .xor .u8 (k : Int) (j : Int) = IntKind.u8.wrap ((BitVec.ofInt 8 (k : Int) ^^^ BitVec.ofInt 8 (j : Int)).toNat : Int) := rfl
    have hlt := (BitVec.ofInt 8 (k : Int) ^^^ BitVec.ofInt 8 (j : Int)).isLt
    rw [e1, IntKind.wrap_u8, BitVec.ofInt_natCast, BitVec.ofInt_natCast]
    rw [BitVec.ofInt_natCast, BitVec.ofInt_natCast] at hlt
    omega
  rw [e2, e2, e2, e2, BitVec.ofNat_toNat, BitVec.setWidth_eq, BitVec.ofNat_toNat, BitVec.setWidth_eq, BitVec.xor_assoc, BitVec.xor_comm (BitVec.ofNat 8 m), ← BitVec.xor_assoc]
theorem flip_swap {l : List Int} (hb : Byt l) (k j : Nat) (hk : k < 8 * l.length) (hj : j < 8 * l.length) : flipL (flipL l k) j = flipL (flipL l j) k := by
  have hq : k / 8 < l.length := by omega
  have hr : j / 8 < l.length := by omega
  have p := pow7 (k % 8)
  have p' := pow7 (j % 8)
  have b := hb.at (k / 8)
  unfold flipL
  by_cases h : k / 8 = j / 8
  · rw [h] at hq b ⊢
    rw [getD_set _ _ _ hr, getD_set _ _ _ hr, List.set_set, List.set_set, bits_swap _ _ _ b.1 b.2 p.1 p.2 p'.1 p'.2]
  · rw [getD_set_ne _ _ _ _ h, getD_set_ne _ _ _ _ (fun h' => h h'.symm), List.set_comm _ _ h]
theorem two_back {l : List Int} (hb : Byt l) (k : Nat) (hk : k + 1 < 8 * l.length) : flipL (flipL (flipL (flipL l k) (k + 1)) k) (k + 1) = l := by
  have hl1 : (flipL l k).length = l.length := flip_len _ _
  rw [flip_swap (flip_byt hb k) (k + 1) k (by omega) (by omega), flip_back hb k (by omega), flip_back hb (k + 1) hk]
theorem cut_twice (l : List Int) (m : Nat) (hm : m < l.length) : cutL (twiceL l m) m = l := by
  unfold cutL twiceL
  have h1 : (l.take m).length = m := by simp; omega
  have e1 : (l.take m ++ l.getD m 0 :: l.drop m).take m = l.take m := by
    rw [List.take_append_of_le_length (by omega), List.take_take, Nat.min_self]
  have e2 : (l.take m ++ l.getD m 0 :: l.drop m).drop (m + 1) = l.drop m := by
    rw [List.drop_append, List.drop_of_length_le (by omega), h1, show m + 1 - m = 1 by omega]
    simp
  rw [e1, e2, List.take_append_drop]

/-- Which change it is. -/
theorem mut_at (l : List Int) (L : Nat) (hl : l.length = L) (hL : 0 < L) (m : Nat) :
    (m < 8 * L → mutL l m = some (flipL l m)) ∧
    (m < 8 * L - 1 → mutL l (8 * L + m) = some (flipL (flipL l m) (m + 1))) ∧
    (m < L → mutL l (16 * L - 1 + m) = some (l.set m (bits .xor .u8 (l.getD m 0) 255))) ∧
    (m < 4 * L → mutL l (17 * L - 1 + m) = some (l.set (m / 4) ((l.getD (m / 4) 0 + (m % 4 + 1 : Nat)) % 256))) ∧
    (m < 4 * L → mutL l (21 * L - 1 + m) = some (l.set (m / 4) ((l.getD (m / 4) 0 - (m % 4 + 1 : Nat)) % 256))) ∧
    (m < 5 * L → mutL l (25 * L - 1 + m) = some (l.set (m / 5) (markL (m % 5)))) ∧
    (m < L → mutL l (30 * L - 1 + m) = some (cutL l m)) ∧
    (m < L → L < 24 → mutL l (31 * L - 1 + m) = some (twiceL l m)) ∧
    (mutL l (31 * L - 1 + (if L < 24 then L else 0) + m) = none) := by
  subst hl
  unfold mutL
  dsimp only
  refine ⟨fun h => ?_, fun h => ?_, fun h => ?_, fun h => ?_, fun h => ?_, fun h => ?_, fun h => ?_, fun h h' => ?_, ?_⟩
  · rw [if_pos h]
  · rw [if_neg (by omega), if_pos (by omega), show 8 * l.length + m - 8 * l.length = m by omega]
  · rw [if_neg (by omega), if_neg (by omega), if_pos (by omega), show 16 * l.length - 1 + m - 8 * l.length - (8 * l.length - 1) = m by omega]
  · rw [if_neg (by omega), if_neg (by omega), if_neg (by omega), if_pos (by omega), show 17 * l.length - 1 + m - 8 * l.length - (8 * l.length - 1) - l.length = m by omega]
  · rw [if_neg (by omega), if_neg (by omega), if_neg (by omega), if_neg (by omega), if_pos (by omega), show 21 * l.length - 1 + m - 8 * l.length - (8 * l.length - 1) - l.length - 4 * l.length = m by omega]
  · rw [if_neg (by omega), if_neg (by omega), if_neg (by omega), if_neg (by omega), if_neg (by omega), if_pos (by omega), show 25 * l.length - 1 + m - 8 * l.length - (8 * l.length - 1) - l.length - 4 * l.length - 4 * l.length = m by omega]
  · rw [if_neg (by omega), if_neg (by omega), if_neg (by omega), if_neg (by omega), if_neg (by omega), if_neg (by omega), if_pos (by omega), show 30 * l.length - 1 + m - 8 * l.length - (8 * l.length - 1) - l.length - 4 * l.length - 4 * l.length - 5 * l.length = m by omega]
  · rw [if_neg (by omega), if_neg (by omega), if_neg (by omega), if_neg (by omega), if_neg (by omega), if_neg (by omega), if_neg (by omega), if_pos (by omega), show 31 * l.length - 1 + m - 8 * l.length - (8 * l.length - 1) - l.length - 4 * l.length - 4 * l.length - 5 * l.length - l.length = m by omega]
  · by_cases h24 : l.length < 24
    · rw [if_pos h24, if_neg (by omega), if_neg (by omega), if_neg (by omega), if_neg (by omega), if_neg (by omega), if_neg (by omega), if_neg (by omega), if_neg (by omega)]
    · rw [if_neg h24, if_neg (by omega), if_neg (by omega), if_neg (by omega), if_neg (by omega), if_neg (by omega), if_neg (by omega), if_neg (by omega), if_neg (by omega)]
end Go.Proofs.YtmajanfkcafgnaaDoor

