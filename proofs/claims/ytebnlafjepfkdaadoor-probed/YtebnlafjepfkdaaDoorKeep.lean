import Derived.Test.YtebnlafjepfkdaaDoorExam
namespace Go.Proofs.YtebnlafjepfkdaaDoor
open Go.RowKit

theorem example_any (w : World) : Calls Tryd.prog 13 #[] w fun e w' => e = .returned (.slice (some ⟨w.heap.size, 0, none⟩) 10 10) ∧ w' = w.alloc (.cells #[.int .u8 2, .int .u8 1, .int .u8 97, .int .u8 12, .int .u8 15, .int .u8 9, .int .u8 19, .int .u8 7, .int .u8 0, .int .u8 0] 5) := by
  go_enter Tryd.func13, Tryd.ntmps13
  go_wp2
  go_ret
  exact ⟨rfl, rfl⟩

theorem laidE (w : World) : Laid (w.alloc (.cells #[.int .u8 2, .int .u8 1, .int .u8 97, .int .u8 12, .int .u8 15, .int .u8 9, .int .u8 19, .int .u8 7, .int .u8 0, .int .u8 0] 5)) w.heap.size 0 10 10 cE where
  cell := by
    intro i hi
    rw [Nat.zero_add, World.cell?_alloc_new]
    match i, hi with
    | 0, _ | 1, _ | 2, _ | 3, _ | 4, _ | 5, _ | 6, _ | 7, _ | 8, _ | 9, _ => rfl
    | i + 10, hi => omega
  room := Nat.le_refl _
  room' := by decide
  some' := by decide

theorem short_any (s : ByteArray) (hs : s.size ≤ 9223372036854775807) (w : World) : Calls Tryd.prog 6 #[.string s, .int .i64 24] w fun e w' => e = .returned (.string (if 24 < s.size then s.extract 0 24 else s)) ∧ w' = w := by
  by_cases h : 24 < s.size
  · rw [if_pos h]
    have h1 : (24 : Int) < (s.size : Int) := by omega
    have h2 : (24 : Int) ≤ (s.size : Int) := by omega
    go_enter Tryd.func6, Tryd.ntmps6
    go_wp2
    go_ret
    exact ⟨rfl, rfl⟩
  · rw [if_neg h]
    have h1 : ¬ (24 : Int) < (s.size : Int) := by omega
    go_enter Tryd.func6, Tryd.ntmps6
    go_wp2
    go_ret
    exact ⟨rfl, rfl⟩

theorem pick_any (c n : Int) (h1 : -9223372036854775808 ≤ c) (h2 : c ≤ 9223372036854775807) (hn : 1 ≤ n) (hn' : n ≤ 1000) (w : World) : Calls Tryd.prog 7 #[.int .i64 c, .int .i64 n] w fun e w' => (∃ p, e = .returned (.int .i64 p) ∧ 0 ≤ p ∧ p < n) ∧ w' = w := by
  by_cases h : c < 0
  · have e : -((c + 1).tmod n) = (-(c + 1)) % n := by rw [← Int.tmod_eq_emod_of_nonneg (by omega), Int.neg_tmod]
    have e1 := Int.emod_nonneg (-(c + 1)) (show n ≠ 0 by omega)
    have e2 := Int.emod_lt_of_pos (-(c + 1)) (show 0 < n by omega)
    have E : Hid (0 ≤ -((c + 1).tmod n) ∧ -((c + 1).tmod n) < n) := ⟨by rw [e]; exact e1, by rw [e]; exact e2⟩
    clear e e1 e2
    go_enter Tryd.func7, Tryd.ntmps7
    go_wp2
    go_ret
    exact ⟨⟨_, rfl, E.out.1, E.out.2⟩, rfl⟩
  · have e1 := Int.emod_nonneg c (show n ≠ 0 by omega)
    have e2 := Int.emod_lt_of_pos c (show 0 < n by omega)
    have E : Hid (0 ≤ c % n ∧ c % n < n) := ⟨e1, e2⟩
    clear e1 e2
    go_enter Tryd.func7, Tryd.ntmps7
    go_wp2
    go_ret
    exact ⟨⟨_, rfl, E.out.1, E.out.2⟩, rfl⟩
end Go.Proofs.YtebnlafjepfkdaaDoor
