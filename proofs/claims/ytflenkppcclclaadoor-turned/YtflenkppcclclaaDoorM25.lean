import Derived.Test.YtflenkppcclclaaDoorM24
namespace Go.Proofs.YtflenkppcclclaaDoor
open Go.RowKit

/-- What 'base' answers. -/
structure BAns (w : World) (b : Int) (e : Ending) (w' : World) : Prop where
  bel : Below w.heap.size w w'
  ans : e = .returned (.int .i64 b)
set_option maxRecDepth 100000 in
theorem kbase3 (w : World) (l : Nat) (hl : l ≤ 25) : Calls Tryd.prog 16 #[.int .i64 3, .int .i64 l] w (BAns w (17 * (l : Int) - 1)) := by
  go_enter Tryd.func16, Tryd.ntmps16
  go_wp2
  go_ret
  exact ⟨(Below.refl _ _).alloc (Nat.le_refl _) _, rfl⟩
set_option maxRecDepth 100000 in
theorem kbase4 (w : World) (l : Nat) (hl : l ≤ 25) : Calls Tryd.prog 16 #[.int .i64 4, .int .i64 l] w (BAns w (21 * (l : Int) - 1)) := by
  go_enter Tryd.func16, Tryd.ntmps16
  go_wp2
  go_ret
  exact ⟨(Below.refl _ _).alloc (Nat.le_refl _) _, rfl⟩
set_option maxRecDepth 100000 in
theorem kbase5 (w : World) (l : Nat) (hl : l ≤ 25) : Calls Tryd.prog 16 #[.int .i64 5, .int .i64 l] w (BAns w (25 * (l : Int) - 1)) := by
  go_enter Tryd.func16, Tryd.ntmps16
  go_wp2
  go_ret
  exact ⟨(Below.refl _ _).alloc (Nat.le_refl _) _, rfl⟩
set_option maxRecDepth 100000 in
theorem kbase6 (w : World) (l : Nat) (hl : l ≤ 25) : Calls Tryd.prog 16 #[.int .i64 6, .int .i64 l] w (BAns w (30 * (l : Int) - 1)) := by
  go_enter Tryd.func16, Tryd.ntmps16
  go_wp2
  go_ret
  exact ⟨(Below.refl _ _).alloc (Nat.le_refl _) _, rfl⟩
set_option maxRecDepth 100000 in
theorem kbase7 (w : World) (l : Nat) (hl : l ≤ 25) : Calls Tryd.prog 16 #[.int .i64 7, .int .i64 l] w (BAns w (31 * (l : Int) - 1)) := by
  go_enter Tryd.func16, Tryd.ntmps16
  go_wp2
  go_ret
  exact ⟨(Below.refl _ _).alloc (Nat.le_refl _) _, rfl⟩

/-- What the walk of 'Turned' stands on. -/
structure Tu (w : World) (input s t : ByteArray) (which : Int) (L : Nat) (n A b3 b4 b5 b6 b7 : Int) : Prop where
  hLs : s.size = L
  hL0 : 0 < L
  hL : L ≤ 24
  HK : Hid (Calls Tryd.prog 14 #[] w fun e w' => e = .returned (.bool true) ∧ Below w.heap.size w w')
  HS : Hid (∀ w', Calls Tryd.prog 8 #[.string input, .int .i64 24] w' fun e w'' => e = .returned (.string s) ∧ w'' = w')
  HB3 : Hid (∀ w', Calls Tryd.prog 16 #[.int .i64 3, .int .i64 (L : Int)] w' (BAns w' b3))
  HB4 : Hid (∀ w', Calls Tryd.prog 16 #[.int .i64 4, .int .i64 (L : Int)] w' (BAns w' b4))
  HB5 : Hid (∀ w', Calls Tryd.prog 16 #[.int .i64 5, .int .i64 (L : Int)] w' (BAns w' b5))
  HB6 : Hid (∀ w', Calls Tryd.prog 16 #[.int .i64 6, .int .i64 (L : Int)] w' (BAns w' b6))
  HB7 : Hid (∀ w', Calls Tryd.prog 16 #[.int .i64 7, .int .i64 (L : Int)] w' (BAns w' b7))
  HP : Hid (∀ w', Calls Tryd.prog 9 #[.int .i64 which, .int .i64 A] w' fun e w'' => e = .returned (.int .i64 n) ∧ w'' = w')
  H1 : Hid (∀ w', Below w.heap.size w w' → Calls Tryd.prog 15 #[.string s, .int .i64 n] w' (ChA w' t true))
  H2 : Hid (∀ w', Below w.heap.size w w' → Calls Tryd.prog 15 #[.string s, .int .i64 A] w' (ChA w' ⟨#[]⟩ false))
  H3 : Hid (∀ w', Below w.heap.size w w' → Calls Tryd.prog 15 #[.string s, .int .i64 (-1 - n)] w' (ChA w' ⟨#[]⟩ false))
  H4 : Hid (∀ w', Below w.heap.size w w' → Calls Tryd.prog 15 #[.string s, .int .i64 (A + 1 + n)] w' (ChA w' ⟨#[]⟩ false))
  hn0 : 0 ≤ n
  hn1 : n ≤ 1000
  hA0 : 0 ≤ A
  hA1 : A ≤ 1000
  hb3 : 0 ≤ b3
  hb4 : 0 ≤ b4
  hb5 : 0 ≤ b5
  hb6 : 0 ≤ b6
  hb7 : 0 ≤ b7
  hc3 : b3 ≤ 1000
  hc4 : b4 ≤ 1000
  hc5 : b5 ≤ 1000
  hc6 : b6 ≤ 1000
  hc7 : b7 ≤ 1000

section
variable (w : World) (input s t : ByteArray) (which : Int) (L : Nat) (n A b3 b4 b5 b6 b7 : Int) (TU : Tu w input s t which L n A b3 b4 b5 b6 b7)
include TU
set_option maxHeartbeats 4000000 in
set_option maxRecDepth 100000 in
theorem turned0 (h24 : (L : Int) < 24) (hall : b7 + (L : Int) = A) (g3 : n < b3) (HX : Hid (∀ w', Below w.heap.size w w' → Calls Tryd.prog 15 #[.string t, .int .i64 n] w' (ChA w' s true))) :
    Calls Tryd.prog 5 #[.string input, .int .i64 which] w fun e w' => e = .returned (.bool true) ∧ Below w.heap.size w w' := by
  obtain ⟨hLs, hL0, hL, HK, HS, HB3, HB4, HB5, HB6, HB7, HP, H1, H2, H3, H4, hn0, hn1, hA0, hA1, hb3, hb4, hb5, hb6, hb7, hc3, hc4, hc5, hc6, hc7⟩ := TU
  have hne : ¬ ((L : Int) = 0) := by omega
  go_enter Tryd.func5, Tryd.ntmps5
  go_wp2_with fail
  refine HK.out.mono ?_
  rintro e w1 ⟨rfl, B1⟩
  go_wp2_with fail
  refine (HS.out w1).mono ?_
  rintro e w1' ⟨rfl, hw⟩
  obtain rfl := hw
  go_wp2_with fail
  refine (HB7.out _).mono ?_
  rintro e w2 ⟨B2, rfl⟩
  have B02 := B1.trans (B2.mono B1.size)
  clear B1 B2
  go_wp2_with fail
  refine (HP.out w2).mono ?_
  rintro e w2' ⟨rfl, hw⟩
  obtain rfl := hw
  go_wp2_with fail
  refine (H1.out _ B02).mono ?_
  rintro e w3 ⟨B3, rfl⟩
  have B03 := B02.trans (B3.mono B02.size)
  clear B02 B3
  go_wp2_with fail
  refine (H2.out _ B03).mono ?_
  rintro e w4 ⟨B4, rfl⟩
  have B04 := B03.trans (B4.mono B03.size)
  clear B03 B4
  go_wp2_with fail
  refine (H3.out _ B04).mono ?_
  rintro e w5 ⟨B5, rfl⟩
  have B05 := B04.trans (B5.mono B04.size)
  clear B04 B5
  go_wp2_with fail
  refine (H4.out _ B05).mono ?_
  rintro e w6 ⟨B6, rfl⟩
  have B06 := B05.trans (B6.mono B05.size)
  clear B05 B6
  go_wp2_with fail
  refine (HB3.out _).mono ?_
  rintro e w7 ⟨Bx, rfl⟩
  have B07 := B06.trans (Bx.mono B06.size)
  clear B06 Bx
  go_wp2_with fail
  refine (HX.out _ B07).mono ?_
  rintro e w8 ⟨Bx, rfl⟩
  have B08 := B07.trans (Bx.mono B07.size)
  clear B07 Bx
  go_wp2_with fail
  go_ret
  exact ⟨rfl, B08⟩
set_option maxHeartbeats 4000000 in
set_option maxRecDepth 100000 in
theorem turned3 (h24 : (L : Int) < 24) (hall : b7 + (L : Int) = A) (E : Int) (g3 : ¬ n < b3) (g4 : n < b4) (hE : n + 4 * (L : Int) = E) (HX : Hid (∀ w', Below w.heap.size w w' → Calls Tryd.prog 15 #[.string t, .int .i64 E] w' (ChA w' s true))) :
    Calls Tryd.prog 5 #[.string input, .int .i64 which] w fun e w' => e = .returned (.bool true) ∧ Below w.heap.size w w' := by
  obtain ⟨hLs, hL0, hL, HK, HS, HB3, HB4, HB5, HB6, HB7, HP, H1, H2, H3, H4, hn0, hn1, hA0, hA1, hb3, hb4, hb5, hb6, hb7, hc3, hc4, hc5, hc6, hc7⟩ := TU
  have hne : ¬ ((L : Int) = 0) := by omega
  go_enter Tryd.func5, Tryd.ntmps5
  go_wp2_with fail
  refine HK.out.mono ?_
  rintro e w1 ⟨rfl, B1⟩
  go_wp2_with fail
  refine (HS.out w1).mono ?_
  rintro e w1' ⟨rfl, hw⟩
  obtain rfl := hw
  go_wp2_with fail
  refine (HB7.out _).mono ?_
  rintro e w2 ⟨B2, rfl⟩
  have B02 := B1.trans (B2.mono B1.size)
  clear B1 B2
  go_wp2_with fail
  refine (HP.out w2).mono ?_
  rintro e w2' ⟨rfl, hw⟩
  obtain rfl := hw
  go_wp2_with fail
  refine (H1.out _ B02).mono ?_
  rintro e w3 ⟨B3, rfl⟩
  have B03 := B02.trans (B3.mono B02.size)
  clear B02 B3
  go_wp2_with fail
  refine (H2.out _ B03).mono ?_
  rintro e w4 ⟨B4, rfl⟩
  have B04 := B03.trans (B4.mono B03.size)
  clear B03 B4
  go_wp2_with fail
  refine (H3.out _ B04).mono ?_
  rintro e w5 ⟨B5, rfl⟩
  have B05 := B04.trans (B5.mono B04.size)
  clear B04 B5
  go_wp2_with fail
  refine (H4.out _ B05).mono ?_
  rintro e w6 ⟨B6, rfl⟩
  have B06 := B05.trans (B6.mono B05.size)
  clear B05 B6
  go_wp2_with fail
  refine (HB3.out _).mono ?_
  rintro e w7 ⟨Bx, rfl⟩
  have B07 := B06.trans (Bx.mono B06.size)
  clear B06 Bx
  go_wp2_with fail
  refine (HB4.out _).mono ?_
  rintro e w8 ⟨Bx, rfl⟩
  have B08 := B07.trans (Bx.mono B07.size)
  clear B07 Bx
  go_wp2_with fail
  refine (HX.out _ B08).mono ?_
  rintro e w9 ⟨Bx, rfl⟩
  have B09 := B08.trans (Bx.mono B08.size)
  clear B08 Bx
  go_wp2_with fail
  go_ret
  exact ⟨rfl, B09⟩
set_option maxHeartbeats 4000000 in
set_option maxRecDepth 100000 in
theorem turned4 (h24 : (L : Int) < 24) (hall : b7 + (L : Int) = A) (E : Int) (g3 : ¬ n < b3) (g4 : ¬ n < b4) (g5 : n < b5) (hE : n - 4 * (L : Int) = E) (HX : Hid (∀ w', Below w.heap.size w w' → Calls Tryd.prog 15 #[.string t, .int .i64 E] w' (ChA w' s true))) :
    Calls Tryd.prog 5 #[.string input, .int .i64 which] w fun e w' => e = .returned (.bool true) ∧ Below w.heap.size w w' := by
  obtain ⟨hLs, hL0, hL, HK, HS, HB3, HB4, HB5, HB6, HB7, HP, H1, H2, H3, H4, hn0, hn1, hA0, hA1, hb3, hb4, hb5, hb6, hb7, hc3, hc4, hc5, hc6, hc7⟩ := TU
  have hne : ¬ ((L : Int) = 0) := by omega
  go_enter Tryd.func5, Tryd.ntmps5
  go_wp2_with fail
  refine HK.out.mono ?_
  rintro e w1 ⟨rfl, B1⟩
  go_wp2_with fail
  refine (HS.out w1).mono ?_
  rintro e w1' ⟨rfl, hw⟩
  obtain rfl := hw
  go_wp2_with fail
  refine (HB7.out _).mono ?_
  rintro e w2 ⟨B2, rfl⟩
  have B02 := B1.trans (B2.mono B1.size)
  clear B1 B2
  go_wp2_with fail
  refine (HP.out w2).mono ?_
  rintro e w2' ⟨rfl, hw⟩
  obtain rfl := hw
  go_wp2_with fail
  refine (H1.out _ B02).mono ?_
  rintro e w3 ⟨B3, rfl⟩
  have B03 := B02.trans (B3.mono B02.size)
  clear B02 B3
  go_wp2_with fail
  refine (H2.out _ B03).mono ?_
  rintro e w4 ⟨B4, rfl⟩
  have B04 := B03.trans (B4.mono B03.size)
  clear B03 B4
  go_wp2_with fail
  refine (H3.out _ B04).mono ?_
  rintro e w5 ⟨B5, rfl⟩
  have B05 := B04.trans (B5.mono B04.size)
  clear B04 B5
  go_wp2_with fail
  refine (H4.out _ B05).mono ?_
  rintro e w6 ⟨B6, rfl⟩
  have B06 := B05.trans (B6.mono B05.size)
  clear B05 B6
  go_wp2_with fail
  refine (HB3.out _).mono ?_
  rintro e w7 ⟨Bx, rfl⟩
  have B07 := B06.trans (Bx.mono B06.size)
  clear B06 Bx
  go_wp2_with fail
  refine (HB4.out _).mono ?_
  rintro e w8 ⟨Bx, rfl⟩
  have B08 := B07.trans (Bx.mono B07.size)
  clear B07 Bx
  go_wp2_with fail
  refine (HB5.out _).mono ?_
  rintro e w9 ⟨Bx, rfl⟩
  have B09 := B08.trans (Bx.mono B08.size)
  clear B08 Bx
  go_wp2_with fail
  refine (HX.out _ B09).mono ?_
  rintro e w10 ⟨Bx, rfl⟩
  have B010 := B09.trans (Bx.mono B09.size)
  clear B09 Bx
  go_wp2_with fail
  go_ret
  exact ⟨rfl, B010⟩
set_option maxHeartbeats 4000000 in
set_option maxRecDepth 100000 in
theorem turned6 (h24 : (L : Int) < 24) (hall : b7 + (L : Int) = A) (m : Nat) (hm : m < L) (g3 : ¬ n < b3) (g4 : ¬ n < b4) (g5 : ¬ n < b5) (g7 : n < b7) (hE : n - b6 = (m : Int)) (HT : Hid (s.extract 0 m ++ s.extract (m + 1) L = t)) :
    Calls Tryd.prog 5 #[.string input, .int .i64 which] w fun e w' => e = .returned (.bool true) ∧ Below w.heap.size w w' := by
  obtain ⟨hLs, hL0, hL, HK, HS, HB3, HB4, HB5, HB6, HB7, HP, H1, H2, H3, H4, hn0, hn1, hA0, hA1, hb3, hb4, hb5, hb6, hb7, hc3, hc4, hc5, hc6, hc7⟩ := TU
  have k1 : (0 : Int) ≤ (m : Int) := by omega
  have k2 : (m : Int) ≤ (L : Int) := by omega
  have k3 : (0 : Int) ≤ (m : Int) + 1 := by omega
  have k4 : (m : Int) + 1 ≤ (L : Int) := by omega
  have k5 : ((m : Int) + 1).toNat = m + 1 := by omega
  have hne : ¬ ((L : Int) = 0) := by omega
  go_enter Tryd.func5, Tryd.ntmps5
  go_wp2_with fail
  refine HK.out.mono ?_
  rintro e w1 ⟨rfl, B1⟩
  go_wp2_with fail
  refine (HS.out w1).mono ?_
  rintro e w1' ⟨rfl, hw⟩
  obtain rfl := hw
  go_wp2_with fail
  refine (HB7.out _).mono ?_
  rintro e w2 ⟨B2, rfl⟩
  have B02 := B1.trans (B2.mono B1.size)
  clear B1 B2
  go_wp2_with fail
  refine (HP.out w2).mono ?_
  rintro e w2' ⟨rfl, hw⟩
  obtain rfl := hw
  go_wp2_with fail
  refine (H1.out _ B02).mono ?_
  rintro e w3 ⟨B3, rfl⟩
  have B03 := B02.trans (B3.mono B02.size)
  clear B02 B3
  go_wp2_with fail
  refine (H2.out _ B03).mono ?_
  rintro e w4 ⟨B4, rfl⟩
  have B04 := B03.trans (B4.mono B03.size)
  clear B03 B4
  go_wp2_with fail
  refine (H3.out _ B04).mono ?_
  rintro e w5 ⟨B5, rfl⟩
  have B05 := B04.trans (B5.mono B04.size)
  clear B04 B5
  go_wp2_with fail
  refine (H4.out _ B05).mono ?_
  rintro e w6 ⟨B6, rfl⟩
  have B06 := B05.trans (B6.mono B05.size)
  clear B05 B6
  go_wp2_with fail
  refine (HB3.out _).mono ?_
  rintro e w7 ⟨Bx, rfl⟩
  have B07 := B06.trans (Bx.mono B06.size)
  clear B06 Bx
  go_wp2_with fail
  refine (HB4.out _).mono ?_
  rintro e w8 ⟨Bx, rfl⟩
  have B08 := B07.trans (Bx.mono B07.size)
  clear B07 Bx
  go_wp2_with fail
  refine (HB5.out _).mono ?_
  rintro e w9 ⟨Bx, rfl⟩
  have B09 := B08.trans (Bx.mono B08.size)
  clear B08 Bx
  go_wp2_with fail
  refine (HB6.out _).mono ?_
  rintro e w10 ⟨Bx, rfl⟩
  have B010 := B09.trans (Bx.mono B09.size)
  clear B09 Bx
  go_wp2_with fail
  refine (HB7.out _).mono ?_
  rintro e w11 ⟨Bx, rfl⟩
  have B011 := B010.trans (Bx.mono B010.size)
  clear B010 Bx
  go_wp2_with fail
  refine (HB6.out _).mono ?_
  rintro e w12 ⟨Bx, rfl⟩
  have B012 := B011.trans (Bx.mono B011.size)
  clear B011 Bx
  have ht := HT.out
  go_wp2_with fail
  go_quiet (fail)
  go_wp2_with fail
  go_ret
  exact ⟨rfl, ⟨B012.os, B012.tape, B012.output, B012.size, B012.block⟩⟩
set_option maxHeartbeats 4000000 in
set_option maxRecDepth 100000 in
theorem turned7 (h24 : (L : Int) < 24) (hall : b7 + (L : Int) = A) (c6 E1 E : Int) (g3 : ¬ n < b3) (g4 : ¬ n < b4) (g5 : ¬ n < b5) (g6 : ¬ n < b6) (g7 : ¬ n < b7) (hc0 : 0 ≤ c6) (hc1 : c6 ≤ 1000) (HBc : Hid (∀ w', Calls Tryd.prog 16 #[.int .i64 6, .int .i64 ((L : Int) + 1)] w' (BAns w' c6))) (hE1 : c6 + n = E1) (hE : E1 - b7 = E) (HX : Hid (∀ w', Below w.heap.size w w' → Calls Tryd.prog 15 #[.string t, .int .i64 E] w' (ChA w' s true))) :
    Calls Tryd.prog 5 #[.string input, .int .i64 which] w fun e w' => e = .returned (.bool true) ∧ Below w.heap.size w w' := by
  obtain ⟨hLs, hL0, hL, HK, HS, HB3, HB4, HB5, HB6, HB7, HP, H1, H2, H3, H4, hn0, hn1, hA0, hA1, hb3, hb4, hb5, hb6, hb7, hc3, hc4, hc5, hc6, hc7⟩ := TU
  have hE2 : E1 ≤ 3000 := by omega
  have hE3 : 0 ≤ E1 := by omega
  have hne : ¬ ((L : Int) = 0) := by omega
  go_enter Tryd.func5, Tryd.ntmps5
  go_wp2_with fail
  refine HK.out.mono ?_
  rintro e w1 ⟨rfl, B1⟩
  go_wp2_with fail
  refine (HS.out w1).mono ?_
  rintro e w1' ⟨rfl, hw⟩
  obtain rfl := hw
  go_wp2_with fail
  refine (HB7.out _).mono ?_
  rintro e w2 ⟨B2, rfl⟩
  have B02 := B1.trans (B2.mono B1.size)
  clear B1 B2
  go_wp2_with fail
  refine (HP.out w2).mono ?_
  rintro e w2' ⟨rfl, hw⟩
  obtain rfl := hw
  go_wp2_with fail
  refine (H1.out _ B02).mono ?_
  rintro e w3 ⟨B3, rfl⟩
  have B03 := B02.trans (B3.mono B02.size)
  clear B02 B3
  go_wp2_with fail
  refine (H2.out _ B03).mono ?_
  rintro e w4 ⟨B4, rfl⟩
  have B04 := B03.trans (B4.mono B03.size)
  clear B03 B4
  go_wp2_with fail
  refine (H3.out _ B04).mono ?_
  rintro e w5 ⟨B5, rfl⟩
  have B05 := B04.trans (B5.mono B04.size)
  clear B04 B5
  go_wp2_with fail
  refine (H4.out _ B05).mono ?_
  rintro e w6 ⟨B6, rfl⟩
  have B06 := B05.trans (B6.mono B05.size)
  clear B05 B6
  go_wp2_with fail
  refine (HB3.out _).mono ?_
  rintro e w7 ⟨Bx, rfl⟩
  have B07 := B06.trans (Bx.mono B06.size)
  clear B06 Bx
  go_wp2_with fail
  refine (HB4.out _).mono ?_
  rintro e w8 ⟨Bx, rfl⟩
  have B08 := B07.trans (Bx.mono B07.size)
  clear B07 Bx
  go_wp2_with fail
  refine (HB5.out _).mono ?_
  rintro e w9 ⟨Bx, rfl⟩
  have B09 := B08.trans (Bx.mono B08.size)
  clear B08 Bx
  go_wp2_with fail
  refine (HB6.out _).mono ?_
  rintro e w10 ⟨Bx, rfl⟩
  have B010 := B09.trans (Bx.mono B09.size)
  clear B09 Bx
  go_wp2_with fail
  refine (HB7.out _).mono ?_
  rintro e w11 ⟨Bx, rfl⟩
  have B011 := B010.trans (Bx.mono B010.size)
  clear B010 Bx
  go_wp2_with fail
  refine (HBc.out _).mono ?_
  rintro e w12 ⟨Bx, rfl⟩
  have B012 := B011.trans (Bx.mono B011.size)
  clear B011 Bx
  go_wp2_with fail
  refine (HB7.out _).mono ?_
  rintro e w13 ⟨Bx, rfl⟩
  have B013 := B012.trans (Bx.mono B012.size)
  clear B012 Bx
  go_wp2_with fail
  refine (HX.out _ B013).mono ?_
  rintro e w14 ⟨Bx, rfl⟩
  have B014 := B013.trans (Bx.mono B013.size)
  clear B013 Bx
  go_wp2_with fail
  go_ret
  exact ⟨rfl, B014⟩
set_option maxHeartbeats 4000000 in
set_option maxRecDepth 100000 in
theorem turned0f (h24 : ¬ (L : Int) < 24) (hall : b7 = A) (g3 : n < b3) (HX : Hid (∀ w', Below w.heap.size w w' → Calls Tryd.prog 15 #[.string t, .int .i64 n] w' (ChA w' s true))) :
    Calls Tryd.prog 5 #[.string input, .int .i64 which] w fun e w' => e = .returned (.bool true) ∧ Below w.heap.size w w' := by
  obtain ⟨hLs, hL0, hL, HK, HS, HB3, HB4, HB5, HB6, HB7, HP, H1, H2, H3, H4, hn0, hn1, hA0, hA1, hb3, hb4, hb5, hb6, hb7, hc3, hc4, hc5, hc6, hc7⟩ := TU
  have hne : ¬ ((L : Int) = 0) := by omega
  go_enter Tryd.func5, Tryd.ntmps5
  go_wp2_with fail
  refine HK.out.mono ?_
  rintro e w1 ⟨rfl, B1⟩
  go_wp2_with fail
  refine (HS.out w1).mono ?_
  rintro e w1' ⟨rfl, hw⟩
  obtain rfl := hw
  go_wp2_with fail
  refine (HB7.out _).mono ?_
  rintro e w2 ⟨B2, rfl⟩
  have B02 := B1.trans (B2.mono B1.size)
  clear B1 B2
  go_wp2_with fail
  refine (HP.out w2).mono ?_
  rintro e w2' ⟨rfl, hw⟩
  obtain rfl := hw
  go_wp2_with fail
  refine (H1.out _ B02).mono ?_
  rintro e w3 ⟨B3, rfl⟩
  have B03 := B02.trans (B3.mono B02.size)
  clear B02 B3
  go_wp2_with fail
  refine (H2.out _ B03).mono ?_
  rintro e w4 ⟨B4, rfl⟩
  have B04 := B03.trans (B4.mono B03.size)
  clear B03 B4
  go_wp2_with fail
  refine (H3.out _ B04).mono ?_
  rintro e w5 ⟨B5, rfl⟩
  have B05 := B04.trans (B5.mono B04.size)
  clear B04 B5
  go_wp2_with fail
  refine (H4.out _ B05).mono ?_
  rintro e w6 ⟨B6, rfl⟩
  have B06 := B05.trans (B6.mono B05.size)
  clear B05 B6
  go_wp2_with fail
  refine (HB3.out _).mono ?_
  rintro e w7 ⟨Bx, rfl⟩
  have B07 := B06.trans (Bx.mono B06.size)
  clear B06 Bx
  go_wp2_with fail
  refine (HX.out _ B07).mono ?_
  rintro e w8 ⟨Bx, rfl⟩
  have B08 := B07.trans (Bx.mono B07.size)
  clear B07 Bx
  go_wp2_with fail
  go_ret
  exact ⟨rfl, B08⟩
set_option maxHeartbeats 4000000 in
set_option maxRecDepth 100000 in
theorem turned3f (h24 : ¬ (L : Int) < 24) (hall : b7 = A) (E : Int) (g3 : ¬ n < b3) (g4 : n < b4) (hE : n + 4 * (L : Int) = E) (HX : Hid (∀ w', Below w.heap.size w w' → Calls Tryd.prog 15 #[.string t, .int .i64 E] w' (ChA w' s true))) :
    Calls Tryd.prog 5 #[.string input, .int .i64 which] w fun e w' => e = .returned (.bool true) ∧ Below w.heap.size w w' := by
  obtain ⟨hLs, hL0, hL, HK, HS, HB3, HB4, HB5, HB6, HB7, HP, H1, H2, H3, H4, hn0, hn1, hA0, hA1, hb3, hb4, hb5, hb6, hb7, hc3, hc4, hc5, hc6, hc7⟩ := TU
  have hne : ¬ ((L : Int) = 0) := by omega
  go_enter Tryd.func5, Tryd.ntmps5
  go_wp2_with fail
  refine HK.out.mono ?_
  rintro e w1 ⟨rfl, B1⟩
  go_wp2_with fail
  refine (HS.out w1).mono ?_
  rintro e w1' ⟨rfl, hw⟩
  obtain rfl := hw
  go_wp2_with fail
  refine (HB7.out _).mono ?_
  rintro e w2 ⟨B2, rfl⟩
  have B02 := B1.trans (B2.mono B1.size)
  clear B1 B2
  go_wp2_with fail
  refine (HP.out w2).mono ?_
  rintro e w2' ⟨rfl, hw⟩
  obtain rfl := hw
  go_wp2_with fail
  refine (H1.out _ B02).mono ?_
  rintro e w3 ⟨B3, rfl⟩
  have B03 := B02.trans (B3.mono B02.size)
  clear B02 B3
  go_wp2_with fail
  refine (H2.out _ B03).mono ?_
  rintro e w4 ⟨B4, rfl⟩
  have B04 := B03.trans (B4.mono B03.size)
  clear B03 B4
  go_wp2_with fail
  refine (H3.out _ B04).mono ?_
  rintro e w5 ⟨B5, rfl⟩
  have B05 := B04.trans (B5.mono B04.size)
  clear B04 B5
  go_wp2_with fail
  refine (H4.out _ B05).mono ?_
  rintro e w6 ⟨B6, rfl⟩
  have B06 := B05.trans (B6.mono B05.size)
  clear B05 B6
  go_wp2_with fail
  refine (HB3.out _).mono ?_
  rintro e w7 ⟨Bx, rfl⟩
  have B07 := B06.trans (Bx.mono B06.size)
  clear B06 Bx
  go_wp2_with fail
  refine (HB4.out _).mono ?_
  rintro e w8 ⟨Bx, rfl⟩
  have B08 := B07.trans (Bx.mono B07.size)
  clear B07 Bx
  go_wp2_with fail
  refine (HX.out _ B08).mono ?_
  rintro e w9 ⟨Bx, rfl⟩
  have B09 := B08.trans (Bx.mono B08.size)
  clear B08 Bx
  go_wp2_with fail
  go_ret
  exact ⟨rfl, B09⟩
set_option maxHeartbeats 4000000 in
set_option maxRecDepth 100000 in
theorem turned4f (h24 : ¬ (L : Int) < 24) (hall : b7 = A) (E : Int) (g3 : ¬ n < b3) (g4 : ¬ n < b4) (g5 : n < b5) (hE : n - 4 * (L : Int) = E) (HX : Hid (∀ w', Below w.heap.size w w' → Calls Tryd.prog 15 #[.string t, .int .i64 E] w' (ChA w' s true))) :
    Calls Tryd.prog 5 #[.string input, .int .i64 which] w fun e w' => e = .returned (.bool true) ∧ Below w.heap.size w w' := by
  obtain ⟨hLs, hL0, hL, HK, HS, HB3, HB4, HB5, HB6, HB7, HP, H1, H2, H3, H4, hn0, hn1, hA0, hA1, hb3, hb4, hb5, hb6, hb7, hc3, hc4, hc5, hc6, hc7⟩ := TU
  have hne : ¬ ((L : Int) = 0) := by omega
  go_enter Tryd.func5, Tryd.ntmps5
  go_wp2_with fail
  refine HK.out.mono ?_
  rintro e w1 ⟨rfl, B1⟩
  go_wp2_with fail
  refine (HS.out w1).mono ?_
  rintro e w1' ⟨rfl, hw⟩
  obtain rfl := hw
  go_wp2_with fail
  refine (HB7.out _).mono ?_
  rintro e w2 ⟨B2, rfl⟩
  have B02 := B1.trans (B2.mono B1.size)
  clear B1 B2
  go_wp2_with fail
  refine (HP.out w2).mono ?_
  rintro e w2' ⟨rfl, hw⟩
  obtain rfl := hw
  go_wp2_with fail
  refine (H1.out _ B02).mono ?_
  rintro e w3 ⟨B3, rfl⟩
  have B03 := B02.trans (B3.mono B02.size)
  clear B02 B3
  go_wp2_with fail
  refine (H2.out _ B03).mono ?_
  rintro e w4 ⟨B4, rfl⟩
  have B04 := B03.trans (B4.mono B03.size)
  clear B03 B4
  go_wp2_with fail
  refine (H3.out _ B04).mono ?_
  rintro e w5 ⟨B5, rfl⟩
  have B05 := B04.trans (B5.mono B04.size)
  clear B04 B5
  go_wp2_with fail
  refine (H4.out _ B05).mono ?_
  rintro e w6 ⟨B6, rfl⟩
  have B06 := B05.trans (B6.mono B05.size)
  clear B05 B6
  go_wp2_with fail
  refine (HB3.out _).mono ?_
  rintro e w7 ⟨Bx, rfl⟩
  have B07 := B06.trans (Bx.mono B06.size)
  clear B06 Bx
  go_wp2_with fail
  refine (HB4.out _).mono ?_
  rintro e w8 ⟨Bx, rfl⟩
  have B08 := B07.trans (Bx.mono B07.size)
  clear B07 Bx
  go_wp2_with fail
  refine (HB5.out _).mono ?_
  rintro e w9 ⟨Bx, rfl⟩
  have B09 := B08.trans (Bx.mono B08.size)
  clear B08 Bx
  go_wp2_with fail
  refine (HX.out _ B09).mono ?_
  rintro e w10 ⟨Bx, rfl⟩
  have B010 := B09.trans (Bx.mono B09.size)
  clear B09 Bx
  go_wp2_with fail
  go_ret
  exact ⟨rfl, B010⟩
set_option maxHeartbeats 4000000 in
set_option maxRecDepth 100000 in
theorem turned6f (h24 : ¬ (L : Int) < 24) (hall : b7 = A) (m : Nat) (hm : m < L) (g3 : ¬ n < b3) (g4 : ¬ n < b4) (g5 : ¬ n < b5) (g7 : n < b7) (hE : n - b6 = (m : Int)) (HT : Hid (s.extract 0 m ++ s.extract (m + 1) L = t)) :
    Calls Tryd.prog 5 #[.string input, .int .i64 which] w fun e w' => e = .returned (.bool true) ∧ Below w.heap.size w w' := by
  obtain ⟨hLs, hL0, hL, HK, HS, HB3, HB4, HB5, HB6, HB7, HP, H1, H2, H3, H4, hn0, hn1, hA0, hA1, hb3, hb4, hb5, hb6, hb7, hc3, hc4, hc5, hc6, hc7⟩ := TU
  have k1 : (0 : Int) ≤ (m : Int) := by omega
  have k2 : (m : Int) ≤ (L : Int) := by omega
  have k3 : (0 : Int) ≤ (m : Int) + 1 := by omega
  have k4 : (m : Int) + 1 ≤ (L : Int) := by omega
  have k5 : ((m : Int) + 1).toNat = m + 1 := by omega
  have hne : ¬ ((L : Int) = 0) := by omega
  go_enter Tryd.func5, Tryd.ntmps5
  go_wp2_with fail
  refine HK.out.mono ?_
  rintro e w1 ⟨rfl, B1⟩
  go_wp2_with fail
  refine (HS.out w1).mono ?_
  rintro e w1' ⟨rfl, hw⟩
  obtain rfl := hw
  go_wp2_with fail
  refine (HB7.out _).mono ?_
  rintro e w2 ⟨B2, rfl⟩
  have B02 := B1.trans (B2.mono B1.size)
  clear B1 B2
  go_wp2_with fail
  refine (HP.out w2).mono ?_
  rintro e w2' ⟨rfl, hw⟩
  obtain rfl := hw
  go_wp2_with fail
  refine (H1.out _ B02).mono ?_
  rintro e w3 ⟨B3, rfl⟩
  have B03 := B02.trans (B3.mono B02.size)
  clear B02 B3
  go_wp2_with fail
  refine (H2.out _ B03).mono ?_
  rintro e w4 ⟨B4, rfl⟩
  have B04 := B03.trans (B4.mono B03.size)
  clear B03 B4
  go_wp2_with fail
  refine (H3.out _ B04).mono ?_
  rintro e w5 ⟨B5, rfl⟩
  have B05 := B04.trans (B5.mono B04.size)
  clear B04 B5
  go_wp2_with fail
  refine (H4.out _ B05).mono ?_
  rintro e w6 ⟨B6, rfl⟩
  have B06 := B05.trans (B6.mono B05.size)
  clear B05 B6
  go_wp2_with fail
  refine (HB3.out _).mono ?_
  rintro e w7 ⟨Bx, rfl⟩
  have B07 := B06.trans (Bx.mono B06.size)
  clear B06 Bx
  go_wp2_with fail
  refine (HB4.out _).mono ?_
  rintro e w8 ⟨Bx, rfl⟩
  have B08 := B07.trans (Bx.mono B07.size)
  clear B07 Bx
  go_wp2_with fail
  refine (HB5.out _).mono ?_
  rintro e w9 ⟨Bx, rfl⟩
  have B09 := B08.trans (Bx.mono B08.size)
  clear B08 Bx
  go_wp2_with fail
  refine (HB6.out _).mono ?_
  rintro e w10 ⟨Bx, rfl⟩
  have B010 := B09.trans (Bx.mono B09.size)
  clear B09 Bx
  go_wp2_with fail
  refine (HB7.out _).mono ?_
  rintro e w11 ⟨Bx, rfl⟩
  have B011 := B010.trans (Bx.mono B010.size)
  clear B010 Bx
  go_wp2_with fail
  refine (HB6.out _).mono ?_
  rintro e w12 ⟨Bx, rfl⟩
  have B012 := B011.trans (Bx.mono B011.size)
  clear B011 Bx
  have ht := HT.out
  go_wp2_with fail
  go_quiet (fail)
  go_wp2_with fail
  go_ret
  exact ⟨rfl, ⟨B012.os, B012.tape, B012.output, B012.size, B012.block⟩⟩
end
end Go.Proofs.YtflenkppcclclaaDoor

namespace Go.Proofs.YtflenkppcclclaaDoor
open Go.RowKit

theorem chA_some (w : World) (hM : Mrk w) (s : ByteArray) (hs : s.size ≤ 24) (n : Int) (h1 : -9223372036854775808 ≤ n) (h2 : n ≤ 9223372036854775807) (l : List Int) (h : mutS s n = some l) : Calls Tryd.prog 15 #[.string s, .int .i64 n] w (ChA w (strOfNums l) true) := by
  have := xMutant_any w hM s (by omega) n h1 h2
  rw [h] at this
  refine this.mono ?_
  rintro e w' ⟨B, rfl⟩
  exact ⟨B, rfl⟩
theorem chA_none (w : World) (hM : Mrk w) (s : ByteArray) (hs : s.size ≤ 24) (n : Int) (h1 : -9223372036854775808 ≤ n) (h2 : n ≤ 9223372036854775807) (h : mutS s n = none) : Calls Tryd.prog 15 #[.string s, .int .i64 n] w (ChA w ⟨#[]⟩ false) := by
  have := xMutant_any w hM s (by omega) n h1 h2
  rw [h] at this
  refine this.mono ?_
  rintro e w' ⟨B, rfl⟩
  exact ⟨B, rfl⟩
theorem mutS_nat (s : ByteArray) (hs : s.size ≤ 24) (n : Nat) : mutS s (n : Int) = mutL (nums s) n := by
  unfold mutS
  rw [if_neg (by omega), Int.toNat_natCast]
theorem mutS_neg (s : ByteArray) (n : Int) (h : n < 0) : mutS s n = none := by
  unfold mutS
  rw [if_pos (Or.inr h)]
/-- How many changes there are. -/
def allOf (L : Nat) : Nat := 31 * L - 1 + (if L < 24 then L else 0)
theorem allOf_le (L : Nat) (h0 : 0 < L) (hL : L ≤ 24) : 0 < allOf L ∧ allOf L ≤ 743 := by
  unfold allOf
  split <;> omega

/-- What the walk stands on, for any text that is not empty. -/
theorem tu_make (w : World) (hT : Tab w) (hM : Mrk w) (input s : ByteArray) (hin : input.size ≤ 9223372036854775807) (hsi : (if 24 < input.size then input.extract 0 24 else input) = s) (hL0 : 0 < s.size) (hL : s.size ≤ 24) (which : Int) (h1 : -9223372036854775808 ≤ which) (h2 : which ≤ 9223372036854775807)
    (m : Nat) (hm : (m : Int) = kpickS which (allOf s.size : Nat)) (l : List Int) (hl : mutL (nums s) m = some l) :
    Tu w input s (strOfNums l) which s.size (m : Int) (allOf s.size : Nat) (17 * (s.size : Int) - 1) (21 * (s.size : Int) - 1) (25 * (s.size : Int) - 1) (30 * (s.size : Int) - 1) (31 * (s.size : Int) - 1) := by
  have ha := allOf_le s.size hL0 hL
  have hb := kpick_bd which (allOf s.size : Nat) (by omega)
  rw [← hm] at hb
  have hnone : ∀ k : Nat, mutL (nums s) (allOf s.size + k) = none := fun k => (mut_at (nums s) s.size (nums_len s) hL0 k).2.2.2.2.2.2.2.2
  exact {
    hLs := rfl
    hL0 := hL0
    hL := hL
    HK := kchanged_any w hT hM
    HS := fun w' => by
      have := short_any input hin w'
      rw [hsi] at this
      exact this
    HB3 := fun w' => kbase3 w' s.size (by omega)
    HB4 := fun w' => kbase4 w' s.size (by omega)
    HB5 := fun w' => kbase5 w' s.size (by omega)
    HB6 := fun w' => kbase6 w' s.size (by omega)
    HB7 := fun w' => kbase7 w' s.size (by omega)
    HP := fun w' => by
      rw [hm]
      exact kpick_any which (allOf s.size : Nat) h1 h2 (by omega) (by omega) w'
    H1 := fun w' B => chA_some w' (hM.all B) s hL (m : Int) (by omega) (by omega) l (by rw [mutS_nat s hL, hl])
    H2 := fun w' B => chA_none w' (hM.all B) s hL (allOf s.size : Nat) (by omega) (by omega) (by rw [mutS_nat s hL]; exact hnone 0)
    H3 := fun w' B => chA_none w' (hM.all B) s hL (-1 - (m : Int)) (by omega) (by omega) (mutS_neg s _ (by omega))
    H4 := fun w' B => chA_none w' (hM.all B) s hL ((allOf s.size : Nat) + 1 + (m : Int)) (by omega) (by omega) (by
      have e : ((allOf s.size : Nat) : Int) + 1 + (m : Int) = ((allOf s.size + (1 + m) : Nat) : Int) := by omega
      rw [e, mutS_nat s hL]
      exact hnone (1 + m))
    hn0 := by omega
    hn1 := by omega
    hA0 := by omega
    hA1 := by omega
    hb3 := by omega
    hb4 := by omega
    hb5 := by omega
    hb6 := by omega
    hb7 := by omega
    hc3 := by omega
    hc4 := by omega
    hc5 := by omega
    hc6 := by omega
    hc7 := by omega }

set_option maxHeartbeats 2000000 in
set_option maxRecDepth 100000 in
theorem turned_empty (w : World) (input : ByteArray) (which p : Int)
    (HK : Hid (Calls Tryd.prog 14 #[] w fun e w' => e = .returned (.bool true) ∧ Below w.heap.size w w'))
    (HS : Hid (∀ w', Calls Tryd.prog 8 #[.string input, .int .i64 24] w' fun e w'' => e = .returned (.string ⟨#[]⟩) ∧ w'' = w'))
    (HP : Hid (∀ w', Calls Tryd.prog 9 #[.int .i64 which, .int .i64 10] w' fun e w'' => e = .returned (.int .i64 p) ∧ w'' = w'))
    (HX : Hid (∀ w', Below w.heap.size w w' → Calls Tryd.prog 15 #[.string ⟨#[]⟩, .int .i64 p] w' (ChA w' ⟨#[]⟩ false))) :
    Calls Tryd.prog 5 #[.string input, .int .i64 which] w fun e w' => e = .returned (.bool true) ∧ Below w.heap.size w w' := by
  go_enter Tryd.func5, Tryd.ntmps5
  go_wp2_with fail
  refine HK.out.mono ?_
  rintro e w1 ⟨rfl, B1⟩
  go_wp2_with fail
  refine (HS.out w1).mono ?_
  rintro e w1' ⟨rfl, hw⟩
  obtain rfl := hw
  go_wp2_with fail
  refine (HP.out _).mono ?_
  rintro e w2' ⟨rfl, hw⟩
  obtain rfl := hw
  go_wp2_with fail
  refine (HX.out _ B1).mono ?_
  rintro e w3 ⟨B3, rfl⟩
  have B03 := B1.trans (B3.mono B1.size)
  clear B1 B3
  go_wp2_with fail
  go_ret
  exact ⟨rfl, B03⟩
end Go.Proofs.YtflenkppcclclaaDoor

