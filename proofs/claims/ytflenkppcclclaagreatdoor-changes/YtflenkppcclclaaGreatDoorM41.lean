import Derived.Test.YtflenkppcclclaaGreatDoorM40
import Derived.Test.YtflenkppcclclaaGreatDoorM36
import Derived.Test.YtflenkppcclclaaGreatDoorM30
namespace Go.Proofs.YtflenkppcclclaaGreatDoor
open Go.RowKit

section
variable (w : World) (s o : ByteArray) (x : Int) (L : Nat) (hLs : s.size = L) (hL : L ≤ 24)
include hLs

set_option maxRecDepth 100000 in
set_option maxHeartbeats 2000000 in
theorem rch_empty (k : Nat) (hk : k = 0 ∨ k = 1 ∨ k = 2 ∨ k = 5) (h0 : L = 0) (y1 : Int)
    (H0 : Hid (Calls Tryz.prog 156 #[.int .u64 x, .int .i64 6] w (DAns w k y1))) :
    Calls Tryz.prog 157 #[.string s, .string o, .int .u64 x] w (WildAns w s y1) := by
  subst h0
  go_enter Tryz.func157, Tryz.ntmps157
  go_wp2_with fail
  refine H0.out.mono ?_
  rintro e w1 ⟨rfl, hw1⟩
  obtain rfl := hw1
  rcases hk with rfl | rfl | rfl | rfl
  all_goals
    go_wp2_with fail
    go_ret2
    exact ⟨Below.refl _ _, rfl⟩

include hL in
set_option maxRecDepth 100000 in
set_option maxHeartbeats 2000000 in
theorem rch_bit (t : ByteArray) (a : Nat) (hL0 : 0 < L) (y1 y2 : Int)
    (H0 : Hid (Calls Tryz.prog 156 #[.int .u64 x, .int .i64 6] w (DAns w 0 y1)))
    (H1 : Hid (Calls Tryz.prog 156 #[.int .u64 y1, .int .i64 ((8 : Int) * (L : Int))] w (DAns w a y2)))
    (HF : Hid (Calls Tryz.prog 154 #[.string s, .int .i64 a] w (StrAns w t))) :
    Calls Tryz.prog 157 #[.string s, .string o, .int .u64 x] w (WildAns w t y2) := by
  have hne : ¬ ((L : Int) = 0) := by omega
  go_enter Tryz.func157, Tryz.ntmps157
  go_wp2_with fail
  refine H0.out.mono ?_
  rintro e w1 ⟨rfl, hw1⟩
  obtain rfl := hw1
  go_wp2_with fail
  refine H1.out.mono ?_
  rintro e w1 ⟨rfl, hw1⟩
  obtain rfl := hw1
  go_wp2_with fail
  refine HF.out.mono ?_
  rintro e w2 ⟨B2, rfl⟩
  go_wp2_with fail
  go_ret2
  exact ⟨B2, rfl⟩

set_option maxRecDepth 100000 in
set_option maxHeartbeats 2000000 in
theorem rch_byte (t : ByteArray) (a b : Nat) (hL0 : 0 < L) (hb : b < 256) (y1 y2 y3 : Int)
    (H0 : Hid (Calls Tryz.prog 156 #[.int .u64 x, .int .i64 6] w (DAns w 1 y1)))
    (H1 : Hid (Calls Tryz.prog 156 #[.int .u64 y1, .int .i64 (L : Int)] w (DAns w a y2)))
    (H2 : Hid (Calls Tryz.prog 156 #[.int .u64 y2, .int .i64 256] w (DAns w b y3)))
    (HF : Hid (Calls Tryz.prog 155 #[.string s, .int .i64 a, .int .u8 (b : Int)] w (StrAns w t))) :
    Calls Tryz.prog 157 #[.string s, .string o, .int .u64 x] w (WildAns w t y3) := by
  have hne : ¬ ((L : Int) = 0) := by omega
  go_enter Tryz.func157, Tryz.ntmps157
  go_wp2_with fail
  refine H0.out.mono ?_
  rintro e w1 ⟨rfl, hw1⟩
  obtain rfl := hw1
  go_wp2_with fail
  refine H1.out.mono ?_
  rintro e w1 ⟨rfl, hw1⟩
  obtain rfl := hw1
  go_wp2_with fail
  refine H2.out.mono ?_
  rintro e w1 ⟨rfl, hw1⟩
  obtain rfl := hw1
  go_wp2_with fail
  refine HF.out.mono ?_
  rintro e w2 ⟨B2, rfl⟩
  go_wp2_with fail
  go_ret2
  exact ⟨B2, rfl⟩

include hL in
set_option maxRecDepth 100000 in
set_option maxHeartbeats 2000000 in
theorem rch_cut (t : ByteArray) (a : Nat) (ha : a < L) (y1 y2 : Int)
    (H0 : Hid (Calls Tryz.prog 156 #[.int .u64 x, .int .i64 6] w (DAns w 2 y1)))
    (H1 : Hid (Calls Tryz.prog 156 #[.int .u64 y1, .int .i64 (L : Int)] w (DAns w a y2)))
    (HT : Hid (s.extract 0 a ++ s.extract (a + 1) L = t)) :
    Calls Tryz.prog 157 #[.string s, .string o, .int .u64 x] w (WildAns w t y2) := by
  have hne : ¬ ((L : Int) = 0) := by omega
  have k1 : (0 : Int) ≤ (a : Int) := by omega
  have k2 : (a : Int) ≤ (L : Int) := by omega
  have k3 : (0 : Int) ≤ (a : Int) + 1 := by omega
  have k4 : (a : Int) + 1 ≤ (L : Int) := by omega
  have k5 : ((a : Int) + 1).toNat = a + 1 := by omega
  go_enter Tryz.func157, Tryz.ntmps157
  go_wp2_with fail
  refine H0.out.mono ?_
  rintro e w1 ⟨rfl, hw1⟩
  obtain rfl := hw1
  go_wp2_with fail
  refine H1.out.mono ?_
  rintro e w1 ⟨rfl, hw1⟩
  obtain rfl := hw1
  go_wp2_with fail
  go_quiet (fail)
  go_wp2_with fail
  go_ret2
  rw [← HT.out]
  exact ⟨⟨rfl, rfl, rfl, Nat.le_refl _, fun _ _ => rfl⟩, rfl⟩

set_option maxRecDepth 100000 in
set_option maxHeartbeats 2000000 in
theorem rch_full (h24 : L = 24) (y1 : Int)
    (H0 : Hid (Calls Tryz.prog 156 #[.int .u64 x, .int .i64 6] w (DAns w 3 y1))) :
    Calls Tryz.prog 157 #[.string s, .string o, .int .u64 x] w (WildAns w s y1) := by
  subst h24
  go_enter Tryz.func157, Tryz.ntmps157
  go_wp2_with fail
  refine H0.out.mono ?_
  rintro e w1 ⟨rfl, hw1⟩
  obtain rfl := hw1
  go_wp2_with fail
  go_ret2
  exact ⟨Below.refl _ _, rfl⟩

set_option maxRecDepth 100000 in
set_option maxHeartbeats 2000000 in
theorem rch_in (t t0 : ByteArray) (a b : Nat) (h24 : L < 24) (hL0 : 0 < L) (ha : a ≤ L) (hb : b < 256) (y1 y2 y3 : Int) (ht0 : strOfNums [(b : Int)] = t0)
    (H0 : Hid (Calls Tryz.prog 156 #[.int .u64 x, .int .i64 6] w (DAns w 3 y1)))
    (H1 : Hid (Calls Tryz.prog 156 #[.int .u64 y1, .int .i64 ((L : Int) + 1)] w (DAns w a y2)))
    (H2 : Hid (Calls Tryz.prog 156 #[.int .u64 y2, .int .i64 256] w (DAns w b y3)))
    (HT : Hid (s.extract 0 a ++ t0 ++ s.extract a L = t)) :
    Calls Tryz.prog 157 #[.string s, .string o, .int .u64 x] w (WildAns w t y3) := by
  have k1 : (0 : Int) ≤ (a : Int) := by omega
  have k2 : (a : Int) ≤ (L : Int) := by omega
  have k6 : ¬ (24 : Int) ≤ (L : Int) := by omega
  have hmin : min a L = a := by omega
  have hts : t0.size = 1 := by rw [← ht0]; rfl
  have hcv : (convert 25 9 (.slice (some ⟨w.heap.size, 0, none⟩) 1 1)).run Tryz.prog (w.alloc (.cells #[.int .u8 (b : Int)] 5)).drew = .ok (.string t0) (w.alloc (.cells #[.int .u8 (b : Int)] 5)).drew := by
    rw [← ht0]
    exact run_convert_bytes_arg _ 25 5 Tryz.underlying25 Tryz.underlying5 w.heap.size 0 1 1 [(b : Int)] rfl (fun j hj => by
      have e : (w.alloc (.cells #[.int .u8 (b : Int)] 5)).drew.cell? ⟨w.heap.size, 0 + j, none⟩ = #[Value.int .u8 (b : Int)][0 + j]? := World.cell?_alloc_new w #[.int .u8 (b : Int)] 5 (0 + j)
      rw [e]
      match j, hj with
      | 0, _ => rfl
      | j + 1, hj => simp at hj) 9 Tryz.underlying9
  have hne : ¬ ((L : Int) = 0) := by omega
  go_enter Tryz.func157, Tryz.ntmps157
  go_wp2_with fail
  refine H0.out.mono ?_
  rintro e w1 ⟨rfl, hw1⟩
  obtain rfl := hw1
  go_wp2_with fail
  refine H1.out.mono ?_
  rintro e w1 ⟨rfl, hw1⟩
  obtain rfl := hw1
  go_wp2_with fail
  refine H2.out.mono ?_
  rintro e w1 ⟨rfl, hw1⟩
  obtain rfl := hw1
  go_wp2_with fail
  go_region
  go_wp2_with fail
  go_ret2
  rw [← HT.out]
  exact ⟨((Below.refl _ _).alloc (Nat.le_refl _) _).drew, rfl⟩

include hL in
set_option maxRecDepth 100000 in
set_option maxHeartbeats 2000000 in
theorem rch_cross (t t1 : ByteArray) (a b O : Nat) (hOs : o.size = O) (hO : O ≤ 24) (hL0 : 0 < L) (ha : a ≤ L) (hb : b ≤ O) (y1 y2 y3 : Int)
    (H0 : Hid (Calls Tryz.prog 156 #[.int .u64 x, .int .i64 6] w (DAns w 4 y1)))
    (H1 : Hid (Calls Tryz.prog 156 #[.int .u64 y1, .int .i64 ((L : Int) + 1)] w (DAns w a y2)))
    (H2 : Hid (Calls Tryz.prog 156 #[.int .u64 y2, .int .i64 ((O : Int) + 1)] w (DAns w b y3)))
    (ht1 : s.extract 0 a ++ o.extract b O = t1) (N : Nat) (hN : t1.size = N) (HT : Hid ((if 24 < N then t1.extract 0 24 else t1) = t)) :
    Calls Tryz.prog 157 #[.string s, .string o, .int .u64 x] w (WildAns w t y3) := by
  have k1 : (0 : Int) ≤ (a : Int) := by omega
  have k2 : (a : Int) ≤ (L : Int) := by omega
  have k3 : (0 : Int) ≤ (b : Int) := by omega
  have k4 : (b : Int) ≤ (O : Int) := by omega
  have hmin : min a L = a := by omega
  have hne : ¬ ((L : Int) = 0) := by omega
  by_cases h24 : 24 < N
  · have h24' : (24 : Int) < (N : Int) := by omega
    have hT := HT.out
    rw [if_pos h24] at hT
    have HT' : Hid (t1.extract 0 24 = t) := hT
    clear hT HT
    go_enter Tryz.func157, Tryz.ntmps157
    go_wp2_with fail
    refine H0.out.mono ?_
    rintro e w1 ⟨rfl, hw1⟩
    obtain rfl := hw1
    go_wp2_with fail
    refine H1.out.mono ?_
    rintro e w1 ⟨rfl, hw1⟩
    obtain rfl := hw1
    go_wp2_with fail
    refine H2.out.mono ?_
    rintro e w1 ⟨rfl, hw1⟩
    obtain rfl := hw1
    go_wp2_with fail
    go_quiet (fail)
    go_wp2_with fail
    go_ret2
    rw [← HT'.out]
    exact ⟨⟨rfl, rfl, rfl, Nat.le_refl _, fun _ _ => rfl⟩, rfl⟩
  · have h24' : ¬ (24 : Int) < (N : Int) := by omega
    have hT := HT.out
    rw [if_neg h24] at hT
    have HT' : Hid (t1 = t) := hT
    clear hT HT
    go_enter Tryz.func157, Tryz.ntmps157
    go_wp2_with fail
    refine H0.out.mono ?_
    rintro e w1 ⟨rfl, hw1⟩
    obtain rfl := hw1
    go_wp2_with fail
    refine H1.out.mono ?_
    rintro e w1 ⟨rfl, hw1⟩
    obtain rfl := hw1
    go_wp2_with fail
    refine H2.out.mono ?_
    rintro e w1 ⟨rfl, hw1⟩
    obtain rfl := hw1
    go_wp2_with fail
    go_quiet (fail)
    go_wp2_with fail
    go_ret2
    rw [← HT'.out]
    exact ⟨⟨rfl, rfl, rfl, Nat.le_refl _, fun _ _ => rfl⟩, rfl⟩

set_option maxRecDepth 100000 in
set_option maxHeartbeats 2000000 in
theorem rch_copy (t : ByteArray) (a b : Nat) (hL0 : 0 < L) (hbq : b < s.size) (z : Int) (y1 y2 y3 : Int) (hz : (nums s).getD b 0 = z)
    (H0 : Hid (Calls Tryz.prog 156 #[.int .u64 x, .int .i64 6] w (DAns w 5 y1)))
    (H1 : Hid (Calls Tryz.prog 156 #[.int .u64 y1, .int .i64 (L : Int)] w (DAns w a y2)))
    (H2 : Hid (Calls Tryz.prog 156 #[.int .u64 y2, .int .i64 (L : Int)] w (DAns w b y3)))
    (HF : Hid (Calls Tryz.prog 155 #[.string s, .int .i64 a, .int .u8 z] w (StrAns w t))) :
    Calls Tryz.prog 157 #[.string s, .string o, .int .u64 x] w (WildAns w t y3) := by
  have hne : ¬ ((L : Int) = 0) := by omega
  have hidx := idx_str s b hbq
  rw [hz] at hidx
  clear hz
  have hbI : (b : Int) < (L : Int) := by omega
  go_enter Tryz.func157, Tryz.ntmps157
  go_wp2_with fail
  refine H0.out.mono ?_
  rintro e w1 ⟨rfl, hw1⟩
  obtain rfl := hw1
  go_wp2_with fail
  refine H1.out.mono ?_
  rintro e w1 ⟨rfl, hw1⟩
  obtain rfl := hw1
  go_wp2_with fail
  refine H2.out.mono ?_
  rintro e w1 ⟨rfl, hw1⟩
  obtain rfl := hw1
  go_wp2_with fail
  refine HF.out.mono ?_
  rintro e w2 ⟨B2, rfl⟩
  go_wp2_with fail
  go_ret2
  exact ⟨B2, rfl⟩
end
end Go.Proofs.YtflenkppcclclaaGreatDoor

namespace Go.Proofs.YtflenkppcclclaaGreatDoor
open Go.RowKit

set_option maxRecDepth 100000 in
set_option maxHeartbeats 400000 in
theorem rch_in0 (w : World) (o : ByteArray) (x : Int) (t0 : ByteArray) (b : Nat) (hb : b < 256) (y1 y2 y3 : Int) (ht0 : strOfNums [(b : Int)] = t0)
    (H0 : Hid (Calls Tryz.prog 156 #[.int .u64 x, .int .i64 6] w (DAns w 3 y1)))
    (H1 : Hid (Calls Tryz.prog 156 #[.int .u64 y1, .int .i64 1] w (DAns w 0 y2)))
    (H2 : Hid (Calls Tryz.prog 156 #[.int .u64 y2, .int .i64 256] w (DAns w b y3))) :
    Calls Tryz.prog 157 #[.string ⟨#[]⟩, .string o, .int .u64 x] w (WildAns w t0 y3) := by
  have hts : t0.size = 1 := by rw [← ht0]; rfl
  have hcv : (convert 25 9 (.slice (some ⟨w.heap.size, 0, none⟩) 1 1)).run Tryz.prog (w.alloc (.cells #[.int .u8 (b : Int)] 5)).drew = .ok (.string t0) (w.alloc (.cells #[.int .u8 (b : Int)] 5)).drew := by
    rw [← ht0]
    exact run_convert_bytes_arg _ 25 5 Tryz.underlying25 Tryz.underlying5 w.heap.size 0 1 1 [(b : Int)] rfl (fun j hj => by
      have e : (w.alloc (.cells #[.int .u8 (b : Int)] 5)).drew.cell? ⟨w.heap.size, 0 + j, none⟩ = #[Value.int .u8 (b : Int)][0 + j]? := World.cell?_alloc_new w #[.int .u8 (b : Int)] 5 (0 + j)
      rw [e]
      match j, hj with
      | 0, _ => rfl
      | j + 1, hj => simp at hj) 9 Tryz.underlying9
  go_enter Tryz.func157, Tryz.ntmps157
  go_wp2_with fail
  refine H0.out.mono ?_
  rintro e w1 ⟨rfl, hw1⟩
  obtain rfl := hw1
  go_wp2_with fail
  refine H1.out.mono ?_
  rintro e w1 ⟨rfl, hw1⟩
  obtain rfl := hw1
  go_wp2_with fail
  refine H2.out.mono ?_
  rintro e w1 ⟨rfl, hw1⟩
  obtain rfl := hw1
  go_wp2_with fail
  go_region
  go_wp2_with fail
  go_ret2
  refine ⟨((Below.refl _ _).alloc (Nat.le_refl _) _).drew, ?_⟩
  rfl

set_option maxRecDepth 100000 in
set_option maxHeartbeats 400000 in
theorem rch_cross0 (w : World) (o : ByteArray) (x : Int) (t1 : ByteArray) (b O : Nat) (hOs : o.size = O) (hO : O ≤ 24) (hb : b ≤ O) (y1 y2 y3 : Int)
    (H0 : Hid (Calls Tryz.prog 156 #[.int .u64 x, .int .i64 6] w (DAns w 4 y1)))
    (H1 : Hid (Calls Tryz.prog 156 #[.int .u64 y1, .int .i64 1] w (DAns w 0 y2)))
    (H2 : Hid (Calls Tryz.prog 156 #[.int .u64 y2, .int .i64 ((O : Int) + 1)] w (DAns w b y3)))
    (ht1 : o.extract b O = t1) (N : Nat) (hN : t1.size = N) (hN24 : N ≤ 24) :
    Calls Tryz.prog 157 #[.string ⟨#[]⟩, .string o, .int .u64 x] w (WildAns w t1 y3) := by
  have k3 : (0 : Int) ≤ (b : Int) := by omega
  have k4 : (b : Int) ≤ (O : Int) := by omega
  have h24' : ¬ (24 : Int) < (N : Int) := by omega
  go_enter Tryz.func157, Tryz.ntmps157
  go_wp2_with fail
  refine H0.out.mono ?_
  rintro e w1 ⟨rfl, hw1⟩
  obtain rfl := hw1
  go_wp2_with fail
  refine H1.out.mono ?_
  rintro e w1 ⟨rfl, hw1⟩
  obtain rfl := hw1
  go_wp2_with fail
  refine H2.out.mono ?_
  rintro e w1 ⟨rfl, hw1⟩
  obtain rfl := hw1
  go_wp2_with fail
  go_quiet (fail)
  go_wp2_with fail
  go_ret2
  refine ⟨⟨rfl, rfl, rfl, Nat.le_refl _, fun _ _ => rfl⟩, ?_⟩
  rfl
end Go.Proofs.YtflenkppcclclaaGreatDoor

namespace Go.Proofs.YtflenkppcclclaaGreatDoor
open Go.RowKit

theorem in_str (s : ByteArray) (i : Nat) (b : Int) (h0 : 0 ≤ b) (h1 : b ≤ 255) : s.extract 0 i ++ strOfNums [b] ++ s.extract i s.size = strOfNums ((nums s).take i ++ b :: (nums s).drop i) := by
  apply nums_inj
  rw [nums_append, nums_append, nums_extract, nums_extract, nums_str (byt_one h0 h1), nums_str (put_byt (nums_byt s) i h0 h1)]
  rw [List.drop_zero, Nat.sub_zero, List.take_of_length_le (i := s.size - i) (by simp [nums_len])]
  simp
theorem cross_nums (s o : ByteArray) (a b : Nat) : nums (s.extract 0 a ++ o.extract b o.size) = (nums s).take a ++ (nums o).drop b := by
  rw [nums_append, nums_extract, nums_extract, List.drop_zero, Nat.sub_zero, List.take_of_length_le (i := o.size - b) (by simp [nums_len])]
theorem cross_str (s o : ByteArray) (a b : Nat) : (if 24 < (s.extract 0 a ++ o.extract b o.size).size then (s.extract 0 a ++ o.extract b o.size).extract 0 24 else s.extract 0 a ++ o.extract b o.size) = strOfNums (((nums s).take a ++ (nums o).drop b).take 24) := by
  have hn := cross_nums s o a b
  generalize s.extract 0 a ++ o.extract b o.size = t at hn ⊢
  have hb : Byt ((nums s).take a ++ (nums o).drop b) := ((nums_byt s).take a).app ((nums_byt o).drop b)
  split
  · apply nums_inj
    rw [nums_extract, hn, nums_str (hb.take 24), List.drop_zero, Nat.sub_zero]
  · rw [← hn, List.take_of_length_le (by rw [nums_len]; omega), str_nums]

theorem rdr (w : World) (x : Int) (h0 : 0 ≤ x) (hx : x ≤ 18446744073709551615) (n : Nat) (h1 : 1 ≤ n) (h2 : n ≤ 1000) : Calls Tryz.prog 156 #[.int .u64 x, .int .i64 n] w (DAns w (dr x n) (sd x)) := rdrawn_any w x h0 hx n h1 h2

theorem empty_of {s : ByteArray} (h : s.size = 0) : s = ⟨#[]⟩ := by
  apply nums_inj
  have : (nums s).length = 0 := by rw [nums_len]; exact h
  rw [List.length_eq_zero_iff.1 this]
  rfl
theorem dr_one (x : Int) : dr x 1 = 0 := by
  have := dr_lt x 1 (by omega)
  omega

theorem rchanged_any (w : World) (s o : ByteArray) (x : Int) (hs : s.size ≤ 24) (ho : o.size ≤ 24) (h0 : 0 ≤ x) (hx : x ≤ 18446744073709551615) :
    Calls Tryz.prog 157 #[.string s, .string o, .int .u64 x] w (WildAns w (strOfNums (onceL (nums s) (nums o) x).1) (onceL (nums s) (nums o) x).2) := by
  have H0 : Hid (Calls Tryz.prog 156 #[.int .u64 x, .int .i64 6] w (DAns w (dr x 6) (sd x))) := rdr w x h0 hx 6 (by omega) (by omega)
  have hw := dr_lt x 6 (by omega)
  have b1 := sd_bd x
  have b2 := sd_bd (sd x)
  unfold onceL
  dsimp only
  rw [nums_len, nums_len]
  generalize dr x 6 = k at H0 hw ⊢
  by_cases h : s.size = 0 ∧ k ≠ 3 ∧ k ≠ 4
  · rw [if_pos h, str_nums]
    exact rch_empty w s o x s.size rfl k (by omega) h.1 (sd x) H0
  rw [if_neg h]
  match k, hw with
  | 0, _ =>
    rw [if_pos rfl]
    exact rch_bit w s o x s.size rfl hs _ _ (by omega) _ _ H0 (rdr w (sd x) b1.1 b1.2 (8 * s.size) (by omega) (by omega)) (rflip_any w s _ (dr_lt _ _ (by omega)) (by omega))
  | 1, _ =>
    rw [if_neg (by decide), if_pos rfl]
    have hb := dr_lt (sd (sd x)) 256 (by omega)
    exact rch_byte w s o x s.size rfl _ _ _ (by omega) hb _ _ _ H0 (rdr w (sd x) b1.1 b1.2 s.size (by omega) (by omega)) (rdr w (sd (sd x)) b2.1 b2.2 256 (by omega) (by omega)) (rput_any w s _ _ (dr_lt _ _ (by omega)) (by omega) (by omega) (by omega))
  | 2, _ =>
    rw [if_neg (by decide), if_neg (by decide), if_pos rfl]
    exact rch_cut w s o x s.size rfl hs _ _ (dr_lt _ _ (by omega)) _ _ H0 (rdr w (sd x) b1.1 b1.2 s.size (by omega) (by omega)) (cut_str s _)
  | 3, _ =>
    rw [if_neg (by decide), if_neg (by decide), if_neg (by decide), if_pos rfl]
    by_cases h24 : 24 ≤ s.size
    · rw [if_pos h24, str_nums]
      exact rch_full w s o x s.size rfl (by omega) _ H0
    · rw [if_neg h24]
      have hb := dr_lt (sd (sd x)) 256 (by omega)
      by_cases hz : s.size = 0
      · have e := empty_of hz
        have ht : strOfNums ((nums s).take (dr (sd x) (s.size + 1)) ++ (dr (sd (sd x)) 256 : Int) :: (nums s).drop (dr (sd x) (s.size + 1))) = strOfNums [(dr (sd (sd x)) 256 : Int)] := by
          have : nums s = [] := List.length_eq_zero_iff.1 (by rw [nums_len]; exact hz)
          rw [this]
          simp
        dsimp only
        rw [ht, e]
        have H1 := rdr w (sd x) b1.1 b1.2 1 (by omega) (by omega)
        rw [dr_one] at H1
        exact rch_in0 w o x _ _ hb _ _ _ rfl H0 H1 (rdr w (sd (sd x)) b2.1 b2.2 256 (by omega) (by omega))
      · have ha := dr_lt (sd x) (s.size + 1) (by omega)
        exact rch_in w s o x s.size rfl _ _ _ _ (by omega) (by omega) (by omega) hb _ _ _ rfl H0 (rdr w (sd x) b1.1 b1.2 (s.size + 1) (by omega) (by omega)) (rdr w (sd (sd x)) b2.1 b2.2 256 (by omega) (by omega)) (in_str s _ _ (by omega) (by omega))
  | 4, _ =>
    rw [if_neg (by decide), if_neg (by decide), if_neg (by decide), if_neg (by decide), if_pos rfl]
    have hb := dr_lt (sd (sd x)) (o.size + 1) (by omega)
    by_cases hz : s.size = 0
    · have e := empty_of hz
      have hl : (o.extract (dr (sd (sd x)) (o.size + 1)) o.size).size ≤ 24 := by
        rw [← nums_len, nums_extract, List.length_take]
        omega
      have ht : strOfNums (((nums s).take (dr (sd x) (s.size + 1)) ++ (nums o).drop (dr (sd (sd x)) (o.size + 1))).take 24) = o.extract (dr (sd (sd x)) (o.size + 1)) o.size := by
        have hn : nums s = [] := List.length_eq_zero_iff.1 (by rw [nums_len]; exact hz)
        rw [hn, List.take_nil, List.nil_append, List.take_of_length_le (by simp [nums_len]; omega)]
        apply nums_inj
        rw [nums_str ((nums_byt o).drop _), nums_extract, List.take_of_length_le (by simp [nums_len])]
      dsimp only
      rw [ht, e]
      have H1 := rdr w (sd x) b1.1 b1.2 1 (by omega) (by omega)
      rw [dr_one] at H1
      exact rch_cross0 w o x _ _ o.size rfl ho (by omega) _ _ _ H0 H1 (rdr w (sd (sd x)) b2.1 b2.2 (o.size + 1) (by omega) (by omega)) rfl _ rfl hl
    · have ha := dr_lt (sd x) (s.size + 1) (by omega)
      exact rch_cross w s o x s.size rfl hs _ _ _ _ o.size rfl ho (by omega) (by omega) (by omega) _ _ _ H0 (rdr w (sd x) b1.1 b1.2 (s.size + 1) (by omega) (by omega)) (rdr w (sd (sd x)) b2.1 b2.2 (o.size + 1) (by omega) (by omega)) rfl _ rfl (cross_str s o _ _)
  | 5, _ =>
    rw [if_neg (by decide), if_neg (by decide), if_neg (by decide), if_neg (by decide), if_neg (by decide)]
    have hb := dr_lt (sd (sd x)) s.size (by omega)
    exact rch_copy w s o x s.size rfl _ _ _ (by omega) hb _ _ _ _ rfl H0 (rdr w (sd x) b1.1 b1.2 s.size (by omega) (by omega)) (rdr w (sd (sd x)) b2.1 b2.2 s.size (by omega) (by omega)) (rput_any w s _ _ (dr_lt _ _ (by omega)) (by omega) ((nums_byt s).at _).1 ((nums_byt s).at _).2)
  | k + 6, hk => omega

set_option maxHeartbeats 1000000 in
set_option maxRecDepth 100000 in
theorem rWild_core (w : World) (s o : ByteArray) (hs : s.size ≤ 24) (ho : o.size ≤ 24) (x : Int) (n : Nat) (hn : n ≤ 3) (x1 : Int) (F : Nat → ByteArray) (G : Nat → Int) (hF0 : Hid (F 0 = s ∧ G 0 = x1))
    (H0 : Hid (Calls Tryz.prog 156 #[.int .u64 x, .int .i64 4] w (DAns w n x1)))
    (H1 : Hid (∀ i w1, Calls Tryz.prog 157 #[.string (F i), .string o, .int .u64 (G i)] w1 (WildAns w1 (F (i + 1)) (G (i + 1))))) :
    Calls Tryz.prog 107 #[.string s, .string o, .int .u64 x] w (WildAns w (F (1 + n)) (G (1 + n))) := by
  generalize hL : s.size = L at hs
  generalize hO : o.size = O at ho
  have h1 : ¬ (24 : Int) < (L : Int) := by omega
  have h2 : ¬ (24 : Int) < (O : Int) := by omega
  go_enter Tryz.func107, Tryz.ntmps107
  go_wp2_with fail
  refine H0.out.mono ?_
  rintro e w1 ⟨rfl, hw1⟩
  obtain rfl := hw1
  go_wp2_with fail
  go_loopw [0, 2, 9] (fun sv xv i wr => ∃ k : Nat, k ≤ 1 + n ∧ sv = .string (F k) ∧ xv = .int .u64 (G k) ∧ i = .int .i64 k ∧ Below w1.heap.size w1 wr) (fun _ _ i _ => 1 + n - (intOf i).toNat)
  case atStart => exact ⟨0, by omega, by rw [hF0.out.1], by rw [hF0.out.2], rfl, Below.refl _ _⟩
  case round =>
    obtain ⟨k, hk, rfl, rfl, rfl, B⟩ := hrel
    have HB : Hid (Below w1.heap.size w1 wr) := B
    clear B
    by_cases hlt : k ≤ n
    · have hi1 : (k : Int) ≤ (n : Int) := by omega
      have HC : Hid (Calls Tryz.prog 157 #[.string (F k), .string o, .int .u64 (G k)] wr (WildAns wr (F (k + 1)) (G (k + 1)))) := H1.out k wr
      go_wp2_with fail
      refine HC.out.mono ?_
      rintro e w3 ⟨B3, rfl⟩
      have HB3 : Hid (Below w1.heap.size w1 w3) := HB.out.trans (B3.mono HB.out.size)
      clear B3
      go_wp2_with fail
      go_roundw
      case rel => exact ⟨k + 1, by omega, rfl, rfl, by go_num, HB3.out⟩
      case measure => simp [intOf]; omega
    · have hi1 : ¬ (k : Int) ≤ (n : Int) := by omega
      obtain rfl : k = 1 + n := by omega
      go_wp2_with fail
      go_ret2
      exact ⟨HB.out, rfl⟩

theorem rwild_way (s o : ByteArray) (hs : s.size ≤ 24) (ho : o.size ≤ 24) (x : Int) : ∃ (n : Nat) (x1 : Int) (F : Nat → ByteArray) (G : Nat → Int), n = dr x 4 ∧ x1 = sd x ∧ n ≤ 3 ∧ F 0 = s ∧ G 0 = x1 ∧
    (∀ i, (F i).size ≤ 24 ∧ 0 ≤ G i ∧ G i ≤ 18446744073709551615 ∧ F (i + 1) = strOfNums (onceL (nums (F i)) (nums o) (G i)).1 ∧ G (i + 1) = (onceL (nums (F i)) (nums o) (G i)).2) ∧ F (1 + n) = strOfNums (wildL (nums s) (nums o) x).1 ∧ G (1 + n) = (wildL (nums s) (nums o) x).2 := by
  have hbyt : ∀ i, Byt (timesL (nums s) (nums o) (sd x) i).1 := times_byt (nums_byt s) (nums_byt o) _
  have hlen : ∀ i, (timesL (nums s) (nums o) (sd x) i).1.length ≤ 24 := fun i => times_len' (by rw [nums_len]; exact hs) (by rw [nums_len]; exact ho) _ _
  have hsd : ∀ i, 0 ≤ (timesL (nums s) (nums o) (sd x) i).2 ∧ (timesL (nums s) (nums o) (sd x) i).2 ≤ 18446744073709551615 := by
    intro i
    induction i with
    | zero => exact sd_bd x
    | succ i ih =>
      show 0 ≤ (onceL _ _ _).2 ∧ (onceL _ _ _).2 ≤ _
      unfold onceL
      dsimp only
      have r1 := sd_bd (timesL (nums s) (nums o) (sd x) i).2
      have r2 := sd_bd (sd (timesL (nums s) (nums o) (sd x) i).2)
      have r3 := sd_bd (sd (sd (timesL (nums s) (nums o) (sd x) i).2))
      split
      · exact r1
      split
      · exact r2
      split
      · exact r3
      split
      · exact r2
      split
      · split
        · exact r1
        · exact r3
      split
      · exact r3
      · exact r3
  have hstep : ∀ i, timesL (nums s) (nums o) (sd x) (i + 1) = onceL (timesL (nums s) (nums o) (sd x) i).1 (nums o) (timesL (nums s) (nums o) (sd x) i).2 := fun i => rfl
  have hw : wildL (nums s) (nums o) x = timesL (nums s) (nums o) (sd x) (1 + dr x 4) := rfl
  refine ⟨dr x 4, sd x, fun i => strOfNums (timesL (nums s) (nums o) (sd x) i).1, fun i => (timesL (nums s) (nums o) (sd x) i).2, rfl, rfl, ?_, str_nums s, rfl, fun i => ⟨?_, (hsd i).1, (hsd i).2, ?_, ?_⟩, ?_, ?_⟩
  · have := dr_lt x 4 (by omega)
    omega
  · rw [strOfNums_size]
    exact hlen i
  · dsimp only
    rw [nums_str (hbyt i), hstep]
  · dsimp only
    rw [nums_str (hbyt i), hstep]
  · rw [hw]
  · rw [hw]
theorem rWild_any (w : World) (s o : ByteArray) (hs : s.size ≤ 24) (ho : o.size ≤ 24) (x : Int) (h0 : 0 ≤ x) (hx : x ≤ 18446744073709551615) :
    Calls Tryz.prog 107 #[.string s, .string o, .int .u64 x] w (WildAns w (strOfNums (wildL (nums s) (nums o) x).1) (wildL (nums s) (nums o) x).2) := by
  obtain ⟨n, x1, F, G, hn, hx1, hn3, hF0, hG0, hFs, hFn, hGn⟩ := rwild_way s o hs ho x
  rw [← hFn, ← hGn]
  have HD : Calls Tryz.prog 156 #[.int .u64 x, .int .i64 4] w (DAns w n x1) := by
    rw [hn, hx1]
    exact rdr w x h0 hx 4 (by omega) (by omega)
  refine rWild_core w s o hs ho x n hn3 x1 F G ⟨hF0, hG0⟩ HD (fun i w1 => ?_)
  obtain ⟨f1, f2, f3, f4, f5⟩ := hFs i
  rw [f4, f5]
  exact rchanged_any w1 _ o _ f1 ho f2 f3
theorem rWild_long (w : World) (s o : ByteArray) (hsz : s.size ≤ 9223372036854775807) (hoz : o.size ≤ 9223372036854775807) (hl : 24 < s.size ∨ 24 < o.size) (x : Int) :
    Calls Tryz.prog 107 #[.string s, .string o, .int .u64 x] w (WildAns w ⟨#[]⟩ x) := by
  generalize hL : s.size = L at hsz hl
  generalize hO : o.size = O at hoz hl
  by_cases h1 : 24 < L
  · have h1' : (24 : Int) < (L : Int) := by omega
    go_enter Tryz.func107, Tryz.ntmps107
    go_wp2_with fail
    go_ret2
    exact ⟨Below.refl _ _, rfl⟩
  · have h1' : ¬ (24 : Int) < (L : Int) := by omega
    have h2' : (24 : Int) < (O : Int) := by omega
    go_enter Tryz.func107, Tryz.ntmps107
    go_wp2_with fail
    go_ret2
    exact ⟨Below.refl _ _, rfl⟩
end Go.Proofs.YtflenkppcclclaaGreatDoor

namespace Go.Proofs.YtflenkppcclclaaGreatDoor
open Go.RowKit

theorem Mrk.on {w w' : World} (h : Mrk w) (b : Below w.heap.size w w') : Mrk w' := h.below b (World.block_lt_of_cell? w ⟨2, 0, none⟩ (h 0 (by omega)))
theorem rMutant_no (w : World) (s : ByteArray) (L : Nat) (hL : s.size = L) (hLb : L ≤ 9223372036854775807) (n : Int) (h1 : -9223372036854775808 ≤ n) (h2 : n ≤ 9223372036854775807) (h : 24 < L ∨ n < 0 ∨ L = 0) :
    Calls Tryz.prog 106 #[.string s, .int .i64 n] w (MutAns w none) := by
  by_cases ha : (24 : Int) < (L : Int)
  · go_enter Tryz.func106, Tryz.ntmps106
    go_wp2_with fail
    go_ret2
    exact ⟨Below.refl _ _, rfl⟩
  · by_cases hb : n < 0
    · go_enter Tryz.func106, Tryz.ntmps106
      go_wp2_with fail
      go_ret2
      exact ⟨Below.refl _ _, rfl⟩
    · obtain rfl : L = 0 := by omega
      go_enter Tryz.func106, Tryz.ntmps106
      go_wp2_with fail
      go_ret2
      exact ⟨Below.refl _ _, rfl⟩
set_option maxHeartbeats 2000000 in
set_option maxRecDepth 100000 in
theorem rMutant_end (w : World) (s : ByteArray) (L n n1 n2 n3 n4 n5 n6 n7 : Nat) (hL : s.size = L) (hs : L ≤ 24) (hL0 : 0 < L) (hn : n ≤ 9223372036854775807)
    (e1 : n1 = n - (8 * L)) (c0 : ¬ n < 8 * L) (e2 : n2 = n1 - (8 * L - 1)) (c1 : ¬ n1 < 8 * L - 1) (e3 : n3 = n2 - (L)) (c2 : ¬ n2 < L) (e4 : n4 = n3 - (4 * L)) (c3 : ¬ n3 < 4 * L) (e5 : n5 = n4 - (4 * L)) (c4 : ¬ n4 < 4 * L) (e6 : n6 = n5 - (5 * L)) (c5 : ¬ n5 < 5 * L) (e7 : n7 = n6 - (L)) (c6 : ¬ n6 < L) (c7 : ¬ (n7 < L ∧ L < 24)) :
    Calls Tryz.prog 106 #[.string s, .int .i64 n] w (MutAns w (mutL (nums s) n)) := by
  have HANS : Hid (mutL (nums s) n = none) := by
    show _ = _
    have hl : (nums s).length = L := by rw [nums_len, hL]
    rw [mut_try]
    rw [tryL_no (nums s) 7 0 n L hl (show ¬ n < manyL L 0 from c0), show n - manyL L 0 = n1 from e1.symm]
    rw [tryL_no (nums s) 6 1 n1 L hl (show ¬ n1 < manyL L 1 from c1), show n1 - manyL L 1 = n2 from e2.symm]
    rw [tryL_no (nums s) 5 2 n2 L hl (show ¬ n2 < manyL L 2 from c2), show n2 - manyL L 2 = n3 from e3.symm]
    rw [tryL_no (nums s) 4 3 n3 L hl (show ¬ n3 < manyL L 3 from c3), show n3 - manyL L 3 = n4 from e4.symm]
    rw [tryL_no (nums s) 3 4 n4 L hl (show ¬ n4 < manyL L 4 from c4), show n4 - manyL L 4 = n5 from e5.symm]
    rw [tryL_no (nums s) 2 5 n5 L hl (show ¬ n5 < manyL L 5 from c5), show n5 - manyL L 5 = n6 from e6.symm]
    rw [tryL_no (nums s) 1 6 n6 L hl (show ¬ n6 < manyL L 6 from c6), show n6 - manyL L 6 = n7 from e7.symm]
    rw [tryL_no (nums s) 0 7 n7 L hl (show ¬ n7 < (if 24 ≤ L then 0 else L) by
      by_cases h24 : 24 ≤ L
      · rw [if_pos h24]; omega
      · rw [if_neg h24]; omega)]
    rfl
  have hne : ¬ ((L : Int) = 0) := by omega
  have hbig : ¬ (24 : Int) < (L : Int) := by omega
  have hneg : ¬ ((n : Int) < 0) := by omega
  have f0 : ¬ (n : Int) < 8 * (L : Int) := by omega
  have g1 : (n : Int) - 8 * (L : Int) = (n1 : Int) := by omega
  have f1 : ¬ (n1 : Int) < 8 * (L : Int) - 1 := by omega
  have g2 : (n1 : Int) - (8 * (L : Int) - 1) = (n2 : Int) := by omega
  have f2 : ¬ (n2 : Int) < (L : Int) := by omega
  have g3 : (n2 : Int) - (L : Int) = (n3 : Int) := by omega
  have f3 : ¬ (n3 : Int) < 4 * (L : Int) := by omega
  have g4 : (n3 : Int) - 4 * (L : Int) = (n4 : Int) := by omega
  have f4 : ¬ (n4 : Int) < 4 * (L : Int) := by omega
  have g5 : (n4 : Int) - 4 * (L : Int) = (n5 : Int) := by omega
  have f5 : ¬ (n5 : Int) < 5 * (L : Int) := by omega
  have g6 : (n5 : Int) - 5 * (L : Int) = (n6 : Int) := by omega
  have f6 : ¬ (n6 : Int) < (L : Int) := by omega
  have g7 : (n6 : Int) - (L : Int) = (n7 : Int) := by omega
  have m1 : (n1 : Int) ≤ 9223372036854775807 := by omega
  have m2 : (n2 : Int) ≤ 9223372036854775807 := by omega
  have m3 : (n3 : Int) ≤ 9223372036854775807 := by omega
  have m4 : (n4 : Int) ≤ 9223372036854775807 := by omega
  have m5 : (n5 : Int) ≤ 9223372036854775807 := by omega
  have m6 : (n6 : Int) ≤ 9223372036854775807 := by omega
  have m7 : (n7 : Int) ≤ 9223372036854775807 := by omega
  by_cases h7 : n7 < L
  · have f7 : (n7 : Int) < (L : Int) := by omega
    have f24 : ¬ (L : Int) < 24 := by omega
    clear e1 e2 e3 e4 e5 e6 e7 c0 c1 c2 c3 c4 c5 c6 c7
    go_enter Tryz.func106, Tryz.ntmps106
    go_wp2_with fail
    go_ret2
    rw [HANS.out]
    exact ⟨Below.refl _ _, rfl⟩
  · have f7 : ¬ (n7 : Int) < (L : Int) := by omega
    clear e1 e2 e3 e4 e5 e6 e7 c0 c1 c2 c3 c4 c5 c6 c7
    go_enter Tryz.func106, Tryz.ntmps106
    go_wp2_with fail
    go_ret2
    rw [HANS.out]
    exact ⟨Below.refl _ _, rfl⟩
theorem rMutant_any (w : World) (s : ByteArray) (hsz : s.size ≤ 9223372036854775807) (n : Int) (h1 : -9223372036854775808 ≤ n) (h2 : n ≤ 9223372036854775807) :
    Calls Tryz.prog 106 #[.string s, .int .i64 n] w (MutAns w (mutS s n)) := by
  unfold mutS
  by_cases hl : 24 < s.size ∨ n < 0
  · rw [if_pos hl]
    exact rMutant_no w s s.size rfl hsz n h1 h2 (by omega)
  rw [if_neg hl]
  obtain ⟨m, rfl⟩ : ∃ m : Nat, n = m := ⟨n.toNat, by omega⟩
  rw [Int.toNat_natCast]
  by_cases hz : s.size = 0
  · have e : nums s = [] := List.length_eq_zero_iff.1 (by rw [nums_len]; exact hz)
    rw [e, mut_zero]
    exact rMutant_no w s s.size rfl hsz m h1 h2 (by omega)
  have hs : s.size ≤ 24 := by omega
  by_cases c0 : m < 8 * s.size
  · exact rmut0 w s s.size m rfl hs c0
  by_cases c1 : m - 8 * s.size < 8 * s.size - 1
  · exact rmut1 w s s.size m _ rfl hs rfl c0 c1
  by_cases c2 : m - 8 * s.size - (8 * s.size - 1) < s.size
  · exact rmut2 w s s.size m _ _ rfl hs rfl c0 rfl c1 c2
  by_cases c3 : m - 8 * s.size - (8 * s.size - 1) - s.size < 4 * s.size
  · exact rmut3 w s s.size m _ _ _ rfl hs rfl c0 rfl c1 rfl c2 c3
  by_cases c4 : m - 8 * s.size - (8 * s.size - 1) - s.size - 4 * s.size < 4 * s.size
  · exact rmut4 w s s.size m _ _ _ _ rfl hs rfl c0 rfl c1 rfl c2 rfl c3 c4
  by_cases c5 : m - 8 * s.size - (8 * s.size - 1) - s.size - 4 * s.size - 4 * s.size < 5 * s.size
  · exact rmut5 w s s.size m _ _ _ _ _ rfl hs rfl c0 rfl c1 rfl c2 rfl c3 rfl c4 c5
  by_cases c6 : m - 8 * s.size - (8 * s.size - 1) - s.size - 4 * s.size - 4 * s.size - 5 * s.size < s.size
  · exact rmut6 w s s.size m _ _ _ _ _ _ rfl hs rfl c0 rfl c1 rfl c2 rfl c3 rfl c4 rfl c5 c6
  by_cases c7 : m - 8 * s.size - (8 * s.size - 1) - s.size - 4 * s.size - 4 * s.size - 5 * s.size - s.size < s.size ∧ s.size < 24
  · exact rmut7 w s s.size m _ _ _ _ _ _ _ rfl hs rfl c0 rfl c1 rfl c2 rfl c3 rfl c4 rfl c5 rfl c6 c7.1 c7.2
  exact rMutant_end w s s.size m _ _ _ _ _ _ _ rfl hs (by omega) (by omega) rfl c0 rfl c1 rfl c2 rfl c3 rfl c4 rfl c5 rfl c6 c7

/-- 'changes': both answers are the same. -/
def AllIs (w : World) (e : Ending) (w' : World) : Prop := e = .returned (.bool true) ∧ Below w.heap.size w w'
section
variable (w : World) (p n f : Int) (pc : Option Addr) (L capc : Nat) (s t : ByteArray) (sd : Int) (b : Option Addr) (k e : Nat)

set_option maxHeartbeats 2000000 in
set_option maxRecDepth 100000 in
theorem changes5 (o : Option (List Int)) (HX : Hid (∀ w', Below w.heap.size w w' → Calls Tryz.prog 62 #[.string s, .int .i64 n] w' (MutAns w' o))) (HR : Hid (∀ w', Calls Tryz.prog 106 #[.string s, .int .i64 n] w' (MutAns w' o))) :
    Calls Tryz.prog 51 #[.agg (opC 5 p n f (.slice pc L capc) s t sd (.slice b k e))] w (AllIs w) := by
  have B0 : Below w.heap.size w (w.alloc (.cells (opC 5 p n f (.slice pc L capc) s t sd (.slice b k e)) 70)) := (Below.refl _ _).alloc (Nat.le_refl _) _
  have hz0 : (w.alloc (.cells (opC 5 p n f (.slice pc L capc) s t sd (.slice b k e)) 70)).heap.size = w.heap.size + 1 := by simp
  have hh0 := heap_alloc_new w (.cells (opC 5 p n f (.slice pc L capc) s t sd (.slice b k e)) 70)
  have e0 : (w.alloc (.cells (opC 5 p n f (.slice pc L capc) s t sd (.slice b k e)) 70)).cell? ⟨w.heap.size, 0, none⟩ = some (.int .i64 5) := cell_of_row _ _ _ _ _ _ hh0
  have e2 : (w.alloc (.cells (opC 5 p n f (.slice pc L capc) s t sd (.slice b k e)) 70)).cell? ⟨w.heap.size, 2, none⟩ = some (.int .i64 n) := cell_of_row _ _ _ _ _ _ hh0
  have e5 : (w.alloc (.cells (opC 5 p n f (.slice pc L capc) s t sd (.slice b k e)) 70)).cell? ⟨w.heap.size, 5, none⟩ = some (.string s) := cell_of_row _ _ _ _ _ _ hh0
  clear hh0
  go_enter Tryz.func51, Tryz.ntmps51
  go_wp2_with (refine wpList_box_c rfl 70 _ rfl (.agg (opC 5 p n f (.slice pc L capc) s t sd (.slice b k e))) rfl (opC 5 p n f (.slice pc L capc) s t sd (.slice b k e)) (opbox _ _ _ _ _ _ _ _ _ _ _ _ _) ?_)
  generalize (w.alloc (.cells (opC 5 p n f (.slice pc L capc) s t sd (.slice b k e)) 70)) = w0 at *
  refine (HX.out w0 B0).mono ?_
  rintro e' w1 ⟨B1, rfl⟩
  have f2 := (B1.cell (p := ⟨w.heap.size, 2, none⟩) (by show w.heap.size < _; omega)).trans e2
  have f5 := (B1.cell (p := ⟨w.heap.size, 5, none⟩) (by show w.heap.size < _; omega)).trans e5
  have hz1 := B1.size
  have HB1 : Hid (Below w.heap.size w w1) := B0.trans (B1.mono B0.size)
  clear B1 e0 e2 e5
  cases o with
  | none =>
    go_wp2_with fail
    refine (HR.out w1).mono ?_
    rintro e' w2 ⟨B2, rfl⟩
    go_wp2_with fail
    go_ret
    exact ⟨rfl, HB1.out.trans (B2.mono HB1.out.size)⟩
  | some l =>
    go_wp2_with fail
    refine (HR.out w1).mono ?_
    rintro e' w2 ⟨B2, rfl⟩
    go_wp2_with fail
    go_ret
    exact ⟨rfl, HB1.out.trans (B2.mono HB1.out.size)⟩

set_option maxHeartbeats 2000000 in
set_option maxRecDepth 100000 in
theorem changes6 (ts : ByteArray) (y : Int) (HX : Hid (∀ w', Calls Tryz.prog 63 #[.string s, .string t, .int .u64 sd] w' (WildAns w' ts y))) (HR : Hid (∀ w', Calls Tryz.prog 107 #[.string s, .string t, .int .u64 sd] w' (WildAns w' ts y))) :
    Calls Tryz.prog 51 #[.agg (opC 6 p n f (.slice pc L capc) s t sd (.slice b k e))] w (AllIs w) := by
  have B0 : Below w.heap.size w (w.alloc (.cells (opC 6 p n f (.slice pc L capc) s t sd (.slice b k e)) 70)) := (Below.refl _ _).alloc (Nat.le_refl _) _
  have hz0 : (w.alloc (.cells (opC 6 p n f (.slice pc L capc) s t sd (.slice b k e)) 70)).heap.size = w.heap.size + 1 := by simp
  have hh0 := heap_alloc_new w (.cells (opC 6 p n f (.slice pc L capc) s t sd (.slice b k e)) 70)
  have e0 : (w.alloc (.cells (opC 6 p n f (.slice pc L capc) s t sd (.slice b k e)) 70)).cell? ⟨w.heap.size, 0, none⟩ = some (.int .i64 6) := cell_of_row _ _ _ _ _ _ hh0
  have e5 : (w.alloc (.cells (opC 6 p n f (.slice pc L capc) s t sd (.slice b k e)) 70)).cell? ⟨w.heap.size, 5, none⟩ = some (.string s) := cell_of_row _ _ _ _ _ _ hh0
  have e6 : (w.alloc (.cells (opC 6 p n f (.slice pc L capc) s t sd (.slice b k e)) 70)).cell? ⟨w.heap.size, 6, none⟩ = some (.string t) := cell_of_row _ _ _ _ _ _ hh0
  have e7 : (w.alloc (.cells (opC 6 p n f (.slice pc L capc) s t sd (.slice b k e)) 70)).cell? ⟨w.heap.size, 7, none⟩ = some (.int .u64 sd) := cell_of_row _ _ _ _ _ _ hh0
  clear hh0
  go_enter Tryz.func51, Tryz.ntmps51
  go_wp2_with (refine wpList_box_c rfl 70 _ rfl (.agg (opC 6 p n f (.slice pc L capc) s t sd (.slice b k e))) rfl (opC 6 p n f (.slice pc L capc) s t sd (.slice b k e)) (opbox _ _ _ _ _ _ _ _ _ _ _ _ _) ?_)
  generalize (w.alloc (.cells (opC 6 p n f (.slice pc L capc) s t sd (.slice b k e)) 70)) = w0 at *
  refine (HX.out w0).mono ?_
  rintro e' w1 ⟨B1, rfl⟩
  have f5 := (B1.cell (p := ⟨w.heap.size, 5, none⟩) (by show w.heap.size < _; omega)).trans e5
  have f6 := (B1.cell (p := ⟨w.heap.size, 6, none⟩) (by show w.heap.size < _; omega)).trans e6
  have f7 := (B1.cell (p := ⟨w.heap.size, 7, none⟩) (by show w.heap.size < _; omega)).trans e7
  have hz1 := B1.size
  have HB1 : Hid (Below w.heap.size w w1) := B0.trans (B1.mono B0.size)
  clear B1 e0 e5 e6 e7
  go_wp2_with fail
  refine (HR.out w1).mono ?_
  rintro e' w2 ⟨B2, rfl⟩
  go_wp2_with fail
  go_ret
  exact ⟨rfl, HB1.out.trans (B2.mono HB1.out.size)⟩
end
end Go.Proofs.YtflenkppcclclaaGreatDoor

