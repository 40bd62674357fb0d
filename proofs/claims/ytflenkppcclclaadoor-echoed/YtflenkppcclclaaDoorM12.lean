import Derived.Test.YtflenkppcclclaaDoorM11
namespace Go.Proofs.YtflenkppcclclaaDoor
open Go.RowKit

set_option maxHeartbeats 1000000 in
set_option maxRecDepth 100000 in
theorem ech_h0lts (input s : ByteArray) (fuel f : Int) (w : World) (hT : Tab w) (hsh : Hid (∀ w, Calls Tryd.prog 8 #[.string input, .int .i64 24] w fun e w' => e = .returned (.string s) ∧ w' = w)) (hpk : Hid (∀ w, Calls Tryd.prog 9 #[.int .i64 fuel, .int .i64 501] w fun e w' => e = .returned (.int .i64 f) ∧ w' = w))
    (hs : s.size ≤ 24) (hf0 : 0 ≤ f) (hf1 : f ≤ 500) (n : Nat) (hn : (f + 1) / 8 = (n : Int)) (hk : f % 8 = 0) (hcmp : n < s.size) (h16 : s.size ≤ 16) (hT2 : f < 8 * (s.size : Int) + 7) :
    Calls Tryd.prog 3 #[.string input, .int .i64 fuel] w fun e w' => e = .returned (.bool true) ∧ Below w.heap.size w w' := by
  have HE : Hid (Ends f s 2 0 0 (outl s n) f) := hangs (j := n) (k := 0) (by omega) hcmp (by omega) (by omega)
  have HT : Hid (strOfNums (outl s n) = s.extract 0 n) := outl_str s n
  have d1 : ¬ (16 : Int) < (s.size : Int) := by omega
  have d0 : (s.size : Int) ≤ 24 := by omega
  have d3 : (n : Int) ≤ (s.size : Int) := by omega
  have d4 : (0 : Int) ≤ (n : Int) := by omega
  have d5 : ¬ (s.size : Int) ≤ (n : Int) := by omega
  have d6 : (n : Int) < (s.size : Int) := by omega
  have d7 : decide ((s.size : Int) ≤ (n : Int)) = false := by simp; omega
  clear h16 hcmp
  go_enter Tryd.func3, Tryd.ntmps3
  go_wp2_with fail
  refine (ran_any w hT).mono ?_
  rintro e w1 ⟨rfl, B1⟩
  go_wp2_with fail
  refine (hsh.out _).mono ?_
  rintro e w1 ⟨rfl, rfl⟩
  go_wp2_with fail
  refine (hpk.out _).mono ?_
  rintro e w1 ⟨rfl, rfl⟩
  go_wp2_with fail
  refine (runQ HE.out HT.out hs hf0 hf1 w1 (hT.below B1)).mono ?_
  rintro e w3 ⟨B3, g, rfl⟩
  have B2 : Below w.heap.size w (w1.alloc blkQ) := B1.alloc B1.size _
  have B03 : Below w.heap.size w w3 := B2.trans (B3.mono (by have := B1.size; omega))
  have BH : Hid (Below w.heap.size w w3) := B03
  have hz := B03.size
  clear hT B1 B2 B3 B03 hsh hpk
  go_wp2
  go_region
  go_wp2
  go_ret
  refine ⟨rfl, ?_⟩
  have BB := BH.out
  have z2 : ∀ o, w.heap.size ≤ (w3.alloc o).heap.size := fun o => by simp; omega
  have z3 : ∀ o p, w.heap.size ≤ ((w3.alloc o).alloc p).heap.size := fun o p => by simp; omega
  first
    | exact (BB.alloc hz _).alloc (z2 _) _
    | exact (((BB.alloc hz _).alloc (z2 _) _).alloc (z3 _ _) _).drew

set_option maxHeartbeats 1000000 in
set_option maxRecDepth 100000 in
theorem ech_h0ltb (input s : ByteArray) (fuel f : Int) (w : World) (hT : Tab w) (hsh : Hid (∀ w, Calls Tryd.prog 8 #[.string input, .int .i64 24] w fun e w' => e = .returned (.string s) ∧ w' = w)) (hpk : Hid (∀ w, Calls Tryd.prog 9 #[.int .i64 fuel, .int .i64 501] w fun e w' => e = .returned (.int .i64 f) ∧ w' = w))
    (hs : s.size ≤ 24) (hf0 : 0 ≤ f) (hf1 : f ≤ 500) (n : Nat) (hn : (f + 1) / 8 = (n : Int)) (hk : f % 8 = 0) (hcmp : n < s.size) (h16 : 16 < s.size) (hT2 : f < 135) :
    Calls Tryd.prog 3 #[.string input, .int .i64 fuel] w fun e w' => e = .returned (.bool true) ∧ Below w.heap.size w w' := by
  have HE : Hid (Ends f s 2 0 0 (outl s n) f) := hangs (j := n) (k := 0) (by omega) hcmp (by omega) (by omega)
  have HT : Hid (strOfNums (outl s n) = s.extract 0 n) := outl_str s n
  have d1 : (16 : Int) < (s.size : Int) := by omega
  have d1' : (16 : Int) ≤ (s.size : Int) := by omega
  have d0 : (s.size : Int) ≤ 24 := by omega
  have d3 : (n : Int) ≤ (s.size : Int) := by omega
  have d4 : (0 : Int) ≤ (n : Int) := by omega
  have d5 : ¬ (s.size : Int) ≤ (n : Int) := by omega
  have d6 : (n : Int) < (s.size : Int) := by omega
  have d7 : decide ((s.size : Int) ≤ (n : Int)) = false := by simp; omega
  clear h16 hcmp
  go_enter Tryd.func3, Tryd.ntmps3
  go_wp2_with fail
  refine (ran_any w hT).mono ?_
  rintro e w1 ⟨rfl, B1⟩
  go_wp2_with fail
  refine (hsh.out _).mono ?_
  rintro e w1 ⟨rfl, rfl⟩
  go_wp2_with fail
  refine (hpk.out _).mono ?_
  rintro e w1 ⟨rfl, rfl⟩
  go_wp2_with fail
  refine (runQ HE.out HT.out hs hf0 hf1 w1 (hT.below B1)).mono ?_
  rintro e w3 ⟨B3, g, rfl⟩
  have B2 : Below w.heap.size w (w1.alloc blkQ) := B1.alloc B1.size _
  have B03 : Below w.heap.size w w3 := B2.trans (B3.mono (by have := B1.size; omega))
  have BH : Hid (Below w.heap.size w w3) := B03
  have hz := B03.size
  clear hT B1 B2 B3 B03 hsh hpk
  go_wp2
  go_region
  go_wp2
  go_ret
  refine ⟨rfl, ?_⟩
  have BB := BH.out
  have z2 : ∀ o, w.heap.size ≤ (w3.alloc o).heap.size := fun o => by simp; omega
  have z3 : ∀ o p, w.heap.size ≤ ((w3.alloc o).alloc p).heap.size := fun o p => by simp; omega
  first
    | exact (BB.alloc hz _).alloc (z2 _) _
    | exact (((BB.alloc hz _).alloc (z2 _) _).alloc (z3 _ _) _).drew

set_option maxHeartbeats 1000000 in
set_option maxRecDepth 100000 in
theorem ech_h0ges (input s : ByteArray) (fuel f : Int) (w : World) (hT : Tab w) (hsh : Hid (∀ w, Calls Tryd.prog 8 #[.string input, .int .i64 24] w fun e w' => e = .returned (.string s) ∧ w' = w)) (hpk : Hid (∀ w, Calls Tryd.prog 9 #[.int .i64 fuel, .int .i64 501] w fun e w' => e = .returned (.int .i64 f) ∧ w' = w))
    (hs : s.size ≤ 24) (hf0 : 0 ≤ f) (hf1 : f ≤ 500) (n : Nat) (hn : (f + 1) / 8 = (n : Int)) (hk : f % 8 = 0) (hcmp : s.size ≤ n) (h16 : s.size ≤ 16) (hT2 : f < 8 * (s.size : Int) + 7) :
    Calls Tryd.prog 3 #[.string input, .int .i64 fuel] w fun e w' => e = .returned (.bool true) ∧ Below w.heap.size w w' := by
  have HE : Hid (Ends f s 2 0 0 (outl s n) f) := by obtain rfl : n = s.size := (by omega); exact hangsE (k := 0) (by omega) (by omega) (by omega)
  have HT : Hid (strOfNums (outl s n) = s.extract 0 n) := outl_str s n
  have d1 : ¬ (16 : Int) < (s.size : Int) := by omega
  have d0 : (s.size : Int) ≤ 24 := by omega
  have d3 : (n : Int) ≤ (s.size : Int) := by omega
  have d4 : (0 : Int) ≤ (n : Int) := by omega
  have d5 : (s.size : Int) ≤ (n : Int) := by omega
  have d6 : ¬ (n : Int) < (s.size : Int) := by omega
  have d7 : decide ((s.size : Int) ≤ (n : Int)) = true := by simp; omega
  clear h16 hcmp
  go_enter Tryd.func3, Tryd.ntmps3
  go_wp2_with fail
  refine (ran_any w hT).mono ?_
  rintro e w1 ⟨rfl, B1⟩
  go_wp2_with fail
  refine (hsh.out _).mono ?_
  rintro e w1 ⟨rfl, rfl⟩
  go_wp2_with fail
  refine (hpk.out _).mono ?_
  rintro e w1 ⟨rfl, rfl⟩
  go_wp2_with fail
  refine (runQ HE.out HT.out hs hf0 hf1 w1 (hT.below B1)).mono ?_
  rintro e w3 ⟨B3, g, rfl⟩
  have B2 : Below w.heap.size w (w1.alloc blkQ) := B1.alloc B1.size _
  have B03 : Below w.heap.size w w3 := B2.trans (B3.mono (by have := B1.size; omega))
  have BH : Hid (Below w.heap.size w w3) := B03
  have hz := B03.size
  clear hT B1 B2 B3 B03 hsh hpk
  go_wp2
  go_region
  go_wp2
  go_ret
  refine ⟨rfl, ?_⟩
  have BB := BH.out
  have z2 : ∀ o, w.heap.size ≤ (w3.alloc o).heap.size := fun o => by simp; omega
  have z3 : ∀ o p, w.heap.size ≤ ((w3.alloc o).alloc p).heap.size := fun o p => by simp; omega
  first
    | exact (BB.alloc hz _).alloc (z2 _) _
    | exact (((BB.alloc hz _).alloc (z2 _) _).alloc (z3 _ _) _).drew

set_option maxHeartbeats 1000000 in
set_option maxRecDepth 100000 in
theorem ech_h1lts (input s : ByteArray) (fuel f : Int) (w : World) (hT : Tab w) (hsh : Hid (∀ w, Calls Tryd.prog 8 #[.string input, .int .i64 24] w fun e w' => e = .returned (.string s) ∧ w' = w)) (hpk : Hid (∀ w, Calls Tryd.prog 9 #[.int .i64 fuel, .int .i64 501] w fun e w' => e = .returned (.int .i64 f) ∧ w' = w))
    (hs : s.size ≤ 24) (hf0 : 0 ≤ f) (hf1 : f ≤ 500) (n : Nat) (hn : (f + 1) / 8 = (n : Int)) (hk : f % 8 = 1) (hcmp : n < s.size) (h16 : s.size ≤ 16) (hT2 : f < 8 * (s.size : Int) + 7) :
    Calls Tryd.prog 3 #[.string input, .int .i64 fuel] w fun e w' => e = .returned (.bool true) ∧ Below w.heap.size w w' := by
  have HE : Hid (Ends f s 2 0 1 (outl s n) f) := hangs (j := n) (k := 1) (by omega) hcmp (by omega) (by omega)
  have HT : Hid (strOfNums (outl s n) = s.extract 0 n) := outl_str s n
  have d1 : ¬ (16 : Int) < (s.size : Int) := by omega
  have d0 : (s.size : Int) ≤ 24 := by omega
  have d3 : (n : Int) ≤ (s.size : Int) := by omega
  have d4 : (0 : Int) ≤ (n : Int) := by omega
  have d5 : ¬ (s.size : Int) ≤ (n : Int) := by omega
  have d6 : (n : Int) < (s.size : Int) := by omega
  have d7 : decide ((s.size : Int) ≤ (n : Int)) = false := by simp; omega
  clear h16 hcmp
  go_enter Tryd.func3, Tryd.ntmps3
  go_wp2_with fail
  refine (ran_any w hT).mono ?_
  rintro e w1 ⟨rfl, B1⟩
  go_wp2_with fail
  refine (hsh.out _).mono ?_
  rintro e w1 ⟨rfl, rfl⟩
  go_wp2_with fail
  refine (hpk.out _).mono ?_
  rintro e w1 ⟨rfl, rfl⟩
  go_wp2_with fail
  refine (runQ HE.out HT.out hs hf0 hf1 w1 (hT.below B1)).mono ?_
  rintro e w3 ⟨B3, g, rfl⟩
  have B2 : Below w.heap.size w (w1.alloc blkQ) := B1.alloc B1.size _
  have B03 : Below w.heap.size w w3 := B2.trans (B3.mono (by have := B1.size; omega))
  have BH : Hid (Below w.heap.size w w3) := B03
  have hz := B03.size
  clear hT B1 B2 B3 B03 hsh hpk
  go_wp2
  go_region
  go_wp2
  go_ret
  refine ⟨rfl, ?_⟩
  have BB := BH.out
  have z2 : ∀ o, w.heap.size ≤ (w3.alloc o).heap.size := fun o => by simp; omega
  have z3 : ∀ o p, w.heap.size ≤ ((w3.alloc o).alloc p).heap.size := fun o p => by simp; omega
  first
    | exact (BB.alloc hz _).alloc (z2 _) _
    | exact (((BB.alloc hz _).alloc (z2 _) _).alloc (z3 _ _) _).drew

set_option maxHeartbeats 1000000 in
set_option maxRecDepth 100000 in
theorem ech_h1ltb (input s : ByteArray) (fuel f : Int) (w : World) (hT : Tab w) (hsh : Hid (∀ w, Calls Tryd.prog 8 #[.string input, .int .i64 24] w fun e w' => e = .returned (.string s) ∧ w' = w)) (hpk : Hid (∀ w, Calls Tryd.prog 9 #[.int .i64 fuel, .int .i64 501] w fun e w' => e = .returned (.int .i64 f) ∧ w' = w))
    (hs : s.size ≤ 24) (hf0 : 0 ≤ f) (hf1 : f ≤ 500) (n : Nat) (hn : (f + 1) / 8 = (n : Int)) (hk : f % 8 = 1) (hcmp : n < s.size) (h16 : 16 < s.size) (hT2 : f < 135) :
    Calls Tryd.prog 3 #[.string input, .int .i64 fuel] w fun e w' => e = .returned (.bool true) ∧ Below w.heap.size w w' := by
  have HE : Hid (Ends f s 2 0 1 (outl s n) f) := hangs (j := n) (k := 1) (by omega) hcmp (by omega) (by omega)
  have HT : Hid (strOfNums (outl s n) = s.extract 0 n) := outl_str s n
  have d1 : (16 : Int) < (s.size : Int) := by omega
  have d1' : (16 : Int) ≤ (s.size : Int) := by omega
  have d0 : (s.size : Int) ≤ 24 := by omega
  have d3 : (n : Int) ≤ (s.size : Int) := by omega
  have d4 : (0 : Int) ≤ (n : Int) := by omega
  have d5 : ¬ (s.size : Int) ≤ (n : Int) := by omega
  have d6 : (n : Int) < (s.size : Int) := by omega
  have d7 : decide ((s.size : Int) ≤ (n : Int)) = false := by simp; omega
  clear h16 hcmp
  go_enter Tryd.func3, Tryd.ntmps3
  go_wp2_with fail
  refine (ran_any w hT).mono ?_
  rintro e w1 ⟨rfl, B1⟩
  go_wp2_with fail
  refine (hsh.out _).mono ?_
  rintro e w1 ⟨rfl, rfl⟩
  go_wp2_with fail
  refine (hpk.out _).mono ?_
  rintro e w1 ⟨rfl, rfl⟩
  go_wp2_with fail
  refine (runQ HE.out HT.out hs hf0 hf1 w1 (hT.below B1)).mono ?_
  rintro e w3 ⟨B3, g, rfl⟩
  have B2 : Below w.heap.size w (w1.alloc blkQ) := B1.alloc B1.size _
  have B03 : Below w.heap.size w w3 := B2.trans (B3.mono (by have := B1.size; omega))
  have BH : Hid (Below w.heap.size w w3) := B03
  have hz := B03.size
  clear hT B1 B2 B3 B03 hsh hpk
  go_wp2
  go_region
  go_wp2
  go_ret
  refine ⟨rfl, ?_⟩
  have BB := BH.out
  have z2 : ∀ o, w.heap.size ≤ (w3.alloc o).heap.size := fun o => by simp; omega
  have z3 : ∀ o p, w.heap.size ≤ ((w3.alloc o).alloc p).heap.size := fun o p => by simp; omega
  first
    | exact (BB.alloc hz _).alloc (z2 _) _
    | exact (((BB.alloc hz _).alloc (z2 _) _).alloc (z3 _ _) _).drew

set_option maxHeartbeats 1000000 in
set_option maxRecDepth 100000 in
theorem ech_h1ges (input s : ByteArray) (fuel f : Int) (w : World) (hT : Tab w) (hsh : Hid (∀ w, Calls Tryd.prog 8 #[.string input, .int .i64 24] w fun e w' => e = .returned (.string s) ∧ w' = w)) (hpk : Hid (∀ w, Calls Tryd.prog 9 #[.int .i64 fuel, .int .i64 501] w fun e w' => e = .returned (.int .i64 f) ∧ w' = w))
    (hs : s.size ≤ 24) (hf0 : 0 ≤ f) (hf1 : f ≤ 500) (n : Nat) (hn : (f + 1) / 8 = (n : Int)) (hk : f % 8 = 1) (hcmp : s.size ≤ n) (h16 : s.size ≤ 16) (hT2 : f < 8 * (s.size : Int) + 7) :
    Calls Tryd.prog 3 #[.string input, .int .i64 fuel] w fun e w' => e = .returned (.bool true) ∧ Below w.heap.size w w' := by
  have HE : Hid (Ends f s 2 0 1 (outl s n) f) := by obtain rfl : n = s.size := (by omega); exact hangsE (k := 1) (by omega) (by omega) (by omega)
  have HT : Hid (strOfNums (outl s n) = s.extract 0 n) := outl_str s n
  have d1 : ¬ (16 : Int) < (s.size : Int) := by omega
  have d0 : (s.size : Int) ≤ 24 := by omega
  have d3 : (n : Int) ≤ (s.size : Int) := by omega
  have d4 : (0 : Int) ≤ (n : Int) := by omega
  have d5 : (s.size : Int) ≤ (n : Int) := by omega
  have d6 : ¬ (n : Int) < (s.size : Int) := by omega
  have d7 : decide ((s.size : Int) ≤ (n : Int)) = true := by simp; omega
  clear h16 hcmp
  go_enter Tryd.func3, Tryd.ntmps3
  go_wp2_with fail
  refine (ran_any w hT).mono ?_
  rintro e w1 ⟨rfl, B1⟩
  go_wp2_with fail
  refine (hsh.out _).mono ?_
  rintro e w1 ⟨rfl, rfl⟩
  go_wp2_with fail
  refine (hpk.out _).mono ?_
  rintro e w1 ⟨rfl, rfl⟩
  go_wp2_with fail
  refine (runQ HE.out HT.out hs hf0 hf1 w1 (hT.below B1)).mono ?_
  rintro e w3 ⟨B3, g, rfl⟩
  have B2 : Below w.heap.size w (w1.alloc blkQ) := B1.alloc B1.size _
  have B03 : Below w.heap.size w w3 := B2.trans (B3.mono (by have := B1.size; omega))
  have BH : Hid (Below w.heap.size w w3) := B03
  have hz := B03.size
  clear hT B1 B2 B3 B03 hsh hpk
  go_wp2
  go_region
  go_wp2
  go_ret
  refine ⟨rfl, ?_⟩
  have BB := BH.out
  have z2 : ∀ o, w.heap.size ≤ (w3.alloc o).heap.size := fun o => by simp; omega
  have z3 : ∀ o p, w.heap.size ≤ ((w3.alloc o).alloc p).heap.size := fun o p => by simp; omega
  first
    | exact (BB.alloc hz _).alloc (z2 _) _
    | exact (((BB.alloc hz _).alloc (z2 _) _).alloc (z3 _ _) _).drew

end Go.Proofs.YtflenkppcclclaaDoor

namespace Go.Proofs.YtflenkppcclclaaDoor
open Go.RowKit

set_option maxHeartbeats 1000000 in
set_option maxRecDepth 100000 in
theorem ech_h2lts (input s : ByteArray) (fuel f : Int) (w : World) (hT : Tab w) (hsh : Hid (∀ w, Calls Tryd.prog 8 #[.string input, .int .i64 24] w fun e w' => e = .returned (.string s) ∧ w' = w)) (hpk : Hid (∀ w, Calls Tryd.prog 9 #[.int .i64 fuel, .int .i64 501] w fun e w' => e = .returned (.int .i64 f) ∧ w' = w))
    (hs : s.size ≤ 24) (hf0 : 0 ≤ f) (hf1 : f ≤ 500) (n : Nat) (hn : (f + 1) / 8 = (n : Int)) (hk : f % 8 = 2) (hcmp : n < s.size) (h16 : s.size ≤ 16) (hT2 : f < 8 * (s.size : Int) + 7) :
    Calls Tryd.prog 3 #[.string input, .int .i64 fuel] w fun e w' => e = .returned (.bool true) ∧ Below w.heap.size w w' := by
  have HE : Hid (Ends f s 2 0 2 (outl s n) f) := hangs (j := n) (k := 2) (by omega) hcmp (by omega) (by omega)
  have HT : Hid (strOfNums (outl s n) = s.extract 0 n) := outl_str s n
  have d1 : ¬ (16 : Int) < (s.size : Int) := by omega
  have d0 : (s.size : Int) ≤ 24 := by omega
  have d3 : (n : Int) ≤ (s.size : Int) := by omega
  have d4 : (0 : Int) ≤ (n : Int) := by omega
  have d5 : ¬ (s.size : Int) ≤ (n : Int) := by omega
  have d6 : (n : Int) < (s.size : Int) := by omega
  have d7 : decide ((s.size : Int) ≤ (n : Int)) = false := by simp; omega
  clear h16 hcmp
  go_enter Tryd.func3, Tryd.ntmps3
  go_wp2_with fail
  refine (ran_any w hT).mono ?_
  rintro e w1 ⟨rfl, B1⟩
  go_wp2_with fail
  refine (hsh.out _).mono ?_
  rintro e w1 ⟨rfl, rfl⟩
  go_wp2_with fail
  refine (hpk.out _).mono ?_
  rintro e w1 ⟨rfl, rfl⟩
  go_wp2_with fail
  refine (runQ HE.out HT.out hs hf0 hf1 w1 (hT.below B1)).mono ?_
  rintro e w3 ⟨B3, g, rfl⟩
  have B2 : Below w.heap.size w (w1.alloc blkQ) := B1.alloc B1.size _
  have B03 : Below w.heap.size w w3 := B2.trans (B3.mono (by have := B1.size; omega))
  have BH : Hid (Below w.heap.size w w3) := B03
  have hz := B03.size
  clear hT B1 B2 B3 B03 hsh hpk
  go_wp2
  go_region
  go_wp2
  go_ret
  refine ⟨rfl, ?_⟩
  have BB := BH.out
  have z2 : ∀ o, w.heap.size ≤ (w3.alloc o).heap.size := fun o => by simp; omega
  have z3 : ∀ o p, w.heap.size ≤ ((w3.alloc o).alloc p).heap.size := fun o p => by simp; omega
  first
    | exact (BB.alloc hz _).alloc (z2 _) _
    | exact (((BB.alloc hz _).alloc (z2 _) _).alloc (z3 _ _) _).drew

set_option maxHeartbeats 1000000 in
set_option maxRecDepth 100000 in
theorem ech_h2ltb (input s : ByteArray) (fuel f : Int) (w : World) (hT : Tab w) (hsh : Hid (∀ w, Calls Tryd.prog 8 #[.string input, .int .i64 24] w fun e w' => e = .returned (.string s) ∧ w' = w)) (hpk : Hid (∀ w, Calls Tryd.prog 9 #[.int .i64 fuel, .int .i64 501] w fun e w' => e = .returned (.int .i64 f) ∧ w' = w))
    (hs : s.size ≤ 24) (hf0 : 0 ≤ f) (hf1 : f ≤ 500) (n : Nat) (hn : (f + 1) / 8 = (n : Int)) (hk : f % 8 = 2) (hcmp : n < s.size) (h16 : 16 < s.size) (hT2 : f < 135) :
    Calls Tryd.prog 3 #[.string input, .int .i64 fuel] w fun e w' => e = .returned (.bool true) ∧ Below w.heap.size w w' := by
  have HE : Hid (Ends f s 2 0 2 (outl s n) f) := hangs (j := n) (k := 2) (by omega) hcmp (by omega) (by omega)
  have HT : Hid (strOfNums (outl s n) = s.extract 0 n) := outl_str s n
  have d1 : (16 : Int) < (s.size : Int) := by omega
  have d1' : (16 : Int) ≤ (s.size : Int) := by omega
  have d0 : (s.size : Int) ≤ 24 := by omega
  have d3 : (n : Int) ≤ (s.size : Int) := by omega
  have d4 : (0 : Int) ≤ (n : Int) := by omega
  have d5 : ¬ (s.size : Int) ≤ (n : Int) := by omega
  have d6 : (n : Int) < (s.size : Int) := by omega
  have d7 : decide ((s.size : Int) ≤ (n : Int)) = false := by simp; omega
  clear h16 hcmp
  go_enter Tryd.func3, Tryd.ntmps3
  go_wp2_with fail
  refine (ran_any w hT).mono ?_
  rintro e w1 ⟨rfl, B1⟩
  go_wp2_with fail
  refine (hsh.out _).mono ?_
  rintro e w1 ⟨rfl, rfl⟩
  go_wp2_with fail
  refine (hpk.out _).mono ?_
  rintro e w1 ⟨rfl, rfl⟩
  go_wp2_with fail
  refine (runQ HE.out HT.out hs hf0 hf1 w1 (hT.below B1)).mono ?_
  rintro e w3 ⟨B3, g, rfl⟩
  have B2 : Below w.heap.size w (w1.alloc blkQ) := B1.alloc B1.size _
  have B03 : Below w.heap.size w w3 := B2.trans (B3.mono (by have := B1.size; omega))
  have BH : Hid (Below w.heap.size w w3) := B03
  have hz := B03.size
  clear hT B1 B2 B3 B03 hsh hpk
  go_wp2
  go_region
  go_wp2
  go_ret
  refine ⟨rfl, ?_⟩
  have BB := BH.out
  have z2 : ∀ o, w.heap.size ≤ (w3.alloc o).heap.size := fun o => by simp; omega
  have z3 : ∀ o p, w.heap.size ≤ ((w3.alloc o).alloc p).heap.size := fun o p => by simp; omega
  first
    | exact (BB.alloc hz _).alloc (z2 _) _
    | exact (((BB.alloc hz _).alloc (z2 _) _).alloc (z3 _ _) _).drew

set_option maxHeartbeats 1000000 in
set_option maxRecDepth 100000 in
theorem ech_h2ges (input s : ByteArray) (fuel f : Int) (w : World) (hT : Tab w) (hsh : Hid (∀ w, Calls Tryd.prog 8 #[.string input, .int .i64 24] w fun e w' => e = .returned (.string s) ∧ w' = w)) (hpk : Hid (∀ w, Calls Tryd.prog 9 #[.int .i64 fuel, .int .i64 501] w fun e w' => e = .returned (.int .i64 f) ∧ w' = w))
    (hs : s.size ≤ 24) (hf0 : 0 ≤ f) (hf1 : f ≤ 500) (n : Nat) (hn : (f + 1) / 8 = (n : Int)) (hk : f % 8 = 2) (hcmp : s.size ≤ n) (h16 : s.size ≤ 16) (hT2 : f < 8 * (s.size : Int) + 7) :
    Calls Tryd.prog 3 #[.string input, .int .i64 fuel] w fun e w' => e = .returned (.bool true) ∧ Below w.heap.size w w' := by
  have HE : Hid (Ends f s 2 0 2 (outl s n) f) := by obtain rfl : n = s.size := (by omega); exact hangsE (k := 2) (by omega) (by omega) (by omega)
  have HT : Hid (strOfNums (outl s n) = s.extract 0 n) := outl_str s n
  have d1 : ¬ (16 : Int) < (s.size : Int) := by omega
  have d0 : (s.size : Int) ≤ 24 := by omega
  have d3 : (n : Int) ≤ (s.size : Int) := by omega
  have d4 : (0 : Int) ≤ (n : Int) := by omega
  have d5 : (s.size : Int) ≤ (n : Int) := by omega
  have d6 : ¬ (n : Int) < (s.size : Int) := by omega
  have d7 : decide ((s.size : Int) ≤ (n : Int)) = true := by simp; omega
  clear h16 hcmp
  go_enter Tryd.func3, Tryd.ntmps3
  go_wp2_with fail
  refine (ran_any w hT).mono ?_
  rintro e w1 ⟨rfl, B1⟩
  go_wp2_with fail
  refine (hsh.out _).mono ?_
  rintro e w1 ⟨rfl, rfl⟩
  go_wp2_with fail
  refine (hpk.out _).mono ?_
  rintro e w1 ⟨rfl, rfl⟩
  go_wp2_with fail
  refine (runQ HE.out HT.out hs hf0 hf1 w1 (hT.below B1)).mono ?_
  rintro e w3 ⟨B3, g, rfl⟩
  have B2 : Below w.heap.size w (w1.alloc blkQ) := B1.alloc B1.size _
  have B03 : Below w.heap.size w w3 := B2.trans (B3.mono (by have := B1.size; omega))
  have BH : Hid (Below w.heap.size w w3) := B03
  have hz := B03.size
  clear hT B1 B2 B3 B03 hsh hpk
  go_wp2
  go_region
  go_wp2
  go_ret
  refine ⟨rfl, ?_⟩
  have BB := BH.out
  have z2 : ∀ o, w.heap.size ≤ (w3.alloc o).heap.size := fun o => by simp; omega
  have z3 : ∀ o p, w.heap.size ≤ ((w3.alloc o).alloc p).heap.size := fun o p => by simp; omega
  first
    | exact (BB.alloc hz _).alloc (z2 _) _
    | exact (((BB.alloc hz _).alloc (z2 _) _).alloc (z3 _ _) _).drew

set_option maxHeartbeats 1000000 in
set_option maxRecDepth 100000 in
theorem ech_h3lts (input s : ByteArray) (fuel f : Int) (w : World) (hT : Tab w) (hsh : Hid (∀ w, Calls Tryd.prog 8 #[.string input, .int .i64 24] w fun e w' => e = .returned (.string s) ∧ w' = w)) (hpk : Hid (∀ w, Calls Tryd.prog 9 #[.int .i64 fuel, .int .i64 501] w fun e w' => e = .returned (.int .i64 f) ∧ w' = w))
    (hs : s.size ≤ 24) (hf0 : 0 ≤ f) (hf1 : f ≤ 500) (n : Nat) (hn : (f + 1) / 8 = (n : Int)) (hk : f % 8 = 3) (hcmp : n < s.size) (h16 : s.size ≤ 16) (hT2 : f < 8 * (s.size : Int) + 7) :
    Calls Tryd.prog 3 #[.string input, .int .i64 fuel] w fun e w' => e = .returned (.bool true) ∧ Below w.heap.size w w' := by
  have HE : Hid (Ends f s 2 0 4 (outl s n) f) := hangs (j := n) (k := 3) (by omega) hcmp (by omega) (by omega)
  have HT : Hid (strOfNums (outl s n) = s.extract 0 n) := outl_str s n
  have d1 : ¬ (16 : Int) < (s.size : Int) := by omega
  have d0 : (s.size : Int) ≤ 24 := by omega
  have d3 : (n : Int) ≤ (s.size : Int) := by omega
  have d4 : (0 : Int) ≤ (n : Int) := by omega
  have d5 : ¬ (s.size : Int) ≤ (n : Int) := by omega
  have d6 : (n : Int) < (s.size : Int) := by omega
  have d7 : decide ((s.size : Int) ≤ (n : Int)) = false := by simp; omega
  clear h16 hcmp
  go_enter Tryd.func3, Tryd.ntmps3
  go_wp2_with fail
  refine (ran_any w hT).mono ?_
  rintro e w1 ⟨rfl, B1⟩
  go_wp2_with fail
  refine (hsh.out _).mono ?_
  rintro e w1 ⟨rfl, rfl⟩
  go_wp2_with fail
  refine (hpk.out _).mono ?_
  rintro e w1 ⟨rfl, rfl⟩
  go_wp2_with fail
  refine (runQ HE.out HT.out hs hf0 hf1 w1 (hT.below B1)).mono ?_
  rintro e w3 ⟨B3, g, rfl⟩
  have B2 : Below w.heap.size w (w1.alloc blkQ) := B1.alloc B1.size _
  have B03 : Below w.heap.size w w3 := B2.trans (B3.mono (by have := B1.size; omega))
  have BH : Hid (Below w.heap.size w w3) := B03
  have hz := B03.size
  clear hT B1 B2 B3 B03 hsh hpk
  go_wp2
  go_region
  go_wp2
  go_ret
  refine ⟨rfl, ?_⟩
  have BB := BH.out
  have z2 : ∀ o, w.heap.size ≤ (w3.alloc o).heap.size := fun o => by simp; omega
  have z3 : ∀ o p, w.heap.size ≤ ((w3.alloc o).alloc p).heap.size := fun o p => by simp; omega
  first
    | exact (BB.alloc hz _).alloc (z2 _) _
    | exact (((BB.alloc hz _).alloc (z2 _) _).alloc (z3 _ _) _).drew

set_option maxHeartbeats 1000000 in
set_option maxRecDepth 100000 in
theorem ech_h3ltb (input s : ByteArray) (fuel f : Int) (w : World) (hT : Tab w) (hsh : Hid (∀ w, Calls Tryd.prog 8 #[.string input, .int .i64 24] w fun e w' => e = .returned (.string s) ∧ w' = w)) (hpk : Hid (∀ w, Calls Tryd.prog 9 #[.int .i64 fuel, .int .i64 501] w fun e w' => e = .returned (.int .i64 f) ∧ w' = w))
    (hs : s.size ≤ 24) (hf0 : 0 ≤ f) (hf1 : f ≤ 500) (n : Nat) (hn : (f + 1) / 8 = (n : Int)) (hk : f % 8 = 3) (hcmp : n < s.size) (h16 : 16 < s.size) (hT2 : f < 135) :
    Calls Tryd.prog 3 #[.string input, .int .i64 fuel] w fun e w' => e = .returned (.bool true) ∧ Below w.heap.size w w' := by
  have HE : Hid (Ends f s 2 0 4 (outl s n) f) := hangs (j := n) (k := 3) (by omega) hcmp (by omega) (by omega)
  have HT : Hid (strOfNums (outl s n) = s.extract 0 n) := outl_str s n
  have d1 : (16 : Int) < (s.size : Int) := by omega
  have d1' : (16 : Int) ≤ (s.size : Int) := by omega
  have d0 : (s.size : Int) ≤ 24 := by omega
  have d3 : (n : Int) ≤ (s.size : Int) := by omega
  have d4 : (0 : Int) ≤ (n : Int) := by omega
  have d5 : ¬ (s.size : Int) ≤ (n : Int) := by omega
  have d6 : (n : Int) < (s.size : Int) := by omega
  have d7 : decide ((s.size : Int) ≤ (n : Int)) = false := by simp; omega
  clear h16 hcmp
  go_enter Tryd.func3, Tryd.ntmps3
  go_wp2_with fail
  refine (ran_any w hT).mono ?_
  rintro e w1 ⟨rfl, B1⟩
  go_wp2_with fail
  refine (hsh.out _).mono ?_
  rintro e w1 ⟨rfl, rfl⟩
  go_wp2_with fail
  refine (hpk.out _).mono ?_
  rintro e w1 ⟨rfl, rfl⟩
  go_wp2_with fail
  refine (runQ HE.out HT.out hs hf0 hf1 w1 (hT.below B1)).mono ?_
  rintro e w3 ⟨B3, g, rfl⟩
  have B2 : Below w.heap.size w (w1.alloc blkQ) := B1.alloc B1.size _
  have B03 : Below w.heap.size w w3 := B2.trans (B3.mono (by have := B1.size; omega))
  have BH : Hid (Below w.heap.size w w3) := B03
  have hz := B03.size
  clear hT B1 B2 B3 B03 hsh hpk
  go_wp2
  go_region
  go_wp2
  go_ret
  refine ⟨rfl, ?_⟩
  have BB := BH.out
  have z2 : ∀ o, w.heap.size ≤ (w3.alloc o).heap.size := fun o => by simp; omega
  have z3 : ∀ o p, w.heap.size ≤ ((w3.alloc o).alloc p).heap.size := fun o p => by simp; omega
  first
    | exact (BB.alloc hz _).alloc (z2 _) _
    | exact (((BB.alloc hz _).alloc (z2 _) _).alloc (z3 _ _) _).drew

set_option maxHeartbeats 1000000 in
set_option maxRecDepth 100000 in
theorem ech_h3ges (input s : ByteArray) (fuel f : Int) (w : World) (hT : Tab w) (hsh : Hid (∀ w, Calls Tryd.prog 8 #[.string input, .int .i64 24] w fun e w' => e = .returned (.string s) ∧ w' = w)) (hpk : Hid (∀ w, Calls Tryd.prog 9 #[.int .i64 fuel, .int .i64 501] w fun e w' => e = .returned (.int .i64 f) ∧ w' = w))
    (hs : s.size ≤ 24) (hf0 : 0 ≤ f) (hf1 : f ≤ 500) (n : Nat) (hn : (f + 1) / 8 = (n : Int)) (hk : f % 8 = 3) (hcmp : s.size ≤ n) (h16 : s.size ≤ 16) (hT2 : f < 8 * (s.size : Int) + 7) :
    Calls Tryd.prog 3 #[.string input, .int .i64 fuel] w fun e w' => e = .returned (.bool true) ∧ Below w.heap.size w w' := by
  have HE : Hid (Ends f s 2 0 4 (outl s n) f) := by obtain rfl : n = s.size := (by omega); exact hangsE (k := 3) (by omega) (by omega) (by omega)
  have HT : Hid (strOfNums (outl s n) = s.extract 0 n) := outl_str s n
  have d1 : ¬ (16 : Int) < (s.size : Int) := by omega
  have d0 : (s.size : Int) ≤ 24 := by omega
  have d3 : (n : Int) ≤ (s.size : Int) := by omega
  have d4 : (0 : Int) ≤ (n : Int) := by omega
  have d5 : (s.size : Int) ≤ (n : Int) := by omega
  have d6 : ¬ (n : Int) < (s.size : Int) := by omega
  have d7 : decide ((s.size : Int) ≤ (n : Int)) = true := by simp; omega
  clear h16 hcmp
  go_enter Tryd.func3, Tryd.ntmps3
  go_wp2_with fail
  refine (ran_any w hT).mono ?_
  rintro e w1 ⟨rfl, B1⟩
  go_wp2_with fail
  refine (hsh.out _).mono ?_
  rintro e w1 ⟨rfl, rfl⟩
  go_wp2_with fail
  refine (hpk.out _).mono ?_
  rintro e w1 ⟨rfl, rfl⟩
  go_wp2_with fail
  refine (runQ HE.out HT.out hs hf0 hf1 w1 (hT.below B1)).mono ?_
  rintro e w3 ⟨B3, g, rfl⟩
  have B2 : Below w.heap.size w (w1.alloc blkQ) := B1.alloc B1.size _
  have B03 : Below w.heap.size w w3 := B2.trans (B3.mono (by have := B1.size; omega))
  have BH : Hid (Below w.heap.size w w3) := B03
  have hz := B03.size
  clear hT B1 B2 B3 B03 hsh hpk
  go_wp2
  go_region
  go_wp2
  go_ret
  refine ⟨rfl, ?_⟩
  have BB := BH.out
  have z2 : ∀ o, w.heap.size ≤ (w3.alloc o).heap.size := fun o => by simp; omega
  have z3 : ∀ o p, w.heap.size ≤ ((w3.alloc o).alloc p).heap.size := fun o p => by simp; omega
  first
    | exact (BB.alloc hz _).alloc (z2 _) _
    | exact (((BB.alloc hz _).alloc (z2 _) _).alloc (z3 _ _) _).drew

end Go.Proofs.YtflenkppcclclaaDoor

