import Derived.Test.YtflenkppcclclaaGreatDoorM03
namespace Go.Proofs.YtflenkppcclclaaGreatDoor
open Go.RowKit

set_option maxRecDepth 100000 in
theorem do_and (base M : Nat) (w : World) (vs vo : Value) (σ : St) (n : Int) (l : List Int) (a b : Int) (hs : σ.stack = l ++ [a, b]) (hm : l.length < 31) (hT : Tab w) (h : MS base M w vs vo σ) :
    Calls Tryz.prog 132 #[.pointer (some ⟨M, 0, none⟩), .int .u8 9, .int .u16 n] w (Out base M w { σ with stack := l ++ [bits .and .u16 a b] }) := by
  have hft := field_takes
  go_enter Tryz.func132, Tryz.ntmps132
  refine opaque2 (behind2 Tryz.f132.body) (by kernel_rfl) ?_
  go_wp2_with fail
  refine (shape9 _ hT).mono ?_
  rintro e w1 ⟨rfl, c, rfl⟩
  go_wp2_with fail
  refine (take2 base M _ vs vo σ l a b hs (by omega) (h.alloc _)).mono ?_
  rintro e w2 ⟨rfl, ⟨vs2, h2⟩, k2⟩
  have k1 := (Kept.alloc (M := M) w h.le (.cells c 179)).trans k2
  clear k2
  go_wp2_with fail
  refine sw_wp _ (fun _ _ _ c => c) _ _ _ _ 10 (by omega) (by omega) (fun Q' hQ' => tests_9 _ _ _ _ _ _ _ _ _ _ _ _ _ _ _ _ _ Q' hQ') ?_
  refine runs_at (c := (casesOf 20 (inBlock0 (behind2 Tryz.f132.body)) []).getD 9 .skip) (rest := (casesOf 20 (inBlock0 (behind2 Tryz.f132.body)) []).drop 10) (by kernel_rfl) (fun K => ?_)
  conv => arg 2; whnf
  go_wp2_with fail
  refine (lay_any base M _ vs2 vo _ ⟨w2.heap.size, 0, none⟩ 1 1 [_] (h2.alloc _) (by omega) rfl (cell_one_new _ _ _) (by simp; omega)).mono ?_
  rintro e w3 ⟨rfl, ⟨vs3, h3⟩, k3⟩
  have k4 := k1.trans ((Kept.alloc (M := M) w2 h2.le _).trans k3)
  go_wp2
  go_end0
  exact ⟨rfl, ⟨_, _, h3⟩, k4⟩

set_option maxRecDepth 100000 in
theorem do_xor (base M : Nat) (w : World) (vs vo : Value) (σ : St) (n : Int) (l : List Int) (a b : Int) (hs : σ.stack = l ++ [a, b]) (hm : l.length < 31) (hT : Tab w) (h : MS base M w vs vo σ) :
    Calls Tryz.prog 132 #[.pointer (some ⟨M, 0, none⟩), .int .u8 10, .int .u16 n] w (Out base M w { σ with stack := l ++ [bits .xor .u16 a b] }) := by
  have hft := field_takes
  go_enter Tryz.func132, Tryz.ntmps132
  refine opaque2 (behind2 Tryz.f132.body) (by kernel_rfl) ?_
  go_wp2_with fail
  refine (shape10 _ hT).mono ?_
  rintro e w1 ⟨rfl, c, rfl⟩
  go_wp2_with fail
  refine (take2 base M _ vs vo σ l a b hs (by omega) (h.alloc _)).mono ?_
  rintro e w2 ⟨rfl, ⟨vs2, h2⟩, k2⟩
  have k1 := (Kept.alloc (M := M) w h.le (.cells c 179)).trans k2
  clear k2
  go_wp2_with fail
  refine sw_wp _ (fun _ _ _ c => c) _ _ _ _ 13 (by omega) (by omega) (fun Q' hQ' => tests_10 _ _ _ _ _ _ _ _ _ _ _ _ _ _ _ _ _ Q' hQ') ?_
  refine runs_at (c := (casesOf 20 (inBlock0 (behind2 Tryz.f132.body)) []).getD 12 .skip) (rest := (casesOf 20 (inBlock0 (behind2 Tryz.f132.body)) []).drop 13) (by kernel_rfl) (fun K => ?_)
  conv => arg 2; whnf
  go_wp2_with fail
  refine (lay_any base M _ vs2 vo _ ⟨w2.heap.size, 0, none⟩ 1 1 [_] (h2.alloc _) (by omega) rfl (cell_one_new _ _ _) (by simp; omega)).mono ?_
  rintro e w3 ⟨rfl, ⟨vs3, h3⟩, k3⟩
  have k4 := k1.trans ((Kept.alloc (M := M) w2 h2.le _).trans k3)
  go_wp2
  go_end0
  exact ⟨rfl, ⟨_, _, h3⟩, k4⟩

set_option maxRecDepth 100000 in
theorem do_equal (base M : Nat) (w : World) (vs vo : Value) (σ : St) (n : Int) (l : List Int) (a b : Int) (hs : σ.stack = l ++ [a, b]) (hm : l.length < 31) (hT : Tab w) (h : MS base M w vs vo σ) :
    Calls Tryz.prog 132 #[.pointer (some ⟨M, 0, none⟩), .int .u8 12, .int .u16 n] w (Out base M w { σ with stack := l ++ [tru (decide (bits .xor .u16 a b < 1))] }) := by
  have hft := field_takes
  go_enter Tryz.func132, Tryz.ntmps132
  refine opaque2 (behind2 Tryz.f132.body) (by kernel_rfl) ?_
  go_wp2_with fail
  refine (shape12 _ hT).mono ?_
  rintro e w1 ⟨rfl, c, rfl⟩
  go_wp2_with fail
  refine (take2 base M _ vs vo σ l a b hs (by omega) (h.alloc _)).mono ?_
  rintro e w2 ⟨rfl, ⟨vs2, h2⟩, k2⟩
  have k1 := (Kept.alloc (M := M) w h.le (.cells c 179)).trans k2
  clear k2
  go_wp2_with fail
  refine sw_wp _ (fun _ _ _ c => c) _ _ _ _ 11 (by omega) (by omega) (fun Q' hQ' => tests_12 _ _ _ _ _ _ _ _ _ _ _ _ _ _ _ _ _ Q' hQ') ?_
  refine runs_at2 (c := (casesOf 20 (inBlock0 (behind2 Tryz.f132.body)) []).getD 10 .skip) (d := (casesOf 20 (inBlock0 (behind2 Tryz.f132.body)) []).getD 11 .skip) (rest := (casesOf 20 (inBlock0 (behind2 Tryz.f132.body)) []).drop 12) (by kernel_rfl) (fun K hK => ?_)
  conv => arg 2; whnf
  go_wp2_with fail
  intro K'
  conv => arg 2; whnf
  go_wp2_with fail
  refine (truth_tru _ _).mono ?_
  rintro e w2' ⟨rfl, rfl⟩
  go_wp2_with fail
  refine (lay_any base M _ vs2 vo _ ⟨w2'.heap.size, 0, none⟩ 1 1 [_] (h2.alloc _) (by omega) rfl (cell_one_new _ _ _) (by simp; omega)).mono ?_
  rintro e w3 ⟨rfl, ⟨vs3, h3⟩, k3⟩
  have k4 := k1.trans ((Kept.alloc (M := M) w2' h2.le _).trans k3)
  go_wp2
  go_end0
  exact ⟨rfl, ⟨_, _, h3⟩, k4⟩

set_option maxRecDepth 100000 in
theorem do_less (base M : Nat) (w : World) (vs vo : Value) (σ : St) (n : Int) (l : List Int) (a b : Int) (hs : σ.stack = l ++ [a, b]) (hm : l.length < 31) (hT : Tab w) (h : MS base M w vs vo σ) :
    Calls Tryz.prog 132 #[.pointer (some ⟨M, 0, none⟩), .int .u8 13, .int .u16 n] w (Out base M w { σ with stack := l ++ [tru (decide (a < b))] }) := by
  have hft := field_takes
  go_enter Tryz.func132, Tryz.ntmps132
  refine opaque2 (behind2 Tryz.f132.body) (by kernel_rfl) ?_
  go_wp2_with fail
  refine (shape13 _ hT).mono ?_
  rintro e w1 ⟨rfl, c, rfl⟩
  go_wp2_with fail
  refine (take2 base M _ vs vo σ l a b hs (by omega) (h.alloc _)).mono ?_
  rintro e w2 ⟨rfl, ⟨vs2, h2⟩, k2⟩
  have k1 := (Kept.alloc (M := M) w h.le (.cells c 179)).trans k2
  clear k2
  go_wp2_with fail
  refine sw_wp _ (fun _ _ _ c => c) _ _ _ _ 12 (by omega) (by omega) (fun Q' hQ' => tests_13 _ _ _ _ _ _ _ _ _ _ _ _ _ _ _ _ _ Q' hQ') ?_
  refine runs_at (c := (casesOf 20 (inBlock0 (behind2 Tryz.f132.body)) []).getD 11 .skip) (rest := (casesOf 20 (inBlock0 (behind2 Tryz.f132.body)) []).drop 12) (by kernel_rfl) (fun K => ?_)
  conv => arg 2; whnf
  go_wp2_with fail
  refine (truth_tru _ _).mono ?_
  rintro e w2' ⟨rfl, rfl⟩
  go_wp2_with fail
  refine (lay_any base M _ vs2 vo _ ⟨w2'.heap.size, 0, none⟩ 1 1 [_] (h2.alloc _) (by omega) rfl (cell_one_new _ _ _) (by simp; omega)).mono ?_
  rintro e w3 ⟨rfl, ⟨vs3, h3⟩, k3⟩
  have k4 := k1.trans ((Kept.alloc (M := M) w2' h2.le _).trans k3)
  go_wp2
  go_end0
  exact ⟨rfl, ⟨_, _, h3⟩, k4⟩

set_option maxRecDepth 100000 in
theorem do_div0 (base M : Nat) (w : World) (vs vo : Value) (σ : St) (n : Int) (l : List Int) (a b : Int) (hs : σ.stack = l ++ [a, b]) (hm : l.length < 31) (hb : b = 0) (hT : Tab w) (h : MS base M w vs vo σ) :
    Calls Tryz.prog 132 #[.pointer (some ⟨M, 0, none⟩), .int .u8 11, .int .u16 n] w (Out base M w (fin { σ with stack := l } 1 1)) := by
  have hft := field_takes
  have hb0 : (b == 0) = true := by rw [beq_iff_eq]; omega
  clear hb
  go_enter Tryz.func132, Tryz.ntmps132
  refine opaque2 (behind2 Tryz.f132.body) (by kernel_rfl) ?_
  go_wp2_with fail
  refine (shape11 _ hT).mono ?_
  rintro e w1 ⟨rfl, c, rfl⟩
  go_wp2_with fail
  refine (take2 base M _ vs vo σ l a b hs (by omega) (h.alloc _)).mono ?_
  rintro e w2 ⟨rfl, ⟨vs2, h2⟩, k2⟩
  have k1 := (Kept.alloc (M := M) w h.le (.cells c 179)).trans k2
  clear k2
  go_wp2_with fail
  refine sw_wp _ (fun _ _ _ c => c) _ _ _ _ 14 (by omega) (by omega) (fun Q' hQ' => tests_11 _ _ _ _ _ _ _ _ _ _ _ _ _ _ _ _ _ Q' hQ') ?_
  refine runs_at (c := (casesOf 20 (inBlock0 (behind2 Tryz.f132.body)) []).getD 13 .skip) (rest := (casesOf 20 (inBlock0 (behind2 Tryz.f132.body)) []).drop 14) (by kernel_rfl) (fun K => ?_)
  conv => arg 2; whnf
  go_wp2_with fail
  refine (end_any base M _ vs2 vo _ 1 1 h2).mono ?_
  rintro e w3 ⟨rfl, h3, k3⟩
  go_wp2
  go_end0
  exact ⟨rfl, ⟨_, _, h3⟩, k1.trans k3⟩

set_option maxRecDepth 100000 in
theorem do_div (base M : Nat) (w : World) (vs vo : Value) (σ : St) (n : Int) (l : List Int) (a b : Int) (hs : σ.stack = l ++ [a, b]) (hm : l.length < 31) (hb : b ≠ 0) (hT : Tab w) (h : MS base M w vs vo σ) :
    Calls Tryz.prog 132 #[.pointer (some ⟨M, 0, none⟩), .int .u8 11, .int .u16 n] w (Out base M w { σ with stack := l ++ [IntKind.u16.wrap (a.tdiv b)] }) := by
  have hft := field_takes
  have hb0 : (b == 0) = false := by rw [beq_eq_false_iff_ne]; exact hb
  go_enter Tryz.func132, Tryz.ntmps132
  refine opaque2 (behind2 Tryz.f132.body) (by kernel_rfl) ?_
  go_wp2_with fail
  refine (shape11 _ hT).mono ?_
  rintro e w1 ⟨rfl, c, rfl⟩
  go_wp2_with fail
  refine (take2 base M _ vs vo σ l a b hs (by omega) (h.alloc _)).mono ?_
  rintro e w2 ⟨rfl, ⟨vs2, h2⟩, k2⟩
  have k1 := (Kept.alloc (M := M) w h.le (.cells c 179)).trans k2
  clear k2
  go_wp2_with fail
  refine sw_wp _ (fun _ _ _ c => c) _ _ _ _ 14 (by omega) (by omega) (fun Q' hQ' => tests_11 _ _ _ _ _ _ _ _ _ _ _ _ _ _ _ _ _ Q' hQ') ?_
  refine runs_at (c := (casesOf 20 (inBlock0 (behind2 Tryz.f132.body)) []).getD 13 .skip) (rest := (casesOf 20 (inBlock0 (behind2 Tryz.f132.body)) []).drop 14) (by kernel_rfl) (fun K => ?_)
  conv => arg 2; whnf
  go_wp2_with fail
  refine (lay_any base M _ vs2 vo _ ⟨w2.heap.size, 0, none⟩ 1 1 [_] (h2.alloc _) (by omega) rfl (cell_one_new _ _ _) (by simp; omega)).mono ?_
  rintro e w3 ⟨rfl, ⟨vs3, h3⟩, k3⟩
  have k4 := k1.trans ((Kept.alloc (M := M) w2 h2.le _).trans k3)
  go_wp2
  go_end0
  exact ⟨rfl, ⟨_, _, h3⟩, k4⟩

end Go.Proofs.YtflenkppcclclaaGreatDoor

namespace Go.Proofs.YtflenkppcclclaaGreatDoor
open Go.RowKit

set_option maxRecDepth 100000 in
theorem do_jz_not (base M : Nat) (w : World) (vs vo : Value) (σ : St) (n : Int) (l : List Int) (a : Int) (hs : σ.stack = l ++ [a]) (hm : l.length < 32) (ha : (a == 0) = false) (hT : Tab w) (h : MS base M w vs vo σ) :
    Calls Tryz.prog 132 #[.pointer (some ⟨M, 0, none⟩), .int .u8 15, .int .u16 n] w (Out base M w { σ with stack := l }) := by
  have hft := field_takes
  have ha1 : (a != 0) = true := by simp [bne, ha]
  go_enter Tryz.func132, Tryz.ntmps132
  refine opaque2 (behind2 Tryz.f132.body) (by kernel_rfl) ?_
  go_wp2_with fail
  refine (shape15 _ hT).mono ?_
  rintro e w1 ⟨rfl, c, rfl⟩
  go_wp2_with fail
  refine (take1 base M _ vs vo σ l a hs (by omega) (h.alloc _)).mono ?_
  rintro e w2 ⟨rfl, ⟨vs2, h2⟩, k2⟩
  have k1 := (Kept.alloc (M := M) w h.le (.cells c 179)).trans k2
  clear k2
  go_wp2_with fail
  refine sw_wp _ (fun _ _ _ c => c) _ _ _ _ 15 (by omega) (by omega) (fun Q' hQ' => tests_15 _ _ _ _ _ _ _ _ _ _ _ _ _ _ _ _ _ Q' hQ') ?_
  refine runs_at2 (c := (casesOf 20 (inBlock0 (behind2 Tryz.f132.body)) []).getD 14 .skip) (d := (casesOf 20 (inBlock0 (behind2 Tryz.f132.body)) []).getD 15 .skip) (rest := (casesOf 20 (inBlock0 (behind2 Tryz.f132.body)) []).drop 16) (by kernel_rfl) (fun K hK => ?_)
  conv => arg 2; whnf
  go_wp2
  go_end0
  exact ⟨rfl, ⟨_, _, h2⟩, k1⟩

set_option maxRecDepth 100000 in
theorem do_jz (base M : Nat) (w : World) (vs vo : Value) (σ : St) (n : Int) (l : List Int) (a : Int) (hs : σ.stack = l ++ [a]) (hm : l.length < 32) (ha : a = 0) (hn : 0 ≤ n) (hn' : n ≤ 65535) (hT : Tab w) (h : MS base M w vs vo σ) :
    Calls Tryz.prog 132 #[.pointer (some ⟨M, 0, none⟩), .int .u8 15, .int .u16 n] w (Out base M w { σ with stack := l, next := n }) := by
  have hft := field_takes
  have ha0 : (a != 0) = false := by simp [ha]
  clear ha
  go_enter Tryz.func132, Tryz.ntmps132
  refine opaque2 (behind2 Tryz.f132.body) (by kernel_rfl) ?_
  go_wp2_with fail
  refine (shape15 _ hT).mono ?_
  rintro e w1 ⟨rfl, c, rfl⟩
  go_wp2_with fail
  refine (take1 base M _ vs vo σ l a hs (by omega) (h.alloc _)).mono ?_
  rintro e w2 ⟨rfl, ⟨vs2, h2⟩, k2⟩
  have k1 := (Kept.alloc (M := M) w h.le (.cells c 179)).trans k2
  clear k2
  go_wp2_with fail
  refine sw_wp _ (fun _ _ _ c => c) _ _ _ _ 15 (by omega) (by omega) (fun Q' hQ' => tests_15 _ _ _ _ _ _ _ _ _ _ _ _ _ _ _ _ _ Q' hQ') ?_
  refine runs_at2 (c := (casesOf 20 (inBlock0 (behind2 Tryz.f132.body)) []).getD 14 .skip) (d := (casesOf 20 (inBlock0 (behind2 Tryz.f132.body)) []).getD 15 .skip) (rest := (casesOf 20 (inBlock0 (behind2 Tryz.f132.body)) []).drop 16) (by kernel_rfl) (fun K hK => ?_)
  conv => arg 2; whnf
  go_wp2_with fail
  intro K'
  conv => arg 2; whnf
  have c19 := h2.cell 19 (by omega)
  rw [mv_next] at c19
  have f19 := h2.thaw 19
  have R := h2.setNext n
  have K19 := k1.trans (Kept.set base M w2 19 (.int .i64 n))
  go_wp2
  go_end0
  exact ⟨rfl, ⟨_, _, R⟩, K19⟩

set_option maxRecDepth 100000 in
theorem do_jump (base M : Nat) (w : World) (vs vo : Value) (σ : St) (n : Int) (hm : σ.stack.length ≤ 32) (hn : 0 ≤ n) (hn' : n ≤ 65535) (hT : Tab w) (h : MS base M w vs vo σ) :
    Calls Tryz.prog 132 #[.pointer (some ⟨M, 0, none⟩), .int .u8 14, .int .u16 n] w (Out base M w { σ with next := n }) := by
  have hft := field_takes
  go_enter Tryz.func132, Tryz.ntmps132
  refine opaque2 (behind2 Tryz.f132.body) (by kernel_rfl) ?_
  go_wp2_with fail
  refine (shape14 _ hT).mono ?_
  rintro e w1 ⟨rfl, c, rfl⟩
  go_wp2_with fail
  refine (take_zero base M _ vs vo σ (by omega) (h.alloc _)).mono ?_
  rintro e w2 ⟨rfl, ⟨vs2, h2⟩, k2⟩
  have k1 := (Kept.alloc (M := M) w h.le (.cells c 179)).trans k2
  clear k2
  go_wp2_with fail
  refine sw_wp _ (fun _ _ _ c => c) _ _ _ _ 16 (by omega) (by omega) (fun Q' hQ' => tests_14 _ _ _ _ _ _ _ _ _ _ _ _ _ _ _ _ _ Q' hQ') ?_
  refine runs_at (c := (casesOf 20 (inBlock0 (behind2 Tryz.f132.body)) []).getD 15 .skip) (rest := (casesOf 20 (inBlock0 (behind2 Tryz.f132.body)) []).drop 16) (by kernel_rfl) (fun K => ?_)
  conv => arg 2; whnf
  have c19 := h2.cell 19 (by omega)
  rw [mv_next] at c19
  have f19 := h2.thaw 19
  have R := h2.setNext n
  have K19 := k1.trans (Kept.set base M w2 19 (.int .i64 n))
  go_wp2
  go_end0
  exact ⟨rfl, ⟨_, _, R⟩, K19⟩

set_option maxRecDepth 100000 in
theorem do_load (base M : Nat) (w : World) (vs vo : Value) (σ : St) (n : Int) (hm : σ.stack.length < 32) (k : Nat) (hk : k < 16) (hn : n = (k : Int)) (hT : Tab w) (h : MS base M w vs vo σ) :
    Calls Tryz.prog 132 #[.pointer (some ⟨M, 0, none⟩), .int .u8 16, .int .u16 n] w (Out base M w { σ with stack := σ.stack ++ [σ.cells k] }) := by
  have hft := field_takes
  subst hn
  have hk1 : (k : Int) < 16 := by omega
  have hk0 : (0 : Int) ≤ (k : Int) := by omega
  go_enter Tryz.func132, Tryz.ntmps132
  refine opaque2 (behind2 Tryz.f132.body) (by kernel_rfl) ?_
  go_wp2_with fail
  refine (shape16 _ hT).mono ?_
  rintro e w1 ⟨rfl, c, rfl⟩
  go_wp2_with fail
  refine (take_zero base M _ vs vo σ (by omega) (h.alloc _)).mono ?_
  rintro e w2 ⟨rfl, ⟨vs2, h2⟩, k2⟩
  have k1 := (Kept.alloc (M := M) w h.le (.cells c 179)).trans k2
  clear k2
  go_wp2_with fail
  refine sw_wp _ (fun _ _ _ c => c) _ _ _ _ 17 (by omega) (by omega) (fun Q' hQ' => tests_16 _ _ _ _ _ _ _ _ _ _ _ _ _ _ _ _ _ Q' hQ') ?_
  refine runs_at (c := (casesOf 20 (inBlock0 (behind2 Tryz.f132.body)) []).getD 16 .skip) (rest := (casesOf 20 (inBlock0 (behind2 Tryz.f132.body)) []).drop 17) (by kernel_rfl) (fun K => ?_)
  conv => arg 2; whnf
  have ck := h2.cell (1 + k) (by omega)
  have ek : mval vs2 vo σ (1 + k) = .int .u16 (σ.cells k) := by
    unfold mval
    rw [if_neg (by omega), if_pos (by omega)]
    congr 2; omega
  rw [ek] at ck
  clear ek
  go_wp2_with fail
  refine (lay_any base M _ vs2 vo _ ⟨w2.heap.size, 0, none⟩ 1 1 [_] (h2.alloc _) (by omega) rfl (cell_one_new _ _ _) (by simp; omega)).mono ?_
  rintro e w3 ⟨rfl, ⟨vs3, h3⟩, k3⟩
  have k4 := k1.trans ((Kept.alloc (M := M) w2 h2.le _).trans k3)
  go_wp2
  go_end0
  exact ⟨rfl, ⟨_, _, h3⟩, k4⟩

set_option maxRecDepth 100000 in
theorem do_store (base M : Nat) (w : World) (vs vo : Value) (σ : St) (n : Int) (l : List Int) (a : Int) (hs : σ.stack = l ++ [a]) (hm : l.length < 32) (k : Nat) (hk : k < 16) (hn : n = (k : Int)) (hT : Tab w) (h : MS base M w vs vo σ) :
    Calls Tryz.prog 132 #[.pointer (some ⟨M, 0, none⟩), .int .u8 17, .int .u16 n] w (Out base M w { σ with stack := l, cells := fun i => if i = k then a else σ.cells i }) := by
  have hft := field_takes
  subst hn
  have hk1 : (k : Int) < 16 := by omega
  have hk0 : (0 : Int) ≤ (k : Int) := by omega
  go_enter Tryz.func132, Tryz.ntmps132
  refine opaque2 (behind2 Tryz.f132.body) (by kernel_rfl) ?_
  go_wp2_with fail
  refine (shape17 _ hT).mono ?_
  rintro e w1 ⟨rfl, c, rfl⟩
  go_wp2_with fail
  refine (take1 base M _ vs vo σ l a hs (by omega) (h.alloc _)).mono ?_
  rintro e w2 ⟨rfl, ⟨vs2, h2⟩, k2⟩
  have k1 := (Kept.alloc (M := M) w h.le (.cells c 179)).trans k2
  clear k2
  go_wp2_with fail
  refine sw_wp _ (fun _ _ _ c => c) _ _ _ _ 18 (by omega) (by omega) (fun Q' hQ' => tests_17 _ _ _ _ _ _ _ _ _ _ _ _ _ _ _ _ _ Q' hQ') ?_
  refine runs_at (c := (casesOf 20 (inBlock0 (behind2 Tryz.f132.body)) []).getD 17 .skip) (rest := (casesOf 20 (inBlock0 (behind2 Tryz.f132.body)) []).drop 18) (by kernel_rfl) (fun K => ?_)
  conv => arg 2; whnf
  have ck := h2.cell (1 + k) (by omega)
  have fk := h2.thaw (1 + k)
  have R := h2.setCells k hk a
  have KK := k1.trans (Kept.set base M w2 (1 + k) (.int .u16 a))
  go_wp2
  go_end0
  exact ⟨rfl, ⟨_, _, R⟩, KK⟩

end Go.Proofs.YtflenkppcclclaaGreatDoor

namespace Go.Proofs.YtflenkppcclclaaGreatDoor
open Go.RowKit

set_option maxRecDepth 100000 in
theorem do_put (base M : Nat) (w : World) (vs vo : Value) (σ : St) (n : Int) (l : List Int) (a : Int) (hs : σ.stack = l ++ [a]) (hm : l.length < 32) (ho : σ.out.length ≤ 16) (hT : Tab w) (h : MS base M w vs vo σ) :
    Calls Tryz.prog 132 #[.pointer (some ⟨M, 0, none⟩), .int .u8 18, .int .u16 n] w (Out base M w (putS { σ with stack := l } (IntKind.u8.wrap a))) := by
  have hft := field_takes
  go_enter Tryz.func132, Tryz.ntmps132
  refine opaque2 (behind2 Tryz.f132.body) (by kernel_rfl) ?_
  go_wp2_with fail
  refine (shape18 _ hT).mono ?_
  rintro e w1 ⟨rfl, c, rfl⟩
  go_wp2_with fail
  refine (take1 base M _ vs vo σ l a hs (by omega) (h.alloc _)).mono ?_
  rintro e w2 ⟨rfl, ⟨vs2, h2⟩, k2⟩
  have k1 := (Kept.alloc (M := M) w h.le (.cells c 179)).trans k2
  clear k2
  go_wp2_with fail
  refine sw_wp _ (fun _ _ _ c => c) _ _ _ _ 19 (by omega) (by omega) (fun Q' hQ' => tests_18 _ _ _ _ _ _ _ _ _ _ _ _ _ _ _ _ _ Q' hQ') ?_
  refine runs_at (c := (casesOf 20 (inBlock0 (behind2 Tryz.f132.body)) []).getD 18 .skip) (rest := (casesOf 20 (inBlock0 (behind2 Tryz.f132.body)) []).drop 19) (by kernel_rfl) (fun K => ?_)
  conv => arg 2; whnf
  go_wp2_with fail
  refine (put_any base M _ vs2 vo _ _ h2 (by exact ho)).mono ?_
  rintro e w3 ⟨rfl, ⟨vo3, h3⟩, k3⟩
  go_wp2
  go_end0
  exact ⟨rfl, ⟨_, _, h3⟩, k1.trans k3⟩

set_option maxRecDepth 100000 in
theorem do_drop (base M : Nat) (w : World) (vs vo : Value) (σ : St) (n : Int) (l : List Int) (a : Int) (hs : σ.stack = l ++ [a]) (hm : l.length < 32) (hT : Tab w) (h : MS base M w vs vo σ) :
    Calls Tryz.prog 132 #[.pointer (some ⟨M, 0, none⟩), .int .u8 4, .int .u16 n] w (Out base M w { σ with stack := l }) := by
  have hft := field_takes
  go_enter Tryz.func132, Tryz.ntmps132
  refine opaque2 (behind2 Tryz.f132.body) (by kernel_rfl) ?_
  go_wp2_with fail
  refine (shape4 _ hT).mono ?_
  rintro e w1 ⟨rfl, c, rfl⟩
  go_wp2_with fail
  refine (take1 base M _ vs vo σ l a hs (by omega) (h.alloc _)).mono ?_
  rintro e w2 ⟨rfl, ⟨vs2, h2⟩, k2⟩
  have k1 := (Kept.alloc (M := M) w h.le (.cells c 179)).trans k2
  clear k2
  go_wp2_with fail
  refine sw_wp _ (fun _ _ _ c => c) _ _ _ _ 20 (by omega) (by omega) (fun Q' hQ' => tests_4 _ _ _ _ _ _ _ _ _ _ _ _ _ _ _ _ _ Q' hQ') ?_
  refine runs_at (c := (casesOf 20 (inBlock0 (behind2 Tryz.f132.body)) []).getD 19 .skip) (rest := (casesOf 20 (inBlock0 (behind2 Tryz.f132.body)) []).drop 20) (by kernel_rfl) (fun K => ?_)
  conv => arg 2; whnf
  go_wp2
  go_end0
  exact ⟨rfl, ⟨_, _, h2⟩, k1⟩

set_option maxRecDepth 100000 in
theorem do_probe (base M : Nat) (w : World) (vs vo : Value) (σ : St) (n : Int) (hm : σ.stack.length ≤ 32) (hT : Tab w) (h : MS base M w vs vo σ) :
    Calls Tryz.prog 132 #[.pointer (some ⟨M, 0, none⟩), .int .u8 20, .int .u16 n] w (Out base M w σ) := by
  have hft := field_takes
  go_enter Tryz.func132, Tryz.ntmps132
  refine opaque2 (behind2 Tryz.f132.body) (by kernel_rfl) ?_
  go_wp2_with fail
  refine (shape20 _ hT).mono ?_
  rintro e w1 ⟨rfl, c, rfl⟩
  go_wp2_with fail
  refine (take_zero base M _ vs vo σ (by omega) (h.alloc _)).mono ?_
  rintro e w2 ⟨rfl, ⟨vs2, h2⟩, k2⟩
  have k1 := (Kept.alloc (M := M) w h.le (.cells c 179)).trans k2
  clear k2
  go_wp2_with fail
  refine sw_wp _ (fun _ _ _ c => c) _ _ _ _ 20 (by omega) (by omega) (fun Q' hQ' => tests_20 _ _ _ _ _ _ _ _ _ _ _ _ _ _ _ _ _ Q' hQ') ?_
  refine runs_at (c := (casesOf 20 (inBlock0 (behind2 Tryz.f132.body)) []).getD 19 .skip) (rest := (casesOf 20 (inBlock0 (behind2 Tryz.f132.body)) []).drop 20) (by kernel_rfl) (fun K => ?_)
  conv => arg 2; whnf
  go_wp2
  go_end0
  exact ⟨rfl, ⟨_, _, h2⟩, k1⟩

end Go.Proofs.YtflenkppcclclaaGreatDoor

