import Derived.Test.YtebnlafjepfkdaaDoorDoHead
namespace Go.Proofs.YtebnlafjepfkdaaDoor
open Go.RowKit

set_option maxRecDepth 100000 in
theorem do_stop (base M : Nat) (w : World) (vs vo : Value) (σ : St) (n : Int) (hm : σ.stack.length ≤ 32) (hT : Tab w) (h : MS base M w vs vo σ) :
    Calls Tryd.prog 38 #[.pointer (some ⟨M, 0, none⟩), .int .u8 0, .int .u16 n] w (Out base M w (fin σ 0 0)) := by
  have hft := field_takes
  go_enter Tryd.func38, Tryd.ntmps38
  refine opaque2 (behind2 Tryd.f38.body) (by kernel_rfl) ?_
  go_wp2_with fail
  refine (shape0 _ hT).mono ?_
  rintro e w1 ⟨rfl, c, rfl⟩
  go_wp2_with fail
  refine (take_zero base M _ vs vo σ (by omega) (h.alloc _)).mono ?_
  rintro e w2 ⟨rfl, ⟨vs2, h2⟩, k2⟩
  have k1 := (Kept.alloc (M := M) w h.le (.cells c 66)).trans k2
  clear k2
  go_wp2_with fail
  refine sw_wp _ (fun _ _ _ c => c) _ _ _ _ 1 (by omega) (by omega) (fun Q' hQ' => tests_0 _ _ _ _ _ _ _ _ _ _ _ _ _ _ _ _ _ Q' hQ') ?_
  refine runs_at (c := (casesOf 20 (inBlock0 (behind2 Tryd.f38.body)) []).getD 0 .skip) (rest := (casesOf 20 (inBlock0 (behind2 Tryd.f38.body)) []).drop 1) (by kernel_rfl) (fun K => ?_)
  conv => arg 2; whnf
  go_wp2_with fail
  refine (end_any base M _ vs2 vo _ 0 0 h2).mono ?_
  rintro e w3 ⟨rfl, h3, k3⟩
  go_wp2
  go_end0
  exact ⟨rfl, ⟨_, _, h3⟩, k1.trans k3⟩

set_option maxRecDepth 100000 in
theorem do_fail (base M : Nat) (w : World) (vs vo : Value) (σ : St) (n : Int) (hm : σ.stack.length ≤ 32) (hn : 0 ≤ n) (hn' : n ≤ 65535) (hT : Tab w) (h : MS base M w vs vo σ) :
    Calls Tryd.prog 38 #[.pointer (some ⟨M, 0, none⟩), .int .u8 19, .int .u16 n] w (Out base M w (fin σ 1 (16 + n))) := by
  have hft := field_takes
  go_enter Tryd.func38, Tryd.ntmps38
  refine opaque2 (behind2 Tryd.f38.body) (by kernel_rfl) ?_
  go_wp2_with fail
  refine (shape19 _ hT).mono ?_
  rintro e w1 ⟨rfl, c, rfl⟩
  go_wp2_with fail
  refine (take_zero base M _ vs vo σ (by omega) (h.alloc _)).mono ?_
  rintro e w2 ⟨rfl, ⟨vs2, h2⟩, k2⟩
  have k1 := (Kept.alloc (M := M) w h.le (.cells c 66)).trans k2
  clear k2
  go_wp2_with fail
  refine sw_wp _ (fun _ _ _ c => c) _ _ _ _ 2 (by omega) (by omega) (fun Q' hQ' => tests_19 _ _ _ _ _ _ _ _ _ _ _ _ _ _ _ _ _ Q' hQ') ?_
  refine runs_at (c := (casesOf 20 (inBlock0 (behind2 Tryd.f38.body)) []).getD 1 .skip) (rest := (casesOf 20 (inBlock0 (behind2 Tryd.f38.body)) []).drop 2) (by kernel_rfl) (fun K => ?_)
  conv => arg 2; whnf
  go_wp2_with fail
  refine (end_any base M _ vs2 vo _ 1 (16 + n) h2).mono ?_
  rintro e w3 ⟨rfl, h3, k3⟩
  go_wp2
  go_end0
  exact ⟨rfl, ⟨_, _, h3⟩, k1.trans k3⟩

set_option maxRecDepth 100000 in
theorem do_read_none (base M : Nat) (w : World) (vs vo : Value) (σ : St) (n : Int) (hm : σ.stack.length < 32) (he : σ.input.size = 0) (hT : Tab w) (h : MS base M w vs vo σ) :
    Calls Tryd.prog 38 #[.pointer (some ⟨M, 0, none⟩), .int .u8 2, .int .u16 n] w (Out base M w { σ with stack := σ.stack ++ [256] }) := by
  have hft := field_takes
  go_enter Tryd.func38, Tryd.ntmps38
  refine opaque2 (behind2 Tryd.f38.body) (by kernel_rfl) ?_
  go_wp2_with fail
  refine (shape2 _ hT).mono ?_
  rintro e w1 ⟨rfl, c, rfl⟩
  go_wp2_with fail
  refine (take_zero base M _ vs vo σ (by omega) (h.alloc _)).mono ?_
  rintro e w2 ⟨rfl, ⟨vs2, h2⟩, k2⟩
  have k1 := (Kept.alloc (M := M) w h.le (.cells c 66)).trans k2
  clear k2
  go_wp2_with fail
  refine sw_wp _ (fun _ _ _ c => c) _ _ _ _ 3 (by omega) (by omega) (fun Q' hQ' => tests_2 _ _ _ _ _ _ _ _ _ _ _ _ _ _ _ _ _ Q' hQ') ?_
  refine runs_at2 (c := (casesOf 20 (inBlock0 (behind2 Tryd.f38.body)) []).getD 2 .skip) (d := (casesOf 20 (inBlock0 (behind2 Tryd.f38.body)) []).getD 3 .skip) (rest := (casesOf 20 (inBlock0 (behind2 Tryd.f38.body)) []).drop 4) (by kernel_rfl) (fun K hK => ?_)
  conv => arg 2; whnf
  go_wp2_with fail
  refine (read_none base M _ vs2 vo σ h2 he).mono ?_
  rintro e w3 ⟨rfl, rfl⟩
  go_wp2_with fail
  intro K'
  conv => arg 2; whnf
  go_wp2_with fail
  refine (lay_any base M _ vs2 vo _ ⟨w3.heap.size, 0, none⟩ 1 1 [_] (h2.alloc _) (by omega) rfl (cell_one_new _ _ _) (by simp; omega)).mono ?_
  rintro e w4 ⟨rfl, ⟨vs3, h3⟩, k3⟩
  have k4 := k1.trans ((Kept.alloc (M := M) w3 h2.le _).trans k3)
  go_wp2
  go_end0
  exact ⟨rfl, ⟨_, _, h3⟩, k4⟩

set_option maxRecDepth 100000 in
theorem do_read_some (base M : Nat) (w : World) (vs vo : Value) (σ : St) (n : Int) (hm : σ.stack.length < 32) (hi : σ.input.size ≤ 24) (he : 0 < σ.input.size) (hT : Tab w) (h : MS base M w vs vo σ) :
    Calls Tryd.prog 38 #[.pointer (some ⟨M, 0, none⟩), .int .u8 2, .int .u16 n] w (Out base M w { σ with input := σ.input.extract 1 σ.input.size, stack := σ.stack ++ [((σ.input[0]'he).toNat : Int)] }) := by
  have hft := field_takes
  go_enter Tryd.func38, Tryd.ntmps38
  refine opaque2 (behind2 Tryd.f38.body) (by kernel_rfl) ?_
  go_wp2_with fail
  refine (shape2 _ hT).mono ?_
  rintro e w1 ⟨rfl, c, rfl⟩
  go_wp2_with fail
  refine (take_zero base M _ vs vo σ (by omega) (h.alloc _)).mono ?_
  rintro e w2 ⟨rfl, ⟨vs2, h2⟩, k2⟩
  have k1 := (Kept.alloc (M := M) w h.le (.cells c 66)).trans k2
  clear k2
  go_wp2_with fail
  refine sw_wp _ (fun _ _ _ c => c) _ _ _ _ 3 (by omega) (by omega) (fun Q' hQ' => tests_2 _ _ _ _ _ _ _ _ _ _ _ _ _ _ _ _ _ Q' hQ') ?_
  refine runs_at2 (c := (casesOf 20 (inBlock0 (behind2 Tryd.f38.body)) []).getD 2 .skip) (d := (casesOf 20 (inBlock0 (behind2 Tryd.f38.body)) []).getD 3 .skip) (rest := (casesOf 20 (inBlock0 (behind2 Tryd.f38.body)) []).drop 4) (by kernel_rfl) (fun K hK => ?_)
  conv => arg 2; whnf
  go_wp2_with fail
  refine (read_some base M _ vs2 vo σ h2 hi he).mono ?_
  rintro e w3 ⟨rfl, h2', k2'⟩
  have k1' := k1.trans k2'
  clear k1 k2'
  go_wp2_with fail
  intro K'
  conv => arg 2; whnf
  go_wp2_with fail
  refine (lay_any base M _ vs2 vo _ ⟨w3.heap.size, 0, none⟩ 1 1 [_] (h2'.alloc _) (by omega) rfl (cell_one_new _ _ _) (by simp; omega)).mono ?_
  rintro e w4 ⟨rfl, ⟨vs3, h3⟩, k3⟩
  have k4 := k1'.trans ((Kept.alloc (M := M) w3 h2'.le _).trans k3)
  go_wp2
  go_end0
  exact ⟨rfl, ⟨_, _, h3⟩, k4⟩

set_option maxRecDepth 100000 in
theorem do_push (base M : Nat) (w : World) (vs vo : Value) (σ : St) (n : Int) (hm : σ.stack.length < 32) (hT : Tab w) (h : MS base M w vs vo σ) :
    Calls Tryd.prog 38 #[.pointer (some ⟨M, 0, none⟩), .int .u8 1, .int .u16 n] w (Out base M w { σ with stack := σ.stack ++ [n] }) := by
  have hft := field_takes
  go_enter Tryd.func38, Tryd.ntmps38
  refine opaque2 (behind2 Tryd.f38.body) (by kernel_rfl) ?_
  go_wp2_with fail
  refine (shape1 _ hT).mono ?_
  rintro e w1 ⟨rfl, c, rfl⟩
  go_wp2_with fail
  refine (take_zero base M _ vs vo σ (by omega) (h.alloc _)).mono ?_
  rintro e w2 ⟨rfl, ⟨vs2, h2⟩, k2⟩
  have k1 := (Kept.alloc (M := M) w h.le (.cells c 66)).trans k2
  clear k2
  go_wp2_with fail
  refine sw_wp _ (fun _ _ _ c => c) _ _ _ _ 4 (by omega) (by omega) (fun Q' hQ' => tests_1 _ _ _ _ _ _ _ _ _ _ _ _ _ _ _ _ _ Q' hQ') ?_
  refine runs_at (c := (casesOf 20 (inBlock0 (behind2 Tryd.f38.body)) []).getD 3 .skip) (rest := (casesOf 20 (inBlock0 (behind2 Tryd.f38.body)) []).drop 4) (by kernel_rfl) (fun K => ?_)
  conv => arg 2; whnf
  go_wp2_with fail
  refine (lay_any base M _ vs2 vo _ ⟨w2.heap.size, 0, none⟩ 1 1 [_] (h2.alloc _) (by omega) rfl (cell_one_new _ _ _) (by simp; omega)).mono ?_
  rintro e w3 ⟨rfl, ⟨vs3, h3⟩, k3⟩
  have k4 := k1.trans ((Kept.alloc (M := M) w2 h2.le _).trans k3)
  go_wp2
  go_end0
  exact ⟨rfl, ⟨_, _, h3⟩, k4⟩

end Go.Proofs.YtebnlafjepfkdaaDoor
