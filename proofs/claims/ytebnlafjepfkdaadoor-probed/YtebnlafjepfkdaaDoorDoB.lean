import Derived.Test.YtebnlafjepfkdaaDoorDoHead
namespace Go.Proofs.YtebnlafjepfkdaaDoor
open Go.RowKit

set_option maxRecDepth 100000 in
theorem do_dup (base M : Nat) (w : World) (vs vo : Value) (σ : St) (n : Int) (l : List Int) (a : Int) (hs : σ.stack = l ++ [a]) (hm : l.length < 31) (hT : Tab w) (h : MS base M w vs vo σ) :
    Calls Tryd.prog 38 #[.pointer (some ⟨M, 0, none⟩), .int .u8 3, .int .u16 n] w (Out base M w { σ with stack := l ++ [a, a] }) := by
  have hft := field_takes
  go_enter Tryd.func38, Tryd.ntmps38
  refine opaque2 (behind2 Tryd.f38.body) (by kernel_rfl) ?_
  go_wp2_with fail
  refine (shape3 _ hT).mono ?_
  rintro e w1 ⟨rfl, c, rfl⟩
  go_wp2_with fail
  refine (take1 base M _ vs vo σ l a hs (by omega) (h.alloc _)).mono ?_
  rintro e w2 ⟨rfl, ⟨vs2, h2⟩, k2⟩
  have k1 := (Kept.alloc (M := M) w h.le (.cells c 66)).trans k2
  clear k2
  go_wp2_with fail
  refine sw_wp _ (fun _ _ _ c => c) _ _ _ _ 5 (by omega) (by omega) (fun Q' hQ' => tests_3 _ _ _ _ _ _ _ _ _ _ _ _ _ _ _ _ _ Q' hQ') ?_
  refine runs_at2 (c := (casesOf 20 (inBlock0 (behind2 Tryd.f38.body)) []).getD 4 .skip) (d := (casesOf 20 (inBlock0 (behind2 Tryd.f38.body)) []).getD 5 .skip) (rest := (casesOf 20 (inBlock0 (behind2 Tryd.f38.body)) []).drop 6) (by kernel_rfl) (fun K hK => ?_)
  conv => arg 2; whnf
  go_wp2_with fail
  intro K'
  conv => arg 2; whnf
  go_wp2_with fail
  refine (lay_any base M _ vs2 vo _ ⟨w2.heap.size, 0, none⟩ 2 2 [_, _] (h2.alloc _) (by omega) rfl (cell_pair_new _ _ _ _) (by simp; omega)).mono ?_
  rintro e w3 ⟨rfl, ⟨vs3, h3⟩, k3⟩
  have k4 := k1.trans ((Kept.alloc (M := M) w2 h2.le _).trans k3)
  go_wp2
  go_end0
  exact ⟨rfl, ⟨_, _, h3⟩, k4⟩

set_option maxRecDepth 100000 in
theorem do_swap (base M : Nat) (w : World) (vs vo : Value) (σ : St) (n : Int) (l : List Int) (a b : Int) (hs : σ.stack = l ++ [a, b]) (hm : l.length < 31) (hT : Tab w) (h : MS base M w vs vo σ) :
    Calls Tryd.prog 38 #[.pointer (some ⟨M, 0, none⟩), .int .u8 5, .int .u16 n] w (Out base M w { σ with stack := l ++ [b, a] }) := by
  have hft := field_takes
  go_enter Tryd.func38, Tryd.ntmps38
  refine opaque2 (behind2 Tryd.f38.body) (by kernel_rfl) ?_
  go_wp2_with fail
  refine (shape5 _ hT).mono ?_
  rintro e w1 ⟨rfl, c, rfl⟩
  go_wp2_with fail
  refine (take2 base M _ vs vo σ l a b hs (by omega) (h.alloc _)).mono ?_
  rintro e w2 ⟨rfl, ⟨vs2, h2⟩, k2⟩
  have k1 := (Kept.alloc (M := M) w h.le (.cells c 66)).trans k2
  clear k2
  go_wp2_with fail
  refine sw_wp _ (fun _ _ _ c => c) _ _ _ _ 6 (by omega) (by omega) (fun Q' hQ' => tests_5 _ _ _ _ _ _ _ _ _ _ _ _ _ _ _ _ _ Q' hQ') ?_
  refine runs_at (c := (casesOf 20 (inBlock0 (behind2 Tryd.f38.body)) []).getD 5 .skip) (rest := (casesOf 20 (inBlock0 (behind2 Tryd.f38.body)) []).drop 6) (by kernel_rfl) (fun K => ?_)
  conv => arg 2; whnf
  go_wp2_with fail
  refine (lay_any base M _ vs2 vo _ ⟨w2.heap.size, 0, none⟩ 2 2 [_, _] (h2.alloc _) (by omega) rfl (cell_pair_new _ _ _ _) (by simp; omega)).mono ?_
  rintro e w3 ⟨rfl, ⟨vs3, h3⟩, k3⟩
  have k4 := k1.trans ((Kept.alloc (M := M) w2 h2.le _).trans k3)
  go_wp2
  go_end0
  exact ⟨rfl, ⟨_, _, h3⟩, k4⟩

set_option maxRecDepth 100000 in
theorem do_sub (base M : Nat) (w : World) (vs vo : Value) (σ : St) (n : Int) (l : List Int) (a b : Int) (hs : σ.stack = l ++ [a, b]) (hm : l.length < 31) (hT : Tab w) (h : MS base M w vs vo σ) :
    Calls Tryd.prog 38 #[.pointer (some ⟨M, 0, none⟩), .int .u8 7, .int .u16 n] w (Out base M w { σ with stack := l ++ [IntKind.u16.wrap (a + IntKind.u16.wrap (-b))] }) := by
  have hft := field_takes
  go_enter Tryd.func38, Tryd.ntmps38
  refine opaque2 (behind2 Tryd.f38.body) (by kernel_rfl) ?_
  go_wp2_with fail
  refine (shape7 _ hT).mono ?_
  rintro e w1 ⟨rfl, c, rfl⟩
  go_wp2_with fail
  refine (take2 base M _ vs vo σ l a b hs (by omega) (h.alloc _)).mono ?_
  rintro e w2 ⟨rfl, ⟨vs2, h2⟩, k2⟩
  have k1 := (Kept.alloc (M := M) w h.le (.cells c 66)).trans k2
  clear k2
  go_wp2_with fail
  refine sw_wp _ (fun _ _ _ c => c) _ _ _ _ 7 (by omega) (by omega) (fun Q' hQ' => tests_7 _ _ _ _ _ _ _ _ _ _ _ _ _ _ _ _ _ Q' hQ') ?_
  refine runs_at2 (c := (casesOf 20 (inBlock0 (behind2 Tryd.f38.body)) []).getD 6 .skip) (d := (casesOf 20 (inBlock0 (behind2 Tryd.f38.body)) []).getD 7 .skip) (rest := (casesOf 20 (inBlock0 (behind2 Tryd.f38.body)) []).drop 8) (by kernel_rfl) (fun K hK => ?_)
  conv => arg 2; whnf
  go_wp2_with fail
  intro K'
  conv => arg 2; whnf
  go_wp2_with fail
  refine (lay_any base M _ vs2 vo _ ⟨w2.heap.size, 0, none⟩ 1 1 [_] (h2.alloc _) (by omega) rfl (cell_one_new _ _ _) (by simp; omega)).mono ?_
  rintro e w3 ⟨rfl, ⟨vs3, h3⟩, k3⟩
  have k4 := k1.trans ((Kept.alloc (M := M) w2 h2.le _).trans k3)
  go_wp2
  go_end0
  exact ⟨rfl, ⟨_, _, h3⟩, k4⟩

set_option maxRecDepth 100000 in
theorem do_add (base M : Nat) (w : World) (vs vo : Value) (σ : St) (n : Int) (l : List Int) (a b : Int) (hs : σ.stack = l ++ [a, b]) (hm : l.length < 31) (hT : Tab w) (h : MS base M w vs vo σ) :
    Calls Tryd.prog 38 #[.pointer (some ⟨M, 0, none⟩), .int .u8 6, .int .u16 n] w (Out base M w { σ with stack := l ++ [IntKind.u16.wrap (a + b)] }) := by
  have hft := field_takes
  go_enter Tryd.func38, Tryd.ntmps38
  refine opaque2 (behind2 Tryd.f38.body) (by kernel_rfl) ?_
  go_wp2_with fail
  refine (shape6 _ hT).mono ?_
  rintro e w1 ⟨rfl, c, rfl⟩
  go_wp2_with fail
  refine (take2 base M _ vs vo σ l a b hs (by omega) (h.alloc _)).mono ?_
  rintro e w2 ⟨rfl, ⟨vs2, h2⟩, k2⟩
  have k1 := (Kept.alloc (M := M) w h.le (.cells c 66)).trans k2
  clear k2
  go_wp2_with fail
  refine sw_wp _ (fun _ _ _ c => c) _ _ _ _ 8 (by omega) (by omega) (fun Q' hQ' => tests_6 _ _ _ _ _ _ _ _ _ _ _ _ _ _ _ _ _ Q' hQ') ?_
  refine runs_at (c := (casesOf 20 (inBlock0 (behind2 Tryd.f38.body)) []).getD 7 .skip) (rest := (casesOf 20 (inBlock0 (behind2 Tryd.f38.body)) []).drop 8) (by kernel_rfl) (fun K => ?_)
  conv => arg 2; whnf
  go_wp2_with fail
  refine (lay_any base M _ vs2 vo _ ⟨w2.heap.size, 0, none⟩ 1 1 [_] (h2.alloc _) (by omega) rfl (cell_one_new _ _ _) (by simp; omega)).mono ?_
  rintro e w3 ⟨rfl, ⟨vs3, h3⟩, k3⟩
  have k4 := k1.trans ((Kept.alloc (M := M) w2 h2.le _).trans k3)
  go_wp2
  go_end0
  exact ⟨rfl, ⟨_, _, h3⟩, k4⟩

set_option maxRecDepth 100000 in
theorem do_mul (base M : Nat) (w : World) (vs vo : Value) (σ : St) (n : Int) (l : List Int) (a b : Int) (hs : σ.stack = l ++ [a, b]) (hm : l.length < 31) (hT : Tab w) (h : MS base M w vs vo σ) :
    Calls Tryd.prog 38 #[.pointer (some ⟨M, 0, none⟩), .int .u8 8, .int .u16 n] w (Out base M w { σ with stack := l ++ [IntKind.u16.wrap (a * b)] }) := by
  have hft := field_takes
  go_enter Tryd.func38, Tryd.ntmps38
  refine opaque2 (behind2 Tryd.f38.body) (by kernel_rfl) ?_
  go_wp2_with fail
  refine (shape8 _ hT).mono ?_
  rintro e w1 ⟨rfl, c, rfl⟩
  go_wp2_with fail
  refine (take2 base M _ vs vo σ l a b hs (by omega) (h.alloc _)).mono ?_
  rintro e w2 ⟨rfl, ⟨vs2, h2⟩, k2⟩
  have k1 := (Kept.alloc (M := M) w h.le (.cells c 66)).trans k2
  clear k2
  go_wp2_with fail
  refine sw_wp _ (fun _ _ _ c => c) _ _ _ _ 9 (by omega) (by omega) (fun Q' hQ' => tests_8 _ _ _ _ _ _ _ _ _ _ _ _ _ _ _ _ _ Q' hQ') ?_
  refine runs_at (c := (casesOf 20 (inBlock0 (behind2 Tryd.f38.body)) []).getD 8 .skip) (rest := (casesOf 20 (inBlock0 (behind2 Tryd.f38.body)) []).drop 9) (by kernel_rfl) (fun K => ?_)
  conv => arg 2; whnf
  go_wp2_with fail
  refine (lay_any base M _ vs2 vo _ ⟨w2.heap.size, 0, none⟩ 1 1 [_] (h2.alloc _) (by omega) rfl (cell_one_new _ _ _) (by simp; omega)).mono ?_
  rintro e w3 ⟨rfl, ⟨vs3, h3⟩, k3⟩
  have k4 := k1.trans ((Kept.alloc (M := M) w2 h2.le _).trans k3)
  go_wp2
  go_end0
  exact ⟨rfl, ⟨_, _, h3⟩, k4⟩

end Go.Proofs.YtebnlafjepfkdaaDoor
