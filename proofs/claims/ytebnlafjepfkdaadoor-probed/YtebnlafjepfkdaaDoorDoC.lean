import Derived.Test.YtebnlafjepfkdaaDoorDoHead
namespace Go.Proofs.YtebnlafjepfkdaaDoor
open Go.RowKit

set_option maxRecDepth 100000 in
theorem do_and (base M : Nat) (w : World) (vs vo : Value) (σ : St) (n : Int) (l : List Int) (a b : Int) (hs : σ.stack = l ++ [a, b]) (hm : l.length < 31) (hT : Tab w) (h : MS base M w vs vo σ) :
    Calls Tryd.prog 38 #[.pointer (some ⟨M, 0, none⟩), .int .u8 9, .int .u16 n] w (Out base M w { σ with stack := l ++ [bits .and .u16 a b] }) := by
  have hft := field_takes
  go_enter Tryd.func38, Tryd.ntmps38
  refine opaque2 (behind2 Tryd.f38.body) (by kernel_rfl) ?_
  go_wp2_with fail
  refine (shape9 _ hT).mono ?_
  rintro e w1 ⟨rfl, c, rfl⟩
  go_wp2_with fail
  refine (take2 base M _ vs vo σ l a b hs (by omega) (h.alloc _)).mono ?_
  rintro e w2 ⟨rfl, ⟨vs2, h2⟩, k2⟩
  have k1 := (Kept.alloc (M := M) w h.le (.cells c 66)).trans k2
  clear k2
  go_wp2_with fail
  refine sw_wp _ (fun _ _ _ c => c) _ _ _ _ 10 (by omega) (by omega) (fun Q' hQ' => tests_9 _ _ _ _ _ _ _ _ _ _ _ _ _ _ _ _ _ Q' hQ') ?_
  refine runs_at (c := (casesOf 20 (inBlock0 (behind2 Tryd.f38.body)) []).getD 9 .skip) (rest := (casesOf 20 (inBlock0 (behind2 Tryd.f38.body)) []).drop 10) (by kernel_rfl) (fun K => ?_)
  conv => arg 2; whnf
  go_wp2_with fail
  refine (lay_any base M _ vs2 vo _ ⟨w2.heap.size, 0, none⟩ 1 1 [_] (h2.alloc _) (by omega) rfl (cell_one_new _ _ _) (by simp; omega)).mono ?_
  rintro e w3 ⟨rfl, ⟨vs3, h3⟩, k3⟩
  have k4 := k1.trans ((Kept.alloc (M := M) w2 h2.le _).trans k3)
  go_wp2
  go_end0
  exact ⟨rfl, ⟨_, _, h3⟩, k4⟩

set_option maxRecDepth 100000 in
theorem do_xor (base M : Nat) (w : World) (vs vo : Value) (σ : St) (n : Int) (l : List Int) (a b : Int) (hs : σ.stack = l ++ [a, b]) (hm : l.length < 31) (hT : Tab w) (h : MS base M w vs vo σ) :
    Calls Tryd.prog 38 #[.pointer (some ⟨M, 0, none⟩), .int .u8 10, .int .u16 n] w (Out base M w { σ with stack := l ++ [bits .xor .u16 a b] }) := by
  have hft := field_takes
  go_enter Tryd.func38, Tryd.ntmps38
  refine opaque2 (behind2 Tryd.f38.body) (by kernel_rfl) ?_
  go_wp2_with fail
  refine (shape10 _ hT).mono ?_
  rintro e w1 ⟨rfl, c, rfl⟩
  go_wp2_with fail
  refine (take2 base M _ vs vo σ l a b hs (by omega) (h.alloc _)).mono ?_
  rintro e w2 ⟨rfl, ⟨vs2, h2⟩, k2⟩
  have k1 := (Kept.alloc (M := M) w h.le (.cells c 66)).trans k2
  clear k2
  go_wp2_with fail
  refine sw_wp _ (fun _ _ _ c => c) _ _ _ _ 13 (by omega) (by omega) (fun Q' hQ' => tests_10 _ _ _ _ _ _ _ _ _ _ _ _ _ _ _ _ _ Q' hQ') ?_
  refine runs_at (c := (casesOf 20 (inBlock0 (behind2 Tryd.f38.body)) []).getD 12 .skip) (rest := (casesOf 20 (inBlock0 (behind2 Tryd.f38.body)) []).drop 13) (by kernel_rfl) (fun K => ?_)
  conv => arg 2; whnf
  go_wp2_with fail
  refine (lay_any base M _ vs2 vo _ ⟨w2.heap.size, 0, none⟩ 1 1 [_] (h2.alloc _) (by omega) rfl (cell_one_new _ _ _) (by simp; omega)).mono ?_
  rintro e w3 ⟨rfl, ⟨vs3, h3⟩, k3⟩
  have k4 := k1.trans ((Kept.alloc (M := M) w2 h2.le _).trans k3)
  go_wp2
  go_end0
  exact ⟨rfl, ⟨_, _, h3⟩, k4⟩

set_option maxRecDepth 100000 in
theorem do_equal (base M : Nat) (w : World) (vs vo : Value) (σ : St) (n : Int) (l : List Int) (a b : Int) (hs : σ.stack = l ++ [a, b]) (hm : l.length < 31) (hT : Tab w) (h : MS base M w vs vo σ) :
    Calls Tryd.prog 38 #[.pointer (some ⟨M, 0, none⟩), .int .u8 12, .int .u16 n] w (Out base M w { σ with stack := l ++ [tru (decide (bits .xor .u16 a b < 1))] }) := by
  have hft := field_takes
  go_enter Tryd.func38, Tryd.ntmps38
  refine opaque2 (behind2 Tryd.f38.body) (by kernel_rfl) ?_
  go_wp2_with fail
  refine (shape12 _ hT).mono ?_
  rintro e w1 ⟨rfl, c, rfl⟩
  go_wp2_with fail
  refine (take2 base M _ vs vo σ l a b hs (by omega) (h.alloc _)).mono ?_
  rintro e w2 ⟨rfl, ⟨vs2, h2⟩, k2⟩
  have k1 := (Kept.alloc (M := M) w h.le (.cells c 66)).trans k2
  clear k2
  go_wp2_with fail
  refine sw_wp _ (fun _ _ _ c => c) _ _ _ _ 11 (by omega) (by omega) (fun Q' hQ' => tests_12 _ _ _ _ _ _ _ _ _ _ _ _ _ _ _ _ _ Q' hQ') ?_
  refine runs_at2 (c := (casesOf 20 (inBlock0 (behind2 Tryd.f38.body)) []).getD 10 .skip) (d := (casesOf 20 (inBlock0 (behind2 Tryd.f38.body)) []).getD 11 .skip) (rest := (casesOf 20 (inBlock0 (behind2 Tryd.f38.body)) []).drop 12) (by kernel_rfl) (fun K hK => ?_)
  conv => arg 2; whnf
  go_wp2_with fail
  intro K'
  conv => arg 2; whnf
  go_wp2_with fail
  refine (truth_tru _ _).mono ?_
  rintro e w2' ⟨rfl, rfl⟩
  go_wp2_with fail
  refine (lay_any base M _ vs2 vo _ ⟨w2'.heap.size, 0, none⟩ 1 1 [_] (h2.alloc _) (by omega) rfl (cell_one_new _ _ _) (by simp; omega)).mono ?_
  rintro e w3 ⟨rfl, ⟨vs3, h3⟩, k3⟩
  have k4 := k1.trans ((Kept.alloc (M := M) w2' h2.le _).trans k3)
  go_wp2
  go_end0
  exact ⟨rfl, ⟨_, _, h3⟩, k4⟩

set_option maxRecDepth 100000 in
theorem do_less (base M : Nat) (w : World) (vs vo : Value) (σ : St) (n : Int) (l : List Int) (a b : Int) (hs : σ.stack = l ++ [a, b]) (hm : l.length < 31) (hT : Tab w) (h : MS base M w vs vo σ) :
    Calls Tryd.prog 38 #[.pointer (some ⟨M, 0, none⟩), .int .u8 13, .int .u16 n] w (Out base M w { σ with stack := l ++ [tru (decide (a < b))] }) := by
  have hft := field_takes
  go_enter Tryd.func38, Tryd.ntmps38
  refine opaque2 (behind2 Tryd.f38.body) (by kernel_rfl) ?_
  go_wp2_with fail
  refine (shape13 _ hT).mono ?_
  rintro e w1 ⟨rfl, c, rfl⟩
  go_wp2_with fail
  refine (take2 base M _ vs vo σ l a b hs (by omega) (h.alloc _)).mono ?_
  rintro e w2 ⟨rfl, ⟨vs2, h2⟩, k2⟩
  have k1 := (Kept.alloc (M := M) w h.le (.cells c 66)).trans k2
  clear k2
  go_wp2_with fail
  refine sw_wp _ (fun _ _ _ c => c) _ _ _ _ 12 (by omega) (by omega) (fun Q' hQ' => tests_13 _ _ _ _ _ _ _ _ _ _ _ _ _ _ _ _ _ Q' hQ') ?_
  refine runs_at (c := (casesOf 20 (inBlock0 (behind2 Tryd.f38.body)) []).getD 11 .skip) (rest := (casesOf 20 (inBlock0 (behind2 Tryd.f38.body)) []).drop 12) (by kernel_rfl) (fun K => ?_)
  conv => arg 2; whnf
  go_wp2_with fail
  refine (truth_tru _ _).mono ?_
  rintro e w2' ⟨rfl, rfl⟩
  go_wp2_with fail
  refine (lay_any base M _ vs2 vo _ ⟨w2'.heap.size, 0, none⟩ 1 1 [_] (h2.alloc _) (by omega) rfl (cell_one_new _ _ _) (by simp; omega)).mono ?_
  rintro e w3 ⟨rfl, ⟨vs3, h3⟩, k3⟩
  have k4 := k1.trans ((Kept.alloc (M := M) w2' h2.le _).trans k3)
  go_wp2
  go_end0
  exact ⟨rfl, ⟨_, _, h3⟩, k4⟩

set_option maxRecDepth 100000 in
theorem do_div0 (base M : Nat) (w : World) (vs vo : Value) (σ : St) (n : Int) (l : List Int) (a b : Int) (hs : σ.stack = l ++ [a, b]) (hm : l.length < 31) (hb : b = 0) (hT : Tab w) (h : MS base M w vs vo σ) :
    Calls Tryd.prog 38 #[.pointer (some ⟨M, 0, none⟩), .int .u8 11, .int .u16 n] w (Out base M w (fin { σ with stack := l } 1 1)) := by
  have hft := field_takes
  have hb0 : (b == 0) = true := by rw [beq_iff_eq]; omega
  clear hb
  go_enter Tryd.func38, Tryd.ntmps38
  refine opaque2 (behind2 Tryd.f38.body) (by kernel_rfl) ?_
  go_wp2_with fail
  refine (shape11 _ hT).mono ?_
  rintro e w1 ⟨rfl, c, rfl⟩
  go_wp2_with fail
  refine (take2 base M _ vs vo σ l a b hs (by omega) (h.alloc _)).mono ?_
  rintro e w2 ⟨rfl, ⟨vs2, h2⟩, k2⟩
  have k1 := (Kept.alloc (M := M) w h.le (.cells c 66)).trans k2
  clear k2
  go_wp2_with fail
  refine sw_wp _ (fun _ _ _ c => c) _ _ _ _ 14 (by omega) (by omega) (fun Q' hQ' => tests_11 _ _ _ _ _ _ _ _ _ _ _ _ _ _ _ _ _ Q' hQ') ?_
  refine runs_at (c := (casesOf 20 (inBlock0 (behind2 Tryd.f38.body)) []).getD 13 .skip) (rest := (casesOf 20 (inBlock0 (behind2 Tryd.f38.body)) []).drop 14) (by kernel_rfl) (fun K => ?_)
  conv => arg 2; whnf
  go_wp2_with fail
  refine (end_any base M _ vs2 vo _ 1 1 h2).mono ?_
  rintro e w3 ⟨rfl, h3, k3⟩
  go_wp2
  go_end0
  exact ⟨rfl, ⟨_, _, h3⟩, k1.trans k3⟩

set_option maxRecDepth 100000 in
theorem do_div (base M : Nat) (w : World) (vs vo : Value) (σ : St) (n : Int) (l : List Int) (a b : Int) (hs : σ.stack = l ++ [a, b]) (hm : l.length < 31) (hb : b ≠ 0) (hT : Tab w) (h : MS base M w vs vo σ) :
    Calls Tryd.prog 38 #[.pointer (some ⟨M, 0, none⟩), .int .u8 11, .int .u16 n] w (Out base M w { σ with stack := l ++ [IntKind.u16.wrap (a.tdiv b)] }) := by
  have hft := field_takes
  have hb0 : (b == 0) = false := by rw [beq_eq_false_iff_ne]; exact hb
  go_enter Tryd.func38, Tryd.ntmps38
  refine opaque2 (behind2 Tryd.f38.body) (by kernel_rfl) ?_
  go_wp2_with fail
  refine (shape11 _ hT).mono ?_
  rintro e w1 ⟨rfl, c, rfl⟩
  go_wp2_with fail
  refine (take2 base M _ vs vo σ l a b hs (by omega) (h.alloc _)).mono ?_
  rintro e w2 ⟨rfl, ⟨vs2, h2⟩, k2⟩
  have k1 := (Kept.alloc (M := M) w h.le (.cells c 66)).trans k2
  clear k2
  go_wp2_with fail
  refine sw_wp _ (fun _ _ _ c => c) _ _ _ _ 14 (by omega) (by omega) (fun Q' hQ' => tests_11 _ _ _ _ _ _ _ _ _ _ _ _ _ _ _ _ _ Q' hQ') ?_
  refine runs_at (c := (casesOf 20 (inBlock0 (behind2 Tryd.f38.body)) []).getD 13 .skip) (rest := (casesOf 20 (inBlock0 (behind2 Tryd.f38.body)) []).drop 14) (by kernel_rfl) (fun K => ?_)
  conv => arg 2; whnf
  go_wp2_with fail
  refine (lay_any base M _ vs2 vo _ ⟨w2.heap.size, 0, none⟩ 1 1 [_] (h2.alloc _) (by omega) rfl (cell_one_new _ _ _) (by simp; omega)).mono ?_
  rintro e w3 ⟨rfl, ⟨vs3, h3⟩, k3⟩
  have k4 := k1.trans ((Kept.alloc (M := M) w2 h2.le _).trans k3)
  go_wp2
  go_end0
  exact ⟨rfl, ⟨_, _, h3⟩, k4⟩

end Go.Proofs.YtebnlafjepfkdaaDoor
