import Derived.Test.YtebnlafjepfkdaaDoorDoHead
namespace Go.Proofs.YtebnlafjepfkdaaDoor
open Go.RowKit

set_option maxRecDepth 100000 in
theorem do_put (base M : Nat) (w : World) (vs vo : Value) (σ : St) (n : Int) (l : List Int) (a : Int) (hs : σ.stack = l ++ [a]) (hm : l.length < 32) (ho : σ.out.length ≤ 16) (hT : Tab w) (h : MS base M w vs vo σ) :
    Calls Tryd.prog 38 #[.pointer (some ⟨M, 0, none⟩), .int .u8 18, .int .u16 n] w (Out base M w (putS { σ with stack := l } (IntKind.u8.wrap a))) := by
  have hft := field_takes
  go_enter Tryd.func38, Tryd.ntmps38
  refine opaque2 (behind2 Tryd.f38.body) (by kernel_rfl) ?_
  go_wp2_with fail
  refine (shape18 _ hT).mono ?_
  rintro e w1 ⟨rfl, c, rfl⟩
  go_wp2_with fail
  refine (take1 base M _ vs vo σ l a hs (by omega) (h.alloc _)).mono ?_
  rintro e w2 ⟨rfl, ⟨vs2, h2⟩, k2⟩
  have k1 := (Kept.alloc (M := M) w h.le (.cells c 66)).trans k2
  clear k2
  go_wp2_with fail
  refine sw_wp _ (fun _ _ _ c => c) _ _ _ _ 19 (by omega) (by omega) (fun Q' hQ' => tests_18 _ _ _ _ _ _ _ _ _ _ _ _ _ _ _ _ _ Q' hQ') ?_
  refine runs_at (c := (casesOf 20 (inBlock0 (behind2 Tryd.f38.body)) []).getD 18 .skip) (rest := (casesOf 20 (inBlock0 (behind2 Tryd.f38.body)) []).drop 19) (by kernel_rfl) (fun K => ?_)
  conv => arg 2; whnf
  go_wp2_with fail
  refine (put_any base M _ vs2 vo _ _ h2 (by exact ho)).mono ?_
  rintro e w3 ⟨rfl, ⟨vo3, h3⟩, k3⟩
  go_wp2
  go_end0
  exact ⟨rfl, ⟨_, _, h3⟩, k1.trans k3⟩

set_option maxRecDepth 100000 in
theorem do_drop (base M : Nat) (w : World) (vs vo : Value) (σ : St) (n : Int) (l : List Int) (a : Int) (hs : σ.stack = l ++ [a]) (hm : l.length < 32) (hT : Tab w) (h : MS base M w vs vo σ) :
    Calls Tryd.prog 38 #[.pointer (some ⟨M, 0, none⟩), .int .u8 4, .int .u16 n] w (Out base M w { σ with stack := l }) := by
  have hft := field_takes
  go_enter Tryd.func38, Tryd.ntmps38
  refine opaque2 (behind2 Tryd.f38.body) (by kernel_rfl) ?_
  go_wp2_with fail
  refine (shape4 _ hT).mono ?_
  rintro e w1 ⟨rfl, c, rfl⟩
  go_wp2_with fail
  refine (take1 base M _ vs vo σ l a hs (by omega) (h.alloc _)).mono ?_
  rintro e w2 ⟨rfl, ⟨vs2, h2⟩, k2⟩
  have k1 := (Kept.alloc (M := M) w h.le (.cells c 66)).trans k2
  clear k2
  go_wp2_with fail
  refine sw_wp _ (fun _ _ _ c => c) _ _ _ _ 20 (by omega) (by omega) (fun Q' hQ' => tests_4 _ _ _ _ _ _ _ _ _ _ _ _ _ _ _ _ _ Q' hQ') ?_
  refine runs_at (c := (casesOf 20 (inBlock0 (behind2 Tryd.f38.body)) []).getD 19 .skip) (rest := (casesOf 20 (inBlock0 (behind2 Tryd.f38.body)) []).drop 20) (by kernel_rfl) (fun K => ?_)
  conv => arg 2; whnf
  go_wp2
  go_end0
  exact ⟨rfl, ⟨_, _, h2⟩, k1⟩

set_option maxRecDepth 100000 in
theorem do_probe (base M : Nat) (w : World) (vs vo : Value) (σ : St) (n : Int) (hm : σ.stack.length ≤ 32) (hT : Tab w) (h : MS base M w vs vo σ) :
    Calls Tryd.prog 38 #[.pointer (some ⟨M, 0, none⟩), .int .u8 20, .int .u16 n] w (Out base M w σ) := by
  have hft := field_takes
  go_enter Tryd.func38, Tryd.ntmps38
  refine opaque2 (behind2 Tryd.f38.body) (by kernel_rfl) ?_
  go_wp2_with fail
  refine (shape20 _ hT).mono ?_
  rintro e w1 ⟨rfl, c, rfl⟩
  go_wp2_with fail
  refine (take_zero base M _ vs vo σ (by omega) (h.alloc _)).mono ?_
  rintro e w2 ⟨rfl, ⟨vs2, h2⟩, k2⟩
  have k1 := (Kept.alloc (M := M) w h.le (.cells c 66)).trans k2
  clear k2
  go_wp2_with fail
  refine sw_wp _ (fun _ _ _ c => c) _ _ _ _ 20 (by omega) (by omega) (fun Q' hQ' => tests_20 _ _ _ _ _ _ _ _ _ _ _ _ _ _ _ _ _ Q' hQ') ?_
  refine runs_at (c := (casesOf 20 (inBlock0 (behind2 Tryd.f38.body)) []).getD 19 .skip) (rest := (casesOf 20 (inBlock0 (behind2 Tryd.f38.body)) []).drop 20) (by kernel_rfl) (fun K => ?_)
  conv => arg 2; whnf
  go_wp2
  go_end0
  exact ⟨rfl, ⟨_, _, h2⟩, k1⟩

end Go.Proofs.YtebnlafjepfkdaaDoor
