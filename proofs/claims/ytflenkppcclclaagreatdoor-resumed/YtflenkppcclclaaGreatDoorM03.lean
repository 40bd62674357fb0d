import Derived.Test.YtflenkppcclclaaGreatDoorM01
import Derived.Test.YtflenkppcclclaaGreatDoorM02
namespace Go.Proofs.YtflenkppcclclaaGreatDoor
open Go.RowKit

def Out (base M : Nat) (w : World) (σ' : St) (e : Ending) (w' : World) : Prop := e = .returned (.tuple #[]) ∧ (∃ vs vo, MS base M w' vs vo σ') ∧ Kept base M w w'

theorem take2 (base M : Nat) (w : World) (vs vo : Value) (σ : St) (l : List Int) (a b : Int) (hs : σ.stack = l ++ [a, b]) (hm : l.length < 32) (h : MS base M w vs vo σ) :
    Calls Tryz.prog 171 #[.pointer (some ⟨M, 0, none⟩), .int .i64 2] w fun e w' => e = .returned (.tuple #[.int .u16 a, .int .u16 b]) ∧ (∃ vs', MS base M w' vs' vo { σ with stack := l }) ∧ Kept base M w w' := by
  have := take_two base M w vs vo σ l.length (by simp [hs]) hm h
  simpa [hs] using this
theorem take1 (base M : Nat) (w : World) (vs vo : Value) (σ : St) (l : List Int) (a : Int) (hs : σ.stack = l ++ [a]) (hm : l.length < 32) (h : MS base M w vs vo σ) :
    Calls Tryz.prog 171 #[.pointer (some ⟨M, 0, none⟩), .int .i64 1] w fun e w' => e = .returned (.tuple #[.int .u16 a, .int .u16 0]) ∧ (∃ vs', MS base M w' vs' vo { σ with stack := l }) ∧ Kept base M w w' := by
  have := take_one base M w vs vo σ l.length (by simp [hs]) hm h
  simpa [hs] using this

theorem field_size (s t l : Int) (w : World) : (Instr.field 179 (.agg #[.int .i64 s, .int .i64 t, .int .i64 l]) 0).run Tryz.prog w = .ok (.int .i64 s) w := by kernel_rfl
theorem field_takes (s t l : Int) (w : World) : (Instr.field 179 (.agg #[.int .i64 s, .int .i64 t, .int .i64 l]) 1).run Tryz.prog w = .ok (.int .i64 t) w := by kernel_rfl

theorem shape0 (w : World) (hT : Tab w) : Calls Tryz.prog 129 #[.int .u8 0] w fun e w' => e = .returned (.agg #[.int .i64 1, .int .i64 0, .int .i64 0]) ∧ ∃ c, w' = w.alloc (.cells c 179) := shapeOf_any 0 (by omega) w hT
theorem shape1 (w : World) (hT : Tab w) : Calls Tryz.prog 129 #[.int .u8 1] w fun e w' => e = .returned (.agg #[.int .i64 2, .int .i64 0, .int .i64 1]) ∧ ∃ c, w' = w.alloc (.cells c 179) := shapeOf_any 1 (by omega) w hT
theorem shape2 (w : World) (hT : Tab w) : Calls Tryz.prog 129 #[.int .u8 2] w fun e w' => e = .returned (.agg #[.int .i64 1, .int .i64 0, .int .i64 1]) ∧ ∃ c, w' = w.alloc (.cells c 179) := shapeOf_any 2 (by omega) w hT
theorem shape3 (w : World) (hT : Tab w) : Calls Tryz.prog 129 #[.int .u8 3] w fun e w' => e = .returned (.agg #[.int .i64 1, .int .i64 1, .int .i64 2]) ∧ ∃ c, w' = w.alloc (.cells c 179) := shapeOf_any 3 (by omega) w hT
theorem shape4 (w : World) (hT : Tab w) : Calls Tryz.prog 129 #[.int .u8 4] w fun e w' => e = .returned (.agg #[.int .i64 1, .int .i64 1, .int .i64 0]) ∧ ∃ c, w' = w.alloc (.cells c 179) := shapeOf_any 4 (by omega) w hT
theorem shape5 (w : World) (hT : Tab w) : Calls Tryz.prog 129 #[.int .u8 5] w fun e w' => e = .returned (.agg #[.int .i64 1, .int .i64 2, .int .i64 2]) ∧ ∃ c, w' = w.alloc (.cells c 179) := shapeOf_any 5 (by omega) w hT
theorem shape6 (w : World) (hT : Tab w) : Calls Tryz.prog 129 #[.int .u8 6] w fun e w' => e = .returned (.agg #[.int .i64 1, .int .i64 2, .int .i64 1]) ∧ ∃ c, w' = w.alloc (.cells c 179) := shapeOf_any 6 (by omega) w hT
theorem shape7 (w : World) (hT : Tab w) : Calls Tryz.prog 129 #[.int .u8 7] w fun e w' => e = .returned (.agg #[.int .i64 1, .int .i64 2, .int .i64 1]) ∧ ∃ c, w' = w.alloc (.cells c 179) := shapeOf_any 7 (by omega) w hT
theorem shape8 (w : World) (hT : Tab w) : Calls Tryz.prog 129 #[.int .u8 8] w fun e w' => e = .returned (.agg #[.int .i64 1, .int .i64 2, .int .i64 1]) ∧ ∃ c, w' = w.alloc (.cells c 179) := shapeOf_any 8 (by omega) w hT
theorem shape9 (w : World) (hT : Tab w) : Calls Tryz.prog 129 #[.int .u8 9] w fun e w' => e = .returned (.agg #[.int .i64 1, .int .i64 2, .int .i64 1]) ∧ ∃ c, w' = w.alloc (.cells c 179) := shapeOf_any 9 (by omega) w hT
theorem shape10 (w : World) (hT : Tab w) : Calls Tryz.prog 129 #[.int .u8 10] w fun e w' => e = .returned (.agg #[.int .i64 1, .int .i64 2, .int .i64 1]) ∧ ∃ c, w' = w.alloc (.cells c 179) := shapeOf_any 10 (by omega) w hT
theorem shape11 (w : World) (hT : Tab w) : Calls Tryz.prog 129 #[.int .u8 11] w fun e w' => e = .returned (.agg #[.int .i64 1, .int .i64 2, .int .i64 1]) ∧ ∃ c, w' = w.alloc (.cells c 179) := shapeOf_any 11 (by omega) w hT
theorem shape12 (w : World) (hT : Tab w) : Calls Tryz.prog 129 #[.int .u8 12] w fun e w' => e = .returned (.agg #[.int .i64 1, .int .i64 2, .int .i64 1]) ∧ ∃ c, w' = w.alloc (.cells c 179) := shapeOf_any 12 (by omega) w hT
theorem shape13 (w : World) (hT : Tab w) : Calls Tryz.prog 129 #[.int .u8 13] w fun e w' => e = .returned (.agg #[.int .i64 1, .int .i64 2, .int .i64 1]) ∧ ∃ c, w' = w.alloc (.cells c 179) := shapeOf_any 13 (by omega) w hT
theorem shape14 (w : World) (hT : Tab w) : Calls Tryz.prog 129 #[.int .u8 14] w fun e w' => e = .returned (.agg #[.int .i64 2, .int .i64 0, .int .i64 0]) ∧ ∃ c, w' = w.alloc (.cells c 179) := shapeOf_any 14 (by omega) w hT
theorem shape15 (w : World) (hT : Tab w) : Calls Tryz.prog 129 #[.int .u8 15] w fun e w' => e = .returned (.agg #[.int .i64 2, .int .i64 1, .int .i64 0]) ∧ ∃ c, w' = w.alloc (.cells c 179) := shapeOf_any 15 (by omega) w hT
theorem shape16 (w : World) (hT : Tab w) : Calls Tryz.prog 129 #[.int .u8 16] w fun e w' => e = .returned (.agg #[.int .i64 2, .int .i64 0, .int .i64 1]) ∧ ∃ c, w' = w.alloc (.cells c 179) := shapeOf_any 16 (by omega) w hT
theorem shape17 (w : World) (hT : Tab w) : Calls Tryz.prog 129 #[.int .u8 17] w fun e w' => e = .returned (.agg #[.int .i64 2, .int .i64 1, .int .i64 0]) ∧ ∃ c, w' = w.alloc (.cells c 179) := shapeOf_any 17 (by omega) w hT
theorem shape18 (w : World) (hT : Tab w) : Calls Tryz.prog 129 #[.int .u8 18] w fun e w' => e = .returned (.agg #[.int .i64 1, .int .i64 1, .int .i64 0]) ∧ ∃ c, w' = w.alloc (.cells c 179) := shapeOf_any 18 (by omega) w hT
theorem shape19 (w : World) (hT : Tab w) : Calls Tryz.prog 129 #[.int .u8 19] w fun e w' => e = .returned (.agg #[.int .i64 2, .int .i64 0, .int .i64 0]) ∧ ∃ c, w' = w.alloc (.cells c 179) := shapeOf_any 19 (by omega) w hT
theorem shape20 (w : World) (hT : Tab w) : Calls Tryz.prog 129 #[.int .u8 20] w fun e w' => e = .returned (.agg #[.int .i64 2, .int .i64 0, .int .i64 0]) ∧ ∃ c, w' = w.alloc (.cells c 179) := shapeOf_any 20 (by omega) w hT

theorem opaque2 {P : Program} {x y z : Code} {Q : Exit → Act → World → Prop} {a : Act} {w : World} (Z : Code) (hz : Z = z) (h : (Code.seq x (.seq y Z)).wp P Q a w) : (Code.seq x (.seq y z)).wp P Q a w := hz ▸ h
theorem runs_at {P : Program} {Q : Exit → Act → World → Prop} {l rest : List Code} {c : Code} {a : Act} {w : World} (he : l = c :: rest) (h : ∀ K : Act → World → Prop, c.wp P (Exit.then K Q) a w) : runs P Q l a w := by subst he; exact h _
theorem runs_at2 {P : Program} {Q : Exit → Act → World → Prop} {l rest : List Code} {c d : Code} {a : Act} {w : World} (he : l = c :: d :: rest)
    (h : ∀ K : Act → World → Prop, (∀ a w, (∀ K' : Act → World → Prop, d.wp P (Exit.then K' Q) a w) → K a w) → c.wp P (Exit.then K Q) a w) : runs P Q l a w := by
  subst he
  exact h _ (fun a w h2 => h2 _)


theorem cell_pair_new (w : World) (x y : Value) (t : TypeId) : ∀ j u, [x, y][j]? = some u → (w.alloc (.cells #[x, y] t)).cell? ((⟨w.heap.size, 0, none⟩ : Addr).add j) = some u := by
  intro j u hj
  match j, hj with
  | 0, hj => simp at hj; subst hj; simp [Addr.add]
  | 1, hj => simp at hj; subst hj; simp [Addr.add]

def tru (b : Bool) : Int := if b then 1 else 0
theorem truth_tru (b : Bool) (w : World) : Calls Tryz.prog 174 #[.bool b] w fun e w' => e = .returned (.int .u16 (tru b)) ∧ w' = w := truth_any b w

end Go.Proofs.YtflenkppcclclaaGreatDoor

namespace Go.Proofs.YtflenkppcclclaaGreatDoor
open Go.RowKit

set_option maxRecDepth 100000 in
theorem do_stop (base M : Nat) (w : World) (vs vo : Value) (σ : St) (n : Int) (hm : σ.stack.length ≤ 32) (hT : Tab w) (h : MS base M w vs vo σ) :
    Calls Tryz.prog 132 #[.pointer (some ⟨M, 0, none⟩), .int .u8 0, .int .u16 n] w (Out base M w (fin σ 0 0)) := by
  have hft := field_takes
  go_enter Tryz.func132, Tryz.ntmps132
  refine opaque2 (behind2 Tryz.f132.body) (by kernel_rfl) ?_
  go_wp2_with fail
  refine (shape0 _ hT).mono ?_
  rintro e w1 ⟨rfl, c, rfl⟩
  go_wp2_with fail
  refine (take_zero base M _ vs vo σ (by omega) (h.alloc _)).mono ?_
  rintro e w2 ⟨rfl, ⟨vs2, h2⟩, k2⟩
  have k1 := (Kept.alloc (M := M) w h.le (.cells c 179)).trans k2
  clear k2
  go_wp2_with fail
  refine sw_wp _ (fun _ _ _ c => c) _ _ _ _ 1 (by omega) (by omega) (fun Q' hQ' => tests_0 _ _ _ _ _ _ _ _ _ _ _ _ _ _ _ _ _ Q' hQ') ?_
  refine runs_at (c := (casesOf 20 (inBlock0 (behind2 Tryz.f132.body)) []).getD 0 .skip) (rest := (casesOf 20 (inBlock0 (behind2 Tryz.f132.body)) []).drop 1) (by kernel_rfl) (fun K => ?_)
  conv => arg 2; whnf
  go_wp2_with fail
  refine (end_any base M _ vs2 vo _ 0 0 h2).mono ?_
  rintro e w3 ⟨rfl, h3, k3⟩
  go_wp2
  go_end0
  exact ⟨rfl, ⟨_, _, h3⟩, k1.trans k3⟩

set_option maxRecDepth 100000 in
theorem do_fail (base M : Nat) (w : World) (vs vo : Value) (σ : St) (n : Int) (hm : σ.stack.length ≤ 32) (hn : 0 ≤ n) (hn' : n ≤ 65535) (hT : Tab w) (h : MS base M w vs vo σ) :
    Calls Tryz.prog 132 #[.pointer (some ⟨M, 0, none⟩), .int .u8 19, .int .u16 n] w (Out base M w (fin σ 1 (16 + n))) := by
  have hft := field_takes
  go_enter Tryz.func132, Tryz.ntmps132
  refine opaque2 (behind2 Tryz.f132.body) (by kernel_rfl) ?_
  go_wp2_with fail
  refine (shape19 _ hT).mono ?_
  rintro e w1 ⟨rfl, c, rfl⟩
  go_wp2_with fail
  refine (take_zero base M _ vs vo σ (by omega) (h.alloc _)).mono ?_
  rintro e w2 ⟨rfl, ⟨vs2, h2⟩, k2⟩
  have k1 := (Kept.alloc (M := M) w h.le (.cells c 179)).trans k2
  clear k2
  go_wp2_with fail
  refine sw_wp _ (fun _ _ _ c => c) _ _ _ _ 2 (by omega) (by omega) (fun Q' hQ' => tests_19 _ _ _ _ _ _ _ _ _ _ _ _ _ _ _ _ _ Q' hQ') ?_
  refine runs_at (c := (casesOf 20 (inBlock0 (behind2 Tryz.f132.body)) []).getD 1 .skip) (rest := (casesOf 20 (inBlock0 (behind2 Tryz.f132.body)) []).drop 2) (by kernel_rfl) (fun K => ?_)
  conv => arg 2; whnf
  go_wp2_with fail
  refine (end_any base M _ vs2 vo _ 1 (16 + n) h2).mono ?_
  rintro e w3 ⟨rfl, h3, k3⟩
  go_wp2
  go_end0
  exact ⟨rfl, ⟨_, _, h3⟩, k1.trans k3⟩

set_option maxRecDepth 100000 in
theorem do_read_none (base M : Nat) (w : World) (vs vo : Value) (σ : St) (n : Int) (hm : σ.stack.length < 32) (he : σ.input.size = 0) (hT : Tab w) (h : MS base M w vs vo σ) :
    Calls Tryz.prog 132 #[.pointer (some ⟨M, 0, none⟩), .int .u8 2, .int .u16 n] w (Out base M w { σ with stack := σ.stack ++ [256] }) := by
  have hft := field_takes
  go_enter Tryz.func132, Tryz.ntmps132
  refine opaque2 (behind2 Tryz.f132.body) (by kernel_rfl) ?_
  go_wp2_with fail
  refine (shape2 _ hT).mono ?_
  rintro e w1 ⟨rfl, c, rfl⟩
  go_wp2_with fail
  refine (take_zero base M _ vs vo σ (by omega) (h.alloc _)).mono ?_
  rintro e w2 ⟨rfl, ⟨vs2, h2⟩, k2⟩
  have k1 := (Kept.alloc (M := M) w h.le (.cells c 179)).trans k2
  clear k2
  go_wp2_with fail
  refine sw_wp _ (fun _ _ _ c => c) _ _ _ _ 3 (by omega) (by omega) (fun Q' hQ' => tests_2 _ _ _ _ _ _ _ _ _ _ _ _ _ _ _ _ _ Q' hQ') ?_
  refine runs_at2 (c := (casesOf 20 (inBlock0 (behind2 Tryz.f132.body)) []).getD 2 .skip) (d := (casesOf 20 (inBlock0 (behind2 Tryz.f132.body)) []).getD 3 .skip) (rest := (casesOf 20 (inBlock0 (behind2 Tryz.f132.body)) []).drop 4) (by kernel_rfl) (fun K hK => ?_)
  conv => arg 2; whnf
  go_wp2_with fail
  refine (read_none base M _ vs2 vo σ h2 he).mono ?_
  rintro e w3 ⟨rfl, rfl⟩
  go_wp2_with fail
  intro K'
  conv => arg 2; whnf
  go_wp2_with fail
  refine (lay_any base M _ vs2 vo _ ⟨w3.heap.size, 0, none⟩ 1 1 [_] (h2.alloc _) (by omega) rfl (cell_one_new _ _ _) (by simp; omega)).mono ?_
  rintro e w4 ⟨rfl, ⟨vs3, h3⟩, k3⟩
  have k4 := k1.trans ((Kept.alloc (M := M) w3 h2.le _).trans k3)
  go_wp2
  go_end0
  exact ⟨rfl, ⟨_, _, h3⟩, k4⟩

set_option maxRecDepth 100000 in
theorem do_read_some (base M : Nat) (w : World) (vs vo : Value) (σ : St) (n : Int) (hm : σ.stack.length < 32) (hi : σ.input.size ≤ 24) (he : 0 < σ.input.size) (hT : Tab w) (h : MS base M w vs vo σ) :
    Calls Tryz.prog 132 #[.pointer (some ⟨M, 0, none⟩), .int .u8 2, .int .u16 n] w (Out base M w { σ with input := σ.input.extract 1 σ.input.size, stack := σ.stack ++ [((σ.input[0]'he).toNat : Int)] }) := by
  have hft := field_takes
  go_enter Tryz.func132, Tryz.ntmps132
  refine opaque2 (behind2 Tryz.f132.body) (by kernel_rfl) ?_
  go_wp2_with fail
  refine (shape2 _ hT).mono ?_
  rintro e w1 ⟨rfl, c, rfl⟩
  go_wp2_with fail
  refine (take_zero base M _ vs vo σ (by omega) (h.alloc _)).mono ?_
  rintro e w2 ⟨rfl, ⟨vs2, h2⟩, k2⟩
  have k1 := (Kept.alloc (M := M) w h.le (.cells c 179)).trans k2
  clear k2
  go_wp2_with fail
  refine sw_wp _ (fun _ _ _ c => c) _ _ _ _ 3 (by omega) (by omega) (fun Q' hQ' => tests_2 _ _ _ _ _ _ _ _ _ _ _ _ _ _ _ _ _ Q' hQ') ?_
  refine runs_at2 (c := (casesOf 20 (inBlock0 (behind2 Tryz.f132.body)) []).getD 2 .skip) (d := (casesOf 20 (inBlock0 (behind2 Tryz.f132.body)) []).getD 3 .skip) (rest := (casesOf 20 (inBlock0 (behind2 Tryz.f132.body)) []).drop 4) (by kernel_rfl) (fun K hK => ?_)
  conv => arg 2; whnf
  go_wp2_with fail
  refine (read_some base M _ vs2 vo σ h2 hi he).mono ?_
  rintro e w3 ⟨rfl, h2', k2'⟩
  have k1' := k1.trans k2'
  clear k1 k2'
  go_wp2_with fail
  intro K'
  conv => arg 2; whnf
  go_wp2_with fail
  refine (lay_any base M _ vs2 vo _ ⟨w3.heap.size, 0, none⟩ 1 1 [_] (h2'.alloc _) (by omega) rfl (cell_one_new _ _ _) (by simp; omega)).mono ?_
  rintro e w4 ⟨rfl, ⟨vs3, h3⟩, k3⟩
  have k4 := k1'.trans ((Kept.alloc (M := M) w3 h2'.le _).trans k3)
  go_wp2
  go_end0
  exact ⟨rfl, ⟨_, _, h3⟩, k4⟩

set_option maxRecDepth 100000 in
theorem do_push (base M : Nat) (w : World) (vs vo : Value) (σ : St) (n : Int) (hm : σ.stack.length < 32) (hT : Tab w) (h : MS base M w vs vo σ) :
    Calls Tryz.prog 132 #[.pointer (some ⟨M, 0, none⟩), .int .u8 1, .int .u16 n] w (Out base M w { σ with stack := σ.stack ++ [n] }) := by
  have hft := field_takes
  go_enter Tryz.func132, Tryz.ntmps132
  refine opaque2 (behind2 Tryz.f132.body) (by kernel_rfl) ?_
  go_wp2_with fail
  refine (shape1 _ hT).mono ?_
  rintro e w1 ⟨rfl, c, rfl⟩
  go_wp2_with fail
  refine (take_zero base M _ vs vo σ (by omega) (h.alloc _)).mono ?_
  rintro e w2 ⟨rfl, ⟨vs2, h2⟩, k2⟩
  have k1 := (Kept.alloc (M := M) w h.le (.cells c 179)).trans k2
  clear k2
  go_wp2_with fail
  refine sw_wp _ (fun _ _ _ c => c) _ _ _ _ 4 (by omega) (by omega) (fun Q' hQ' => tests_1 _ _ _ _ _ _ _ _ _ _ _ _ _ _ _ _ _ Q' hQ') ?_
  refine runs_at (c := (casesOf 20 (inBlock0 (behind2 Tryz.f132.body)) []).getD 3 .skip) (rest := (casesOf 20 (inBlock0 (behind2 Tryz.f132.body)) []).drop 4) (by kernel_rfl) (fun K => ?_)
  conv => arg 2; whnf
  go_wp2_with fail
  refine (lay_any base M _ vs2 vo _ ⟨w2.heap.size, 0, none⟩ 1 1 [_] (h2.alloc _) (by omega) rfl (cell_one_new _ _ _) (by simp; omega)).mono ?_
  rintro e w3 ⟨rfl, ⟨vs3, h3⟩, k3⟩
  have k4 := k1.trans ((Kept.alloc (M := M) w2 h2.le _).trans k3)
  go_wp2
  go_end0
  exact ⟨rfl, ⟨_, _, h3⟩, k4⟩

end Go.Proofs.YtflenkppcclclaaGreatDoor

namespace Go.Proofs.YtflenkppcclclaaGreatDoor
open Go.RowKit

set_option maxRecDepth 100000 in
theorem do_dup (base M : Nat) (w : World) (vs vo : Value) (σ : St) (n : Int) (l : List Int) (a : Int) (hs : σ.stack = l ++ [a]) (hm : l.length < 31) (hT : Tab w) (h : MS base M w vs vo σ) :
    Calls Tryz.prog 132 #[.pointer (some ⟨M, 0, none⟩), .int .u8 3, .int .u16 n] w (Out base M w { σ with stack := l ++ [a, a] }) := by
  have hft := field_takes
  go_enter Tryz.func132, Tryz.ntmps132
  refine opaque2 (behind2 Tryz.f132.body) (by kernel_rfl) ?_
  go_wp2_with fail
  refine (shape3 _ hT).mono ?_
  rintro e w1 ⟨rfl, c, rfl⟩
  go_wp2_with fail
  refine (take1 base M _ vs vo σ l a hs (by omega) (h.alloc _)).mono ?_
  rintro e w2 ⟨rfl, ⟨vs2, h2⟩, k2⟩
  have k1 := (Kept.alloc (M := M) w h.le (.cells c 179)).trans k2
  clear k2
  go_wp2_with fail
  refine sw_wp _ (fun _ _ _ c => c) _ _ _ _ 5 (by omega) (by omega) (fun Q' hQ' => tests_3 _ _ _ _ _ _ _ _ _ _ _ _ _ _ _ _ _ Q' hQ') ?_
  refine runs_at2 (c := (casesOf 20 (inBlock0 (behind2 Tryz.f132.body)) []).getD 4 .skip) (d := (casesOf 20 (inBlock0 (behind2 Tryz.f132.body)) []).getD 5 .skip) (rest := (casesOf 20 (inBlock0 (behind2 Tryz.f132.body)) []).drop 6) (by kernel_rfl) (fun K hK => ?_)
  conv => arg 2; whnf
  go_wp2_with fail
  intro K'
  conv => arg 2; whnf
  go_wp2_with fail
  refine (lay_any base M _ vs2 vo _ ⟨w2.heap.size, 0, none⟩ 2 2 [_, _] (h2.alloc _) (by omega) rfl (cell_pair_new _ _ _ _) (by simp; omega)).mono ?_
  rintro e w3 ⟨rfl, ⟨vs3, h3⟩, k3⟩
  have k4 := k1.trans ((Kept.alloc (M := M) w2 h2.le _).trans k3)
  go_wp2
  go_end0
  exact ⟨rfl, ⟨_, _, h3⟩, k4⟩

set_option maxRecDepth 100000 in
theorem do_swap (base M : Nat) (w : World) (vs vo : Value) (σ : St) (n : Int) (l : List Int) (a b : Int) (hs : σ.stack = l ++ [a, b]) (hm : l.length < 31) (hT : Tab w) (h : MS base M w vs vo σ) :
    Calls Tryz.prog 132 #[.pointer (some ⟨M, 0, none⟩), .int .u8 5, .int .u16 n] w (Out base M w { σ with stack := l ++ [b, a] }) := by
  have hft := field_takes
  go_enter Tryz.func132, Tryz.ntmps132
  refine opaque2 (behind2 Tryz.f132.body) (by kernel_rfl) ?_
  go_wp2_with fail
  refine (shape5 _ hT).mono ?_
  rintro e w1 ⟨rfl, c, rfl⟩
  go_wp2_with fail
  refine (take2 base M _ vs vo σ l a b hs (by omega) (h.alloc _)).mono ?_
  rintro e w2 ⟨rfl, ⟨vs2, h2⟩, k2⟩
  have k1 := (Kept.alloc (M := M) w h.le (.cells c 179)).trans k2
  clear k2
  go_wp2_with fail
  refine sw_wp _ (fun _ _ _ c => c) _ _ _ _ 6 (by omega) (by omega) (fun Q' hQ' => tests_5 _ _ _ _ _ _ _ _ _ _ _ _ _ _ _ _ _ Q' hQ') ?_
  refine runs_at (c := (casesOf 20 (inBlock0 (behind2 Tryz.f132.body)) []).getD 5 .skip) (rest := (casesOf 20 (inBlock0 (behind2 Tryz.f132.body)) []).drop 6) (by kernel_rfl) (fun K => ?_)
  conv => arg 2; whnf
  go_wp2_with fail
  refine (lay_any base M _ vs2 vo _ ⟨w2.heap.size, 0, none⟩ 2 2 [_, _] (h2.alloc _) (by omega) rfl (cell_pair_new _ _ _ _) (by simp; omega)).mono ?_
  rintro e w3 ⟨rfl, ⟨vs3, h3⟩, k3⟩
  have k4 := k1.trans ((Kept.alloc (M := M) w2 h2.le _).trans k3)
  go_wp2
  go_end0
  exact ⟨rfl, ⟨_, _, h3⟩, k4⟩

set_option maxRecDepth 100000 in
theorem do_sub (base M : Nat) (w : World) (vs vo : Value) (σ : St) (n : Int) (l : List Int) (a b : Int) (hs : σ.stack = l ++ [a, b]) (hm : l.length < 31) (hT : Tab w) (h : MS base M w vs vo σ) :
    Calls Tryz.prog 132 #[.pointer (some ⟨M, 0, none⟩), .int .u8 7, .int .u16 n] w (Out base M w { σ with stack := l ++ [IntKind.u16.wrap (a + IntKind.u16.wrap (-b))] }) := by
  have hft := field_takes
  go_enter Tryz.func132, Tryz.ntmps132
  refine opaque2 (behind2 Tryz.f132.body) (by kernel_rfl) ?_
  go_wp2_with fail
  refine (shape7 _ hT).mono ?_
  rintro e w1 ⟨rfl, c, rfl⟩
  go_wp2_with fail
  refine (take2 base M _ vs vo σ l a b hs (by omega) (h.alloc _)).mono ?_
  rintro e w2 ⟨rfl, ⟨vs2, h2⟩, k2⟩
  have k1 := (Kept.alloc (M := M) w h.le (.cells c 179)).trans k2
  clear k2
  go_wp2_with fail
  refine sw_wp _ (fun _ _ _ c => c) _ _ _ _ 7 (by omega) (by omega) (fun Q' hQ' => tests_7 _ _ _ _ _ _ _ _ _ _ _ _ _ _ _ _ _ Q' hQ') ?_
  refine runs_at2 (c := (casesOf 20 (inBlock0 (behind2 Tryz.f132.body)) []).getD 6 .skip) (d := (casesOf 20 (inBlock0 (behind2 Tryz.f132.body)) []).getD 7 .skip) (rest := (casesOf 20 (inBlock0 (behind2 Tryz.f132.body)) []).drop 8) (by kernel_rfl) (fun K hK => ?_)
  conv => arg 2; whnf
  go_wp2_with fail
  intro K'
  conv => arg 2; whnf
  go_wp2_with fail
  refine (lay_any base M _ vs2 vo _ ⟨w2.heap.size, 0, none⟩ 1 1 [_] (h2.alloc _) (by omega) rfl (cell_one_new _ _ _) (by simp; omega)).mono ?_
  rintro e w3 ⟨rfl, ⟨vs3, h3⟩, k3⟩
  have k4 := k1.trans ((Kept.alloc (M := M) w2 h2.le _).trans k3)
  go_wp2
  go_end0
  exact ⟨rfl, ⟨_, _, h3⟩, k4⟩

set_option maxRecDepth 100000 in
theorem do_add (base M : Nat) (w : World) (vs vo : Value) (σ : St) (n : Int) (l : List Int) (a b : Int) (hs : σ.stack = l ++ [a, b]) (hm : l.length < 31) (hT : Tab w) (h : MS base M w vs vo σ) :
    Calls Tryz.prog 132 #[.pointer (some ⟨M, 0, none⟩), .int .u8 6, .int .u16 n] w (Out base M w { σ with stack := l ++ [IntKind.u16.wrap (a + b)] }) := by
  have hft := field_takes
  go_enter Tryz.func132, Tryz.ntmps132
  refine opaque2 (behind2 Tryz.f132.body) (by kernel_rfl) ?_
  go_wp2_with fail
  refine (shape6 _ hT).mono ?_
  rintro e w1 ⟨rfl, c, rfl⟩
  go_wp2_with fail
  refine (take2 base M _ vs vo σ l a b hs (by omega) (h.alloc _)).mono ?_
  rintro e w2 ⟨rfl, ⟨vs2, h2⟩, k2⟩
  have k1 := (Kept.alloc (M := M) w h.le (.cells c 179)).trans k2
  clear k2
  go_wp2_with fail
  refine sw_wp _ (fun _ _ _ c => c) _ _ _ _ 8 (by omega) (by omega) (fun Q' hQ' => tests_6 _ _ _ _ _ _ _ _ _ _ _ _ _ _ _ _ _ Q' hQ') ?_
  refine runs_at (c := (casesOf 20 (inBlock0 (behind2 Tryz.f132.body)) []).getD 7 .skip) (rest := (casesOf 20 (inBlock0 (behind2 Tryz.f132.body)) []).drop 8) (by kernel_rfl) (fun K => ?_)
  conv => arg 2; whnf
  go_wp2_with fail
  refine (lay_any base M _ vs2 vo _ ⟨w2.heap.size, 0, none⟩ 1 1 [_] (h2.alloc _) (by omega) rfl (cell_one_new _ _ _) (by simp; omega)).mono ?_
  rintro e w3 ⟨rfl, ⟨vs3, h3⟩, k3⟩
  have k4 := k1.trans ((Kept.alloc (M := M) w2 h2.le _).trans k3)
  go_wp2
  go_end0
  exact ⟨rfl, ⟨_, _, h3⟩, k4⟩

set_option maxRecDepth 100000 in
theorem do_mul (base M : Nat) (w : World) (vs vo : Value) (σ : St) (n : Int) (l : List Int) (a b : Int) (hs : σ.stack = l ++ [a, b]) (hm : l.length < 31) (hT : Tab w) (h : MS base M w vs vo σ) :
    Calls Tryz.prog 132 #[.pointer (some ⟨M, 0, none⟩), .int .u8 8, .int .u16 n] w (Out base M w { σ with stack := l ++ [IntKind.u16.wrap (a * b)] }) := by
  have hft := field_takes
  go_enter Tryz.func132, Tryz.ntmps132
  refine opaque2 (behind2 Tryz.f132.body) (by kernel_rfl) ?_
  go_wp2_with fail
  refine (shape8 _ hT).mono ?_
  rintro e w1 ⟨rfl, c, rfl⟩
  go_wp2_with fail
  refine (take2 base M _ vs vo σ l a b hs (by omega) (h.alloc _)).mono ?_
  rintro e w2 ⟨rfl, ⟨vs2, h2⟩, k2⟩
  have k1 := (Kept.alloc (M := M) w h.le (.cells c 179)).trans k2
  clear k2
  go_wp2_with fail
  refine sw_wp _ (fun _ _ _ c => c) _ _ _ _ 9 (by omega) (by omega) (fun Q' hQ' => tests_8 _ _ _ _ _ _ _ _ _ _ _ _ _ _ _ _ _ Q' hQ') ?_
  refine runs_at (c := (casesOf 20 (inBlock0 (behind2 Tryz.f132.body)) []).getD 8 .skip) (rest := (casesOf 20 (inBlock0 (behind2 Tryz.f132.body)) []).drop 9) (by kernel_rfl) (fun K => ?_)
  conv => arg 2; whnf
  go_wp2_with fail
  refine (lay_any base M _ vs2 vo _ ⟨w2.heap.size, 0, none⟩ 1 1 [_] (h2.alloc _) (by omega) rfl (cell_one_new _ _ _) (by simp; omega)).mono ?_
  rintro e w3 ⟨rfl, ⟨vs3, h3⟩, k3⟩
  have k4 := k1.trans ((Kept.alloc (M := M) w2 h2.le _).trans k3)
  go_wp2
  go_end0
  exact ⟨rfl, ⟨_, _, h3⟩, k4⟩

end Go.Proofs.YtflenkppcclclaaGreatDoor

