import Derived.Test.YtflenkppcclclaaGreatDoorM16
namespace Go.Proofs.YtflenkppcclclaaGreatDoor
open Go.RowKit

/-- What two numbers make, by the document. -/
def wk (x a b : Int) : Int :=
  if x = 6 then (a + b) % 65536 else if x = 7 then (a + 65536 - b) % 65536 else if x = 8 then a * b % 65536 else if x = 9 then bits .and .i64 a b else if x = 10 then bits .xor .i64 a b else if x = 11 then a.tdiv b else if x = 12 ∧ a = b ∨ x = 13 ∧ a < b then 1 else 0

set_option maxHeartbeats 1000000 in
theorem rworked_add (a b : Int) (w : World) (a0 : 0 ≤ a) (a1 : a ≤ 65535) (b0 : 0 ≤ b) (b1 : b ≤ 65535) :
    Calls Tryz.prog 239 #[.int .u8 6, .int .i64 a, .int .i64 b] w fun e w' => e = .returned (.int .i64 (wk 6 a b)) ∧ w' = w := by
  have e : wk 6 a b = (a + b) % 65536 := rfl
  rw [e]
  go_enter Tryz.func239, Tryz.ntmps239
  go_wp2
  go_ret
  exact ⟨by first | rfl | (simp; omega), rfl⟩
set_option maxHeartbeats 1000000 in
theorem rworked_sub (a b : Int) (w : World) (a0 : 0 ≤ a) (a1 : a ≤ 65535) (b0 : 0 ≤ b) (b1 : b ≤ 65535) :
    Calls Tryz.prog 239 #[.int .u8 7, .int .i64 a, .int .i64 b] w fun e w' => e = .returned (.int .i64 (wk 7 a b)) ∧ w' = w := by
  have e : wk 7 a b = (a + 65536 - b) % 65536 := rfl
  rw [e]
  go_enter Tryz.func239, Tryz.ntmps239
  go_wp2
  go_ret
  exact ⟨by first | rfl | (simp; omega), rfl⟩
set_option maxHeartbeats 1000000 in
theorem rworked_mul (a b : Int) (w : World) (a0 : 0 ≤ a) (a1 : a ≤ 65535) (b0 : 0 ≤ b) (b1 : b ≤ 65535) :
    Calls Tryz.prog 239 #[.int .u8 8, .int .i64 a, .int .i64 b] w fun e w' => e = .returned (.int .i64 (wk 8 a b)) ∧ w' = w := by
  have e : wk 8 a b = a * b % 65536 := rfl
  have m0 : 0 ≤ a * b := Int.mul_nonneg a0 b0
  have m1 : a * b ≤ 65535 * 65535 := Int.mul_le_mul a1 b1 b0 (by omega)
  rw [e]
  go_enter Tryz.func239, Tryz.ntmps239
  go_wp2
  go_ret
  exact ⟨by first | rfl | (simp; omega), rfl⟩
set_option maxHeartbeats 1000000 in
theorem rworked_and (a b : Int) (w : World) : Calls Tryz.prog 239 #[.int .u8 9, .int .i64 a, .int .i64 b] w fun e w' => e = .returned (.int .i64 (wk 9 a b)) ∧ w' = w := by
  have e : wk 9 a b = bits .and .i64 a b := rfl
  rw [e]
  go_enter Tryz.func239, Tryz.ntmps239
  go_wp2
  go_ret
  exact ⟨rfl, rfl⟩
set_option maxHeartbeats 1000000 in
theorem rworked_xor (a b : Int) (w : World) : Calls Tryz.prog 239 #[.int .u8 10, .int .i64 a, .int .i64 b] w fun e w' => e = .returned (.int .i64 (wk 10 a b)) ∧ w' = w := by
  have e : wk 10 a b = bits .xor .i64 a b := rfl
  rw [e]
  go_enter Tryz.func239, Tryz.ntmps239
  go_wp2
  go_ret
  exact ⟨rfl, rfl⟩
set_option maxHeartbeats 1000000 in
theorem rworked_eq (a b : Int) (w : World) : Calls Tryz.prog 239 #[.int .u8 12, .int .i64 a, .int .i64 b] w fun e w' => e = .returned (.int .i64 (wk 12 a b)) ∧ w' = w := by
  have e : wk 12 a b = if a = b then 1 else 0 := by unfold wk; simp
  rw [e]
  cases h : (a == b) with
  | true =>
    rw [if_pos (by simpa using h)]
    go_enter Tryz.func239, Tryz.ntmps239
    go_wp2
    go_ret
    exact ⟨rfl, rfl⟩
  | false =>
    rw [if_neg (by simpa using h)]
    go_enter Tryz.func239, Tryz.ntmps239
    go_wp2
    go_ret
    exact ⟨rfl, rfl⟩
set_option maxHeartbeats 1000000 in
theorem rworked_lt (a b : Int) (w : World) : Calls Tryz.prog 239 #[.int .u8 13, .int .i64 a, .int .i64 b] w fun e w' => e = .returned (.int .i64 (wk 13 a b)) ∧ w' = w := by
  have e : wk 13 a b = if a < b then 1 else 0 := by unfold wk; simp
  rw [e]
  by_cases h : a < b
  · have d : decide (a < b) = true := by simpa using h
    rw [if_pos h]
    go_enter Tryz.func239, Tryz.ntmps239
    go_wp2
    go_ret
    exact ⟨rfl, rfl⟩
  · have d : decide (a < b) = false := by simpa using h
    rw [if_neg h]
    go_enter Tryz.func239, Tryz.ntmps239
    go_wp2
    go_ret
    exact ⟨rfl, rfl⟩
set_option maxHeartbeats 1000000 in
theorem rworked_div (a b : Int) (w : World) (a0 : 0 ≤ a) (a1 : a ≤ 65535) (b0 : 0 < b) (b1 : b ≤ 65535) :
    Calls Tryz.prog 239 #[.int .u8 11, .int .i64 a, .int .i64 b] w fun e w' => e = .returned (.int .i64 (wk 11 a b)) ∧ w' = w := by
  have e : wk 11 a b = a.tdiv b := rfl
  have hne : ¬ b = 0 := by omega
  have hne' : (b == 0) = false := by rw [beq_eq_false_iff_ne]; omega
  have q0 : 0 ≤ a.tdiv b := Int.tdiv_nonneg a0 (by omega)
  have q1 : a.tdiv b ≤ a := by rw [Int.tdiv_eq_ediv_of_nonneg a0]; exact Int.ediv_le_self b a0
  rw [e]
  go_enter Tryz.func239, Tryz.ntmps239
  go_wp2
  go_ret
  exact ⟨rfl, rfl⟩
end Go.Proofs.YtflenkppcclclaaGreatDoor

namespace Go.Proofs.YtflenkppcclclaaGreatDoor
open Go.RowKit

/-- What 'does' leaves. -/
def DoesIs (M : Nat) (w : World) (vc : Value) (inp : ByteArray) (ρ : RR) (e : Ending) (w' : World) : Prop :=
  e = .returned (.tuple #[]) ∧ (∃ vs', RMS M w' vc vs' inp ρ) ∧ Kept w.heap.size M w w'

set_option maxHeartbeats 1000000 in
theorem rdoes_push (M : Nat) (w : World) (vc vs : Value) (inp : ByteArray) (ρ : RR) (a b k : Int) (h : RMS M w vc vs inp ρ) (hM : M < w.heap.size) (hl : ρ.stack.length ≤ 32) :
    Calls Tryz.prog 230 #[.pointer (some ⟨M, 0, none⟩), .int .u8 1, .int .i64 a, .int .i64 b, .int .i64 k] w (DoesIs M w vc inp { ρ with stack := ρ.stack ++ [k] }) := by
  have hp := rpush_any M w vc vs inp ρ k h hM (by omega)
  have HP : Hid (Calls Tryz.prog 238 #[.pointer (some ⟨M, 0, none⟩), .int .i64 k] w fun e w' => e = .returned (.tuple #[]) ∧ (∃ vs', RMS M w' vc vs' inp { ρ with stack := ρ.stack ++ [k] }) ∧ Kept w.heap.size M w w') := hp
  clear hp h
  go_enter Tryz.func230, Tryz.ntmps230
  go_wp2_with (go_at_call 238; refine HP.out.mono ?_; rintro e w' ⟨rfl, R, K⟩)
  go_end0
  exact ⟨rfl, R, K⟩

theorem RMS.some_in {M : Nat} {w : World} {vc vs : Value} {inp : ByteArray} {ρ : RR} (h : RMS M w vc vs inp ρ) : M < w.heap.size := World.block_lt_of_cell? w ⟨M, 0, none⟩ (h.cell 0 (by omega))

set_option maxHeartbeats 1000000 in
theorem rdoes_none (M : Nat) (w : World) (vc vs : Value) (inp : ByteArray) (ρ : RR) (x a b k : Int) (h : RMS M w vc vs inp ρ) (hx : x = 4 ∨ x = 14 ∨ x = 15) :
    Calls Tryz.prog 230 #[.pointer (some ⟨M, 0, none⟩), .int .u8 x, .int .i64 a, .int .i64 b, .int .i64 k] w (DoesIs M w vc inp ρ) := by
  have R : Hid (∃ vs', RMS M w vc vs' inp ρ) := ⟨_, h⟩
  clear h
  rcases hx with rfl | rfl | rfl
  all_goals
    go_enter Tryz.func230, Tryz.ntmps230
    go_wp2_with fail
    go_end0
    exact ⟨rfl, R.out, Kept.refl _ _ _⟩

set_option maxHeartbeats 1000000 in
theorem rdoes_two (M : Nat) (w : World) (vc vs : Value) (inp : ByteArray) (ρ : RR) (x a b k : Int) (h : RMS M w vc vs inp ρ) (hM : M < w.heap.size) (hl : ρ.stack.length ≤ 32) (hx : x = 3 ∨ x = 5) :
    Calls Tryz.prog 230 #[.pointer (some ⟨M, 0, none⟩), .int .u8 x, .int .i64 a, .int .i64 b, .int .i64 k] w (DoesIs M w vc inp { ρ with stack := ρ.stack ++ [if x = 3 then a else b] ++ [a] }) := by
  have hp := rpush_any M w vc vs inp ρ (if x = 3 then a else b) h hM (by omega)
  have HP : Hid (Calls Tryz.prog 238 #[.pointer (some ⟨M, 0, none⟩), .int .i64 (if x = 3 then a else b)] w fun e w' => e = .returned (.tuple #[]) ∧ (∃ vs', RMS M w' vc vs' inp { ρ with stack := ρ.stack ++ [if x = 3 then a else b] }) ∧ Kept w.heap.size M w w') := hp
  have HQ : Hid (∀ w1 vs1, RMS M w1 vc vs1 inp { ρ with stack := ρ.stack ++ [if x = 3 then a else b] } → Calls Tryz.prog 238 #[.pointer (some ⟨M, 0, none⟩), .int .i64 a] w1 fun e w' => e = .returned (.tuple #[]) ∧ (∃ vs', RMS M w' vc vs' inp { ρ with stack := ρ.stack ++ [if x = 3 then a else b] ++ [a] }) ∧ Kept w1.heap.size M w1 w') := fun w1 vs1 h1 =>
    rpush_any M w1 vc vs1 inp _ a h1 h1.some_in (by simp; omega)
  clear hp h
  rcases hx with rfl | rfl
  · simp only [if_true] at HP HQ ⊢
    go_enter Tryz.func230, Tryz.ntmps230
    go_wp2_with (go_at_call 238; refine HP.out.mono ?_; rintro e w1 ⟨rfl, ⟨vs1, R1⟩, K1⟩; have HR1 : Hid (RMS M w1 vc vs1 inp { ρ with stack := ρ.stack ++ [a] }) := R1; clear R1 HP)
    go_wp2_with (go_at_call 238; refine (HQ.out _ _ HR1.out).mono ?_; rintro e w2 ⟨rfl, R2, K2⟩)
    go_end0
    exact ⟨rfl, R2, K1.trans ⟨K2.os, K2.tape, K2.output, K2.size, fun j hj hm => K2.block j (by have := K1.size; omega) hm⟩⟩
  · have e5 : (if (5 : Int) = 3 then a else b) = b := rfl
    rw [e5] at HP HQ ⊢
    go_enter Tryz.func230, Tryz.ntmps230
    go_wp2_with (go_at_call 238; refine HP.out.mono ?_; rintro e w1 ⟨rfl, ⟨vs1, R1⟩, K1⟩; have HR1 : Hid (RMS M w1 vc vs1 inp { ρ with stack := ρ.stack ++ [b] }) := R1; clear R1 HP)
    go_wp2_with (go_at_call 238; refine (HQ.out _ _ HR1.out).mono ?_; rintro e w2 ⟨rfl, R2, K2⟩)
    go_end0
    exact ⟨rfl, R2, K1.trans ⟨K2.os, K2.tape, K2.output, K2.size, fun j hj hm => K2.block j (by have := K1.size; omega) hm⟩⟩
end Go.Proofs.YtflenkppcclclaaGreatDoor

namespace Go.Proofs.YtflenkppcclclaaGreatDoor
open Go.RowKit

theorem rworked_any (x a b : Int) (w : World) (hx : 6 ≤ x ∧ x ≤ 13) (a0 : 0 ≤ a) (a1 : a ≤ 65535) (b0 : 0 ≤ b) (b1 : b ≤ 65535) (hd : x = 11 → 0 < b) :
    Calls Tryz.prog 239 #[.int .u8 x, .int .i64 a, .int .i64 b] w fun e w' => e = .returned (.int .i64 (wk x a b)) ∧ w' = w := by
  have : x = 6 ∨ x = 7 ∨ x = 8 ∨ x = 9 ∨ x = 10 ∨ x = 11 ∨ x = 12 ∨ x = 13 := by omega
  rcases this with rfl | rfl | rfl | rfl | rfl | rfl | rfl | rfl
  · exact rworked_add a b w a0 a1 b0 b1
  · exact rworked_sub a b w a0 a1 b0 b1
  · exact rworked_mul a b w a0 a1 b0 b1
  · exact rworked_and a b w
  · exact rworked_xor a b w
  · exact rworked_div a b w a0 a1 (hd rfl) b1
  · exact rworked_eq a b w
  · exact rworked_lt a b w

set_option maxHeartbeats 2000000 in
theorem rdoes_work (M : Nat) (w : World) (vc vs : Value) (inp : ByteArray) (ρ : RR) (x a b k : Int) (h : RMS M w vc vs inp ρ) (hM : M < w.heap.size) (hl : ρ.stack.length ≤ 32) (hx : 6 ≤ x ∧ x ≤ 13) (a0 : 0 ≤ a) (a1 : a ≤ 65535) (b0 : 0 ≤ b) (b1 : b ≤ 65535) (hd : x = 11 → 0 < b) :
    Calls Tryz.prog 230 #[.pointer (some ⟨M, 0, none⟩), .int .u8 x, .int .i64 a, .int .i64 b, .int .i64 k] w (DoesIs M w vc inp { ρ with stack := ρ.stack ++ [wk x a b] }) := by
  have hp := rpush_any M w vc vs inp ρ (wk x a b) h hM (by omega)
  have hw := rworked_any x a b w hx a0 a1 b0 b1 hd
  obtain ⟨r, hr⟩ : ∃ r, wk x a b = r := ⟨_, rfl⟩
  rw [hr] at hp hw ⊢
  have HP : Hid (Calls Tryz.prog 238 #[.pointer (some ⟨M, 0, none⟩), .int .i64 r] w fun e w' => e = .returned (.tuple #[]) ∧ (∃ vs', RMS M w' vc vs' inp { ρ with stack := ρ.stack ++ [r] }) ∧ Kept w.heap.size M w w') := hp
  have HW : Hid (Calls Tryz.prog 239 #[.int .u8 x, .int .i64 a, .int .i64 b] w fun e w' => e = .returned (.int .i64 r) ∧ w' = w) := hw
  clear hp h hw hr hd
  have : x = 6 ∨ x = 7 ∨ x = 8 ∨ x = 9 ∨ x = 10 ∨ x = 11 ∨ x = 12 ∨ x = 13 := by omega
  clear hx
  rcases this with rfl | rfl | rfl | rfl | rfl | rfl | rfl | rfl
  all_goals
    go_enter Tryz.func230, Tryz.ntmps230
    go_wp2_with (first | (go_at_call 239; refine HW.out.mono ?_; rintro e w1 ⟨rfl, rfl⟩) | (go_at_call 238; refine HP.out.mono ?_; rintro e w' ⟨rfl, R, K⟩))
    go_end0
    exact ⟨rfl, R, K⟩

set_option maxHeartbeats 1000000 in
theorem rdoes_load (M : Nat) (w : World) (vc vs : Value) (inp : ByteArray) (ρ : RR) (a b : Int) (k : Nat) (h : RMS M w vc vs inp ρ) (hM : M < w.heap.size) (hl : ρ.stack.length ≤ 32) (hk : k < 16) :
    Calls Tryz.prog 230 #[.pointer (some ⟨M, 0, none⟩), .int .u8 16, .int .i64 a, .int .i64 b, .int .i64 (k : Int)] w (DoesIs M w vc inp { ρ with stack := ρ.stack ++ [ρ.cells k] }) := by
  have hc := h.cell (4 + k) (by omega)
  have ec : rmval vc vs inp ρ (4 + k) = .int .i64 (ρ.cells k) := by
    unfold rmval
    rw [if_neg (by omega), if_neg (by omega), if_neg (by omega), if_neg (by omega), if_pos (by omega), Nat.add_sub_cancel_left]
  rw [ec] at hc
  have hk' : (k : Int) < 16 := by omega
  have hp := rpush_any M w vc vs inp ρ (ρ.cells k) h hM (by omega)
  have HP : Hid (Calls Tryz.prog 238 #[.pointer (some ⟨M, 0, none⟩), .int .i64 (ρ.cells k)] w fun e w' => e = .returned (.tuple #[]) ∧ (∃ vs', RMS M w' vc vs' inp { ρ with stack := ρ.stack ++ [ρ.cells k] }) ∧ Kept w.heap.size M w w') := hp
  clear hp h ec
  go_enter Tryz.func230, Tryz.ntmps230
  go_wp2_with (go_at_call 238; refine HP.out.mono ?_; rintro e w' ⟨rfl, R, K⟩)
  go_end0
  exact ⟨rfl, R, K⟩

set_option maxHeartbeats 1000000 in
theorem rdoes_store (M : Nat) (w : World) (vc vs : Value) (inp : ByteArray) (ρ : RR) (a b : Int) (k : Nat) (h : RMS M w vc vs inp ρ) (hk : k < 16) :
    Calls Tryz.prog 230 #[.pointer (some ⟨M, 0, none⟩), .int .u8 17, .int .i64 a, .int .i64 b, .int .i64 (k : Int)] w (DoesIs M w vc inp { ρ with cells := fun i => if i = k then a else ρ.cells i }) := by
  have hc := h.cell (4 + k) (by omega)
  have hf := h.thaw (4 + k)
  have hk' : (k : Int) < 16 := by omega
  have R := h.setCell' k hk a
  have K := Kept.set w.heap.size M w (4 + k) (.int .i64 a)
  clear h
  go_enter Tryz.func230, Tryz.ntmps230
  go_wp2_with fail
  go_end0
  exact ⟨rfl, ⟨_, R⟩, K⟩
end Go.Proofs.YtflenkppcclclaaGreatDoor

namespace Go.Proofs.YtflenkppcclclaaGreatDoor
open Go.RowKit

theorem Kept.then {M : Nat} {a b d : World} (h : Kept a.heap.size M a b) (k : Kept b.heap.size M b d) : Kept a.heap.size M a d :=
  h.trans ⟨k.os, k.tape, k.output, k.size, fun j hj hm => k.block j (by have := h.size; omega) hm⟩

set_option maxHeartbeats 1000000 in
theorem rdoes_dry (M : Nat) (w : World) (vc vs : Value) (inp : ByteArray) (ρ : RR) (a b k : Int) (r : Nat) (h : RMS M w vc vs inp ρ) (hl : ρ.stack.length ≤ 32) (hr : ρ.read = (r : Int)) (hs : inp.size ≤ r) :
    Calls Tryz.prog 230 #[.pointer (some ⟨M, 0, none⟩), .int .u8 2, .int .i64 a, .int .i64 b, .int .i64 k] w (DoesIs M w vc inp { ρ with stack := ρ.stack ++ [256] }) := by
  have c1 := h.cell 1 (by omega)
  have e1 : rmval vc vs inp ρ 1 = .string inp := rfl
  rw [e1] at c1
  have c2 := h.cell 2 (by omega)
  have e2 : rmval vc vs inp ρ 2 = .int .i64 (r : Int) := by rw [← hr]; rfl
  rw [e2] at c2
  have d1 : ¬ (r : Int) < (inp.size : Int) := by omega
  have d1' : decide ((r : Int) < (inp.size : Int)) = false := by simp; omega
  have HQ : Hid (∀ nd, Calls Tryz.prog 238 #[.pointer (some ⟨M, 0, none⟩), .int .i64 256] (w.drewN nd) fun e w' => e = .returned (.tuple #[]) ∧ (∃ vs', RMS M w' vc vs' inp { ρ with stack := ρ.stack ++ [256] }) ∧ Kept w.heap.size M w w') := fun nd =>
    (rpush_any M (w.drewN nd) vc vs inp ρ 256 (h.same rfl) h.some_in (by omega)).mono fun e w' hh => ⟨hh.1, hh.2.1, ⟨hh.2.2.os, hh.2.2.tape, hh.2.2.output, hh.2.2.size, hh.2.2.block⟩⟩
  clear h e1 e2 hr
  go_enter Tryz.func230, Tryz.ntmps230
  go_wp2_with fail
  go_quiet (fail)
  go_wp2_with (go_at_call 238; refine (HQ.out _).mono ?_; rintro e w' ⟨rfl, R, K⟩)
  go_end0
  exact ⟨rfl, R, K⟩

set_option maxRecDepth 100000 in
set_option maxHeartbeats 1000000 in
theorem rdoes_read (M : Nat) (w : World) (vc vs : Value) (inp : ByteArray) (ρ : RR) (a b k : Int) (r : Nat) (h : RMS M w vc vs inp ρ) (hl : ρ.stack.length ≤ 32) (hr : ρ.read = (r : Int)) (hs : r < inp.size) (hr' : r ≤ 1000) :
    Calls Tryz.prog 230 #[.pointer (some ⟨M, 0, none⟩), .int .u8 2, .int .i64 a, .int .i64 b, .int .i64 k] w (DoesIs M w vc inp { ρ with read := (r : Int) + 1, stack := ρ.stack ++ [((inp[r]'hs).toNat : Int)] }) := by
  have c1 := h.cell 1 (by omega)
  have e1 : rmval vc vs inp ρ 1 = .string inp := rfl
  rw [e1] at c1
  have c2 := h.cell 2 (by omega)
  have e2 : rmval vc vs inp ρ 2 = .int .i64 (r : Int) := by rw [← hr]; rfl
  rw [e2] at c2
  have f2 := h.thaw 2
  have d1 : (r : Int) < (inp.size : Int) := by omega
  have d1' : decide ((r : Int) < (inp.size : Int)) = true := by simp; omega
  have HQ : Hid (∀ nd, Calls Tryz.prog 238 #[.pointer (some ⟨M, 0, none⟩), .int .i64 ((inp[r]'hs).toNat : Int)] ((w.drewN nd).setCell ⟨M, 2, none⟩ (.int .i64 ((r : Int) + 1))) fun e w' => e = .returned (.tuple #[]) ∧ (∃ vs', RMS M w' vc vs' inp { ρ with read := (r : Int) + 1, stack := ρ.stack ++ [((inp[r]'hs).toNat : Int)] }) ∧ Kept w.heap.size M w w') := fun nd => by
    have h1 : RMS M (w.drewN nd) vc vs inp ρ := h.same rfl
    have h2 := h1.setRead ((r : Int) + 1)
    have K1 : Kept w.heap.size M w ((w.drewN nd).setCell ⟨M, 2, none⟩ (.int .i64 ((r : Int) + 1))) := ⟨rfl, rfl, rfl, by simp, fun k _ hk => heap_setCell_other (w.drewN nd) ⟨M, 2, none⟩ k _ hk⟩
    exact (rpush_any M _ vc vs inp _ ((inp[r]'hs).toNat : Int) h2 h2.some_in (by show ρ.stack.length ≤ 64; omega)).mono fun e w' hh => ⟨hh.1, hh.2.1, Kept.then K1 hh.2.2⟩
  have hw : wrap64 ((inp[r]'hs).toNat : Int) = ((inp[r]'hs).toNat : Int) := by
    have := (inp[r]'hs).toNat_lt
    unfold wrap64
    omega
  clear h e1 e2 hr
  go_enter Tryz.func230, Tryz.ntmps230
  go_wp2_with fail
  go_quiet (fail)
  go_wp2_with fail
  go_quiet (fail)
  rw [hw]
  go_wp2_with (go_at_call 238; refine (HQ.out _).mono ?_; rintro e w' ⟨rfl, R, K⟩)
  go_end0
  exact ⟨rfl, R, K⟩
end Go.Proofs.YtflenkppcclclaaGreatDoor

namespace Go.Proofs.YtflenkppcclclaaGreatDoor
open Go.RowKit

theorem RMS.alloc {M : Nat} {w : World} {vc vs : Value} {inp : ByteArray} {ρ : RR} (h : RMS M w vc vs inp ρ) (o : Obj) : RMS M (w.alloc o) vc vs inp ρ where
  cell := fun j hj => (World.cell?_alloc_past _ _ _ h.some_in).trans (h.cell j hj)
  thaw := fun j => (World.frozen?_of_block (w := w) (a := ⟨M, j, none⟩) (Below.heap_alloc w _ M h.some_in)).trans (h.thaw j)
  row := by
    obtain ⟨p, cap, hv, hrm, hc⟩ := h.row
    refine ⟨p, cap, hv, hrm, fun i x hx => ?_⟩
    obtain ⟨g, hp, hg, hcell⟩ := hc i x hx
    exact ⟨g, hp, hg, (World.cell?_alloc_past _ _ _ (World.block_lt_of_cell? w ⟨g, i, none⟩ hcell)).trans hcell⟩

set_option maxRecDepth 100000 in
set_option maxHeartbeats 2000000 in
theorem rdoes_put (M : Nat) (w : World) (vc vs : Value) (inp : ByteArray) (ρ : RR) (a b k : Int) (h : RMS M w vc vs inp ρ) (a0 : 0 ≤ a) (a1 : a ≤ 65535) (hs : ρ.out.size ≤ 100) :
    Calls Tryz.prog 230 #[.pointer (some ⟨M, 0, none⟩), .int .u8 18, .int .i64 a, .int .i64 b, .int .i64 k] w (DoesIs M w vc inp { ρ with out := ρ.out ++ strOfNums [a % 256] }) := by
  have c89 := h.cell 89 (by omega)
  have e89 : rmval vc vs inp ρ 89 = .string ρ.out := rfl
  rw [e89] at c89
  have f89 := h.thaw 89
  have hM := h.some_in
  have hconv : (convert 25 9 (.slice (some ⟨w.heap.size, 0, none⟩) 1 1)).run Tryz.prog (w.alloc (.cells #[.int .u8 (a % 256)] 5)).drew = .ok (.string (strOfNums [a % 256])) (w.alloc (.cells #[.int .u8 (a % 256)] 5)).drew := by
    refine run_convert_bytes_arg _ 25 5 Tryz.underlying25 Tryz.underlying5 w.heap.size 0 1 1 [a % 256] rfl (fun i hi => ?_) 9 Tryz.underlying9
    have : i = 0 := by simpa using hi
    subst this
    exact cell_one_new w (.int .u8 (a % 256)) 5 0 _ rfl
  have R : RMS M ((w.setCell ⟨M, 89, none⟩ (.string (ρ.out ++ strOfNums [a % 256]))).alloc (.cells #[.int .u8 (a % 256)] 5)) vc vs inp { ρ with out := ρ.out ++ strOfNums [a % 256] } := (h.setOut _).alloc _
  have K : Kept w.heap.size M w ((w.setCell ⟨M, 89, none⟩ (.string (ρ.out ++ strOfNums [a % 256]))).alloc (.cells #[.int .u8 (a % 256)] 5)) := (Kept.set _ _ _ _ _).trans (Kept.alloc _ (by simp) _)
  have hone : (strOfNums [a % 256]).size = 1 := rfl
  obtain ⟨s, hss⟩ : ∃ s, strOfNums [a % 256] = s := ⟨_, rfl⟩
  rw [hss] at hconv R K hone ⊢
  have hcat : (ρ.out ++ s).size = ρ.out.size + 1 := by rw [ByteArray.size_append, hone]
  have hsum : ρ.out.size + s.size ≤ 101 := by omega
  clear e89 h hss
  go_enter Tryz.func230, Tryz.ntmps230
  go_wp2_with fail
  go_region
  all_goals
    go_wp2_with fail
    go_end0
    exact ⟨rfl, ⟨_, R.same rfl⟩, ⟨K.os, K.tape, K.output, K.size, K.block⟩⟩
end Go.Proofs.YtflenkppcclclaaGreatDoor

namespace Go.Proofs.YtflenkppcclclaaGreatDoor
open Go.RowKit

/-- What an instruction does beside going on, by the document. -/
def doesR (inp : ByteArray) (ρ : RR) (kk : Nat) (a b k : Int) : RR :=
  match kk with
  | 1 => { ρ with stack := ρ.stack ++ [k] }
  | 2 => if h : ρ.read.toNat < inp.size then { ρ with read := (ρ.read.toNat : Int) + 1, stack := ρ.stack ++ [((inp[ρ.read.toNat]'h).toNat : Int)] } else { ρ with stack := ρ.stack ++ [256] }
  | 3 => { ρ with stack := ρ.stack ++ [a] ++ [a] }
  | 5 => { ρ with stack := ρ.stack ++ [b] ++ [a] }
  | 6 => { ρ with stack := ρ.stack ++ [wk 6 a b] }
  | 7 => { ρ with stack := ρ.stack ++ [wk 7 a b] }
  | 8 => { ρ with stack := ρ.stack ++ [wk 8 a b] }
  | 9 => { ρ with stack := ρ.stack ++ [wk 9 a b] }
  | 10 => { ρ with stack := ρ.stack ++ [wk 10 a b] }
  | 11 => { ρ with stack := ρ.stack ++ [wk 11 a b] }
  | 12 => { ρ with stack := ρ.stack ++ [wk 12 a b] }
  | 13 => { ρ with stack := ρ.stack ++ [wk 13 a b] }
  | 16 => { ρ with stack := ρ.stack ++ [ρ.cells k.toNat] }
  | 17 => { ρ with cells := fun i => if i = k.toNat then a else ρ.cells i }
  | 18 => { ρ with out := ρ.out ++ strOfNums [a % 256] }
  | _ => ρ

theorem rdoes_any (M : Nat) (w : World) (vc vs : Value) (inp : ByteArray) (ρ : RR) (kk : Nat) (a b k : Int) (h : RMS M w vc vs inp ρ) (hk0 : kk ≠ 0) (hk : kk ≤ 18) (hl : ρ.stack.length ≤ 32)
    (a0 : 0 ≤ a) (a1 : a ≤ 65535) (b0 : 0 ≤ b) (b1 : b ≤ 65535) (hd : kk = 11 → 0 < b) (hc : kk = 16 ∨ kk = 17 → 0 ≤ k ∧ k < 16) (hr0 : 0 ≤ ρ.read) (hr1 : ρ.read ≤ 1000) (ho : ρ.out.size ≤ 100) :
    Calls Tryz.prog 230 #[.pointer (some ⟨M, 0, none⟩), .int .u8 (kk : Int), .int .i64 a, .int .i64 b, .int .i64 k] w (DoesIs M w vc inp (doesR inp ρ kk a b k)) := by
  have hM := h.some_in
  match kk, hk0, hk, hd, hc with
  | 0, hk0, _, _, _ => exact absurd rfl hk0
  | 1, _, _, _, _ => exact rdoes_push M w vc vs inp ρ a b k h hM hl
  | 2, _, _, _, _ =>
    have hr : ρ.read = (ρ.read.toNat : Int) := by omega
    by_cases hs : ρ.read.toNat < inp.size
    · have := rdoes_read M w vc vs inp ρ a b k ρ.read.toNat h hl hr hs (by omega)
      unfold doesR
      simp only [dif_pos hs]
      exact this
    · have := rdoes_dry M w vc vs inp ρ a b k ρ.read.toNat h hl hr (by omega)
      unfold doesR
      simp only [dif_neg hs]
      exact this
  | 3, _, _, _, _ => exact rdoes_two M w vc vs inp ρ 3 a b k h hM hl (Or.inl rfl)
  | 4, _, _, _, _ => exact rdoes_none M w vc vs inp ρ 4 a b k h (Or.inl rfl)
  | 5, _, _, _, _ => exact rdoes_two M w vc vs inp ρ 5 a b k h hM hl (Or.inr rfl)
  | 6, _, _, _, _ => exact rdoes_work M w vc vs inp ρ 6 a b k h hM hl (by omega) a0 a1 b0 b1 (fun e => by omega)
  | 7, _, _, _, _ => exact rdoes_work M w vc vs inp ρ 7 a b k h hM hl (by omega) a0 a1 b0 b1 (fun e => by omega)
  | 8, _, _, _, _ => exact rdoes_work M w vc vs inp ρ 8 a b k h hM hl (by omega) a0 a1 b0 b1 (fun e => by omega)
  | 9, _, _, _, _ => exact rdoes_work M w vc vs inp ρ 9 a b k h hM hl (by omega) a0 a1 b0 b1 (fun e => by omega)
  | 10, _, _, _, _ => exact rdoes_work M w vc vs inp ρ 10 a b k h hM hl (by omega) a0 a1 b0 b1 (fun e => by omega)
  | 11, _, _, hd, _ => exact rdoes_work M w vc vs inp ρ 11 a b k h hM hl (by omega) a0 a1 b0 b1 (fun _ => hd rfl)
  | 12, _, _, _, _ => exact rdoes_work M w vc vs inp ρ 12 a b k h hM hl (by omega) a0 a1 b0 b1 (fun e => by omega)
  | 13, _, _, _, _ => exact rdoes_work M w vc vs inp ρ 13 a b k h hM hl (by omega) a0 a1 b0 b1 (fun e => by omega)
  | 14, _, _, _, _ => exact rdoes_none M w vc vs inp ρ 14 a b k h (Or.inr (Or.inl rfl))
  | 15, _, _, _, _ => exact rdoes_none M w vc vs inp ρ 15 a b k h (Or.inr (Or.inr rfl))
  | 16, _, _, _, hc =>
    have hkk := hc (Or.inl rfl)
    have := rdoes_load M w vc vs inp ρ a b k.toNat h hM hl (by omega)
    rw [Int.toNat_of_nonneg hkk.1] at this
    exact this
  | 17, _, _, _, hc =>
    have hkk := hc (Or.inr rfl)
    have := rdoes_store M w vc vs inp ρ a b k.toNat h (by omega)
    rw [Int.toNat_of_nonneg hkk.1] at this
    exact this
  | 18, _, _, _, _ => exact rdoes_put M w vc vs inp ρ a b k h a0 a1 ho
  | k + 19, _, hk, _, _ => omega

theorem SRow.take {M : Nat} {w : World} {p : Option Addr} {n cap : Nat} {xs : List Int} (h : SRow M w (.slice p n cap) xs) (j : Nat) (hj : j ≤ n) : n = xs.length ∧ Roomy p n cap ∧ SRow M w (.slice p j cap) (xs.take j) := by
  obtain ⟨p', cap', hv, hrm, hc⟩ := h
  simp only [Value.slice.injEq] at hv
  obtain ⟨rfl, rfl, rfl⟩ := hv
  refine ⟨rfl, hrm, p, cap, by rw [List.length_take, Nat.min_eq_left hj], ⟨by rw [List.length_take]; have := hrm.1; omega, hrm.2.1, hrm.2.2⟩, fun i x hx => ?_⟩
  have hi : i < j := by
    have := (List.getElem?_eq_some_iff.1 hx).1
    rw [List.length_take] at this
    omega
  rw [List.getElem?_take, if_pos hi] at hx
  exact hc i x hx
theorem RMS.setStack {M : Nat} {w : World} {vc vs vs' : Value} {inp : ByteArray} {ρ : RR} {xs : List Int} (h : RMS M w vc vs inp ρ) (hr : SRow M w vs' xs) : RMS M (w.setCell ⟨M, 3, none⟩ vs') vc vs' inp { ρ with stack := xs } where
  cell := by
    intro j hj
    by_cases e : j = 3
    · subst e; exact World.cell?_setCell_same _ _ _ (h.cell 3 hj)
    · rw [World.cell?_setCell_other _ _ _ _ (fun c => e (by injection c with _ c2 _; exact c2.symm)), h.cell j hj]
      unfold rmval; simp only [if_neg e]
  thaw := fun j => by rw [World.frozen?_setCell]; exact h.thaw j
  row := hr.set 3 vs'
end Go.Proofs.YtflenkppcclclaaGreatDoor

