import Derived.Test.YtflenkppcclclaaGreatDoorM23
import Derived.Deep.LoopGhost
import Derived.Shelf.GgClosure.Gives
namespace Go.Proofs.YtflenkppcclclaaGreatDoor
open Go.RowKit

/-! slices.IndexFunc and ContainsFunc, at lists of crashes and of inputs. -/
/-- The first place at which p holds; -1: none. -/
def FirstIs (n : Nat) (p : Nat → Bool) (r : Int) : Prop := (r = -1 ∧ ∀ j, j < n → p j = false) ∨ ∃ j : Nat, j < n ∧ p j = true ∧ r = (j : Int)
theorem firstIs_any {n : Nat} {p : Nat → Bool} {r : Int} (h : FirstIs n p r) : decide (0 ≤ r) = (List.range n).any p := by
  rcases h with ⟨rfl, h⟩ | ⟨j, h1, h2, rfl⟩
  · have : (List.range n).any p = false := by
      rw [List.any_eq_false]
      intro j hj
      rw [h j (List.mem_range.1 hj)]; simp
    rw [this]; rfl
  · have : (List.range n).any p = true := List.any_eq_true.2 ⟨j, List.mem_range.2 h1, h2⟩
    rw [this]; simp
/-- What is asked of a predicate: at each of the list's things it says p, and lays nothing below. -/
def Tells (g : Nat) (lb : Array Value) (n : Nat) (val : Nat → Value) (p : Nat → Bool) (w : World) : Prop :=
  ∀ (W : World) (j : Nat), j < n → Below w.heap.size w W → Calls Tryz.prog g (#[val j] ++ lb) W fun e w' => e = .returned (.bool (p j)) ∧ Below w.heap.size w w'

set_option maxHeartbeats 2000000 in
theorem ifCr_any (g : Nat) (lb : Array Value) (eg : ∀ args w, (callFunc g args).run Tryz.prog w = .ok (.enter g args) w) (b n c : Nat) (x0 x1 x2 : Nat → Value) (p : Nat → Bool) (w : World)
    (hp : Tells g lb n (fun j => .agg #[x0 j, x1 j, x2 j]) p w) (hn : n ≤ 9223372036854775807) (hb : b < w.heap.size)
    (h0 : ∀ j, j < n → w.cell? ⟨b, j * 3, none⟩ = some (x0 j)) (h1 : ∀ j, j < n → w.cell? ⟨b, j * 3 + 1, none⟩ = some (x1 j)) (h2 : ∀ j, j < n → w.cell? ⟨b, j * 3 + 2, none⟩ = some (x2 j)) :
    Calls Tryz.prog 233 #[.slice (some ⟨b, 0, none⟩) n c, .func (.func g) #[] lb] w fun e w' => ∃ r, FirstIs n p r ∧ e = .returned (.int .i64 r) ∧ Below w.heap.size w w' := by
  go_enter Tryz.func233, Tryz.ntmps233
  go_wp2
  go_loopg [5, 8] n (fun gg _ s8 wr => ∃ kk : Nat, kk ≤ n ∧ n - kk ≤ gg ∧ s8 = .int .i64 kk ∧ Aside (Below w.heap.size w wr) ∧ Aside (∀ j, j < kk → p j = false))
  case atStart => exact ⟨0, Nat.zero_le _, by omega, rfl, Below.refl _ w, fun j hj => absurd hj (Nat.not_lt_zero _)⟩
  case round =>
    obtain ⟨kk, hkk, hg, rfl, BW, A⟩ := hrel
    by_cases hlt : kk < n
    · have hltz : (kk : Int) < (n : Int) := by omega
      have l0 := (BW.out.cell (p := ⟨b, kk * 3, none⟩) hb).trans (h0 kk hlt)
      have l1 := (BW.out.cell (p := ⟨b, kk * 3 + 1, none⟩) hb).trans (h1 kk hlt)
      have l2 := (BW.out.cell (p := ⟨b, kk * 3 + 2, none⟩) hb).trans (h2 kk hlt)
      have hcall := hp wr kk hlt BW.out
      dsimp only at hcall
      clear hp h0 h1 h2
      generalize x0 kk = y0 at l0 hcall
      generalize x1 kk = y1 at l1 hcall
      generalize x2 kk = y2 at l2 hcall
      cases hq : p kk with
      | true =>
        rw [hq] at hcall
        go_wp2_with (go_at_fn g; refine hcall.mono ?_; rintro e w' ⟨rfl, hb'⟩)
        go_ret
        exact ⟨_, Or.inr ⟨kk, hlt, hq, rfl⟩, rfl, hb'⟩
      | false =>
        rw [hq] at hcall
        go_wp2_with (go_at_fn g; refine hcall.mono ?_; rintro e w' ⟨rfl, hb'⟩)
        go_roundg (n - (kk + 1))
        case measure => omega
        case rel =>
          refine ⟨kk + 1, by omega, by omega, by go_num, hb', (show Aside _ from fun j hj => ?_)⟩
          by_cases e : j = kk
          · subst e; exact hq
          · exact A.out j (by omega)
    · have hltz : ¬ (kk : Int) < (n : Int) := by omega
      have : kk = n := by omega
      subst this
      go_wp2
      go_ret
      exact ⟨_, Or.inl ⟨rfl, A.out⟩, rfl, BW.out⟩
theorem ifCr_none (g : Nat) (lb : Array Value) (c : Nat) (w : World) :
    Calls Tryz.prog 233 #[.slice none 0 c, .func (.func g) #[] lb] w fun e w' => e = .returned (.int .i64 (-1)) ∧ w' = w := by
  go_enter Tryz.func233, Tryz.ntmps233
  go_wp2
  go_loopg [5, 8] 0 (fun _ _ s8 wr => s8 = .int .i64 0 ∧ wr = w)
  case atStart => exact ⟨rfl, rfl⟩
  case round =>
    obtain ⟨rfl, rfl⟩ := hrel
    go_wp2
    go_ret
    exact ⟨rfl, rfl⟩
theorem cfCr_any (g : Nat) (lb : Array Value) (eg : ∀ args w, (callFunc g args).run Tryz.prog w = .ok (.enter g args) w) (b n c : Nat) (x0 x1 x2 : Nat → Value) (p : Nat → Bool) (w : World)
    (hp : Tells g lb n (fun j => .agg #[x0 j, x1 j, x2 j]) p w) (hn : n ≤ 9223372036854775807) (hb : b < w.heap.size)
    (h0 : ∀ j, j < n → w.cell? ⟨b, j * 3, none⟩ = some (x0 j)) (h1 : ∀ j, j < n → w.cell? ⟨b, j * 3 + 1, none⟩ = some (x1 j)) (h2 : ∀ j, j < n → w.cell? ⟨b, j * 3 + 2, none⟩ = some (x2 j)) :
    Calls Tryz.prog 213 #[.slice (some ⟨b, 0, none⟩) n c, .func (.func g) #[] lb] w fun e w' => e = .returned (.bool ((List.range n).any p)) ∧ Below w.heap.size w w' := by
  go_enter Tryz.func213, Tryz.ntmps213
  go_wp2_with fail
  refine (ifCr_any g lb eg b n c x0 x1 x2 p w hp hn hb h0 h1 h2).mono ?_
  rintro e w1 ⟨r, hr, rfl, B1⟩
  go_wp2_with fail
  go_ret
  exact ⟨by rw [← firstIs_any hr]; rfl, B1⟩
theorem cfCr_none (g : Nat) (lb : Array Value) (c : Nat) (w : World) :
    Calls Tryz.prog 213 #[.slice none 0 c, .func (.func g) #[] lb] w fun e w' => e = .returned (.bool false) ∧ w' = w := by
  go_enter Tryz.func213, Tryz.ntmps213
  go_wp2_with fail
  refine (ifCr_none g lb c w).mono ?_
  rintro e w1 ⟨rfl, hw⟩
  obtain rfl := hw.symm
  go_wp2_with fail
  go_ret
  exact ⟨rfl, rfl⟩
set_option maxHeartbeats 2000000 in
theorem ifIn_any (g : Nat) (lb : Array Value) (eg : ∀ args w, (callFunc g args).run Tryz.prog w = .ok (.enter g args) w) (b n c : Nat) (x0 x1 : Nat → Value) (p : Nat → Bool) (w : World)
    (hp : Tells g lb n (fun j => .agg #[x0 j, x1 j]) p w) (hn : n ≤ 9223372036854775807) (hb : b < w.heap.size)
    (h0 : ∀ j, j < n → w.cell? ⟨b, j * 2, none⟩ = some (x0 j)) (h1 : ∀ j, j < n → w.cell? ⟨b, j * 2 + 1, none⟩ = some (x1 j)) :
    Calls Tryz.prog 242 #[.slice (some ⟨b, 0, none⟩) n c, .func (.func g) #[] lb] w fun e w' => ∃ r, FirstIs n p r ∧ e = .returned (.int .i64 r) ∧ Below w.heap.size w w' := by
  go_enter Tryz.func242, Tryz.ntmps242
  go_wp2
  go_loopg [5, 8] n (fun gg _ s8 wr => ∃ kk : Nat, kk ≤ n ∧ n - kk ≤ gg ∧ s8 = .int .i64 kk ∧ Aside (Below w.heap.size w wr) ∧ Aside (∀ j, j < kk → p j = false))
  case atStart => exact ⟨0, Nat.zero_le _, by omega, rfl, Below.refl _ w, fun j hj => absurd hj (Nat.not_lt_zero _)⟩
  case round =>
    obtain ⟨kk, hkk, hg, rfl, BW, A⟩ := hrel
    by_cases hlt : kk < n
    · have hltz : (kk : Int) < (n : Int) := by omega
      have l0 := (BW.out.cell (p := ⟨b, kk * 2, none⟩) hb).trans (h0 kk hlt)
      have l1 := (BW.out.cell (p := ⟨b, kk * 2 + 1, none⟩) hb).trans (h1 kk hlt)
      have hcall := hp wr kk hlt BW.out
      dsimp only at hcall
      clear hp h0 h1
      generalize x0 kk = y0 at l0 hcall
      generalize x1 kk = y1 at l1 hcall
      cases hq : p kk with
      | true =>
        rw [hq] at hcall
        go_wp2_with (go_at_fn g; refine hcall.mono ?_; rintro e w' ⟨rfl, hb'⟩)
        go_ret
        exact ⟨_, Or.inr ⟨kk, hlt, hq, rfl⟩, rfl, hb'⟩
      | false =>
        rw [hq] at hcall
        go_wp2_with (go_at_fn g; refine hcall.mono ?_; rintro e w' ⟨rfl, hb'⟩)
        go_roundg (n - (kk + 1))
        case measure => omega
        case rel =>
          refine ⟨kk + 1, by omega, by omega, by go_num, hb', (show Aside _ from fun j hj => ?_)⟩
          by_cases e : j = kk
          · subst e; exact hq
          · exact A.out j (by omega)
    · have hltz : ¬ (kk : Int) < (n : Int) := by omega
      have : kk = n := by omega
      subst this
      go_wp2
      go_ret
      exact ⟨_, Or.inl ⟨rfl, A.out⟩, rfl, BW.out⟩
theorem ifIn_none (g : Nat) (lb : Array Value) (c : Nat) (w : World) :
    Calls Tryz.prog 242 #[.slice none 0 c, .func (.func g) #[] lb] w fun e w' => e = .returned (.int .i64 (-1)) ∧ w' = w := by
  go_enter Tryz.func242, Tryz.ntmps242
  go_wp2
  go_loopg [5, 8] 0 (fun _ _ s8 wr => s8 = .int .i64 0 ∧ wr = w)
  case atStart => exact ⟨rfl, rfl⟩
  case round =>
    obtain ⟨rfl, rfl⟩ := hrel
    go_wp2
    go_ret
    exact ⟨rfl, rfl⟩
theorem cfIn_any (g : Nat) (lb : Array Value) (eg : ∀ args w, (callFunc g args).run Tryz.prog w = .ok (.enter g args) w) (b n c : Nat) (x0 x1 : Nat → Value) (p : Nat → Bool) (w : World)
    (hp : Tells g lb n (fun j => .agg #[x0 j, x1 j]) p w) (hn : n ≤ 9223372036854775807) (hb : b < w.heap.size)
    (h0 : ∀ j, j < n → w.cell? ⟨b, j * 2, none⟩ = some (x0 j)) (h1 : ∀ j, j < n → w.cell? ⟨b, j * 2 + 1, none⟩ = some (x1 j)) :
    Calls Tryz.prog 234 #[.slice (some ⟨b, 0, none⟩) n c, .func (.func g) #[] lb] w fun e w' => e = .returned (.bool ((List.range n).any p)) ∧ Below w.heap.size w w' := by
  go_enter Tryz.func234, Tryz.ntmps234
  go_wp2_with fail
  refine (ifIn_any g lb eg b n c x0 x1 p w hp hn hb h0 h1).mono ?_
  rintro e w1 ⟨r, hr, rfl, B1⟩
  go_wp2_with fail
  go_ret
  exact ⟨by rw [← firstIs_any hr]; rfl, B1⟩
theorem cfIn_none (g : Nat) (lb : Array Value) (c : Nat) (w : World) :
    Calls Tryz.prog 234 #[.slice none 0 c, .func (.func g) #[] lb] w fun e w' => e = .returned (.bool false) ∧ w' = w := by
  go_enter Tryz.func234, Tryz.ntmps234
  go_wp2_with fail
  refine (ifIn_none g lb c w).mono ?_
  rintro e w1 ⟨rfl, hw⟩
  obtain rfl := hw.symm
  go_wp2_with fail
  go_ret
  exact ⟨rfl, rfl⟩
set_option maxHeartbeats 2000000 in
theorem ifInt_any (g : Nat) (lb : Array Value) (eg : ∀ args w, (callFunc g args).run Tryz.prog w = .ok (.enter g args) w) (b n c : Nat) (x0 : Nat → Value) (p : Nat → Bool) (w : World)
    (hp : Tells g lb n (fun j => x0 j) p w) (hn : n ≤ 9223372036854775807) (hb : b < w.heap.size)
    (h0 : ∀ j, j < n → w.cell? ⟨b, j, none⟩ = some (x0 j)) :
    Calls Tryz.prog 176 #[.slice (some ⟨b, 0, none⟩) n c, .func (.func g) #[] lb] w fun e w' => ∃ r, FirstIs n p r ∧ e = .returned (.int .i64 r) ∧ Below w.heap.size w w' := by
  go_enter Tryz.func176, Tryz.ntmps176
  go_wp2
  go_loopg [5, 8] n (fun gg _ s8 wr => ∃ kk : Nat, kk ≤ n ∧ n - kk ≤ gg ∧ s8 = .int .i64 kk ∧ Aside (Below w.heap.size w wr) ∧ Aside (∀ j, j < kk → p j = false))
  case atStart => exact ⟨0, Nat.zero_le _, by omega, rfl, Below.refl _ w, fun j hj => absurd hj (Nat.not_lt_zero _)⟩
  case round =>
    obtain ⟨kk, hkk, hg, rfl, BW, A⟩ := hrel
    by_cases hlt : kk < n
    · have hltz : (kk : Int) < (n : Int) := by omega
      have l0 := (BW.out.cell (p := ⟨b, kk, none⟩) hb).trans (h0 kk hlt)
      have hcall := hp wr kk hlt BW.out
      dsimp only at hcall
      clear hp h0
      generalize x0 kk = y0 at l0 hcall
      cases hq : p kk with
      | true =>
        rw [hq] at hcall
        go_wp2_with (go_at_fn g; refine hcall.mono ?_; rintro e w' ⟨rfl, hb'⟩)
        go_ret
        exact ⟨_, Or.inr ⟨kk, hlt, hq, rfl⟩, rfl, hb'⟩
      | false =>
        rw [hq] at hcall
        go_wp2_with (go_at_fn g; refine hcall.mono ?_; rintro e w' ⟨rfl, hb'⟩)
        go_roundg (n - (kk + 1))
        case measure => omega
        case rel =>
          refine ⟨kk + 1, by omega, by omega, by go_num, hb', (show Aside _ from fun j hj => ?_)⟩
          by_cases e : j = kk
          · subst e; exact hq
          · exact A.out j (by omega)
    · have hltz : ¬ (kk : Int) < (n : Int) := by omega
      have : kk = n := by omega
      subst this
      go_wp2
      go_ret
      exact ⟨_, Or.inl ⟨rfl, A.out⟩, rfl, BW.out⟩
theorem ifInt_none (g : Nat) (lb : Array Value) (c : Nat) (w : World) :
    Calls Tryz.prog 176 #[.slice none 0 c, .func (.func g) #[] lb] w fun e w' => e = .returned (.int .i64 (-1)) ∧ w' = w := by
  go_enter Tryz.func176, Tryz.ntmps176
  go_wp2
  go_loopg [5, 8] 0 (fun _ _ s8 wr => s8 = .int .i64 0 ∧ wr = w)
  case atStart => exact ⟨rfl, rfl⟩
  case round =>
    obtain ⟨rfl, rfl⟩ := hrel
    go_wp2
    go_ret
    exact ⟨rfl, rfl⟩
theorem cfInt_any (g : Nat) (lb : Array Value) (eg : ∀ args w, (callFunc g args).run Tryz.prog w = .ok (.enter g args) w) (b n c : Nat) (x0 : Nat → Value) (p : Nat → Bool) (w : World)
    (hp : Tells g lb n (fun j => x0 j) p w) (hn : n ≤ 9223372036854775807) (hb : b < w.heap.size)
    (h0 : ∀ j, j < n → w.cell? ⟨b, j, none⟩ = some (x0 j)) :
    Calls Tryz.prog 135 #[.slice (some ⟨b, 0, none⟩) n c, .func (.func g) #[] lb] w fun e w' => e = .returned (.bool ((List.range n).any p)) ∧ Below w.heap.size w w' := by
  go_enter Tryz.func135, Tryz.ntmps135
  go_wp2_with fail
  refine (ifInt_any g lb eg b n c x0 p w hp hn hb h0).mono ?_
  rintro e w1 ⟨r, hr, rfl, B1⟩
  go_wp2_with fail
  go_ret
  exact ⟨by rw [← firstIs_any hr]; rfl, B1⟩
theorem cfInt_none (g : Nat) (lb : Array Value) (c : Nat) (w : World) :
    Calls Tryz.prog 135 #[.slice none 0 c, .func (.func g) #[] lb] w fun e w' => e = .returned (.bool false) ∧ w' = w := by
  go_enter Tryz.func135, Tryz.ntmps135
  go_wp2_with fail
  refine (ifInt_none g lb c w).mono ?_
  rintro e w1 ⟨rfl, hw⟩
  obtain rfl := hw.symm
  go_wp2_with fail
  go_ret
  exact ⟨rfl, rfl⟩
set_option maxHeartbeats 2000000 in
theorem ifStr_any (g : Nat) (lb : Array Value) (eg : ∀ args w, (callFunc g args).run Tryz.prog w = .ok (.enter g args) w) (b n c : Nat) (x0 : Nat → Value) (p : Nat → Bool) (w : World)
    (hp : Tells g lb n (fun j => x0 j) p w) (hn : n ≤ 9223372036854775807) (hb : b < w.heap.size)
    (h0 : ∀ j, j < n → w.cell? ⟨b, j, none⟩ = some (x0 j)) :
    Calls Tryz.prog 122 #[.slice (some ⟨b, 0, none⟩) n c, .func (.func g) #[] lb] w fun e w' => ∃ r, FirstIs n p r ∧ e = .returned (.int .i64 r) ∧ Below w.heap.size w w' := by
  go_enter Tryz.func122, Tryz.ntmps122
  go_wp2
  go_loopg [5, 8] n (fun gg _ s8 wr => ∃ kk : Nat, kk ≤ n ∧ n - kk ≤ gg ∧ s8 = .int .i64 kk ∧ Aside (Below w.heap.size w wr) ∧ Aside (∀ j, j < kk → p j = false))
  case atStart => exact ⟨0, Nat.zero_le _, by omega, rfl, Below.refl _ w, fun j hj => absurd hj (Nat.not_lt_zero _)⟩
  case round =>
    obtain ⟨kk, hkk, hg, rfl, BW, A⟩ := hrel
    by_cases hlt : kk < n
    · have hltz : (kk : Int) < (n : Int) := by omega
      have l0 := (BW.out.cell (p := ⟨b, kk, none⟩) hb).trans (h0 kk hlt)
      have hcall := hp wr kk hlt BW.out
      dsimp only at hcall
      clear hp h0
      generalize x0 kk = y0 at l0 hcall
      cases hq : p kk with
      | true =>
        rw [hq] at hcall
        go_wp2_with (go_at_fn g; refine hcall.mono ?_; rintro e w' ⟨rfl, hb'⟩)
        go_ret
        exact ⟨_, Or.inr ⟨kk, hlt, hq, rfl⟩, rfl, hb'⟩
      | false =>
        rw [hq] at hcall
        go_wp2_with (go_at_fn g; refine hcall.mono ?_; rintro e w' ⟨rfl, hb'⟩)
        go_roundg (n - (kk + 1))
        case measure => omega
        case rel =>
          refine ⟨kk + 1, by omega, by omega, by go_num, hb', (show Aside _ from fun j hj => ?_)⟩
          by_cases e : j = kk
          · subst e; exact hq
          · exact A.out j (by omega)
    · have hltz : ¬ (kk : Int) < (n : Int) := by omega
      have : kk = n := by omega
      subst this
      go_wp2
      go_ret
      exact ⟨_, Or.inl ⟨rfl, A.out⟩, rfl, BW.out⟩
theorem ifStr_none (g : Nat) (lb : Array Value) (c : Nat) (w : World) :
    Calls Tryz.prog 122 #[.slice none 0 c, .func (.func g) #[] lb] w fun e w' => e = .returned (.int .i64 (-1)) ∧ w' = w := by
  go_enter Tryz.func122, Tryz.ntmps122
  go_wp2
  go_loopg [5, 8] 0 (fun _ _ s8 wr => s8 = .int .i64 0 ∧ wr = w)
  case atStart => exact ⟨rfl, rfl⟩
  case round =>
    obtain ⟨rfl, rfl⟩ := hrel
    go_wp2
    go_ret
    exact ⟨rfl, rfl⟩
theorem cfStr_any (g : Nat) (lb : Array Value) (eg : ∀ args w, (callFunc g args).run Tryz.prog w = .ok (.enter g args) w) (b n c : Nat) (x0 : Nat → Value) (p : Nat → Bool) (w : World)
    (hp : Tells g lb n (fun j => x0 j) p w) (hn : n ≤ 9223372036854775807) (hb : b < w.heap.size)
    (h0 : ∀ j, j < n → w.cell? ⟨b, j, none⟩ = some (x0 j)) :
    Calls Tryz.prog 64 #[.slice (some ⟨b, 0, none⟩) n c, .func (.func g) #[] lb] w fun e w' => e = .returned (.bool ((List.range n).any p)) ∧ Below w.heap.size w w' := by
  go_enter Tryz.func64, Tryz.ntmps64
  go_wp2_with fail
  refine (ifStr_any g lb eg b n c x0 p w hp hn hb h0).mono ?_
  rintro e w1 ⟨r, hr, rfl, B1⟩
  go_wp2_with fail
  go_ret
  exact ⟨by rw [← firstIs_any hr]; rfl, B1⟩
theorem cfStr_none (g : Nat) (lb : Array Value) (c : Nat) (w : World) :
    Calls Tryz.prog 64 #[.slice none 0 c, .func (.func g) #[] lb] w fun e w' => e = .returned (.bool false) ∧ w' = w := by
  go_enter Tryz.func64, Tryz.ntmps64
  go_wp2_with fail
  refine (ifStr_none g lb c w).mono ?_
  rintro e w1 ⟨rfl, hw⟩
  obtain rfl := hw.symm
  go_wp2_with fail
  go_ret
  exact ⟨rfl, rfl⟩
end Go.Proofs.YtflenkppcclclaaGreatDoor

