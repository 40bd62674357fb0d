import Derived.Test.YtebnlafjepfkdaaGreatDoorM14
namespace Go.Proofs.YtebnlafjepfkdaaGreatDoor
open Go.RowKit

/-- The instruction has a second byte. -/
def longB (x : Int) : Bool := x == 1 || x == 14 || x == 15 || x == 16 || x == 17 || x == 19 || x == 20
theorem rlong_any (x : Int) (w : World) : Calls Tryz.prog 97 #[.int .u8 x] w fun e w' => e = .returned (.bool (longB x)) ∧ w' = w := by
  unfold longB
  cases h0 : x == 1
  rotate_left
  · go_enter Tryz.func97, Tryz.ntmps97; go_wp2; go_ret; exact ⟨rfl, rfl⟩
  cases h1 : x == 14
  rotate_left
  · go_enter Tryz.func97, Tryz.ntmps97; go_wp2; go_ret; exact ⟨rfl, rfl⟩
  cases h2 : x == 15
  rotate_left
  · go_enter Tryz.func97, Tryz.ntmps97; go_wp2; go_ret; exact ⟨rfl, rfl⟩
  cases h3 : x == 16
  rotate_left
  · go_enter Tryz.func97, Tryz.ntmps97; go_wp2; go_ret; exact ⟨rfl, rfl⟩
  cases h4 : x == 17
  rotate_left
  · go_enter Tryz.func97, Tryz.ntmps97; go_wp2; go_ret; exact ⟨rfl, rfl⟩
  cases h5 : x == 19
  rotate_left
  · go_enter Tryz.func97, Tryz.ntmps97; go_wp2; go_ret; exact ⟨rfl, rfl⟩
  cases h6 : x == 20
  rotate_left
  · go_enter Tryz.func97, Tryz.ntmps97; go_wp2; go_ret; exact ⟨rfl, rfl⟩
  go_enter Tryz.func97, Tryz.ntmps97; go_wp2; go_ret; exact ⟨rfl, rfl⟩

def szR (x : Int) : Nat := if longB x then 2 else 1
theorem szR_is {kk : Nat} (hk : kk ≤ 20) : szR (kk : Int) = szOf kk := by
  have : ∀ k : Fin 21, szR ((k.val : Nat) : Int) = szOf k.val := by decide
  exact this ⟨kk, by omega⟩
theorem rsize_any (x : Int) (w : World) : Calls Tryz.prog 76 #[.int .u8 x] w fun e w' => e = .returned (.int .i64 (szR x)) ∧ w' = w := by
  unfold szR
  cases h : longB x
  all_goals
    go_enter Tryz.func76, Tryz.ntmps76
    go_wp2_with (go_at_call 97; refine (rlong_any _ _).mono ?_; rintro e w' ⟨rfl, rfl⟩)
    go_ret
    exact ⟨rfl, rfl⟩

/-- A list of numbers that is owned: its cells. -/
theorem own_cell {w : World} {base : Nat} {g n cap : Nat} {f : Nat → Int} {N : Nat} (h : w.ownsRow base 3 1 (.slice (some ⟨g, 0, none⟩) n cap) N ((List.range N).map fun i => .int .i64 (f i))) {i : Nat} (hi : i < N) :
    n = N ∧ w.cell? ⟨g, i, none⟩ = some (.int .i64 (f i)) := by
  rcases h.2 with ⟨hv, _⟩ | ⟨g', cap', cur, hv, _, hh, hle, _, hcs, htake⟩
  · cases hv
  · simp only [Value.slice.injEq, Option.some.injEq, Addr.mk.injEq, and_true] at hv
    obtain ⟨rfl, rfl, rfl⟩ := hv
    refine ⟨rfl, ?_⟩
    rw [cell_of_row w g _ _ _ _ hh]
    have h2 : (cur.toList.take (n * 1))[i]? = some (Value.int .i64 (f i)) := by
      rw [htake]; simp [List.getElem?_range hi]
    rw [List.getElem?_take, if_pos (by omega)] at h2
    simpa using h2

set_option maxHeartbeats 400000 in
/-- 'has': of a list of numbers. -/
theorem rhas_any (w : World) (g cap N : Nat) (f : Nat → Int) (x : Int) (hN : N ≤ 1000) (hc : ∀ i, i < N → w.cell? ⟨g, i, none⟩ = some (.int .i64 (f i))) :
    Calls Tryz.prog 75 #[.slice (some ⟨g, 0, none⟩) N cap, .int .i64 x] w fun e w' => e = .returned (.bool ((List.range N).any fun i => f i == x)) ∧ w' = w := by
  go_enter Tryz.func75, Tryz.ntmps75
  go_wp2
  go_loop [5] (fun i => ∃ k : Nat, k ≤ N ∧ i = .int .i64 k ∧ ((List.range k).any fun i => f i == x) = false) (fun i => N - (intOf i).toNat)
  case atStart => exact ⟨0, by omega, rfl, rfl⟩
  case round =>
    obtain ⟨k, hk, rfl, hno⟩ := hrel
    by_cases hlt : k < N
    · have hck := hc k hlt
      have hi1 : (k : Int) < (N : Int) := by omega
      cases hf : (f k == x) with
      | false =>
        have HN : Hid (((List.range (k + 1)).any fun i => f i == x) = false) := by
          show ((List.range (k + 1)).any fun i => f i == x) = false
          rw [List.range_succ, List.any_append, hno]; simp [hf]
        clear hno
        go_wp2
        go_round
        case rel => exact ⟨k + 1, by omega, by go_num, HN.out⟩
        case measure => simp [intOf]; omega
      | true =>
        have HN : Hid (((List.range N).any fun i => f i == x) = true) := by
          show ((List.range N).any fun i => f i == x) = true
          rw [List.any_eq_true]; exact ⟨k, List.mem_range.2 hlt, hf⟩
        clear hno
        go_wp2
        go_ret
        exact ⟨by rw [HN.out]; rfl, rfl⟩
    · have e : k = N := by omega
      subst e
      have HN : Hid (((List.range k).any fun i => f i == x) = false) := hno
      clear hno
      go_wp2
      go_ret
      exact ⟨by rw [HN.out]; rfl, rfl⟩
end Go.Proofs.YtebnlafjepfkdaaGreatDoor

namespace Go.Proofs.YtebnlafjepfkdaaGreatDoor
open Go.RowKit

def tkR (x : Int) : Int := if (x == 3 || x == 4 || x == 15 || x == 17 || x == 18) then 1 else if decide (5 ≤ x) && decide (x ≤ 13) then 2 else 0
theorem rtakes_any (x : Int) (w : World) : Calls Tryz.prog 106 #[.int .u8 x] w fun e w' => e = .returned (.int .i64 (tkR x)) ∧ w' = w := by
  unfold tkR
  cases h0 : x == 3
  rotate_left
  · go_enter Tryz.func106, Tryz.ntmps106; go_wp2; go_ret; exact ⟨rfl, rfl⟩
  cases h1 : x == 4
  rotate_left
  · go_enter Tryz.func106, Tryz.ntmps106; go_wp2; go_ret; exact ⟨rfl, rfl⟩
  cases h2 : x == 15
  rotate_left
  · go_enter Tryz.func106, Tryz.ntmps106; go_wp2; go_ret; exact ⟨rfl, rfl⟩
  cases h3 : x == 17
  rotate_left
  · go_enter Tryz.func106, Tryz.ntmps106; go_wp2; go_ret; exact ⟨rfl, rfl⟩
  cases h4 : x == 18
  rotate_left
  · go_enter Tryz.func106, Tryz.ntmps106; go_wp2; go_ret; exact ⟨rfl, rfl⟩
  by_cases h5 : 5 ≤ x
  · have d5 : decide (5 ≤ x) = true := by simpa using h5
    by_cases h13 : x ≤ 13
    · have d13 : decide (x ≤ 13) = true := by simpa using h13
      rw [d5, d13]
      go_enter Tryz.func106, Tryz.ntmps106; go_wp2; go_ret; exact ⟨rfl, rfl⟩
    · have d13 : decide (x ≤ 13) = false := by simpa using h13
      rw [d5, d13]
      go_enter Tryz.func106, Tryz.ntmps106; go_wp2; go_ret; exact ⟨rfl, rfl⟩
  · have d5 : decide (5 ≤ x) = false := by simpa using h5
    rw [d5]
    go_enter Tryz.func106, Tryz.ntmps106; go_wp2; go_ret; exact ⟨rfl, rfl⟩
theorem tkR_is {kk : Nat} (hk : kk ≤ 20) : tkR (kk : Int) = shp (kk * 3 + 1) := by
  have : ∀ k : Fin 21, tkR ((k.val : Nat) : Int) = shp (k.val * 3 + 1) := by decide
  exact this ⟨kk, by omega⟩

def lyR (x : Int) : Int := if (x == 3 || x == 5) then 2 else if (x == 1 || x == 2 || x == 16 || (decide (6 ≤ x) && decide (x ≤ 13))) then 1 else 0
theorem rlays_any (x : Int) (w : World) : Calls Tryz.prog 107 #[.int .u8 x] w fun e w' => e = .returned (.int .i64 (lyR x)) ∧ w' = w := by
  unfold lyR
  cases h0 : x == 3
  rotate_left
  · go_enter Tryz.func107, Tryz.ntmps107; go_wp2; go_ret; exact ⟨rfl, rfl⟩
  cases h1 : x == 5
  rotate_left
  · go_enter Tryz.func107, Tryz.ntmps107; go_wp2; go_ret; exact ⟨rfl, rfl⟩
  cases h2 : x == 1
  rotate_left
  · go_enter Tryz.func107, Tryz.ntmps107; go_wp2; go_ret; exact ⟨rfl, rfl⟩
  cases h3 : x == 2
  rotate_left
  · go_enter Tryz.func107, Tryz.ntmps107; go_wp2; go_ret; exact ⟨rfl, rfl⟩
  cases h4 : x == 16
  rotate_left
  · go_enter Tryz.func107, Tryz.ntmps107; go_wp2; go_ret; exact ⟨rfl, rfl⟩
  by_cases h5 : 6 ≤ x
  · have d5 : decide (6 ≤ x) = true := by simpa using h5
    by_cases h13 : x ≤ 13
    · have d13 : decide (x ≤ 13) = true := by simpa using h13
      rw [d5, d13]
      go_enter Tryz.func107, Tryz.ntmps107; go_wp2; go_ret; exact ⟨rfl, rfl⟩
    · have d13 : decide (x ≤ 13) = false := by simpa using h13
      rw [d5, d13]
      go_enter Tryz.func107, Tryz.ntmps107; go_wp2; go_ret; exact ⟨rfl, rfl⟩
  · have d5 : decide (6 ≤ x) = false := by simpa using h5
    rw [d5]
    go_enter Tryz.func107, Tryz.ntmps107; go_wp2; go_ret; exact ⟨rfl, rfl⟩
theorem lyR_is {kk : Nat} (hk : kk ≤ 20) : lyR (kk : Int) = shp (kk * 3 + 2) := by
  have : ∀ k : Fin 21, lyR ((k.val : Nat) : Int) = shp (k.val * 3 + 2) := by decide
  exact this ⟨kk, by omega⟩

theorem rclass_any (x : Int) (h0 : 0 ≤ x) (w : World) : Calls Tryz.prog 89 #[.int .i64 x] w fun e w' => e = .returned (.int .u8 (classS x)) ∧ w' = w := by
  unfold classS
  by_cases h1 : 128 ≤ x
  · rw [if_pos h1]; 
    have g3 : ¬ x < 3 := by omega
    have f3 : decide (x < 3) = false := by simp; omega
    have g8 : ¬ x < 8 := by omega
    have f8 : decide (x < 8) = false := by simp; omega
    have g16 : ¬ x < 16 := by omega
    have f16 : decide (x < 16) = false := by simp; omega
    have g32 : ¬ x < 32 := by omega
    have f32 : decide (x < 32) = false := by simp; omega
    have g128 : ¬ x < 128 := by omega
    have f128 : decide (x < 128) = false := by simp; omega
    have e3 : (x == 3) = false := by simp; omega
    go_enter Tryz.func89, Tryz.ntmps89; go_wp2; go_ret; exact ⟨rfl, rfl⟩
  rw [if_neg h1]
  by_cases h2 : 32 ≤ x
  · rw [if_pos h2]; 
    have g3 : ¬ x < 3 := by omega
    have f3 : decide (x < 3) = false := by simp; omega
    have g8 : ¬ x < 8 := by omega
    have f8 : decide (x < 8) = false := by simp; omega
    have g16 : ¬ x < 16 := by omega
    have f16 : decide (x < 16) = false := by simp; omega
    have g32 : ¬ x < 32 := by omega
    have f32 : decide (x < 32) = false := by simp; omega
    have g128 : x < 128 := by omega
    have f128 : decide (x < 128) = true := by simp; omega
    have e3 : (x == 3) = false := by simp; omega
    go_enter Tryz.func89, Tryz.ntmps89; go_wp2; go_ret; exact ⟨rfl, rfl⟩
  rw [if_neg h2]
  by_cases h3 : 16 ≤ x
  · rw [if_pos h3]; 
    have g3 : ¬ x < 3 := by omega
    have f3 : decide (x < 3) = false := by simp; omega
    have g8 : ¬ x < 8 := by omega
    have f8 : decide (x < 8) = false := by simp; omega
    have g16 : ¬ x < 16 := by omega
    have f16 : decide (x < 16) = false := by simp; omega
    have g32 : x < 32 := by omega
    have f32 : decide (x < 32) = true := by simp; omega
    have g128 : x < 128 := by omega
    have f128 : decide (x < 128) = true := by simp; omega
    have e3 : (x == 3) = false := by simp; omega
    go_enter Tryz.func89, Tryz.ntmps89; go_wp2; go_ret; exact ⟨rfl, rfl⟩
  rw [if_neg h3]
  by_cases h4 : 8 ≤ x
  · rw [if_pos h4]; 
    have g3 : ¬ x < 3 := by omega
    have f3 : decide (x < 3) = false := by simp; omega
    have g8 : ¬ x < 8 := by omega
    have f8 : decide (x < 8) = false := by simp; omega
    have g16 : x < 16 := by omega
    have f16 : decide (x < 16) = true := by simp; omega
    have g32 : x < 32 := by omega
    have f32 : decide (x < 32) = true := by simp; omega
    have g128 : x < 128 := by omega
    have f128 : decide (x < 128) = true := by simp; omega
    have e3 : (x == 3) = false := by simp; omega
    go_enter Tryz.func89, Tryz.ntmps89; go_wp2; go_ret; exact ⟨rfl, rfl⟩
  rw [if_neg h4]
  by_cases h5 : 4 ≤ x
  · rw [if_pos h5]; 
    have g3 : ¬ x < 3 := by omega
    have f3 : decide (x < 3) = false := by simp; omega
    have g8 : x < 8 := by omega
    have f8 : decide (x < 8) = true := by simp; omega
    have g16 : x < 16 := by omega
    have f16 : decide (x < 16) = true := by simp; omega
    have g32 : x < 32 := by omega
    have f32 : decide (x < 32) = true := by simp; omega
    have g128 : x < 128 := by omega
    have f128 : decide (x < 128) = true := by simp; omega
    have e3 : (x == 3) = false := by simp; omega
    go_enter Tryz.func89, Tryz.ntmps89; go_wp2; go_ret; exact ⟨rfl, rfl⟩
  rw [if_neg h5]
  by_cases h6 : x = 3
  · rw [if_pos h6]; 
    have g3 : ¬ x < 3 := by omega
    have f3 : decide (x < 3) = false := by simp; omega
    have g8 : x < 8 := by omega
    have f8 : decide (x < 8) = true := by simp; omega
    have g16 : x < 16 := by omega
    have f16 : decide (x < 16) = true := by simp; omega
    have g32 : x < 32 := by omega
    have f32 : decide (x < 32) = true := by simp; omega
    have g128 : x < 128 := by omega
    have f128 : decide (x < 128) = true := by simp; omega
    have e3 : (x == 3) = true := by simp; omega
    go_enter Tryz.func89, Tryz.ntmps89; go_wp2; go_ret; exact ⟨rfl, rfl⟩
  rw [if_neg h6]
  have g3 : x < 3 := by omega
  have f3 : decide (x < 3) = true := by simp; omega
  have g8 : x < 8 := by omega
  have f8 : decide (x < 8) = true := by simp; omega
  have g16 : x < 16 := by omega
  have f16 : decide (x < 16) = true := by simp; omega
  have g32 : x < 32 := by omega
  have f32 : decide (x < 32) = true := by simp; omega
  have g128 : x < 128 := by omega
  have f128 : decide (x < 128) = true := by simp; omega
  have e3 : (x == 3) = false := by simp; omega
  go_enter Tryz.func89, Tryz.ntmps89; go_wp2; go_ret; exact ⟨rfl, rfl⟩
end Go.Proofs.YtebnlafjepfkdaaGreatDoor

