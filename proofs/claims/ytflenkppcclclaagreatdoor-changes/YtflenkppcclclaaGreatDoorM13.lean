import Derived.Test.YtflenkppcclclaaGreatDoorM12
namespace Go.Proofs.YtflenkppcclclaaGreatDoor
open Go.RowKit

def tkR (x : Int) : Int := if (x == 3 || x == 4 || x == 15 || x == 17 || x == 18) then 1 else if decide (5 ≤ x) && decide (x ≤ 13) then 2 else 0
theorem rtakes_any (x : Int) (w : World) : Calls Tryz.prog 228 #[.int .u8 x] w fun e w' => e = .returned (.int .i64 (tkR x)) ∧ w' = w := by
  unfold tkR
  cases h0 : x == 3
  rotate_left
  · go_enter Tryz.func228, Tryz.ntmps228; go_wp2; go_ret; exact ⟨rfl, rfl⟩
  cases h1 : x == 4
  rotate_left
  · go_enter Tryz.func228, Tryz.ntmps228; go_wp2; go_ret; exact ⟨rfl, rfl⟩
  cases h2 : x == 15
  rotate_left
  · go_enter Tryz.func228, Tryz.ntmps228; go_wp2; go_ret; exact ⟨rfl, rfl⟩
  cases h3 : x == 17
  rotate_left
  · go_enter Tryz.func228, Tryz.ntmps228; go_wp2; go_ret; exact ⟨rfl, rfl⟩
  cases h4 : x == 18
  rotate_left
  · go_enter Tryz.func228, Tryz.ntmps228; go_wp2; go_ret; exact ⟨rfl, rfl⟩
  by_cases h5 : 5 ≤ x
  · have d5 : decide (5 ≤ x) = true := by simpa using h5
    by_cases h13 : x ≤ 13
    · have d13 : decide (x ≤ 13) = true := by simpa using h13
      rw [d5, d13]
      go_enter Tryz.func228, Tryz.ntmps228; go_wp2; go_ret; exact ⟨rfl, rfl⟩
    · have d13 : decide (x ≤ 13) = false := by simpa using h13
      rw [d5, d13]
      go_enter Tryz.func228, Tryz.ntmps228; go_wp2; go_ret; exact ⟨rfl, rfl⟩
  · have d5 : decide (5 ≤ x) = false := by simpa using h5
    rw [d5]
    go_enter Tryz.func228, Tryz.ntmps228; go_wp2; go_ret; exact ⟨rfl, rfl⟩
theorem tkR_is {kk : Nat} (hk : kk ≤ 20) : tkR (kk : Int) = shp (kk * 3 + 1) := by
  have : ∀ k : Fin 21, tkR ((k.val : Nat) : Int) = shp (k.val * 3 + 1) := by decide
  exact this ⟨kk, by omega⟩

def lyR (x : Int) : Int := if (x == 3 || x == 5) then 2 else if (x == 1 || x == 2 || x == 16 || (decide (6 ≤ x) && decide (x ≤ 13))) then 1 else 0
theorem rlays_any (x : Int) (w : World) : Calls Tryz.prog 229 #[.int .u8 x] w fun e w' => e = .returned (.int .i64 (lyR x)) ∧ w' = w := by
  unfold lyR
  cases h0 : x == 3
  rotate_left
  · go_enter Tryz.func229, Tryz.ntmps229; go_wp2; go_ret; exact ⟨rfl, rfl⟩
  cases h1 : x == 5
  rotate_left
  · go_enter Tryz.func229, Tryz.ntmps229; go_wp2; go_ret; exact ⟨rfl, rfl⟩
  cases h2 : x == 1
  rotate_left
  · go_enter Tryz.func229, Tryz.ntmps229; go_wp2; go_ret; exact ⟨rfl, rfl⟩
  cases h3 : x == 2
  rotate_left
  · go_enter Tryz.func229, Tryz.ntmps229; go_wp2; go_ret; exact ⟨rfl, rfl⟩
  cases h4 : x == 16
  rotate_left
  · go_enter Tryz.func229, Tryz.ntmps229; go_wp2; go_ret; exact ⟨rfl, rfl⟩
  by_cases h5 : 6 ≤ x
  · have d5 : decide (6 ≤ x) = true := by simpa using h5
    by_cases h13 : x ≤ 13
    · have d13 : decide (x ≤ 13) = true := by simpa using h13
      rw [d5, d13]
      go_enter Tryz.func229, Tryz.ntmps229; go_wp2; go_ret; exact ⟨rfl, rfl⟩
    · have d13 : decide (x ≤ 13) = false := by simpa using h13
      rw [d5, d13]
      go_enter Tryz.func229, Tryz.ntmps229; go_wp2; go_ret; exact ⟨rfl, rfl⟩
  · have d5 : decide (6 ≤ x) = false := by simpa using h5
    rw [d5]
    go_enter Tryz.func229, Tryz.ntmps229; go_wp2; go_ret; exact ⟨rfl, rfl⟩
theorem lyR_is {kk : Nat} (hk : kk ≤ 20) : lyR (kk : Int) = shp (kk * 3 + 2) := by
  have : ∀ k : Fin 21, lyR ((k.val : Nat) : Int) = shp (k.val * 3 + 2) := by decide
  exact this ⟨kk, by omega⟩

theorem rclass_any (x : Int) (h0 : 0 ≤ x) (w : World) : Calls Tryz.prog 197 #[.int .i64 x] w fun e w' => e = .returned (.int .u8 (classS x)) ∧ w' = w := by
  unfold classS
  by_cases h1 : 128 ≤ x
  · rw [if_pos h1]; 
    have g3 : ¬ x < 3 := by omega
    have f3 : decide (x < 3) = false := by simp; omega
    have g8 : ¬ x < 8 := by omega
    have f8 : decide (x < 8) = false := by simp; omega
    have g16 : ¬ x < 16 := by omega
    have f16 : decide (x < 16) = false := by simp; omega
    have g32 : ¬ x < 32 := by omega
    have f32 : decide (x < 32) = false := by simp; omega
    have g128 : ¬ x < 128 := by omega
    have f128 : decide (x < 128) = false := by simp; omega
    have e3 : (x == 3) = false := by simp; omega
    go_enter Tryz.func197, Tryz.ntmps197; go_wp2; go_ret; exact ⟨rfl, rfl⟩
  rw [if_neg h1]
  by_cases h2 : 32 ≤ x
  · rw [if_pos h2]; 
    have g3 : ¬ x < 3 := by omega
    have f3 : decide (x < 3) = false := by simp; omega
    have g8 : ¬ x < 8 := by omega
    have f8 : decide (x < 8) = false := by simp; omega
    have g16 : ¬ x < 16 := by omega
    have f16 : decide (x < 16) = false := by simp; omega
    have g32 : ¬ x < 32 := by omega
    have f32 : decide (x < 32) = false := by simp; omega
    have g128 : x < 128 := by omega
    have f128 : decide (x < 128) = true := by simp; omega
    have e3 : (x == 3) = false := by simp; omega
    go_enter Tryz.func197, Tryz.ntmps197; go_wp2; go_ret; exact ⟨rfl, rfl⟩
  rw [if_neg h2]
  by_cases h3 : 16 ≤ x
  · rw [if_pos h3]; 
    have g3 : ¬ x < 3 := by omega
    have f3 : decide (x < 3) = false := by simp; omega
    have g8 : ¬ x < 8 := by omega
    have f8 : decide (x < 8) = false := by simp; omega
    have g16 : ¬ x < 16 := by omega
    have f16 : decide (x < 16) = false := by simp; omega
    have g32 : x < 32 := by omega
    have f32 : decide (x < 32) = true := by simp; omega
    have g128 : x < 128 := by omega
    have f128 : decide (x < 128) = true := by simp; omega
    have e3 : (x == 3) = false := by simp; omega
    go_enter Tryz.func197, Tryz.ntmps197; go_wp2; go_ret; exact ⟨rfl, rfl⟩
  rw [if_neg h3]
  by_cases h4 : 8 ≤ x
  · rw [if_pos h4]; 
    have g3 : ¬ x < 3 := by omega
    have f3 : decide (x < 3) = false := by simp; omega
    have g8 : ¬ x < 8 := by omega
    have f8 : decide (x < 8) = false := by simp; omega
    have g16 : x < 16 := by omega
    have f16 : decide (x < 16) = true := by simp; omega
    have g32 : x < 32 := by omega
    have f32 : decide (x < 32) = true := by simp; omega
    have g128 : x < 128 := by omega
    have f128 : decide (x < 128) = true := by simp; omega
    have e3 : (x == 3) = false := by simp; omega
    go_enter Tryz.func197, Tryz.ntmps197; go_wp2; go_ret; exact ⟨rfl, rfl⟩
  rw [if_neg h4]
  by_cases h5 : 4 ≤ x
  · rw [if_pos h5]; 
    have g3 : ¬ x < 3 := by omega
    have f3 : decide (x < 3) = false := by simp; omega
    have g8 : x < 8 := by omega
    have f8 : decide (x < 8) = true := by simp; omega
    have g16 : x < 16 := by omega
    have f16 : decide (x < 16) = true := by simp; omega
    have g32 : x < 32 := by omega
    have f32 : decide (x < 32) = true := by simp; omega
    have g128 : x < 128 := by omega
    have f128 : decide (x < 128) = true := by simp; omega
    have e3 : (x == 3) = false := by simp; omega
    go_enter Tryz.func197, Tryz.ntmps197; go_wp2; go_ret; exact ⟨rfl, rfl⟩
  rw [if_neg h5]
  by_cases h6 : x = 3
  · rw [if_pos h6]; 
    have g3 : ¬ x < 3 := by omega
    have f3 : decide (x < 3) = false := by simp; omega
    have g8 : x < 8 := by omega
    have f8 : decide (x < 8) = true := by simp; omega
    have g16 : x < 16 := by omega
    have f16 : decide (x < 16) = true := by simp; omega
    have g32 : x < 32 := by omega
    have f32 : decide (x < 32) = true := by simp; omega
    have g128 : x < 128 := by omega
    have f128 : decide (x < 128) = true := by simp; omega
    have e3 : (x == 3) = true := by simp; omega
    go_enter Tryz.func197, Tryz.ntmps197; go_wp2; go_ret; exact ⟨rfl, rfl⟩
  rw [if_neg h6]
  have g3 : x < 3 := by omega
  have f3 : decide (x < 3) = true := by simp; omega
  have g8 : x < 8 := by omega
  have f8 : decide (x < 8) = true := by simp; omega
  have g16 : x < 16 := by omega
  have f16 : decide (x < 16) = true := by simp; omega
  have g32 : x < 32 := by omega
  have f32 : decide (x < 32) = true := by simp; omega
  have g128 : x < 128 := by omega
  have f128 : decide (x < 128) = true := by simp; omega
  have e3 : (x == 3) = false := by simp; omega
  go_enter Tryz.func197, Tryz.ntmps197; go_wp2; go_ret; exact ⟨rfl, rfl⟩
end Go.Proofs.YtflenkppcclclaaGreatDoor

namespace Go.Proofs.YtflenkppcclclaaGreatDoor
open Go.RowKit

/-- The places of the first N instructions. -/
def posl (c : Nat → Int) (N : Nat) : List Value := (List.range N).map fun i => .int .i64 (pos c i)
theorem posl_succ (c : Nat → Int) (N : Nat) : posl c (N + 1) = posl c N ++ [.int .i64 (pos c N)] := by
  unfold posl
  rw [List.range_succ, List.map_append]
  rfl
def zOf (probes : Bool) : Nat := if probes then 20 else 19
theorem SP.many {c : Nat → Int} {L N z : Nat} (S : SP c L N z) : ∀ m, m ≤ N → m ≤ pos c m := by
  intro m
  induction m with
  | zero => intro _; omega
  | succ m ih =>
    intro h
    have h1 := ih (by omega)
    have h2 := S.op m (by omega)
    have h3 := S.z20
    have := (szOf_pos (c (pos c m)).toNat (by omega)).1
    show m + 1 ≤ pos c m + szOf _
    omega
theorem SP.count {c : Nat → Int} {L N z : Nat} (S : SP c L N z) : N ≤ 240 := by
  have := S.many N (Nat.le_refl _)
  have := S.le (m := N) (Nat.le_refl _)
  have := S.most
  omega

set_option maxRecDepth 100000 in
set_option maxHeartbeats 1000000 in
theorem rstarts_any (w : World) (cb co L cap : Nat) (c : Nat → Int) (probes : Bool) (hL : L ≤ 240) (hby : ∀ i, i < L → 0 ≤ c i ∧ c i ≤ 255) (C : Laid w cb co L cap c) :
    Calls Tryz.prog 150 #[.slice (some ⟨cb, co, none⟩) L cap, .bool probes] w fun e w' => ∃ N, SP c L N (zOf probes) ∧ Below w.heap.size w w' ∧
      ((pos c N < L ∧ soundB c L (zOf probes) (pos c N) = false ∧ e = .returned (.tuple #[.slice none 0 0, .int .i64 (pos c N)])) ∨ (pos c N = L ∧ ∃ v, w'.ownsRow w.heap.size 3 1 v N (posl c N) ∧ e = .returned (.tuple #[v, .int .i64 (-1)]))) := by
  obtain ⟨i, hi, hz0, hz1, hz2⟩ := info_parts Tryz.infoInt
  have hzz : zOf probes ≤ 20 := by unfold zOf; split <;> omega
  go_enter Tryz.func150, Tryz.ntmps150
  go_wp2
  go_loopw [6, 7] (fun o at' wr => ∃ m : Nat, SP c L m (zOf probes) ∧ at' = .int .i64 (pos c m) ∧ wr.ownsRow w.heap.size 3 1 o m (posl c m) ∧ Below w.heap.size w wr) (fun _ at' _ => L - (intOf at').toNat)
  case atStart => exact ⟨0, ⟨hL, hzz, hby, fun _ h => by omega, fun _ h => by omega, fun _ h => by omega⟩, rfl, World.ownsRow_nil _ _ _ _, Below.refl _ _⟩
  case round =>
    obtain ⟨m, S, rfl, hown, hB⟩ := hrel
    have hle := S.le (m := m) (Nat.le_refl _)
    have hm240 := S.count
    by_cases hlt : pos c m < L
    · have hck := C.at hB hlt
      have hi1 : (pos c m : Int) < (L : Int) := by omega
      have hb0 := (hby _ hlt).1
      have hb1 := (hby _ hlt).2
      cases hs : soundB c L (zOf probes) (pos c m) with
      | true =>
        have S2 := S.succ hs
        obtain ⟨kk, A, hsucc⟩ := S2.at (m := m) (by omega)
        rw [A.op] at hck
        have hszr : szR (kk : Int) = szOf kk := szR_is A.k
        have h1 := A.lt
        have h2 := A.fits
        have h3 := A.sz
        have h4 := A.s1
        have h5 := A.s2
        have h6 := A.pos
        have hk := A.k
        have hkz := A.kz
        have HS : Hid (pos c (m + 1) = pos c m + szOf kk) := hsucc
        have hg1 : ¬ (20 : Int) < (kk : Int) := by omega
        have hg1' : decide ((20 : Int) < (kk : Int)) = false := by simp; omega
        have hg2 : ¬ (L : Int) < (pos c m : Int) + (szOf kk : Int) := by omega
        have hg2' : decide ((L : Int) < (pos c m : Int) + (szOf kk : Int)) = false := by simp; omega
        have hsz2 : szOf kk ≤ 2 := (szOf_pos kk hk).2.1
        have hp20 : ((kk : Int) == 20) = true → probes = true := fun h => by
          have : kk = 20 := by simp at h; omega
          cases probes with
          | true => rfl
          | false => unfold zOf at hkz; simp at hkz; omega
        have hhold : holdsB (kk : Int) = true → (pos c m : Int) + 1 < (L : Int) ∧ wr.cell? ⟨cb, co + (pos c m + 1), none⟩ = some (.int .u8 (c (pos c m + 1))) ∧ ¬ (15 : Int) < c (pos c m + 1) ∧ decide ((15 : Int) < c (pos c m + 1)) = false := fun h => by
          have t := (holds_two h).1
          have q := S2.cell m (by omega)
          rw [A.op] at q
          have q := q h
          exact ⟨by omega, C.at hB (by omega), by omega, by simp; omega⟩
        have HO : Hid (wr.ownsRow w.heap.size 3 1 u6 m (posl c m)) := hown
        have hsz := hB.size
        clear hsucc h3 A S hs h4 h5 hkz hown
        obtain ⟨n, hn⟩ : ∃ n : Nat, szOf kk = n := ⟨_, rfl⟩
        rw [hn] at hszr HS h2 h6 hg2 hg2' hsz2
        clear hn
        have hcase : (((kk : Int) == 20) = true ∧ ((kk : Int) == 16) = false ∧ ((kk : Int) == 17) = false) ∨ (((kk : Int) == 20) = false ∧ ((kk : Int) == 16) = false ∧ ((kk : Int) == 17) = false) ∨ (((kk : Int) == 20) = false ∧ ((kk : Int) == 16) = true) ∨ (((kk : Int) == 20) = false ∧ ((kk : Int) == 16) = false ∧ ((kk : Int) == 17) = true) := by
          simp only [beq_iff_eq, beq_eq_false_iff_ne, ne_eq]; omega
        rcases hcase with ⟨h20, h16, h17⟩ | ⟨h20, h16, h17⟩ | ⟨h20, h16⟩ | ⟨h20, h16, h17⟩
        · have hpr := hp20 h20
          subst hpr
          clear hp20 hhold
          go_wp2_with (first | (go_at_call 193; refine (rsize_any _ _).mono ?_; rintro e w' ⟨rfl, rfl⟩; rw [hszr]) | (at_builtin; refine wpList_append_own_at _ rfl (.tmp 55) (.tmp 57) 45 rfl w.heap.size 3 i (.int .i64 0) 1 8 Tryz.underlying45 hi hz0 hz1 hz2 rfl (by decide) _ m _ rfl (HO.out.alloc _) ⟨_, 0, none⟩ 1 1 [.int .i64 (pos c m)] rfl rfl (cell_one_new _ _ _) ?c2 (by unfold maxLen; omega) (by omega) (by simp; omega) ?_))
          case c2 => intro u hu; simp at hu; subst hu; rfl
          intro v' w1 hown' hgrow _ hat
          have hB1 := (hB.alloc hsz (.cells #[.int .i64 (pos c m)] 3)).grown hgrow (by simp; omega) (fun k hk => (HO.out.lt k hk).1)
          have HO1 : Hid (w1.ownsRow w.heap.size 3 1 v' (m + 1) (posl c (m + 1))) := by
            show w1.ownsRow w.heap.size 3 1 v' (m + 1) (posl c (m + 1))
            rw [posl_succ]; exact hown'
          clear hown' hgrow hat
          go_wp2
          go_roundw
          case rel => exact ⟨m + 1, S2, by rw [HS.out]; simp, HO1.out, hB1⟩
          case measure => simp [intOf]; omega
        · clear hp20 hhold
          go_wp2_with (first | (go_at_call 193; refine (rsize_any _ _).mono ?_; rintro e w' ⟨rfl, rfl⟩; rw [hszr]) | (at_builtin; refine wpList_append_own_at _ rfl (.tmp 55) (.tmp 57) 45 rfl w.heap.size 3 i (.int .i64 0) 1 8 Tryz.underlying45 hi hz0 hz1 hz2 rfl (by decide) _ m _ rfl (HO.out.alloc _) ⟨_, 0, none⟩ 1 1 [.int .i64 (pos c m)] rfl rfl (cell_one_new _ _ _) ?c2 (by unfold maxLen; omega) (by omega) (by simp; omega) ?_))
          case c2 => intro u hu; simp at hu; subst hu; rfl
          intro v' w1 hown' hgrow _ hat
          have hB1 := (hB.alloc hsz (.cells #[.int .i64 (pos c m)] 3)).grown hgrow (by simp; omega) (fun k hk => (HO.out.lt k hk).1)
          have HO1 : Hid (w1.ownsRow w.heap.size 3 1 v' (m + 1) (posl c (m + 1))) := by
            show w1.ownsRow w.heap.size 3 1 v' (m + 1) (posl c (m + 1))
            rw [posl_succ]; exact hown'
          clear hown' hgrow hat
          go_wp2
          go_roundw
          case rel => exact ⟨m + 1, S2, by rw [HS.out]; simp, HO1.out, hB1⟩
          case measure => simp [intOf]; omega
        · obtain ⟨q1, q2, q3, q4⟩ := hhold (by unfold holdsB; rw [h16]; rfl)
          clear hp20 hhold
          go_wp2_with (first | (go_at_call 193; refine (rsize_any _ _).mono ?_; rintro e w' ⟨rfl, rfl⟩; rw [hszr]) | (at_builtin; refine wpList_append_own_at _ rfl (.tmp 55) (.tmp 57) 45 rfl w.heap.size 3 i (.int .i64 0) 1 8 Tryz.underlying45 hi hz0 hz1 hz2 rfl (by decide) _ m _ rfl (HO.out.alloc _) ⟨_, 0, none⟩ 1 1 [.int .i64 (pos c m)] rfl rfl (cell_one_new _ _ _) ?c2 (by unfold maxLen; omega) (by omega) (by simp; omega) ?_))
          case c2 => intro u hu; simp at hu; subst hu; rfl
          intro v' w1 hown' hgrow _ hat
          have hB1 := (hB.alloc hsz (.cells #[.int .i64 (pos c m)] 3)).grown hgrow (by simp; omega) (fun k hk => (HO.out.lt k hk).1)
          have HO1 : Hid (w1.ownsRow w.heap.size 3 1 v' (m + 1) (posl c (m + 1))) := by
            show w1.ownsRow w.heap.size 3 1 v' (m + 1) (posl c (m + 1))
            rw [posl_succ]; exact hown'
          clear hown' hgrow hat
          go_wp2
          go_roundw
          case rel => exact ⟨m + 1, S2, by rw [HS.out]; simp, HO1.out, hB1⟩
          case measure => simp [intOf]; omega
        · obtain ⟨q1, q2, q3, q4⟩ := hhold (by unfold holdsB; rw [h16, h17]; rfl)
          clear hp20 hhold
          go_wp2_with (first | (go_at_call 193; refine (rsize_any _ _).mono ?_; rintro e w' ⟨rfl, rfl⟩; rw [hszr]) | (at_builtin; refine wpList_append_own_at _ rfl (.tmp 55) (.tmp 57) 45 rfl w.heap.size 3 i (.int .i64 0) 1 8 Tryz.underlying45 hi hz0 hz1 hz2 rfl (by decide) _ m _ rfl (HO.out.alloc _) ⟨_, 0, none⟩ 1 1 [.int .i64 (pos c m)] rfl rfl (cell_one_new _ _ _) ?c2 (by unfold maxLen; omega) (by omega) (by simp; omega) ?_))
          case c2 => intro u hu; simp at hu; subst hu; rfl
          intro v' w1 hown' hgrow _ hat
          have hB1 := (hB.alloc hsz (.cells #[.int .i64 (pos c m)] 3)).grown hgrow (by simp; omega) (fun k hk => (HO.out.lt k hk).1)
          have HO1 : Hid (w1.ownsRow w.heap.size 3 1 v' (m + 1) (posl c (m + 1))) := by
            show w1.ownsRow w.heap.size 3 1 v' (m + 1) (posl c (m + 1))
            rw [posl_succ]; exact hown'
          clear hown' hgrow hat
          go_wp2
          go_roundw
          case rel => exact ⟨m + 1, S2, by rw [HS.out]; simp, HO1.out, hB1⟩
          case measure => simp [intOf]; omega
      | false =>
        by_cases hA : (20 : Int) < c (pos c m)
        · have hA' : decide ((20 : Int) < c (pos c m)) = true := by simp; omega
          go_wp2_with (first | (go_at_call 193; refine (rsize_any _ _).mono ?_; rintro e w' ⟨rfl, rfl⟩))
          go_ret2
          exact ⟨m, S, hB, Or.inl ⟨hlt, hs, rfl⟩⟩
        · obtain ⟨kk, hkk⟩ : ∃ kk : Nat, c (pos c m) = (kk : Int) := ⟨(c (pos c m)).toNat, by omega⟩
          have hk : kk ≤ 20 := by omega
          have hto : (c (pos c m)).toNat = kk := by omega
          have hszr : szR (kk : Int) = szOf kk := szR_is hk
          obtain ⟨hs1, hs2, _⟩ := szOf_pos kk hk
          rw [hkk] at hck
          have hg1 : ¬ (20 : Int) < (kk : Int) := by omega
          have hg1' : decide ((20 : Int) < (kk : Int)) = false := by simp; omega
          have hs' := hs
          unfold soundB at hs'
          rw [hto, hkk] at hs'
          clear hA hb0 hb1
          have ht2 : holdsB (kk : Int) = true → szOf kk = 2 := fun h => (holds_two h).1
          obtain ⟨n, hn⟩ : ∃ n : Nat, szOf kk = n := ⟨_, rfl⟩
          rw [hn] at hszr hs1 hs2 hs' ht2
          clear hn
          by_cases hB20 : kk = 20 ∧ probes = false
          · obtain ⟨e20, rfl⟩ := hB20
            have h20 : ((kk : Int) == 20) = true := by rw [e20]; rfl
            clear hs' hs2 e20 hkk hto ht2
            go_wp2_with (first | (go_at_call 193; refine (rsize_any _ _).mono ?_; rintro e w' ⟨rfl, rfl⟩; rw [hszr]))
            go_ret2
            exact ⟨m, S, hB, Or.inl ⟨hlt, hs, rfl⟩⟩
          · have hkz : kk ≤ zOf probes := by
              unfold zOf
              cases probes with
              | true => simpa using hk
              | false => have : kk ≠ 20 := fun h => hB20 ⟨h, rfl⟩
                         simp; omega
            by_cases hC : L < pos c m + n
            · have hg2 : (L : Int) < (pos c m : Int) + (n : Int) := by omega
              have hg2' : decide ((L : Int) < (pos c m : Int) + (n : Int)) = true := by simp; omega
              clear ht2 hs' hkk hto
              cases h20 : ((kk : Int) == 20) with
              | true =>
                have hpr : probes = true := by
                  cases probes with
                  | true => rfl
                  | false => exact absurd ⟨by simp at h20; omega, rfl⟩ hB20
                subst hpr
                clear hB20 hkz
                go_wp2_with (first | (go_at_call 193; refine (rsize_any _ _).mono ?_; rintro e w' ⟨rfl, rfl⟩; rw [hszr]))
                go_ret2
                exact ⟨m, S, hB, Or.inl ⟨hlt, hs, rfl⟩⟩
              | false =>
                clear hB20 hkz
                go_wp2_with (first | (go_at_call 193; refine (rsize_any _ _).mono ?_; rintro e w' ⟨rfl, rfl⟩; rw [hszr]))
                go_ret2
                exact ⟨m, S, hB, Or.inl ⟨hlt, hs, rfl⟩⟩
            · have hg2 : ¬ (L : Int) < (pos c m : Int) + (n : Int) := by omega
              have hg2' : decide ((L : Int) < (pos c m : Int) + (n : Int)) = false := by simp; omega
              have hhb : holdsB (kk : Int) = true ∧ ¬ c (pos c m + 1) < 16 := by
                have e1 : decide ((kk : Int) ≤ (zOf probes : Int)) = true := by simp; omega
                have e2 : decide (pos c m + n ≤ L) = true := by simp; omega
                rw [e1, e2] at hs'
                cases hb : holdsB (kk : Int) with
                | false => rw [hb] at hs'; cases hs'
                | true => rw [hb] at hs'; simp at hs'; exact ⟨rfl, by omega⟩
              obtain ⟨hb, hn⟩ := hhb
              have t := ht2 hb
              have q1 : (pos c m : Int) + 1 < (L : Int) := by omega
              have q2 := C.at hB (p := pos c m + 1) (by omega)
              have q3 : (15 : Int) < c (pos c m + 1) := by omega
              have q4 : decide ((15 : Int) < c (pos c m + 1)) = true := by simp; omega
              have h20 : ((kk : Int) == 20) = false := by
                unfold holdsB at hb
                rw [beq_eq_false_iff_ne]
                intro h
                rw [h] at hb
                cases hb
              unfold holdsB at hb
              clear ht2 hs' hkk hto hB20 hkz hn
              cases h16 : ((kk : Int) == 16) with
              | true =>
                clear hb
                go_wp2_with (first | (go_at_call 193; refine (rsize_any _ _).mono ?_; rintro e w' ⟨rfl, rfl⟩; rw [hszr]))
                go_ret2
                exact ⟨m, S, hB, Or.inl ⟨hlt, hs, rfl⟩⟩
              | false =>
                have h17 : ((kk : Int) == 17) = true := by rw [h16] at hb; exact hb
                clear hb
                go_wp2_with (first | (go_at_call 193; refine (rsize_any _ _).mono ?_; rintro e w' ⟨rfl, rfl⟩; rw [hszr]))
                go_ret2
                exact ⟨m, S, hB, Or.inl ⟨hlt, hs, rfl⟩⟩
    · have e : pos c m = L := by omega
      rw [e]
      go_wp2
      go_ret2
      exact ⟨m, S, hB, Or.inr ⟨e, _, hown, rfl⟩⟩
end Go.Proofs.YtflenkppcclclaaGreatDoor

