import Derived.Test.YtflenkppcclclaaDoorM08
import Derived.Test.YtflenkppcclclaaDoorM09
namespace Go.Proofs.YtflenkppcclclaaDoor
open Go.RowKit

theorem VP.good {c : Nat → Int} {L N : Nat} (V : VP c L N) : Good c L (fun p => ∃ m, m < N ∧ pos c m = p) where
  zero := ⟨0, V.one, rfl⟩
  most := by have := V.most; omega
  lt := by
    rintro p ⟨m, hm, rfl⟩
    exact ⟨V.fits hm, by have := V.op m hm; omega⟩
  byte := V.byte
  cell := by
    rintro p ⟨m, hm, rfl⟩ h
    exact V.cell m hm (by unfold holdsB; rcases h with h | h <;> rw [h] <;> rfl)
  next := by
    rintro p ⟨m, hm, rfl⟩ h0 h14 h19
    by_cases e : m = N - 1
    · have := V.stop
      rw [← e] at this
      unfold endsB at this
      simp [h0, h14, h19] at this
    · exact ⟨m + 1, by omega, rfl⟩
  jump := by
    rintro p ⟨m, hm, rfl⟩ h
    obtain ⟨t, ht, e⟩ := V.jump m hm (by unfold leadsB; rcases h with h | h <;> rw [h] <;> rfl)
    exact ⟨t, ht, by omega⟩

theorem ent_bounds (f : Nat → Bool) (L p : Nat) (hp : p < L) (hL : L ≤ 80) : -1 ≤ entAt f L p ∧ entAt f L p ≤ 255 := by
  unfold entAt entB
  rw [if_pos hp]
  have := cntB_le f p
  split <;> omega

/-- What 'Run' answers. -/
def Answer (c : Nat → Int) (L N : Nat) (input : ByteArray) (fuel : Int) (w : World) (e : Ending) (w' : World) : Prop :=
  ∃ (n : Nat) (τ : RS), τ = after c (entAt (bgn c N) L) fuel (ρ0 input) n ∧ τ.σ.ended = true ∧ (∀ m, m < n → (after c (entAt (bgn c N) L) fuel (ρ0 input) m).σ.ended = false) ∧ Below w.heap.size w w' ∧
    ∃ g, w.heap.size ≤ g ∧ w'.heap[g]? = some (.cells (covL τ.cnt 64).toArray 5 (0, 0)) ∧ e = .returned (.tuple #[.agg #[.int .i64 τ.σ.kind, .int .i64 τ.σ.fault, .int .i64 τ.σ.place, .string (strOfNums τ.σ.out), .int .i64 τ.σ.steps], .slice (some ⟨g, 0, none⟩) 64 64, .int .i64 0])

set_option maxHeartbeats 1000000 in
theorem xRun_any (w : World) (cb co L cap N : Nat) (c : Nat → Int) (V : VP c L N) (C : Laid w cb co L cap c) (hT : Tab w) (input : ByteArray) (fuel : Int) (hin : input.size ≤ 24) (hf0 : 0 ≤ fuel) (hf1 : fuel ≤ 500) :
    Calls Tryd.prog 10 #[.slice (some ⟨cb, co, none⟩) L cap, .string input, .int .i64 fuel] w (Answer c L N input fuel w) := by
  have hmost := V.most
  have d1 : decide ((24 : Int) < (input.size : Int)) = false := by simp; omega
  have d1' : ¬ (24 : Int) < (input.size : Int) := by omega
  have d2 : decide (fuel < 0) = false := by simp; omega
  have d2' : ¬ fuel < 0 := by omega
  have d3 : ¬ (500 : Int) < fuel := by omega
  have d3' : decide ((500 : Int) < fuel) = false := by simp; omega
  have B0 : Below w.heap.size w (w.alloc (.cells #[.int .i64 0, .int .i64 0, .int .i64 0, .string ⟨#[]⟩, .int .i64 0] 27)) := (Below.refl _ _).alloc (Nat.le_refl _) _
  have hgood := V.good
  go_enter Tryd.func10, Tryd.ntmps10
  go_wp2_with fail
  refine (canRun_yes _ cb co L cap N c V (C.below B0) (hT.below B0)).mono ?_
  rintro e w1 ⟨rfl, B1⟩
  have hz0 : (w.alloc (.cells #[.int .i64 0, .int .i64 0, .int .i64 0, .string ⟨#[]⟩, .int .i64 0] 27)).heap.size = w.heap.size + 1 := by simp
  rw [hz0] at B1
  have B01 := B0.trans (B1.mono (by omega))
  go_wp2_with fail
  refine (entries_any w1 cb co L cap N c V (C.below B01) (hT.below B01)).mono ?_
  rintro e w2 ⟨g, hg, rfl, hge, B2⟩
  have B02 := B01.trans (B2.mono B01.size)
  have W02 := B1.trans (B2.mono (by have := B1.size; rw [hz0] at this; omega))
  go_wp2_with fail
  refine (run_any w2 cb co L cap g 0 L c (entAt (bgn c N) L) _ input fuel hgood (fun p hp => ent_bounds _ L p hp hmost) hin hf0 hf1 (hT.below B02) (C.below B02).cell (fun i hi => ?_) C.room).mono ?_
  · rw [Nat.zero_add, cell_of_row w2 g _ _ _ _ hge, List.getElem?_toArray]; exact il_get L _ _ hi
  rintro e w3 ⟨n, τ, h1, h2, h3, B3, gg, hgg, hcov, rfl⟩
  have B03 := B02.trans (B3.mono B02.size)
  have W03 := W02.trans (B3.mono (by have := W02.size; rw [hz0] at this; omega))
  have hs3 := W03.size
  rw [hz0] at hs3
  have hH : w3.heap[w.heap.size]? = some (.cells #[.int .i64 0, .int .i64 0, .int .i64 0, .string ⟨#[]⟩, .int .i64 0] 27 (0, 0)) := (W03.block _ (by omega)).trans (heap_alloc_new w _)
  have i0 : w3.cell? ⟨w.heap.size, 0, none⟩ = some (.int .i64 0) := cell_of_row _ _ _ _ _ _ hH
  have i1 : w3.cell? ⟨w.heap.size, 1, none⟩ = some (.int .i64 0) := cell_of_row _ _ _ _ _ _ hH
  have i2 : w3.cell? ⟨w.heap.size, 2, none⟩ = some (.int .i64 0) := cell_of_row _ _ _ _ _ _ hH
  have i3 : w3.cell? ⟨w.heap.size, 3, none⟩ = some (.string ⟨#[]⟩) := cell_of_row _ _ _ _ _ _ hH
  have i4 : w3.cell? ⟨w.heap.size, 4, none⟩ = some (.int .i64 0) := cell_of_row _ _ _ _ _ _ hH
  have j0 := frozen_of_row w3 w.heap.size 0 _ _ hH
  have j1 := frozen_of_row w3 w.heap.size 1 _ _ hH
  have j2 := frozen_of_row w3 w.heap.size 2 _ _ hH
  have j3 := frozen_of_row w3 w.heap.size 3 _ _ hH
  have j4 := frozen_of_row w3 w.heap.size 4 _ _ hH
  have hsz2 := B02.size
  have HFIN : Hid (τ = after c (entAt (bgn c N) L) fuel (ρ0 input) n ∧ τ.σ.ended = true ∧ (∀ m, m < n → (after c (entAt (bgn c N) L) fuel (ρ0 input) m).σ.ended = false) ∧ Below w.heap.size w w3 ∧ w3.heap[gg]? = some (.cells (covL τ.cnt 64).toArray 5 (0, 0)) ∧ w.heap.size < gg ∧ gg < w3.heap.size) := ⟨h1, h2, h3, B03, hcov, by have := W02.size; rw [hz0] at this; omega, (Array.getElem?_eq_some_iff.1 hcov).1⟩
  obtain ⟨so, hso⟩ : ∃ so, strOfNums τ.σ.out = so := ⟨_, rfl⟩
  rw [hso]
  have HSO : Hid (strOfNums τ.σ.out = so) := hso
  have hH3 : w.heap.size < w3.heap.size := by omega
  clear hso h1 h2 h3 B0 B1 B01 B2 B02 W02 B3 B03 W03 hH hcov hge hgood C hT V
  go_wp2
  obtain ⟨F1, F2, F3, F4, F5, F6, F7⟩ := HFIN.out
  refine bodyPost_ret (v := .tuple #[.agg #[.int .i64 τ.σ.kind, .int .i64 τ.σ.fault, .int .i64 τ.σ.place, .string so, .int .i64 τ.σ.steps], .slice (some ⟨gg, 0, none⟩) 64 64, .int .i64 0]) ?_ rfl ?_
  · simp [results, Tryd.results10, go_sem, i0, i1, i2, i3, i4, hH3]
  · unfold Answer
    refine ⟨n, τ, F1, F2, F3, ?_, gg, by omega, ?_, by rw [HSO.out]⟩
    · exact (below_set (below_set (below_set (below_set (below_set F4 0 _) 1 _) 2 _) 3 _) 4 _).alloc (by simp; omega) _
    · rw [Below.heap_alloc _ _ _ (by simp; omega)]
      have hne : gg ≠ w.heap.size := by omega
      rw [heap_setCell_other _ ⟨w.heap.size, 4, none⟩ _ _ hne, heap_setCell_other _ ⟨w.heap.size, 3, none⟩ _ _ hne, heap_setCell_other _ ⟨w.heap.size, 2, none⟩ _ _ hne, heap_setCell_other _ ⟨w.heap.size, 1, none⟩ _ _ hne, heap_setCell_other _ ⟨w.heap.size, 0, none⟩ _ _ hne]
      exact F5

set_option maxHeartbeats 400000 in
theorem pCheck_any (w : World) (cb co L cap N : Nat) (c : Nat → Int) (V : VP c L N) (C : Laid w cb co L cap c) (hT : Tab w) :
    Calls Tryd.prog 23 #[.slice (some ⟨cb, co, none⟩) L cap] w fun e w' => e = .returned (.tuple #[.int .i64 (cntB (bgn c N) L), .bool true]) ∧ Below w.heap.size w w' := by
  have hmost := V.most
  go_enter Tryd.func23, Tryd.ntmps23
  go_wp2_with fail
  refine (flaw_no w cb co L cap N c V C hT).mono ?_
  rintro e w1 ⟨rfl, B1⟩
  go_wp2_with fail
  refine (beginnings_any w1 cb co L cap N c V (C.below B1) (hT.below B1)).mono ?_
  rintro e w2 ⟨rfl, hg, B2⟩
  go_wp2_with fail
  refine (number_any w2 w1.heap.size L _ hg (by omega)).mono ?_
  rintro e w3 ⟨rfl, rfl⟩
  go_wp2_with fail
  go_ret2
  exact ⟨rfl, B1.trans (B2.mono B1.size)⟩

theorem xCheck_any (w : World) (cb co L cap N : Nat) (c : Nat → Int) (V : VP c L N) (C : Laid w cb co L cap c) (hT : Tab w) :
    Calls Tryd.prog 18 #[.slice (some ⟨cb, co, none⟩) L cap] w fun e w' => e = .returned (.tuple #[.int .i64 (cntB (bgn c N) L), .int .i64 0]) ∧ Below w.heap.size w w' := by
  go_enter Tryd.func18, Tryd.ntmps18
  go_wp2_with fail
  refine (pCheck_any w cb co L cap N c V C hT).mono ?_
  rintro e w1 ⟨rfl, B1⟩
  go_wp2_with fail
  go_ret2
  exact ⟨rfl, B1⟩
end Go.Proofs.YtflenkppcclclaaDoor

namespace Go.Proofs.YtflenkppcclclaaDoor
open Go.RowKit

def lE : List Int := [2, 1, 97, 12, 15, 9, 19, 7, 0, 0]
def cE (i : Nat) : Int := lE.getD i 0
theorem vE : VP cE 10 7 where
  most := by decide
  one := by decide
  last := by decide
  op := by decide
  byte := by decide
  cell := by decide
  stop := by decide
  jump := by
    intro m hm
    match m, hm with
    | 0, _ | 1, _ | 2, _ | 4, _ | 5, _ | 6, _ => intro h; exact absurd h (by decide)
    | 3, _ => intro _; exact ⟨6, by decide, by decide⟩
    | m + 7, hm => omega

def entE : Nat → Int := entAt (bgn cE 7) 10
theorem cntE : cntB (bgn cE 7) 10 = 4 := by decide

theorem once {c ent : Nat → Int} {fuel : Int} {ρ : RS} {n n0 : Nat} (he : (after c ent fuel ρ n).σ.ended = true) (hN : ∀ m, m < n → (after c ent fuel ρ m).σ.ended = false)
    (he0 : (after c ent fuel ρ n0).σ.ended = true) (hN0 : ∀ m, m < n0 → (after c ent fuel ρ m).σ.ended = false) : n = n0 := by
  rcases Nat.lt_trichotomy n n0 with h | h | h
  · rw [hN0 n h] at he; cases he
  · exact h
  · rw [hN n0 h] at he0; cases he0

def rA (n : Nat) : RS := after cE entE 100 (ρ0 ⟨#[97]⟩) n
def rB (n : Nat) : RS := after cE entE 100 (ρ0 ⟨#[98]⟩) n
theorem rA_end : (rA 5).σ.ended = true := by kernel_rfl
theorem rA_not : ∀ m, m < 5 → (rA m).σ.ended = false := by
  intro m hm
  match m, hm with
  | 0, _ => exact (show (rA 0).σ.ended = false by kernel_rfl)
  | 1, _ => exact (show (rA 1).σ.ended = false by kernel_rfl)
  | 2, _ => exact (show (rA 2).σ.ended = false by kernel_rfl)
  | 3, _ => exact (show (rA 3).σ.ended = false by kernel_rfl)
  | 4, _ => exact (show (rA 4).σ.ended = false by kernel_rfl)
  | m + 5, hm => omega
theorem rA_kind : (rA 5).σ.kind = 1 := by kernel_rfl
theorem rA_fault : (rA 5).σ.fault = 23 := by kernel_rfl
theorem rA_place : (rA 5).σ.place = 6 := by kernel_rfl
theorem rA_steps : (rA 5).σ.steps = 5 := by kernel_rfl
theorem rA_out : (rA 5).σ.out = [] := by kernel_rfl
theorem rA_0 : classS ((rA 5).cnt 0) = 1 := by kernel_rfl
theorem rA_8 : classS ((rA 5).cnt 8) = 1 := by kernel_rfl
theorem rA_10 : classS ((rA 5).cnt 10) = 0 := by kernel_rfl
theorem rB_end : (rB 5).σ.ended = true := by kernel_rfl
theorem rB_not : ∀ m, m < 5 → (rB m).σ.ended = false := by
  intro m hm
  match m, hm with
  | 0, _ => exact (show (rB 0).σ.ended = false by kernel_rfl)
  | 1, _ => exact (show (rB 1).σ.ended = false by kernel_rfl)
  | 2, _ => exact (show (rB 2).σ.ended = false by kernel_rfl)
  | 3, _ => exact (show (rB 3).σ.ended = false by kernel_rfl)
  | 4, _ => exact (show (rB 4).σ.ended = false by kernel_rfl)
  | m + 5, hm => omega
theorem rB_kind : (rB 5).σ.kind = 0 := by kernel_rfl
theorem rB_fault : (rB 5).σ.fault = 0 := by kernel_rfl
theorem rB_place : (rB 5).σ.place = 9 := by kernel_rfl
theorem rB_steps : (rB 5).σ.steps = 5 := by kernel_rfl
theorem rB_out : (rB 5).σ.out = [] := by kernel_rfl
theorem rB_0 : classS ((rB 5).cnt 0) = 1 := by kernel_rfl
theorem rB_8 : classS ((rB 5).cnt 8) = 0 := by kernel_rfl
theorem rB_10 : classS ((rB 5).cnt 10) = 1 := by kernel_rfl
end Go.Proofs.YtflenkppcclclaaDoor

namespace Go.Proofs.YtflenkppcclclaaDoor
open Go.RowKit

theorem example_any (w : World) : Calls Tryd.prog 19 #[] w fun e w' => e = .returned (.slice (some ⟨w.heap.size, 0, none⟩) 10 10) ∧ w' = w.alloc (.cells #[.int .u8 2, .int .u8 1, .int .u8 97, .int .u8 12, .int .u8 15, .int .u8 9, .int .u8 19, .int .u8 7, .int .u8 0, .int .u8 0] 5) := by
  go_enter Tryd.func19, Tryd.ntmps19
  go_wp2
  go_ret
  exact ⟨rfl, rfl⟩

theorem laidE (w : World) : Laid (w.alloc (.cells #[.int .u8 2, .int .u8 1, .int .u8 97, .int .u8 12, .int .u8 15, .int .u8 9, .int .u8 19, .int .u8 7, .int .u8 0, .int .u8 0] 5)) w.heap.size 0 10 10 cE where
  cell := by
    intro i hi
    rw [Nat.zero_add, World.cell?_alloc_new]
    match i, hi with
    | 0, _ | 1, _ | 2, _ | 3, _ | 4, _ | 5, _ | 6, _ | 7, _ | 8, _ | 9, _ => rfl
    | i + 10, hi => omega
  room := Nat.le_refl _
  room' := by decide
  some' := by decide

theorem short_any (s : ByteArray) (hs : s.size ≤ 9223372036854775807) (w : World) : Calls Tryd.prog 8 #[.string s, .int .i64 24] w fun e w' => e = .returned (.string (if 24 < s.size then s.extract 0 24 else s)) ∧ w' = w := by
  by_cases h : 24 < s.size
  · rw [if_pos h]
    have h1 : (24 : Int) < (s.size : Int) := by omega
    have h2 : (24 : Int) ≤ (s.size : Int) := by omega
    go_enter Tryd.func8, Tryd.ntmps8
    go_wp2
    go_ret
    exact ⟨rfl, rfl⟩
  · rw [if_neg h]
    have h1 : ¬ (24 : Int) < (s.size : Int) := by omega
    go_enter Tryd.func8, Tryd.ntmps8
    go_wp2
    go_ret
    exact ⟨rfl, rfl⟩

theorem pick_any (c n : Int) (h1 : -9223372036854775808 ≤ c) (h2 : c ≤ 9223372036854775807) (hn : 1 ≤ n) (hn' : n ≤ 1000) (w : World) : Calls Tryd.prog 9 #[.int .i64 c, .int .i64 n] w fun e w' => (∃ p, e = .returned (.int .i64 p) ∧ 0 ≤ p ∧ p < n) ∧ w' = w := by
  by_cases h : c < 0
  · have e : -((c + 1).tmod n) = (-(c + 1)) % n := by rw [← Int.tmod_eq_emod_of_nonneg (by omega), Int.neg_tmod]
    have e1 := Int.emod_nonneg (-(c + 1)) (show n ≠ 0 by omega)
    have e2 := Int.emod_lt_of_pos (-(c + 1)) (show 0 < n by omega)
    have E : Hid (0 ≤ -((c + 1).tmod n) ∧ -((c + 1).tmod n) < n) := ⟨by rw [e]; exact e1, by rw [e]; exact e2⟩
    clear e e1 e2
    go_enter Tryd.func9, Tryd.ntmps9
    go_wp2
    go_ret
    exact ⟨⟨_, rfl, E.out.1, E.out.2⟩, rfl⟩
  · have e1 := Int.emod_nonneg c (show n ≠ 0 by omega)
    have e2 := Int.emod_lt_of_pos c (show 0 < n by omega)
    have E : Hid (0 ≤ c % n ∧ c % n < n) := ⟨e1, e2⟩
    clear e1 e2
    go_enter Tryd.func9, Tryd.ntmps9
    go_wp2
    go_ret
    exact ⟨⟨_, rfl, E.out.1, E.out.2⟩, rfl⟩
end Go.Proofs.YtflenkppcclclaaDoor

namespace Go.Proofs.YtflenkppcclclaaDoor
open Go.RowKit

theorem cov_cell {w : World} {g : Nat} {cnt : Nat → Int} (h : w.heap[g]? = some (.cells (covL cnt 64).toArray 5 (0, 0))) (i : Nat) (hi : i < 64) : w.cell? ⟨g, i, none⟩ = some (.int .u8 (classS (cnt i))) := by
  rw [cell_of_row w g _ _ _ _ h, List.getElem?_toArray, covL_get cnt 64 i hi, if_pos hi]

theorem runA (w : World) (cb co cap : Nat) (C : Laid w cb co 10 cap cE) (hT : Tab w) :
    Calls Tryd.prog 10 #[.slice (some ⟨cb, co, none⟩) 10 cap, .string ⟨#[97]⟩, .int .i64 100] w fun e w' => Below w.heap.size w w' ∧ ∃ g, w.heap.size ≤ g ∧ g < w'.heap.size ∧ w'.cell? ⟨g, 0, none⟩ = some (.int .u8 1) ∧ w'.cell? ⟨g, 8, none⟩ = some (.int .u8 1) ∧ w'.cell? ⟨g, 10, none⟩ = some (.int .u8 0) ∧
      e = .returned (.tuple #[.agg #[.int .i64 1, .int .i64 23, .int .i64 6, .string ⟨#[]⟩, .int .i64 5], .slice (some ⟨g, 0, none⟩) 64 64, .int .i64 0]) := by
  refine (xRun_any w cb co 10 cap 7 cE vE C hT ⟨#[97]⟩ 100 (by decide) (by omega) (by omega)).mono ?_
  rintro e w' ⟨n, τ, rfl, h2, h3, h4, g, h5, h6, h7⟩
  have hn : n = 5 := once h2 h3 rA_end rA_not
  subst hn
  have e0 : after cE (entAt (bgn cE 7) 10) 100 (ρ0 ⟨#[97]⟩) 5 = rA 5 := rfl
  rw [e0] at h6 h7
  refine ⟨h4, g, h5, (Array.getElem?_eq_some_iff.1 h6).1, ?_, ?_, ?_, ?_⟩
  · rw [cov_cell h6 0 (by omega), rA_0]
  · rw [cov_cell h6 8 (by omega), rA_8]
  · rw [cov_cell h6 10 (by omega), rA_10]
  · rw [h7, rA_kind, rA_fault, rA_place, rA_steps, rA_out]; rfl
theorem runB (w : World) (cb co cap : Nat) (C : Laid w cb co 10 cap cE) (hT : Tab w) :
    Calls Tryd.prog 10 #[.slice (some ⟨cb, co, none⟩) 10 cap, .string ⟨#[98]⟩, .int .i64 100] w fun e w' => Below w.heap.size w w' ∧ ∃ g, w.heap.size ≤ g ∧ g < w'.heap.size ∧ w'.cell? ⟨g, 0, none⟩ = some (.int .u8 1) ∧ w'.cell? ⟨g, 8, none⟩ = some (.int .u8 0) ∧ w'.cell? ⟨g, 10, none⟩ = some (.int .u8 1) ∧
      e = .returned (.tuple #[.agg #[.int .i64 0, .int .i64 0, .int .i64 9, .string ⟨#[]⟩, .int .i64 5], .slice (some ⟨g, 0, none⟩) 64 64, .int .i64 0]) := by
  refine (xRun_any w cb co 10 cap 7 cE vE C hT ⟨#[98]⟩ 100 (by decide) (by omega) (by omega)).mono ?_
  rintro e w' ⟨n, τ, rfl, h2, h3, h4, g, h5, h6, h7⟩
  have hn : n = 5 := once h2 h3 rB_end rB_not
  subst hn
  have e0 : after cE (entAt (bgn cE 7) 10) 100 (ρ0 ⟨#[98]⟩) 5 = rB 5 := rfl
  rw [e0] at h6 h7
  refine ⟨h4, g, h5, (Array.getElem?_eq_some_iff.1 h6).1, ?_, ?_, ?_, ?_⟩
  · rw [cov_cell h6 0 (by omega), rB_0]
  · rw [cov_cell h6 8 (by omega), rB_8]
  · rw [cov_cell h6 10 (by omega), rB_10]
  · rw [h7, rB_kind, rB_fault, rB_place, rB_steps, rB_out]; rfl
theorem chkE (w : World) (cb co cap : Nat) (C : Laid w cb co 10 cap cE) (hT : Tab w) :
    Calls Tryd.prog 18 #[.slice (some ⟨cb, co, none⟩) 10 cap] w fun e w' => e = .returned (.tuple #[.int .i64 4, .int .i64 0]) ∧ Below w.heap.size w w' := by
  have := xCheck_any w cb co 10 cap 7 cE vE C hT
  rw [cntE] at this
  exact this

set_option maxHeartbeats 1000000 in
theorem ran_any (w : World) (hT : Tab w) : Calls Tryd.prog 7 #[] w fun e w' => e = .returned (.bool true) ∧ Below w.heap.size w w' := by
  go_enter Tryd.func7, Tryd.ntmps7
  go_wp2_with fail
  refine (example_any w).mono ?_
  rintro e w1 ⟨rfl, hw1⟩
  have B1 : Below w.heap.size w w1 := by rw [hw1]; exact (Below.refl _ _).alloc (Nat.le_refl _) _
  have C1 := laidE w
  rw [← hw1] at C1
  clear hw1
  go_wp2_with fail
  refine (chkE w1 _ _ _ C1 (hT.below B1)).mono ?_
  rintro e w2 ⟨rfl, B2⟩
  have B02 := B1.trans (B2.mono B1.size)
  go_wp2_with fail
  refine (example_any w2).mono ?_
  rintro e w3 ⟨rfl, hw3⟩
  have B3 : Below w2.heap.size w2 w3 := by rw [hw3]; exact (Below.refl _ _).alloc (Nat.le_refl _) _
  have B03 := B02.trans (B3.mono B02.size)
  have C3 := laidE w2
  rw [← hw3] at C3
  clear hw3
  go_wp2_with fail
  refine (runA w3 _ _ _ C3 (hT.below B03)).mono ?_
  rintro e w4 ⟨B4, g4, hg4, hl4, a0, a8, a10, rfl⟩
  have B04 := B03.trans (B4.mono B03.size)
  clear C1 C3 B1 B2 B02 B3 B03 B4
  go_wp2_with fail
  refine (example_any _).mono ?_
  rintro e w6 ⟨rfl, hw6⟩
  have hz5 : (w4.alloc (.cells #[.int .i64 1, .int .i64 23, .int .i64 6, .string ⟨#[]⟩, .int .i64 5] 27)).heap.size = w4.heap.size + 1 := by simp
  have B6 : Below (w4.alloc (.cells #[.int .i64 1, .int .i64 23, .int .i64 6, .string ⟨#[]⟩, .int .i64 5] 27)).heap.size (w4.alloc (.cells #[.int .i64 1, .int .i64 23, .int .i64 6, .string ⟨#[]⟩, .int .i64 5] 27)) w6 := by rw [hw6]; exact (Below.refl _ _).alloc (Nat.le_refl _) _
  have C6 := laidE (w4.alloc (.cells #[.int .i64 1, .int .i64 23, .int .i64 6, .string ⟨#[]⟩, .int .i64 5] 27))
  rw [← hw6, hz5] at C6
  clear hw6
  have B05 : Below w.heap.size w (w4.alloc (.cells #[.int .i64 1, .int .i64 23, .int .i64 6, .string ⟨#[]⟩, .int .i64 5] 27)) := B04.alloc (by have := B04.size; omega) _
  rw [hz5] at B6
  have B06 := B05.trans (B6.mono (by have := B04.size; omega))
  have hs6 : w4.heap.size + 1 ≤ w6.heap.size := by have := B6.size; rw [hz5] at this; exact this
  have b0 : w6.cell? ⟨g4, 0, none⟩ = some (.int .u8 1) := (B6.cell (p := ⟨g4, 0, none⟩) (by show g4 < w4.heap.size + 1; omega)).trans ((World.cell?_alloc_past _ _ _ hl4).trans a0)
  have b8 : w6.cell? ⟨g4, 8, none⟩ = some (.int .u8 1) := (B6.cell (p := ⟨g4, 8, none⟩) (by show g4 < w4.heap.size + 1; omega)).trans ((World.cell?_alloc_past _ _ _ hl4).trans a8)
  have b10 : w6.cell? ⟨g4, 10, none⟩ = some (.int .u8 0) := (B6.cell (p := ⟨g4, 10, none⟩) (by show g4 < w4.heap.size + 1; omega)).trans ((World.cell?_alloc_past _ _ _ hl4).trans a10)
  have s0 : w6.cell? ⟨w4.heap.size, 0, none⟩ = some (.int .i64 1) := (B6.cell (p := ⟨w4.heap.size, 0, none⟩) (by show w4.heap.size < w4.heap.size + 1; omega)).trans (World.cell?_alloc_new _ _ _ _)
  have s1 : w6.cell? ⟨w4.heap.size, 1, none⟩ = some (.int .i64 23) := (B6.cell (p := ⟨w4.heap.size, 1, none⟩) (by show w4.heap.size < w4.heap.size + 1; omega)).trans (World.cell?_alloc_new _ _ _ _)
  have s2 : w6.cell? ⟨w4.heap.size, 2, none⟩ = some (.int .i64 6) := (B6.cell (p := ⟨w4.heap.size, 2, none⟩) (by show w4.heap.size < w4.heap.size + 1; omega)).trans (World.cell?_alloc_new _ _ _ _)
  have s3 : w6.cell? ⟨w4.heap.size, 3, none⟩ = some (.string ⟨#[]⟩) := (B6.cell (p := ⟨w4.heap.size, 3, none⟩) (by show w4.heap.size < w4.heap.size + 1; omega)).trans (World.cell?_alloc_new _ _ _ _)
  have s4 : w6.cell? ⟨w4.heap.size, 4, none⟩ = some (.int .i64 5) := (B6.cell (p := ⟨w4.heap.size, 4, none⟩) (by show w4.heap.size < w4.heap.size + 1; omega)).trans (World.cell?_alloc_new _ _ _ _)
  clear B6 B05 a0 a8 a10
  go_wp2_with fail
  refine (runB w6 _ _ _ C6 (hT.below B06)).mono ?_
  rintro e w7 ⟨B7, g7, hg7, hl7, d0, d8, d10, rfl⟩
  have B07 := B06.trans (B7.mono B06.size)
  have hs7 := B7.size
  have e0 := (B7.cell (p := ⟨g4, 0, none⟩) (by show g4 < w6.heap.size; omega)).trans b0
  have e8 := (B7.cell (p := ⟨g4, 8, none⟩) (by show g4 < w6.heap.size; omega)).trans b8
  have e10 := (B7.cell (p := ⟨g4, 10, none⟩) (by show g4 < w6.heap.size; omega)).trans b10
  have t0 := (B7.cell (p := ⟨w4.heap.size, 0, none⟩) (by show w4.heap.size < w6.heap.size; omega)).trans s0
  have t1 := (B7.cell (p := ⟨w4.heap.size, 1, none⟩) (by show w4.heap.size < w6.heap.size; omega)).trans s1
  have t2 := (B7.cell (p := ⟨w4.heap.size, 2, none⟩) (by show w4.heap.size < w6.heap.size; omega)).trans s2
  have t3 := (B7.cell (p := ⟨w4.heap.size, 3, none⟩) (by show w4.heap.size < w6.heap.size; omega)).trans s3
  have t4 := (B7.cell (p := ⟨w4.heap.size, 4, none⟩) (by show w4.heap.size < w6.heap.size; omega)).trans s4
  have u1 : g4 < w7.heap.size := by omega
  have u2 : w4.heap.size < w7.heap.size := by omega
  clear B7 C6 b0 b8 b10 s0 s1 s2 s3 s4 B06 B04 hg4 hg7 hl4 hs6 hs7
  go_wp2_with fail
  go_ret
  exact ⟨rfl, B07.alloc (by have := B07.size; omega) _⟩
end Go.Proofs.YtflenkppcclclaaDoor

namespace Go.Proofs.YtflenkppcclclaaDoor
open Go.RowKit

def lQ : List Int := [2, 3, 1, 255, 5, 13, 15, 10, 0, 0, 18, 14, 0]
def cQ (i : Nat) : Int := lQ.getD i 0
theorem vQ : VP cQ 13 10 where
  most := by decide
  one := by decide
  last := by decide
  op := by decide
  byte := by decide
  cell := by decide
  stop := by decide
  jump := by
    intro m hm
    match m, hm with
    | 0, _ | 1, _ | 2, _ | 3, _ | 4, _ | 6, _ | 7, _ | 8, _ => intro h; exact absurd h (by decide)
    | 5, _ => intro _; exact ⟨8, by decide, by decide⟩
    | 9, _ => intro _; exact ⟨0, by decide, by decide⟩
    | m + 10, hm => omega

/-- One round, as far as the machine goes. -/
def stp (f : Int) (σ : St) : St := advS { σ with place := σ.next } (cQ σ.next.toNat).toNat (second cQ σ.next.toNat) f
def itf (f : Int) (σ : St) : Nat → St
  | 0 => σ
  | n + 1 => stp f (itf f σ n)
theorem after_itf (ent : Nat → Int) (f : Int) (ρ : RS) : ∀ n, (after cQ ent f ρ n).σ = itf f ρ.σ n
  | 0 => rfl
  | n + 1 => by show stp f (after cQ ent f ρ n).σ = stp f (itf f ρ.σ n); rw [after_itf ent f ρ n]

structure Lives (f : Int) (σ : St) (n : Nat) (τ : St) : Prop where
  comes : itf f σ n = τ
  lives : ∀ m, m < n → (itf f σ m).ended = false
theorem Lives.zero (f : Int) (σ : St) : Lives f σ 0 σ := ⟨rfl, fun _ h => absurd h (by omega)⟩
theorem Lives.step {f : Int} {σ τ υ : St} {n : Nat} (h : Lives f σ n τ) (he : τ.ended = false) (hs : stp f τ = υ) : Lives f σ (n + 1) υ := by
  refine ⟨by show stp f (itf f σ n) = _; rw [h.comes, hs], fun m hm => ?_⟩
  by_cases e : m = n
  · subst e; rw [h.comes]; exact he
  · exact h.lives m (by omega)

section
variable (f x : Int) (ce : Nat → Int) (inp : ByteArray) (out : List Int) (kd fl pl st : Int)
theorem q0 (hst : st ≠ f) (h : 0 < inp.size) : stp f ⟨[], ce, inp, out, 0, kd, fl, pl, st, false⟩ = ⟨[((inp[0]'h).toNat : Int)], ce, inp.extract 1 inp.size, out, 1, kd, fl, 0, st + 1, false⟩ := by
  show advS _ 2 0 f = _
  unfold advS
  rw [if_neg (by decide), if_neg hst, if_neg (by show ¬ misfitS 0 0 1 ≠ 0; decide)]
  show (if h : 0 < inp.size then _ else _) = _
  rw [dif_pos h]
  rfl
theorem q0e (hst : st ≠ f) (h : ¬ 0 < inp.size) : stp f ⟨[], ce, inp, out, 0, kd, fl, pl, st, false⟩ = ⟨[256], ce, inp, out, 1, kd, fl, 0, st + 1, false⟩ := by
  show advS _ 2 0 f = _
  unfold advS
  rw [if_neg (by decide), if_neg hst, if_neg (by show ¬ misfitS 0 0 1 ≠ 0; decide)]
  show (if h : 0 < inp.size then _ else _) = _
  rw [dif_neg h]
  rfl
theorem q1 (hst : st ≠ f) : stp f ⟨[x], ce, inp, out, 1, kd, fl, pl, st, false⟩ = ⟨[x, x], ce, inp, out, 2, kd, fl, 1, st + 1, false⟩ := by
  show advS _ 3 0 f = _
  unfold advS
  rw [if_neg (by decide), if_neg hst, if_neg (by show ¬ misfitS 1 1 2 ≠ 0; decide)]
  rfl
theorem q2 (hst : st ≠ f) : stp f ⟨[x, x], ce, inp, out, 2, kd, fl, pl, st, false⟩ = ⟨[x, x, 255], ce, inp, out, 4, kd, fl, 2, st + 1, false⟩ := by
  show advS _ 1 255 f = _
  unfold advS
  rw [if_neg (by decide), if_neg hst, if_neg (by show ¬ misfitS 2 0 1 ≠ 0; decide)]
  rfl
theorem q4 (hst : st ≠ f) : stp f ⟨[x, x, 255], ce, inp, out, 4, kd, fl, pl, st, false⟩ = ⟨[x, 255, x], ce, inp, out, 5, kd, fl, 4, st + 1, false⟩ := by
  show advS _ 5 0 f = _
  unfold advS
  rw [if_neg (by decide), if_neg hst, if_neg (by show ¬ misfitS 3 2 2 ≠ 0; decide)]
  rfl
theorem q5 (hst : st ≠ f) : stp f ⟨[x, 255, x], ce, inp, out, 5, kd, fl, pl, st, false⟩ = ⟨[x, tru (decide ((255 : Int) < x))], ce, inp, out, 6, kd, fl, 5, st + 1, false⟩ := by
  show advS _ 13 0 f = _
  unfold advS
  rw [if_neg (by decide), if_neg hst, if_neg (by show ¬ misfitS 3 2 1 ≠ 0; decide)]
  rfl
theorem q6 (hst : st ≠ f) : stp f ⟨[x, 0], ce, inp, out, 6, kd, fl, pl, st, false⟩ = ⟨[x], ce, inp, out, 10, kd, fl, 6, st + 1, false⟩ := by
  show advS _ 15 10 f = _
  unfold advS
  rw [if_neg (by decide), if_neg hst, if_neg (by show ¬ misfitS 2 1 0 ≠ 0; decide)]
  rfl
theorem q6e (hst : st ≠ f) : stp f ⟨[x, 1], ce, inp, out, 6, kd, fl, pl, st, false⟩ = ⟨[x], ce, inp, out, 8, kd, fl, 6, st + 1, false⟩ := by
  show advS _ 15 10 f = _
  unfold advS
  rw [if_neg (by decide), if_neg hst, if_neg (by show ¬ misfitS 2 1 0 ≠ 0; decide)]
  rfl
theorem q8 (hst : st ≠ f) : stp f ⟨[x], ce, inp, out, 8, kd, fl, pl, st, false⟩ = ⟨[x], ce, inp, out, 9, 0, 0, 8, st + 1, true⟩ := by
  show advS _ 0 0 f = _
  unfold advS
  rw [if_neg (by decide), if_neg hst, if_neg (by show ¬ misfitS 1 0 0 ≠ 0; decide)]
  rfl
theorem q10 (hst : st ≠ f) (h : out.length ≠ 16) : stp f ⟨[x], ce, inp, out, 10, kd, fl, pl, st, false⟩ = ⟨[], ce, inp, out ++ [IntKind.u8.wrap x], 11, kd, fl, 10, st + 1, false⟩ := by
  show advS _ 18 0 f = _
  unfold advS
  rw [if_neg (by decide), if_neg hst, if_neg (by show ¬ misfitS 1 1 0 ≠ 0; decide)]
  show (if out.length = 16 then _ else _) = _
  rw [if_neg h]
  rfl
theorem q10e (hst : st ≠ f) (h : out.length = 16) : stp f ⟨[x], ce, inp, out, 10, kd, fl, pl, st, false⟩ = ⟨[], ce, inp, out, 11, 1, 4, 10, st + 1, true⟩ := by
  show advS _ 18 0 f = _
  unfold advS
  rw [if_neg (by decide), if_neg hst, if_neg (by show ¬ misfitS 1 1 0 ≠ 0; decide)]
  show (if out.length = 16 then _ else _) = _
  rw [if_pos h]
  rfl
theorem q11 (hst : st ≠ f) : stp f ⟨[], ce, inp, out, 11, kd, fl, pl, st, false⟩ = ⟨[], ce, inp, out, 0, kd, fl, 11, st + 1, false⟩ := by
  show advS _ 14 0 f = _
  unfold advS
  rw [if_neg (by decide), if_neg hst, if_neg (by show ¬ misfitS 0 0 0 ≠ 0; decide)]
  rfl
end
/-- There is no fuel left. -/
theorem qh (f : Int) (σ : St) (h : σ.steps = f) (hk : (cQ σ.next.toNat).toNat ≠ 20) : stp f σ = fin { σ with place := σ.next } 2 0 := by
  unfold stp advS
  rw [if_neg hk]
  exact if_pos h
end Go.Proofs.YtflenkppcclclaaDoor

