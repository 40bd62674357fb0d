import Derived.Test.YtflenkppcclclaaGreatDoorM08
import Derived.Test.YtflenkppcclclaaGreatDoorM14
import Derived.Test.YtflenkppcclclaaGreatDoorM13
import Derived.Test.YtflenkppcclclaaGreatDoorM10
namespace Go.Proofs.YtflenkppcclclaaGreatDoor
open Go.RowKit

theorem VP.good {c : Nat → Int} {L N : Nat} (V : VP c L N) : Good c L (fun p => ∃ m, m < N ∧ pos c m = p) where
  zero := ⟨0, V.one, rfl⟩
  most := by have := V.most; omega
  lt := by
    rintro p ⟨m, hm, rfl⟩
    exact ⟨V.fits hm, by have := V.op m hm; omega⟩
  byte := V.byte
  cell := by
    rintro p ⟨m, hm, rfl⟩ h
    exact V.cell m hm (by unfold holdsB; rcases h with h | h <;> rw [h] <;> rfl)
  next := by
    rintro p ⟨m, hm, rfl⟩ h0 h14 h19
    by_cases e : m = N - 1
    · have := V.stop
      rw [← e] at this
      unfold endsB at this
      simp [h0, h14, h19] at this
    · exact ⟨m + 1, by omega, rfl⟩
  jump := by
    rintro p ⟨m, hm, rfl⟩ h
    obtain ⟨t, ht, e⟩ := V.jump m hm (by unfold leadsB; rcases h with h | h <;> rw [h] <;> rfl)
    exact ⟨t, ht, by omega⟩

theorem ent_bounds (f : Nat → Bool) (L p : Nat) (hp : p < L) (hL : L ≤ 80) : -1 ≤ entAt f L p ∧ entAt f L p ≤ 255 := by
  unfold entAt entB
  rw [if_pos hp]
  have := cntB_le f p
  split <;> omega

/-- What 'Run' answers. -/
def Answer (c : Nat → Int) (L N : Nat) (input : ByteArray) (fuel : Int) (w : World) (e : Ending) (w' : World) : Prop :=
  ∃ (n : Nat) (τ : RS), τ = after c (entAt (bgn c N) L) fuel (ρ0 input) n ∧ τ.σ.ended = true ∧ (∀ m, m < n → (after c (entAt (bgn c N) L) fuel (ρ0 input) m).σ.ended = false) ∧ Below w.heap.size w w' ∧
    ∃ g, w.heap.size ≤ g ∧ w'.heap[g]? = some (.cells (covL τ.cnt 64).toArray 5 (0, 0)) ∧ e = .returned (.tuple #[.agg #[.int .i64 τ.σ.kind, .int .i64 τ.σ.fault, .int .i64 τ.σ.place, .string (strOfNums τ.σ.out), .int .i64 τ.σ.steps], .slice (some ⟨g, 0, none⟩) 64 64, .int .i64 0])

set_option maxHeartbeats 1000000 in
theorem xRun_any (w : World) (cb co L cap N : Nat) (c : Nat → Int) (V : VP c L N) (C : Laid w cb co L cap c) (hT : Tab w) (input : ByteArray) (fuel : Int) (hin : input.size ≤ 24) (hf0 : 0 ≤ fuel) (hf1 : fuel ≤ 500) :
    Calls Tryz.prog 17 #[.slice (some ⟨cb, co, none⟩) L cap, .string input, .int .i64 fuel] w (Answer c L N input fuel w) := by
  have hmost := V.most
  have d1 : decide ((24 : Int) < (input.size : Int)) = false := by simp; omega
  have d1' : ¬ (24 : Int) < (input.size : Int) := by omega
  have d2 : decide (fuel < 0) = false := by simp; omega
  have d2' : ¬ fuel < 0 := by omega
  have d3 : ¬ (500 : Int) < fuel := by omega
  have d3' : decide ((500 : Int) < fuel) = false := by simp; omega
  have B0 : Below w.heap.size w (w.alloc (.cells #[.int .i64 0, .int .i64 0, .int .i64 0, .string ⟨#[]⟩, .int .i64 0] 35)) := (Below.refl _ _).alloc (Nat.le_refl _) _
  have hgood := V.good
  go_enter Tryz.func17, Tryz.ntmps17
  go_wp2_with fail
  refine (canRun_yes _ cb co L cap N c V (C.below B0) (hT.below B0)).mono ?_
  rintro e w1 ⟨rfl, B1⟩
  have hz0 : (w.alloc (.cells #[.int .i64 0, .int .i64 0, .int .i64 0, .string ⟨#[]⟩, .int .i64 0] 35)).heap.size = w.heap.size + 1 := by simp
  rw [hz0] at B1
  have B01 := B0.trans (B1.mono (by omega))
  go_wp2_with fail
  refine (entries_any w1 cb co L cap N c V (C.below B01) (hT.below B01)).mono ?_
  rintro e w2 ⟨g, hg, rfl, hge, B2⟩
  have B02 := B01.trans (B2.mono B01.size)
  have W02 := B1.trans (B2.mono (by have := B1.size; rw [hz0] at this; omega))
  go_wp2_with fail
  refine (run_any w2 cb co L cap g 0 L c (entAt (bgn c N) L) _ input fuel hgood (fun p hp => ent_bounds _ L p hp hmost) hin hf0 hf1 (hT.below B02) (C.below B02).cell (fun i hi => ?_) C.room).mono ?_
  · rw [Nat.zero_add, cell_of_row w2 g _ _ _ _ hge, List.getElem?_toArray]; exact il_get L _ _ hi
  rintro e w3 ⟨n, τ, h1, h2, h3, B3, gg, hgg, hcov, rfl⟩
  have B03 := B02.trans (B3.mono B02.size)
  have W03 := W02.trans (B3.mono (by have := W02.size; rw [hz0] at this; omega))
  have hs3 := W03.size
  rw [hz0] at hs3
  have hH : w3.heap[w.heap.size]? = some (.cells #[.int .i64 0, .int .i64 0, .int .i64 0, .string ⟨#[]⟩, .int .i64 0] 35 (0, 0)) := (W03.block _ (by omega)).trans (heap_alloc_new w _)
  have i0 : w3.cell? ⟨w.heap.size, 0, none⟩ = some (.int .i64 0) := cell_of_row _ _ _ _ _ _ hH
  have i1 : w3.cell? ⟨w.heap.size, 1, none⟩ = some (.int .i64 0) := cell_of_row _ _ _ _ _ _ hH
  have i2 : w3.cell? ⟨w.heap.size, 2, none⟩ = some (.int .i64 0) := cell_of_row _ _ _ _ _ _ hH
  have i3 : w3.cell? ⟨w.heap.size, 3, none⟩ = some (.string ⟨#[]⟩) := cell_of_row _ _ _ _ _ _ hH
  have i4 : w3.cell? ⟨w.heap.size, 4, none⟩ = some (.int .i64 0) := cell_of_row _ _ _ _ _ _ hH
  have j0 := frozen_of_row w3 w.heap.size 0 _ _ hH
  have j1 := frozen_of_row w3 w.heap.size 1 _ _ hH
  have j2 := frozen_of_row w3 w.heap.size 2 _ _ hH
  have j3 := frozen_of_row w3 w.heap.size 3 _ _ hH
  have j4 := frozen_of_row w3 w.heap.size 4 _ _ hH
  have hsz2 := B02.size
  have HFIN : Hid (τ = after c (entAt (bgn c N) L) fuel (ρ0 input) n ∧ τ.σ.ended = true ∧ (∀ m, m < n → (after c (entAt (bgn c N) L) fuel (ρ0 input) m).σ.ended = false) ∧ Below w.heap.size w w3 ∧ w3.heap[gg]? = some (.cells (covL τ.cnt 64).toArray 5 (0, 0)) ∧ w.heap.size < gg ∧ gg < w3.heap.size) := ⟨h1, h2, h3, B03, hcov, by have := W02.size; rw [hz0] at this; omega, (Array.getElem?_eq_some_iff.1 hcov).1⟩
  obtain ⟨so, hso⟩ : ∃ so, strOfNums τ.σ.out = so := ⟨_, rfl⟩
  rw [hso]
  have HSO : Hid (strOfNums τ.σ.out = so) := hso
  have hH3 : w.heap.size < w3.heap.size := by omega
  clear hso h1 h2 h3 B0 B1 B01 B2 B02 W02 B3 B03 W03 hH hcov hge hgood C hT V
  go_wp2
  obtain ⟨F1, F2, F3, F4, F5, F6, F7⟩ := HFIN.out
  refine bodyPost_ret (v := .tuple #[.agg #[.int .i64 τ.σ.kind, .int .i64 τ.σ.fault, .int .i64 τ.σ.place, .string so, .int .i64 τ.σ.steps], .slice (some ⟨gg, 0, none⟩) 64 64, .int .i64 0]) ?_ rfl ?_
  · simp [results, Tryz.results17, go_sem, i0, i1, i2, i3, i4, hH3]
  · unfold Answer
    refine ⟨n, τ, F1, F2, F3, ?_, gg, by omega, ?_, by rw [HSO.out]⟩
    · exact (below_set (below_set (below_set (below_set (below_set F4 0 _) 1 _) 2 _) 3 _) 4 _).alloc (by simp; omega) _
    · rw [Below.heap_alloc _ _ _ (by simp; omega)]
      have hne : gg ≠ w.heap.size := by omega
      rw [heap_setCell_other _ ⟨w.heap.size, 4, none⟩ _ _ hne, heap_setCell_other _ ⟨w.heap.size, 3, none⟩ _ _ hne, heap_setCell_other _ ⟨w.heap.size, 2, none⟩ _ _ hne, heap_setCell_other _ ⟨w.heap.size, 1, none⟩ _ _ hne, heap_setCell_other _ ⟨w.heap.size, 0, none⟩ _ _ hne]
      exact F5

set_option maxHeartbeats 400000 in
theorem pCheck_any (w : World) (cb co L cap N : Nat) (c : Nat → Int) (V : VP c L N) (C : Laid w cb co L cap c) (hT : Tab w) :
    Calls Tryz.prog 45 #[.slice (some ⟨cb, co, none⟩) L cap] w fun e w' => e = .returned (.tuple #[.int .i64 (cntB (bgn c N) L), .bool true]) ∧ Below w.heap.size w w' := by
  have hmost := V.most
  go_enter Tryz.func45, Tryz.ntmps45
  go_wp2_with fail
  refine (flaw_no w cb co L cap N c V C hT).mono ?_
  rintro e w1 ⟨rfl, B1⟩
  go_wp2_with fail
  refine (beginnings_any w1 cb co L cap N c V (C.below B1) (hT.below B1)).mono ?_
  rintro e w2 ⟨rfl, hg, B2⟩
  go_wp2_with fail
  refine (number_any w2 w1.heap.size L _ hg (by omega)).mono ?_
  rintro e w3 ⟨rfl, rfl⟩
  go_wp2_with fail
  go_ret2
  exact ⟨rfl, B1.trans (B2.mono B1.size)⟩

theorem xCheck_any (w : World) (cb co L cap N : Nat) (c : Nat → Int) (V : VP c L N) (C : Laid w cb co L cap c) (hT : Tab w) :
    Calls Tryz.prog 32 #[.slice (some ⟨cb, co, none⟩) L cap] w fun e w' => e = .returned (.tuple #[.int .i64 (cntB (bgn c N) L), .int .i64 0]) ∧ Below w.heap.size w w' := by
  go_enter Tryz.func32, Tryz.ntmps32
  go_wp2_with fail
  refine (pCheck_any w cb co L cap N c V C hT).mono ?_
  rintro e w1 ⟨rfl, B1⟩
  go_wp2_with fail
  go_ret2
  exact ⟨rfl, B1⟩
end Go.Proofs.YtflenkppcclclaaGreatDoor

namespace Go.Proofs.YtflenkppcclclaaGreatDoor
open Go.RowKit

/-- What 'program.Check' and 'Check' tell. -/
def CheckIs (c : Nat → Int) (L : Nat) (n : Nat) (b : Bool) : Prop :=
  (b = false ∧ FlawIs c L 80 19 n true) ∨ (b = true ∧ L ≤ 80 ∧ ∃ N, Fine c L N 19 ∧ n = cntB (bgn c N) L)

set_option maxHeartbeats 400000 in
theorem pCheck_gen (w : World) (v : Value) (L : Nat) (c : Nat → Int) (hby : ∀ i, i < L → 0 ≤ c i ∧ c i ≤ 255) (C : Coded w v L c) (hT : Tab w) :
    Calls Tryz.prog 45 #[v] w fun e w' => ∃ n b, CheckIs c L n b ∧ e = .returned (.tuple #[.int .i64 (n : Nat), .bool b]) ∧ Below w.heap.size w w' := by
  go_enter Tryz.func45, Tryz.ntmps45
  go_wp2_with fail
  refine (flaw_gen w v L 80 19 c (by omega) (by omega) hby C hT).mono ?_
  rintro e w1 ⟨r, b, hF, rfl, B1⟩
  cases b with
  | true =>
    go_wp2_with fail
    go_ret2
    exact ⟨r, false, Or.inl ⟨rfl, hF⟩, rfl, B1⟩
  | false =>
    obtain ⟨rfl, h1, N, F⟩ := hF.fine
    cases C.below B1 with
    | bare p cap hv hL => have := F.pos; omega
    | full cb co cap hv C2 =>
      subst hv
      go_wp2_with fail
      refine (beginnings_any w1 cb co L cap N c (F.vp h1) C2 (hT.below B1)).mono ?_
      rintro e w2 ⟨rfl, hg, B2⟩
      go_wp2_with fail
      refine (number_any w2 w1.heap.size L _ hg (by omega)).mono ?_
      rintro e w3 ⟨rfl, rfl⟩
      go_wp2_with fail
      go_ret2
      exact ⟨_, true, Or.inr ⟨rfl, h1, N, F, rfl⟩, rfl, B1.trans (B2.mono B1.size)⟩

theorem xCheck_gen (w : World) (v : Value) (L : Nat) (c : Nat → Int) (hby : ∀ i, i < L → 0 ≤ c i ∧ c i ≤ 255) (C : Coded w v L c) (hT : Tab w) :
    Calls Tryz.prog 32 #[v] w fun e w' => ∃ n b, CheckIs c L n b ∧ e = .returned (.tuple #[.int .i64 (n : Nat), .int .i64 (if b then 0 else 1)]) ∧ Below w.heap.size w w' := by
  go_enter Tryz.func32, Tryz.ntmps32
  go_wp2_with fail
  refine (pCheck_gen w v L c hby C hT).mono ?_
  rintro e w1 ⟨n, b, hC, rfl, B1⟩
  cases b with
  | true =>
    go_wp2_with fail
    go_ret2
    exact ⟨n, true, hC, rfl, B1⟩
  | false =>
    go_wp2_with fail
    go_ret2
    exact ⟨n, false, hC, rfl, B1⟩

/-- Which entries a run of these bytes has. -/
def EntIs (c : Nat → Int) (L : Nat) (ent : Nat → Int) : Prop :=
  (∃ N, L ≤ 80 ∧ Fine c L N 19 ∧ ent = entAt (bgn c N) L) ∨ (∃ N r, FlawIs c L 80 19 r true ∧ Fine c L N 20 ∧ probeIn c N = true ∧ ent = pent c N)
def AnswerE (c ent : Nat → Int) (input : ByteArray) (fuel : Int) (w : World) (e : Ending) (w' : World) : Prop :=
  ∃ (n : Nat) (τ : RS), τ = after c ent fuel (ρ0 input) n ∧ τ.σ.ended = true ∧ (∀ m, m < n → (after c ent fuel (ρ0 input) m).σ.ended = false) ∧ Below w.heap.size w w' ∧
    ∃ g, w.heap.size ≤ g ∧ w'.heap[g]? = some (.cells (covL τ.cnt 64).toArray 5 (0, 0)) ∧ e = .returned (.tuple #[.agg #[.int .i64 τ.σ.kind, .int .i64 τ.σ.fault, .int .i64 τ.σ.place, .string (strOfNums τ.σ.out), .int .i64 τ.σ.steps], .slice (some ⟨g, 0, none⟩) 64 64, .int .i64 0])
def badArg (input : ByteArray) (fuel : Int) : Prop := 24 < input.size ∨ fuel < 0 ∨ 500 < fuel
def refusal (n : Int) : Ending := .returned (.tuple #[.agg #[.int .i64 0, .int .i64 0, .int .i64 0, .string ⟨#[]⟩, .int .i64 0], .slice none 0 0, .int .i64 n])
/-- What 'Run' answers, whatever it is handed. -/
def RunIs (c : Nat → Int) (L : Nat) (input : ByteArray) (fuel : Int) (w : World) (e : Ending) (w' : World) : Prop :=
  (CanIs c L false ∧ e = refusal 1 ∧ Below w.heap.size w w') ∨ (CanIs c L true ∧ badArg input fuel ∧ e = refusal 2 ∧ Below w.heap.size w w') ∨
  (¬ badArg input fuel ∧ ∃ ent, EntIs c L ent ∧ AnswerE c ent input fuel w e w')

theorem entries_gen (w : World) (cb co L cap : Nat) (c : Nat → Int) (C : Laid w cb co L cap c) (hT : Tab w) (hc : CanIs c L true) :
    Calls Tryz.prog 37 #[.slice (some ⟨cb, co, none⟩) L cap] w fun e w' => ∃ ent, EntIs c L ent ∧ ∃ g, w.heap.size ≤ g ∧ e = .returned (.slice (some ⟨g, 0, none⟩) L L) ∧ w'.heap[g]? = some (.cells (il L ent).toArray 3 (0, 0)) ∧ Below w.heap.size w w' := by
  rcases hc with ⟨_, hL, N, F⟩ | ⟨r, hF, h⟩
  · exact (entries_any w cb co L cap N c (F.vp hL) C hT).mono fun e w' h => ⟨_, Or.inl ⟨N, hL, F, rfl⟩, h⟩
  · rcases h with ⟨_, N, F, hp⟩ | ⟨h, _⟩
    · exact (entries_probed w cb co L cap N 20 c F.sp F.last hp C hT).mono fun e w' h => ⟨_, Or.inr ⟨N, r, hF, F, hp, rfl⟩, h⟩
    · cases h
theorem CanIs.good {c : Nat → Int} {L : Nat} (hc : CanIs c L true) : 0 < L ∧ ∃ S, Good c L S := by
  rcases hc with ⟨_, hL, N, F⟩ | ⟨r, hF, h⟩
  · exact ⟨F.pos, _, F.good⟩
  · rcases h with ⟨_, N, F, hp⟩ | ⟨h, _⟩
    · exact ⟨F.pos, _, F.good⟩
    · cases h
theorem EntIs.bounds {c : Nat → Int} {L : Nat} {ent : Nat → Int} (h : EntIs c L ent) (p : Nat) (hp : p < L) : -1 ≤ ent p ∧ ent p ≤ 255 := by
  rcases h with ⟨N, hL, F, rfl⟩ | ⟨N, r, _, F, _, rfl⟩
  · exact ent_bounds _ L p hp hL
  · exact pent_bounds F.sp p

set_option maxHeartbeats 1000000 in
theorem xRun_gen (w : World) (v : Value) (L : Nat) (c : Nat → Int) (hby : ∀ i, i < L → 0 ≤ c i ∧ c i ≤ 255) (C : Coded w v L c) (hT : Tab w) (input : ByteArray) (fuel : Int) :
    Calls Tryz.prog 17 #[v, .string input, .int .i64 fuel] w (RunIs c L input fuel w) := by
  have B0 : Below w.heap.size w (w.alloc (.cells #[.int .i64 0, .int .i64 0, .int .i64 0, .string ⟨#[]⟩, .int .i64 0] 35)) := (Below.refl _ _).alloc (Nat.le_refl _) _
  go_enter Tryz.func17, Tryz.ntmps17
  go_wp2_with fail
  refine (canRun_gen _ v L c hby (C.below B0) (hT.below B0)).mono ?_
  rintro e w1 ⟨b, hcan, rfl, B1⟩
  have hz0 : (w.alloc (.cells #[.int .i64 0, .int .i64 0, .int .i64 0, .string ⟨#[]⟩, .int .i64 0] 35)).heap.size = w.heap.size + 1 := by simp
  rw [hz0] at B1
  have B01 := B0.trans (B1.mono (by omega))
  have hs1 := B1.size
  rw [hz0] at hs1
  have hH : w1.heap[w.heap.size]? = some (.cells #[.int .i64 0, .int .i64 0, .int .i64 0, .string ⟨#[]⟩, .int .i64 0] 35 (0, 0)) := (B1.block _ (by omega)).trans (heap_alloc_new w _)
  by_cases hgood : b = true ∧ ¬ badArg input fuel
  · obtain ⟨rfl, hnb⟩ := hgood
    have HNB : Hid (¬ badArg input fuel) := hnb
    have hnn : input.size ≤ 24 ∧ 0 ≤ fuel ∧ fuel ≤ 500 := by unfold badArg at hnb; omega
    obtain ⟨hin, hf0, hf1⟩ := hnn
    clear hnb
    have d1 : decide ((24 : Int) < (input.size : Int)) = false := by simp; omega
    have d1' : ¬ (24 : Int) < (input.size : Int) := by omega
    have d2 : decide (fuel < 0) = false := by simp; omega
    have d2' : ¬ fuel < 0 := by omega
    have d3 : ¬ (500 : Int) < fuel := by omega
    have d3' : decide ((500 : Int) < fuel) = false := by simp; omega
    obtain ⟨hLpos, S, hgoodS⟩ := hcan.good
    cases C with
    | bare p cap hv hL => omega
    | full cb co cap hv C =>
    subst hv
    clear hH hs1
    go_wp2_with fail
    refine (entries_gen w1 cb co L cap c (C.below B01) (hT.below B01) hcan).mono ?_
    rintro e w2 ⟨ent, hent, g, hg, rfl, hge, B2⟩
    have B02 := B01.trans (B2.mono B01.size)
    have W02 := B1.trans (B2.mono (by have := B1.size; rw [hz0] at this; omega))
    go_wp2_with fail
    refine (run_any w2 cb co L cap g 0 L c ent _ input fuel hgoodS (fun p hp => hent.bounds p hp) hin hf0 hf1 (hT.below B02) (C.below B02).cell (fun i hi => ?_) C.room).mono ?_
    · rw [Nat.zero_add, cell_of_row w2 g _ _ _ _ hge, List.getElem?_toArray]; exact il_get L _ _ hi
    rintro e w3 ⟨n, τ, h1, h2, h3, B3, gg, hgg, hcov, rfl⟩
    have B03 := B02.trans (B3.mono B02.size)
    have W03 := W02.trans (B3.mono (by have := W02.size; rw [hz0] at this; omega))
    have hs3 := W03.size
    rw [hz0] at hs3
    have hH : w3.heap[w.heap.size]? = some (.cells #[.int .i64 0, .int .i64 0, .int .i64 0, .string ⟨#[]⟩, .int .i64 0] 35 (0, 0)) := (W03.block _ (by omega)).trans (heap_alloc_new w _)
    have i0 : w3.cell? ⟨w.heap.size, 0, none⟩ = some (.int .i64 0) := cell_of_row _ _ _ _ _ _ hH
    have i1 : w3.cell? ⟨w.heap.size, 1, none⟩ = some (.int .i64 0) := cell_of_row _ _ _ _ _ _ hH
    have i2 : w3.cell? ⟨w.heap.size, 2, none⟩ = some (.int .i64 0) := cell_of_row _ _ _ _ _ _ hH
    have i3 : w3.cell? ⟨w.heap.size, 3, none⟩ = some (.string ⟨#[]⟩) := cell_of_row _ _ _ _ _ _ hH
    have i4 : w3.cell? ⟨w.heap.size, 4, none⟩ = some (.int .i64 0) := cell_of_row _ _ _ _ _ _ hH
    have j0 := frozen_of_row w3 w.heap.size 0 _ _ hH
    have j1 := frozen_of_row w3 w.heap.size 1 _ _ hH
    have j2 := frozen_of_row w3 w.heap.size 2 _ _ hH
    have j3 := frozen_of_row w3 w.heap.size 3 _ _ hH
    have j4 := frozen_of_row w3 w.heap.size 4 _ _ hH
    have hsz2 := B02.size
    have HENT : Hid (EntIs c L ent) := hent
    have HFIN : Hid (τ = after c ent fuel (ρ0 input) n ∧ τ.σ.ended = true ∧ (∀ m, m < n → (after c ent fuel (ρ0 input) m).σ.ended = false) ∧ Below w.heap.size w w3 ∧ w3.heap[gg]? = some (.cells (covL τ.cnt 64).toArray 5 (0, 0)) ∧ w.heap.size < gg ∧ gg < w3.heap.size) := ⟨h1, h2, h3, B03, hcov, by have := W02.size; rw [hz0] at this; omega, (Array.getElem?_eq_some_iff.1 hcov).1⟩
    obtain ⟨so, hso⟩ : ∃ so, strOfNums τ.σ.out = so := ⟨_, rfl⟩
    rw [hso]
    have HSO : Hid (strOfNums τ.σ.out = so) := hso
    have hH3 : w.heap.size < w3.heap.size := by omega
    clear hso h1 h2 h3 B0 B1 B01 B2 B02 W02 B3 B03 W03 hH hcov hge hgoodS C hT hcan hent
    go_wp2
    obtain ⟨F1, F2, F3, F4, F5, F6, F7⟩ := HFIN.out
    refine bodyPost_ret (v := .tuple #[.agg #[.int .i64 τ.σ.kind, .int .i64 τ.σ.fault, .int .i64 τ.σ.place, .string so, .int .i64 τ.σ.steps], .slice (some ⟨gg, 0, none⟩) 64 64, .int .i64 0]) ?_ rfl ?_
    · simp [results, Tryz.results17, go_sem, i0, i1, i2, i3, i4, hH3]
    · refine Or.inr (Or.inr ⟨HNB.out, ent, HENT.out, ?_⟩)
      unfold AnswerE
      refine ⟨n, τ, F1, F2, F3, ?_, gg, by omega, ?_, by rw [HSO.out]⟩
      · exact (below_set (below_set (below_set (below_set (below_set F4 0 _) 1 _) 2 _) 3 _) 4 _).alloc (by simp; omega) _
      · rw [Below.heap_alloc _ _ _ (by simp; omega)]
        have hne : gg ≠ w.heap.size := by omega
        rw [heap_setCell_other _ ⟨w.heap.size, 4, none⟩ _ _ hne, heap_setCell_other _ ⟨w.heap.size, 3, none⟩ _ _ hne, heap_setCell_other _ ⟨w.heap.size, 2, none⟩ _ _ hne, heap_setCell_other _ ⟨w.heap.size, 1, none⟩ _ _ hne, heap_setCell_other _ ⟨w.heap.size, 0, none⟩ _ _ hne]
        exact F5
  · have hH3 : w.heap.size < w1.heap.size := by omega
    have i0 : w1.cell? ⟨w.heap.size, 0, none⟩ = some (.int .i64 0) := cell_of_row _ _ _ _ _ _ hH
    have i1 : w1.cell? ⟨w.heap.size, 1, none⟩ = some (.int .i64 0) := cell_of_row _ _ _ _ _ _ hH
    have i2 : w1.cell? ⟨w.heap.size, 2, none⟩ = some (.int .i64 0) := cell_of_row _ _ _ _ _ _ hH
    have i3 : w1.cell? ⟨w.heap.size, 3, none⟩ = some (.string ⟨#[]⟩) := cell_of_row _ _ _ _ _ _ hH
    have i4 : w1.cell? ⟨w.heap.size, 4, none⟩ = some (.int .i64 0) := cell_of_row _ _ _ _ _ _ hH
    have j0 := frozen_of_row w1 w.heap.size 0 _ _ hH
    have j1 := frozen_of_row w1 w.heap.size 1 _ _ hH
    have j2 := frozen_of_row w1 w.heap.size 2 _ _ hH
    have j3 := frozen_of_row w1 w.heap.size 3 _ _ hH
    have j4 := frozen_of_row w1 w.heap.size 4 _ _ hH
    clear B0 B1 hH hz0 hs1
    cases b with
    | false =>
      go_wp2_with fail
      refine bodyPost_ret (v := .tuple #[.agg #[.int .i64 0, .int .i64 0, .int .i64 0, .string ⟨#[]⟩, .int .i64 0], .slice none 0 0, .int .i64 1]) ?_ rfl ?_
      · simp [results, Tryz.results17, go_sem, i0, i1, i2, i3, i4]
      · exact Or.inl ⟨hcan, rfl, (below_set (below_set (below_set (below_set (below_set B01 0 _) 1 _) 2 _) 3 _) 4 _)⟩
    | true =>
      have hb : badArg input fuel := Classical.byContradiction fun h => hgood ⟨rfl, h⟩
      have HB : Hid (badArg input fuel) := hb
      clear hgood
      by_cases q1 : 24 < input.size
      · have d1 : decide ((24 : Int) < (input.size : Int)) = true := by simp; omega
        have d1' : (24 : Int) < (input.size : Int) := by omega
        clear hb
        go_wp2_with fail
        refine bodyPost_ret (v := .tuple #[.agg #[.int .i64 0, .int .i64 0, .int .i64 0, .string ⟨#[]⟩, .int .i64 0], .slice none 0 0, .int .i64 2]) ?_ rfl ?_
        · simp [results, Tryz.results17, go_sem, i0, i1, i2, i3, i4]
        · exact Or.inr (Or.inl ⟨hcan, HB.out, rfl, (below_set (below_set (below_set (below_set (below_set B01 0 _) 1 _) 2 _) 3 _) 4 _)⟩)
      · have d1 : decide ((24 : Int) < (input.size : Int)) = false := by simp; omega
        have d1' : ¬ (24 : Int) < (input.size : Int) := by omega
        by_cases q2 : fuel < 0
        · have d2 : decide (fuel < 0) = true := by simp; omega
          clear hb
          go_wp2_with fail
          refine bodyPost_ret (v := .tuple #[.agg #[.int .i64 0, .int .i64 0, .int .i64 0, .string ⟨#[]⟩, .int .i64 0], .slice none 0 0, .int .i64 2]) ?_ rfl ?_
          · simp [results, Tryz.results17, go_sem, i0, i1, i2, i3, i4]
          · exact Or.inr (Or.inl ⟨hcan, HB.out, rfl, (below_set (below_set (below_set (below_set (below_set B01 0 _) 1 _) 2 _) 3 _) 4 _)⟩)
        · have d2 : decide (fuel < 0) = false := by simp; omega
          have d3 : (500 : Int) < fuel := by unfold badArg at hb; omega
          have d3' : decide ((500 : Int) < fuel) = true := by simp; omega
          clear hb
          go_wp2_with fail
          refine bodyPost_ret (v := .tuple #[.agg #[.int .i64 0, .int .i64 0, .int .i64 0, .string ⟨#[]⟩, .int .i64 0], .slice none 0 0, .int .i64 2]) ?_ rfl ?_
          · simp [results, Tryz.results17, go_sem, i0, i1, i2, i3, i4]
          · exact Or.inr (Or.inl ⟨hcan, HB.out, rfl, (below_set (below_set (below_set (below_set (below_set B01 0 _) 1 _) 2 _) 3 _) 4 _)⟩)
end Go.Proofs.YtflenkppcclclaaGreatDoor

namespace Go.Proofs.YtflenkppcclclaaGreatDoor
open Go.RowKit

def lE : List Int := [2, 1, 97, 12, 15, 9, 19, 7, 0, 0]
def cE (i : Nat) : Int := lE.getD i 0
theorem vE : VP cE 10 7 where
  most := by decide
  one := by decide
  last := by decide
  op := by decide
  byte := by decide
  cell := by decide
  stop := by decide
  jump := by
    intro m hm
    match m, hm with
    | 0, _ | 1, _ | 2, _ | 4, _ | 5, _ | 6, _ => intro h; exact absurd h (by decide)
    | 3, _ => intro _; exact ⟨6, by decide, by decide⟩
    | m + 7, hm => omega

def entE : Nat → Int := entAt (bgn cE 7) 10
theorem cntE : cntB (bgn cE 7) 10 = 4 := by decide

theorem once {c ent : Nat → Int} {fuel : Int} {ρ : RS} {n n0 : Nat} (he : (after c ent fuel ρ n).σ.ended = true) (hN : ∀ m, m < n → (after c ent fuel ρ m).σ.ended = false)
    (he0 : (after c ent fuel ρ n0).σ.ended = true) (hN0 : ∀ m, m < n0 → (after c ent fuel ρ m).σ.ended = false) : n = n0 := by
  rcases Nat.lt_trichotomy n n0 with h | h | h
  · rw [hN0 n h] at he; cases he
  · exact h
  · rw [hN n0 h] at he0; cases he0

def rA (n : Nat) : RS := after cE entE 100 (ρ0 ⟨#[97]⟩) n
def rB (n : Nat) : RS := after cE entE 100 (ρ0 ⟨#[98]⟩) n
theorem rA_end : (rA 5).σ.ended = true := by kernel_rfl
theorem rA_not : ∀ m, m < 5 → (rA m).σ.ended = false := by
  intro m hm
  match m, hm with
  | 0, _ => exact (show (rA 0).σ.ended = false by kernel_rfl)
  | 1, _ => exact (show (rA 1).σ.ended = false by kernel_rfl)
  | 2, _ => exact (show (rA 2).σ.ended = false by kernel_rfl)
  | 3, _ => exact (show (rA 3).σ.ended = false by kernel_rfl)
  | 4, _ => exact (show (rA 4).σ.ended = false by kernel_rfl)
  | m + 5, hm => omega
theorem rA_kind : (rA 5).σ.kind = 1 := by kernel_rfl
theorem rA_fault : (rA 5).σ.fault = 23 := by kernel_rfl
theorem rA_place : (rA 5).σ.place = 6 := by kernel_rfl
theorem rA_steps : (rA 5).σ.steps = 5 := by kernel_rfl
theorem rA_out : (rA 5).σ.out = [] := by kernel_rfl
theorem rA_0 : classS ((rA 5).cnt 0) = 1 := by kernel_rfl
theorem rA_8 : classS ((rA 5).cnt 8) = 1 := by kernel_rfl
theorem rA_10 : classS ((rA 5).cnt 10) = 0 := by kernel_rfl
theorem rB_end : (rB 5).σ.ended = true := by kernel_rfl
theorem rB_not : ∀ m, m < 5 → (rB m).σ.ended = false := by
  intro m hm
  match m, hm with
  | 0, _ => exact (show (rB 0).σ.ended = false by kernel_rfl)
  | 1, _ => exact (show (rB 1).σ.ended = false by kernel_rfl)
  | 2, _ => exact (show (rB 2).σ.ended = false by kernel_rfl)
  | 3, _ => exact (show (rB 3).σ.ended = false by kernel_rfl)
  | 4, _ => exact (show (rB 4).σ.ended = false by kernel_rfl)
  | m + 5, hm => omega
theorem rB_kind : (rB 5).σ.kind = 0 := by kernel_rfl
theorem rB_fault : (rB 5).σ.fault = 0 := by kernel_rfl
theorem rB_place : (rB 5).σ.place = 9 := by kernel_rfl
theorem rB_steps : (rB 5).σ.steps = 5 := by kernel_rfl
theorem rB_out : (rB 5).σ.out = [] := by kernel_rfl
theorem rB_0 : classS ((rB 5).cnt 0) = 1 := by kernel_rfl
theorem rB_8 : classS ((rB 5).cnt 8) = 0 := by kernel_rfl
theorem rB_10 : classS ((rB 5).cnt 10) = 1 := by kernel_rfl
end Go.Proofs.YtflenkppcclclaaGreatDoor

namespace Go.Proofs.YtflenkppcclclaaGreatDoor
open Go.RowKit

theorem inv0 {c : Nat → Int} {L : Nat} {S : Nat → Prop} (hG : Good c L S) {input : ByteArray} {fuel : Int} (hin : input.size ≤ 24) (hf0 : 0 ≤ fuel) : Inv L S fuel (ρ0 input) :=
  ⟨Int.le_refl 0, by show (0 : Int) ≤ 300; omega, fun _ => hG.zero, by show 0 ≤ 32; omega, hin, by show 0 ≤ 16; omega, Int.le_refl 0, hf0, fun _ => Int.le_refl 0, Int.le_refl 0, by show (0 : Int) ≤ 256; omega⟩

theorem twin_after {c : Nat → Int} {L N : Nat} (V : VP c L N) {input : ByteArray} {fuel : Int} (hin : input.size ≤ 24) (hf0 : 0 ≤ fuel) :
    ∀ k, (∀ i, i < k → (after c (entAt (bgn c N) L) fuel (ρ0 input) i).σ.ended = false) →
      Inv L (fun p => ∃ m, m < N ∧ pos c m = p) fuel (after c (entAt (bgn c N) L) fuel (ρ0 input) k) ∧
      ∃ k', Twin c N (after c (entAt (bgn c N) L) fuel (ρ0 input) k) (after (pc c N L) (pent (pc c N L) (nOf c N N)) fuel (ρ0 input) k') ∧ ∀ i, i < k' → (after (pc c N L) (pent (pc c N L) (nOf c N N)) fuel (ρ0 input) i).σ.ended = false := by
  intro k
  induction k with
  | zero =>
    intro _
    exact ⟨inv0 V.good hin hf0, 0, ⟨rfl, rfl, rfl, rfl, rfl, rfl, rfl, rfl, rfl, rfl, fun _ => ⟨0, V.one, rfl, rfl⟩, fun h => by cases h⟩, fun i hi => by omega⟩
  | succ k ih =>
    intro h
    obtain ⟨hI, k', hT, hk'⟩ := ih (fun i hi => h i (by omega))
    have he := h k (by omega)
    have hI2 := (advS_inv V.good (fun p hp => ent_bounds (bgn c N) L p hp V.most) hI he).1
    refine ⟨hI2, ?_⟩
    have hfit : ∀ τ, τ = roundS c (entAt (bgn c N) L) fuel (after c (entAt (bgn c N) L) fuel (ρ0 input) k) → τ.σ.ended = false → ∃ t, t < N ∧ τ.σ.next = (pos c t : Int) := by
      intro τ hτ hne
      subst hτ
      obtain ⟨t, ht, e⟩ := hI2.start hne
      have := hI2.next0
      exact ⟨t, ht, by omega⟩
    have hlast : (after (pc c N L) (pent (pc c N L) (nOf c N N)) fuel (ρ0 input) k').σ.ended = false := hT.ended.trans he
    rcases twin_round V hT he hfit with h1 | ⟨h0, h1⟩
    · refine ⟨k' + 1, h1, fun i hi => ?_⟩
      by_cases e : i = k'
      · subst e; exact hlast
      · exact hk' i (by omega)
    · refine ⟨k' + 2, h1, fun i hi => ?_⟩
      by_cases e : i = k'
      · subst e; exact hlast
      · by_cases e2 : i = k' + 1
        · subst e2; exact h0
        · exact hk' i (by omega)

theorem twin_end {c : Nat → Int} {L N : Nat} (V : VP c L N) {input : ByteArray} {fuel : Int} (hin : input.size ≤ 24) (hf0 : 0 ≤ fuel) {n n' : Nat}
    (h1 : (after c (entAt (bgn c N) L) fuel (ρ0 input) n).σ.ended = true) (h2 : ∀ i, i < n → (after c (entAt (bgn c N) L) fuel (ρ0 input) i).σ.ended = false)
    (h3 : (after (pc c N L) (pent (pc c N L) (nOf c N N)) fuel (ρ0 input) n').σ.ended = true) (h4 : ∀ i, i < n' → (after (pc c N L) (pent (pc c N L) (nOf c N N)) fuel (ρ0 input) i).σ.ended = false) :
    Twin c N (after c (entAt (bgn c N) L) fuel (ρ0 input) n) (after (pc c N L) (pent (pc c N L) (nOf c N N)) fuel (ρ0 input) n') := by
  obtain ⟨_, k', hT, hk'⟩ := twin_after V hin hf0 n h2
  have := once h3 h4 (hT.ended.trans h1) hk'
  subst this
  exact hT

/-- The probed code can be run, and its entries are its Probes. -/
theorem VP.canP {c : Nat → Int} {L N : Nat} (V : VP c L N) : ¬ CanIs (pc c N L) (qOf (bgn c N) L) false := by
  have F := V.fineP
  have hF : FlawIs (pc c N L) (qOf (bgn c N) L) 240 20 0 false := Or.inr ⟨F.sp.most, nOf c N N, F.sp, Or.inr ⟨F.last, Or.inr ⟨F.well, Or.inl ⟨rfl, rfl, F.led⟩⟩⟩⟩
  rintro (h | ⟨r, _, h | ⟨_, ⟨r2, h⟩ | ⟨M, F2, h⟩⟩⟩)
  · cases h.1
  · cases h.1
  · have := (hF.same h).2; cases this
  · have := F.sp.same F.last F2.sp (Or.inl F2.last)
    subst this
    rw [V.probeP] at h; cases h
theorem VP.entsP {c : Nat → Int} {L N : Nat} (V : VP c L N) {ent : Nat → Int} (h : EntIs (pc c N L) (qOf (bgn c N) L) ent) : ent = pent (pc c N L) (nOf c N N) := by
  rcases h with ⟨M, _, F, _⟩ | ⟨M, r, _, F, _, rfl⟩
  · have h1 := F.sp.op 0 F.one
    have h2 : pc c N L (pos (pc c N L) 0) = 20 := (pc_q c N (V.lt V.one) V.first).1
    rw [h2] at h1
    omega
  · have := V.fineP.sp.same V.fineP.last F.sp (Or.inl F.last)
    subst this
    rfl
end Go.Proofs.YtflenkppcclclaaGreatDoor

