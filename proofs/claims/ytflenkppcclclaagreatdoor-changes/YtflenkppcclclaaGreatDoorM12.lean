import Derived.Test.YtflenkppcclclaaGreatDoorM10
import Derived.Test.YtflenkppcclclaaGreatDoorM11
namespace Go.Proofs.YtflenkppcclclaaGreatDoor
open Go.RowKit

theorem VP.good {c : Nat → Int} {L N : Nat} (V : VP c L N) : Good c L (fun p => ∃ m, m < N ∧ pos c m = p) where
  zero := ⟨0, V.one, rfl⟩
  most := by have := V.most; omega
  lt := by
    rintro p ⟨m, hm, rfl⟩
    exact ⟨V.fits hm, by have := V.op m hm; omega⟩
  byte := V.byte
  cell := by
    rintro p ⟨m, hm, rfl⟩ h
    exact V.cell m hm (by unfold holdsB; rcases h with h | h <;> rw [h] <;> rfl)
  next := by
    rintro p ⟨m, hm, rfl⟩ h0 h14 h19
    by_cases e : m = N - 1
    · have := V.stop
      rw [← e] at this
      unfold endsB at this
      simp [h0, h14, h19] at this
    · exact ⟨m + 1, by omega, rfl⟩
  jump := by
    rintro p ⟨m, hm, rfl⟩ h
    obtain ⟨t, ht, e⟩ := V.jump m hm (by unfold leadsB; rcases h with h | h <;> rw [h] <;> rfl)
    exact ⟨t, ht, by omega⟩

theorem ent_bounds (f : Nat → Bool) (L p : Nat) (hp : p < L) (hL : L ≤ 80) : -1 ≤ entAt f L p ∧ entAt f L p ≤ 255 := by
  unfold entAt entB
  rw [if_pos hp]
  have := cntB_le f p
  split <;> omega

/-- What 'Run' answers. -/
def Answer (c : Nat → Int) (L N : Nat) (input : ByteArray) (fuel : Int) (w : World) (e : Ending) (w' : World) : Prop :=
  ∃ (n : Nat) (τ : RS), τ = after c (entAt (bgn c N) L) fuel (ρ0 input) n ∧ τ.σ.ended = true ∧ (∀ m, m < n → (after c (entAt (bgn c N) L) fuel (ρ0 input) m).σ.ended = false) ∧ Below w.heap.size w w' ∧
    ∃ g, w.heap.size ≤ g ∧ w'.heap[g]? = some (.cells (covL τ.cnt 64).toArray 5 (0, 0)) ∧ e = .returned (.tuple #[.agg #[.int .i64 τ.σ.kind, .int .i64 τ.σ.fault, .int .i64 τ.σ.place, .string (strOfNums τ.σ.out), .int .i64 τ.σ.steps], .slice (some ⟨g, 0, none⟩) 64 64, .int .i64 0])

set_option maxHeartbeats 1000000 in
theorem xRun_any (w : World) (cb co L cap N : Nat) (c : Nat → Int) (V : VP c L N) (C : Laid w cb co L cap c) (hT : Tab w) (input : ByteArray) (fuel : Int) (hin : input.size ≤ 24) (hf0 : 0 ≤ fuel) (hf1 : fuel ≤ 500) :
    Calls Tryz.prog 17 #[.slice (some ⟨cb, co, none⟩) L cap, .string input, .int .i64 fuel] w (Answer c L N input fuel w) := by
  have hmost := V.most
  have d1 : decide ((24 : Int) < (input.size : Int)) = false := by simp; omega
  have d1' : ¬ (24 : Int) < (input.size : Int) := by omega
  have d2 : decide (fuel < 0) = false := by simp; omega
  have d2' : ¬ fuel < 0 := by omega
  have d3 : ¬ (500 : Int) < fuel := by omega
  have d3' : decide ((500 : Int) < fuel) = false := by simp; omega
  have B0 : Below w.heap.size w (w.alloc (.cells #[.int .i64 0, .int .i64 0, .int .i64 0, .string ⟨#[]⟩, .int .i64 0] 35)) := (Below.refl _ _).alloc (Nat.le_refl _) _
  have hgood := V.good
  go_enter Tryz.func17, Tryz.ntmps17
  go_wp2_with fail
  refine (canRun_yes _ cb co L cap N c V (C.below B0) (hT.below B0)).mono ?_
  rintro e w1 ⟨rfl, B1⟩
  have hz0 : (w.alloc (.cells #[.int .i64 0, .int .i64 0, .int .i64 0, .string ⟨#[]⟩, .int .i64 0] 35)).heap.size = w.heap.size + 1 := by simp
  rw [hz0] at B1
  have B01 := B0.trans (B1.mono (by omega))
  go_wp2_with fail
  refine (entries_any w1 cb co L cap N c V (C.below B01) (hT.below B01)).mono ?_
  rintro e w2 ⟨g, hg, rfl, hge, B2⟩
  have B02 := B01.trans (B2.mono B01.size)
  have W02 := B1.trans (B2.mono (by have := B1.size; rw [hz0] at this; omega))
  go_wp2_with fail
  refine (run_any w2 cb co L cap g 0 L c (entAt (bgn c N) L) _ input fuel hgood (fun p hp => ent_bounds _ L p hp hmost) hin hf0 hf1 (hT.below B02) (C.below B02).cell (fun i hi => ?_) C.room).mono ?_
  · rw [Nat.zero_add, cell_of_row w2 g _ _ _ _ hge, List.getElem?_toArray]; exact il_get L _ _ hi
  rintro e w3 ⟨n, τ, h1, h2, h3, B3, gg, hgg, hcov, rfl⟩
  have B03 := B02.trans (B3.mono B02.size)
  have W03 := W02.trans (B3.mono (by have := W02.size; rw [hz0] at this; omega))
  have hs3 := W03.size
  rw [hz0] at hs3
  have hH : w3.heap[w.heap.size]? = some (.cells #[.int .i64 0, .int .i64 0, .int .i64 0, .string ⟨#[]⟩, .int .i64 0] 35 (0, 0)) := (W03.block _ (by omega)).trans (heap_alloc_new w _)
  have i0 : w3.cell? ⟨w.heap.size, 0, none⟩ = some (.int .i64 0) := cell_of_row _ _ _ _ _ _ hH
  have i1 : w3.cell? ⟨w.heap.size, 1, none⟩ = some (.int .i64 0) := cell_of_row _ _ _ _ _ _ hH
  have i2 : w3.cell? ⟨w.heap.size, 2, none⟩ = some (.int .i64 0) := cell_of_row _ _ _ _ _ _ hH
  have i3 : w3.cell? ⟨w.heap.size, 3, none⟩ = some (.string ⟨#[]⟩) := cell_of_row _ _ _ _ _ _ hH
  have i4 : w3.cell? ⟨w.heap.size, 4, none⟩ = some (.int .i64 0) := cell_of_row _ _ _ _ _ _ hH
  have j0 := frozen_of_row w3 w.heap.size 0 _ _ hH
  have j1 := frozen_of_row w3 w.heap.size 1 _ _ hH
  have j2 := frozen_of_row w3 w.heap.size 2 _ _ hH
  have j3 := frozen_of_row w3 w.heap.size 3 _ _ hH
  have j4 := frozen_of_row w3 w.heap.size 4 _ _ hH
  have hsz2 := B02.size
  have HFIN : Hid (τ = after c (entAt (bgn c N) L) fuel (ρ0 input) n ∧ τ.σ.ended = true ∧ (∀ m, m < n → (after c (entAt (bgn c N) L) fuel (ρ0 input) m).σ.ended = false) ∧ Below w.heap.size w w3 ∧ w3.heap[gg]? = some (.cells (covL τ.cnt 64).toArray 5 (0, 0)) ∧ w.heap.size < gg ∧ gg < w3.heap.size) := ⟨h1, h2, h3, B03, hcov, by have := W02.size; rw [hz0] at this; omega, (Array.getElem?_eq_some_iff.1 hcov).1⟩
  obtain ⟨so, hso⟩ : ∃ so, strOfNums τ.σ.out = so := ⟨_, rfl⟩
  rw [hso]
  have HSO : Hid (strOfNums τ.σ.out = so) := hso
  have hH3 : w.heap.size < w3.heap.size := by omega
  clear hso h1 h2 h3 B0 B1 B01 B2 B02 W02 B3 B03 W03 hH hcov hge hgood C hT V
  go_wp2
  obtain ⟨F1, F2, F3, F4, F5, F6, F7⟩ := HFIN.out
  refine bodyPost_ret (v := .tuple #[.agg #[.int .i64 τ.σ.kind, .int .i64 τ.σ.fault, .int .i64 τ.σ.place, .string so, .int .i64 τ.σ.steps], .slice (some ⟨gg, 0, none⟩) 64 64, .int .i64 0]) ?_ rfl ?_
  · simp [results, Tryz.results17, go_sem, i0, i1, i2, i3, i4, hH3]
  · unfold Answer
    refine ⟨n, τ, F1, F2, F3, ?_, gg, by omega, ?_, by rw [HSO.out]⟩
    · exact (below_set (below_set (below_set (below_set (below_set F4 0 _) 1 _) 2 _) 3 _) 4 _).alloc (by simp; omega) _
    · rw [Below.heap_alloc _ _ _ (by simp; omega)]
      have hne : gg ≠ w.heap.size := by omega
      rw [heap_setCell_other _ ⟨w.heap.size, 4, none⟩ _ _ hne, heap_setCell_other _ ⟨w.heap.size, 3, none⟩ _ _ hne, heap_setCell_other _ ⟨w.heap.size, 2, none⟩ _ _ hne, heap_setCell_other _ ⟨w.heap.size, 1, none⟩ _ _ hne, heap_setCell_other _ ⟨w.heap.size, 0, none⟩ _ _ hne]
      exact F5

set_option maxHeartbeats 400000 in
theorem pCheck_any (w : World) (cb co L cap N : Nat) (c : Nat → Int) (V : VP c L N) (C : Laid w cb co L cap c) (hT : Tab w) :
    Calls Tryz.prog 45 #[.slice (some ⟨cb, co, none⟩) L cap] w fun e w' => e = .returned (.tuple #[.int .i64 (cntB (bgn c N) L), .bool true]) ∧ Below w.heap.size w w' := by
  have hmost := V.most
  go_enter Tryz.func45, Tryz.ntmps45
  go_wp2_with fail
  refine (flaw_no w cb co L cap N c V C hT).mono ?_
  rintro e w1 ⟨rfl, B1⟩
  go_wp2_with fail
  refine (beginnings_any w1 cb co L cap N c V (C.below B1) (hT.below B1)).mono ?_
  rintro e w2 ⟨rfl, hg, B2⟩
  go_wp2_with fail
  refine (number_any w2 w1.heap.size L _ hg (by omega)).mono ?_
  rintro e w3 ⟨rfl, rfl⟩
  go_wp2_with fail
  go_ret2
  exact ⟨rfl, B1.trans (B2.mono B1.size)⟩

theorem xCheck_any (w : World) (cb co L cap N : Nat) (c : Nat → Int) (V : VP c L N) (C : Laid w cb co L cap c) (hT : Tab w) :
    Calls Tryz.prog 32 #[.slice (some ⟨cb, co, none⟩) L cap] w fun e w' => e = .returned (.tuple #[.int .i64 (cntB (bgn c N) L), .int .i64 0]) ∧ Below w.heap.size w w' := by
  go_enter Tryz.func32, Tryz.ntmps32
  go_wp2_with fail
  refine (pCheck_any w cb co L cap N c V C hT).mono ?_
  rintro e w1 ⟨rfl, B1⟩
  go_wp2_with fail
  go_ret2
  exact ⟨rfl, B1⟩
end Go.Proofs.YtflenkppcclclaaGreatDoor

namespace Go.Proofs.YtflenkppcclclaaGreatDoor
open Go.RowKit

/-- What 'program.Check' and 'Check' tell. -/
def CheckIs (c : Nat → Int) (L : Nat) (n : Nat) (b : Bool) : Prop :=
  (b = false ∧ FlawIs c L 80 19 n true) ∨ (b = true ∧ L ≤ 80 ∧ ∃ N, Fine c L N 19 ∧ n = cntB (bgn c N) L)

set_option maxHeartbeats 400000 in
theorem pCheck_gen (w : World) (v : Value) (L : Nat) (c : Nat → Int) (hby : ∀ i, i < L → 0 ≤ c i ∧ c i ≤ 255) (C : Coded w v L c) (hT : Tab w) :
    Calls Tryz.prog 45 #[v] w fun e w' => ∃ n b, CheckIs c L n b ∧ e = .returned (.tuple #[.int .i64 (n : Nat), .bool b]) ∧ Below w.heap.size w w' := by
  go_enter Tryz.func45, Tryz.ntmps45
  go_wp2_with fail
  refine (flaw_gen w v L 80 19 c (by omega) (by omega) hby C hT).mono ?_
  rintro e w1 ⟨r, b, hF, rfl, B1⟩
  cases b with
  | true =>
    go_wp2_with fail
    go_ret2
    exact ⟨r, false, Or.inl ⟨rfl, hF⟩, rfl, B1⟩
  | false =>
    obtain ⟨rfl, h1, N, F⟩ := hF.fine
    cases C.below B1 with
    | bare p cap hv hL => have := F.pos; omega
    | full cb co cap hv C2 =>
      subst hv
      go_wp2_with fail
      refine (beginnings_any w1 cb co L cap N c (F.vp h1) C2 (hT.below B1)).mono ?_
      rintro e w2 ⟨rfl, hg, B2⟩
      go_wp2_with fail
      refine (number_any w2 w1.heap.size L _ hg (by omega)).mono ?_
      rintro e w3 ⟨rfl, rfl⟩
      go_wp2_with fail
      go_ret2
      exact ⟨_, true, Or.inr ⟨rfl, h1, N, F, rfl⟩, rfl, B1.trans (B2.mono B1.size)⟩

theorem xCheck_gen (w : World) (v : Value) (L : Nat) (c : Nat → Int) (hby : ∀ i, i < L → 0 ≤ c i ∧ c i ≤ 255) (C : Coded w v L c) (hT : Tab w) :
    Calls Tryz.prog 32 #[v] w fun e w' => ∃ n b, CheckIs c L n b ∧ e = .returned (.tuple #[.int .i64 (n : Nat), .int .i64 (if b then 0 else 1)]) ∧ Below w.heap.size w w' := by
  go_enter Tryz.func32, Tryz.ntmps32
  go_wp2_with fail
  refine (pCheck_gen w v L c hby C hT).mono ?_
  rintro e w1 ⟨n, b, hC, rfl, B1⟩
  cases b with
  | true =>
    go_wp2_with fail
    go_ret2
    exact ⟨n, true, hC, rfl, B1⟩
  | false =>
    go_wp2_with fail
    go_ret2
    exact ⟨n, false, hC, rfl, B1⟩

/-- Which entries a run of these bytes has. -/
def EntIs (c : Nat → Int) (L : Nat) (ent : Nat → Int) : Prop :=
  (∃ N, L ≤ 80 ∧ Fine c L N 19 ∧ ent = entAt (bgn c N) L) ∨ (∃ N r, FlawIs c L 80 19 r true ∧ Fine c L N 20 ∧ probeIn c N = true ∧ ent = pent c N)
def AnswerE (c ent : Nat → Int) (input : ByteArray) (fuel : Int) (w : World) (e : Ending) (w' : World) : Prop :=
  ∃ (n : Nat) (τ : RS), τ = after c ent fuel (ρ0 input) n ∧ τ.σ.ended = true ∧ (∀ m, m < n → (after c ent fuel (ρ0 input) m).σ.ended = false) ∧ Below w.heap.size w w' ∧
    ∃ g, w.heap.size ≤ g ∧ w'.heap[g]? = some (.cells (covL τ.cnt 64).toArray 5 (0, 0)) ∧ e = .returned (.tuple #[.agg #[.int .i64 τ.σ.kind, .int .i64 τ.σ.fault, .int .i64 τ.σ.place, .string (strOfNums τ.σ.out), .int .i64 τ.σ.steps], .slice (some ⟨g, 0, none⟩) 64 64, .int .i64 0])
def badArg (input : ByteArray) (fuel : Int) : Prop := 24 < input.size ∨ fuel < 0 ∨ 500 < fuel
def refusal (n : Int) : Ending := .returned (.tuple #[.agg #[.int .i64 0, .int .i64 0, .int .i64 0, .string ⟨#[]⟩, .int .i64 0], .slice none 0 0, .int .i64 n])
/-- What 'Run' answers, whatever it is handed. -/
def RunIs (c : Nat → Int) (L : Nat) (input : ByteArray) (fuel : Int) (w : World) (e : Ending) (w' : World) : Prop :=
  (CanIs c L false ∧ e = refusal 1 ∧ Below w.heap.size w w') ∨ (CanIs c L true ∧ badArg input fuel ∧ e = refusal 2 ∧ Below w.heap.size w w') ∨
  (¬ badArg input fuel ∧ ∃ ent, EntIs c L ent ∧ AnswerE c ent input fuel w e w')

theorem entries_gen (w : World) (cb co L cap : Nat) (c : Nat → Int) (C : Laid w cb co L cap c) (hT : Tab w) (hc : CanIs c L true) :
    Calls Tryz.prog 37 #[.slice (some ⟨cb, co, none⟩) L cap] w fun e w' => ∃ ent, EntIs c L ent ∧ ∃ g, w.heap.size ≤ g ∧ e = .returned (.slice (some ⟨g, 0, none⟩) L L) ∧ w'.heap[g]? = some (.cells (il L ent).toArray 3 (0, 0)) ∧ Below w.heap.size w w' := by
  rcases hc with ⟨_, hL, N, F⟩ | ⟨r, hF, h⟩
  · exact (entries_any w cb co L cap N c (F.vp hL) C hT).mono fun e w' h => ⟨_, Or.inl ⟨N, hL, F, rfl⟩, h⟩
  · rcases h with ⟨_, N, F, hp⟩ | ⟨h, _⟩
    · exact (entries_probed w cb co L cap N 20 c F.sp F.last hp C hT).mono fun e w' h => ⟨_, Or.inr ⟨N, r, hF, F, hp, rfl⟩, h⟩
    · cases h
theorem CanIs.good {c : Nat → Int} {L : Nat} (hc : CanIs c L true) : 0 < L ∧ ∃ S, Good c L S := by
  rcases hc with ⟨_, hL, N, F⟩ | ⟨r, hF, h⟩
  · exact ⟨F.pos, _, F.good⟩
  · rcases h with ⟨_, N, F, hp⟩ | ⟨h, _⟩
    · exact ⟨F.pos, _, F.good⟩
    · cases h
theorem EntIs.bounds {c : Nat → Int} {L : Nat} {ent : Nat → Int} (h : EntIs c L ent) (p : Nat) (hp : p < L) : -1 ≤ ent p ∧ ent p ≤ 255 := by
  rcases h with ⟨N, hL, F, rfl⟩ | ⟨N, r, _, F, _, rfl⟩
  · exact ent_bounds _ L p hp hL
  · exact pent_bounds F.sp p

set_option maxHeartbeats 1000000 in
theorem xRun_gen (w : World) (v : Value) (L : Nat) (c : Nat → Int) (hby : ∀ i, i < L → 0 ≤ c i ∧ c i ≤ 255) (C : Coded w v L c) (hT : Tab w) (input : ByteArray) (fuel : Int) :
    Calls Tryz.prog 17 #[v, .string input, .int .i64 fuel] w (RunIs c L input fuel w) := by
  have B0 : Below w.heap.size w (w.alloc (.cells #[.int .i64 0, .int .i64 0, .int .i64 0, .string ⟨#[]⟩, .int .i64 0] 35)) := (Below.refl _ _).alloc (Nat.le_refl _) _
  go_enter Tryz.func17, Tryz.ntmps17
  go_wp2_with fail
  refine (canRun_gen _ v L c hby (C.below B0) (hT.below B0)).mono ?_
  rintro e w1 ⟨b, hcan, rfl, B1⟩
  have hz0 : (w.alloc (.cells #[.int .i64 0, .int .i64 0, .int .i64 0, .string ⟨#[]⟩, .int .i64 0] 35)).heap.size = w.heap.size + 1 := by simp
  rw [hz0] at B1
  have B01 := B0.trans (B1.mono (by omega))
  have hs1 := B1.size
  rw [hz0] at hs1
  have hH : w1.heap[w.heap.size]? = some (.cells #[.int .i64 0, .int .i64 0, .int .i64 0, .string ⟨#[]⟩, .int .i64 0] 35 (0, 0)) := (B1.block _ (by omega)).trans (heap_alloc_new w _)
  by_cases hgood : b = true ∧ ¬ badArg input fuel
  · obtain ⟨rfl, hnb⟩ := hgood
    have HNB : Hid (¬ badArg input fuel) := hnb
    have hnn : input.size ≤ 24 ∧ 0 ≤ fuel ∧ fuel ≤ 500 := by unfold badArg at hnb; omega
    obtain ⟨hin, hf0, hf1⟩ := hnn
    clear hnb
    have d1 : decide ((24 : Int) < (input.size : Int)) = false := by simp; omega
    have d1' : ¬ (24 : Int) < (input.size : Int) := by omega
    have d2 : decide (fuel < 0) = false := by simp; omega
    have d2' : ¬ fuel < 0 := by omega
    have d3 : ¬ (500 : Int) < fuel := by omega
    have d3' : decide ((500 : Int) < fuel) = false := by simp; omega
    obtain ⟨hLpos, S, hgoodS⟩ := hcan.good
    cases C with
    | bare p cap hv hL => omega
    | full cb co cap hv C =>
    subst hv
    clear hH hs1
    go_wp2_with fail
    refine (entries_gen w1 cb co L cap c (C.below B01) (hT.below B01) hcan).mono ?_
    rintro e w2 ⟨ent, hent, g, hg, rfl, hge, B2⟩
    have B02 := B01.trans (B2.mono B01.size)
    have W02 := B1.trans (B2.mono (by have := B1.size; rw [hz0] at this; omega))
    go_wp2_with fail
    refine (run_any w2 cb co L cap g 0 L c ent _ input fuel hgoodS (fun p hp => hent.bounds p hp) hin hf0 hf1 (hT.below B02) (C.below B02).cell (fun i hi => ?_) C.room).mono ?_
    · rw [Nat.zero_add, cell_of_row w2 g _ _ _ _ hge, List.getElem?_toArray]; exact il_get L _ _ hi
    rintro e w3 ⟨n, τ, h1, h2, h3, B3, gg, hgg, hcov, rfl⟩
    have B03 := B02.trans (B3.mono B02.size)
    have W03 := W02.trans (B3.mono (by have := W02.size; rw [hz0] at this; omega))
    have hs3 := W03.size
    rw [hz0] at hs3
    have hH : w3.heap[w.heap.size]? = some (.cells #[.int .i64 0, .int .i64 0, .int .i64 0, .string ⟨#[]⟩, .int .i64 0] 35 (0, 0)) := (W03.block _ (by omega)).trans (heap_alloc_new w _)
    have i0 : w3.cell? ⟨w.heap.size, 0, none⟩ = some (.int .i64 0) := cell_of_row _ _ _ _ _ _ hH
    have i1 : w3.cell? ⟨w.heap.size, 1, none⟩ = some (.int .i64 0) := cell_of_row _ _ _ _ _ _ hH
    have i2 : w3.cell? ⟨w.heap.size, 2, none⟩ = some (.int .i64 0) := cell_of_row _ _ _ _ _ _ hH
    have i3 : w3.cell? ⟨w.heap.size, 3, none⟩ = some (.string ⟨#[]⟩) := cell_of_row _ _ _ _ _ _ hH
    have i4 : w3.cell? ⟨w.heap.size, 4, none⟩ = some (.int .i64 0) := cell_of_row _ _ _ _ _ _ hH
    have j0 := frozen_of_row w3 w.heap.size 0 _ _ hH
    have j1 := frozen_of_row w3 w.heap.size 1 _ _ hH
    have j2 := frozen_of_row w3 w.heap.size 2 _ _ hH
    have j3 := frozen_of_row w3 w.heap.size 3 _ _ hH
    have j4 := frozen_of_row w3 w.heap.size 4 _ _ hH
    have hsz2 := B02.size
    have HENT : Hid (EntIs c L ent) := hent
    have HFIN : Hid (τ = after c ent fuel (ρ0 input) n ∧ τ.σ.ended = true ∧ (∀ m, m < n → (after c ent fuel (ρ0 input) m).σ.ended = false) ∧ Below w.heap.size w w3 ∧ w3.heap[gg]? = some (.cells (covL τ.cnt 64).toArray 5 (0, 0)) ∧ w.heap.size < gg ∧ gg < w3.heap.size) := ⟨h1, h2, h3, B03, hcov, by have := W02.size; rw [hz0] at this; omega, (Array.getElem?_eq_some_iff.1 hcov).1⟩
    obtain ⟨so, hso⟩ : ∃ so, strOfNums τ.σ.out = so := ⟨_, rfl⟩
    rw [hso]
    have HSO : Hid (strOfNums τ.σ.out = so) := hso
    have hH3 : w.heap.size < w3.heap.size := by omega
    clear hso h1 h2 h3 B0 B1 B01 B2 B02 W02 B3 B03 W03 hH hcov hge hgoodS C hT hcan hent
    go_wp2
    obtain ⟨F1, F2, F3, F4, F5, F6, F7⟩ := HFIN.out
    refine bodyPost_ret (v := .tuple #[.agg #[.int .i64 τ.σ.kind, .int .i64 τ.σ.fault, .int .i64 τ.σ.place, .string so, .int .i64 τ.σ.steps], .slice (some ⟨gg, 0, none⟩) 64 64, .int .i64 0]) ?_ rfl ?_
    · simp [results, Tryz.results17, go_sem, i0, i1, i2, i3, i4, hH3]
    · refine Or.inr (Or.inr ⟨HNB.out, ent, HENT.out, ?_⟩)
      unfold AnswerE
      refine ⟨n, τ, F1, F2, F3, ?_, gg, by omega, ?_, by rw [HSO.out]⟩
      · exact (below_set (below_set (below_set (below_set (below_set F4 0 _) 1 _) 2 _) 3 _) 4 _).alloc (by simp; omega) _
      · rw [Below.heap_alloc _ _ _ (by simp; omega)]
        have hne : gg ≠ w.heap.size := by omega
        rw [heap_setCell_other _ ⟨w.heap.size, 4, none⟩ _ _ hne, heap_setCell_other _ ⟨w.heap.size, 3, none⟩ _ _ hne, heap_setCell_other _ ⟨w.heap.size, 2, none⟩ _ _ hne, heap_setCell_other _ ⟨w.heap.size, 1, none⟩ _ _ hne, heap_setCell_other _ ⟨w.heap.size, 0, none⟩ _ _ hne]
        exact F5
  · have hH3 : w.heap.size < w1.heap.size := by omega
    have i0 : w1.cell? ⟨w.heap.size, 0, none⟩ = some (.int .i64 0) := cell_of_row _ _ _ _ _ _ hH
    have i1 : w1.cell? ⟨w.heap.size, 1, none⟩ = some (.int .i64 0) := cell_of_row _ _ _ _ _ _ hH
    have i2 : w1.cell? ⟨w.heap.size, 2, none⟩ = some (.int .i64 0) := cell_of_row _ _ _ _ _ _ hH
    have i3 : w1.cell? ⟨w.heap.size, 3, none⟩ = some (.string ⟨#[]⟩) := cell_of_row _ _ _ _ _ _ hH
    have i4 : w1.cell? ⟨w.heap.size, 4, none⟩ = some (.int .i64 0) := cell_of_row _ _ _ _ _ _ hH
    have j0 := frozen_of_row w1 w.heap.size 0 _ _ hH
    have j1 := frozen_of_row w1 w.heap.size 1 _ _ hH
    have j2 := frozen_of_row w1 w.heap.size 2 _ _ hH
    have j3 := frozen_of_row w1 w.heap.size 3 _ _ hH
    have j4 := frozen_of_row w1 w.heap.size 4 _ _ hH
    clear B0 B1 hH hz0 hs1
    cases b with
    | false =>
      go_wp2_with fail
      refine bodyPost_ret (v := .tuple #[.agg #[.int .i64 0, .int .i64 0, .int .i64 0, .string ⟨#[]⟩, .int .i64 0], .slice none 0 0, .int .i64 1]) ?_ rfl ?_
      · simp [results, Tryz.results17, go_sem, i0, i1, i2, i3, i4]
      · exact Or.inl ⟨hcan, rfl, (below_set (below_set (below_set (below_set (below_set B01 0 _) 1 _) 2 _) 3 _) 4 _)⟩
    | true =>
      have hb : badArg input fuel := Classical.byContradiction fun h => hgood ⟨rfl, h⟩
      have HB : Hid (badArg input fuel) := hb
      clear hgood
      by_cases q1 : 24 < input.size
      · have d1 : decide ((24 : Int) < (input.size : Int)) = true := by simp; omega
        have d1' : (24 : Int) < (input.size : Int) := by omega
        clear hb
        go_wp2_with fail
        refine bodyPost_ret (v := .tuple #[.agg #[.int .i64 0, .int .i64 0, .int .i64 0, .string ⟨#[]⟩, .int .i64 0], .slice none 0 0, .int .i64 2]) ?_ rfl ?_
        · simp [results, Tryz.results17, go_sem, i0, i1, i2, i3, i4]
        · exact Or.inr (Or.inl ⟨hcan, HB.out, rfl, (below_set (below_set (below_set (below_set (below_set B01 0 _) 1 _) 2 _) 3 _) 4 _)⟩)
      · have d1 : decide ((24 : Int) < (input.size : Int)) = false := by simp; omega
        have d1' : ¬ (24 : Int) < (input.size : Int) := by omega
        by_cases q2 : fuel < 0
        · have d2 : decide (fuel < 0) = true := by simp; omega
          clear hb
          go_wp2_with fail
          refine bodyPost_ret (v := .tuple #[.agg #[.int .i64 0, .int .i64 0, .int .i64 0, .string ⟨#[]⟩, .int .i64 0], .slice none 0 0, .int .i64 2]) ?_ rfl ?_
          · simp [results, Tryz.results17, go_sem, i0, i1, i2, i3, i4]
          · exact Or.inr (Or.inl ⟨hcan, HB.out, rfl, (below_set (below_set (below_set (below_set (below_set B01 0 _) 1 _) 2 _) 3 _) 4 _)⟩)
        · have d2 : decide (fuel < 0) = false := by simp; omega
          have d3 : (500 : Int) < fuel := by unfold badArg at hb; omega
          have d3' : decide ((500 : Int) < fuel) = true := by simp; omega
          clear hb
          go_wp2_with fail
          refine bodyPost_ret (v := .tuple #[.agg #[.int .i64 0, .int .i64 0, .int .i64 0, .string ⟨#[]⟩, .int .i64 0], .slice none 0 0, .int .i64 2]) ?_ rfl ?_
          · simp [results, Tryz.results17, go_sem, i0, i1, i2, i3, i4]
          · exact Or.inr (Or.inl ⟨hcan, HB.out, rfl, (below_set (below_set (below_set (below_set (below_set B01 0 _) 1 _) 2 _) 3 _) 4 _)⟩)
end Go.Proofs.YtflenkppcclclaaGreatDoor

namespace Go.Proofs.YtflenkppcclclaaGreatDoor
open Go.RowKit

/-- The instruction has a second byte. -/
def longB (x : Int) : Bool := x == 1 || x == 14 || x == 15 || x == 16 || x == 17 || x == 19 || x == 20
theorem rlong_any (x : Int) (w : World) : Calls Tryz.prog 227 #[.int .u8 x] w fun e w' => e = .returned (.bool (longB x)) ∧ w' = w := by
  unfold longB
  cases h0 : x == 1
  rotate_left
  · go_enter Tryz.func227, Tryz.ntmps227; go_wp2; go_ret; exact ⟨rfl, rfl⟩
  cases h1 : x == 14
  rotate_left
  · go_enter Tryz.func227, Tryz.ntmps227; go_wp2; go_ret; exact ⟨rfl, rfl⟩
  cases h2 : x == 15
  rotate_left
  · go_enter Tryz.func227, Tryz.ntmps227; go_wp2; go_ret; exact ⟨rfl, rfl⟩
  cases h3 : x == 16
  rotate_left
  · go_enter Tryz.func227, Tryz.ntmps227; go_wp2; go_ret; exact ⟨rfl, rfl⟩
  cases h4 : x == 17
  rotate_left
  · go_enter Tryz.func227, Tryz.ntmps227; go_wp2; go_ret; exact ⟨rfl, rfl⟩
  cases h5 : x == 19
  rotate_left
  · go_enter Tryz.func227, Tryz.ntmps227; go_wp2; go_ret; exact ⟨rfl, rfl⟩
  cases h6 : x == 20
  rotate_left
  · go_enter Tryz.func227, Tryz.ntmps227; go_wp2; go_ret; exact ⟨rfl, rfl⟩
  go_enter Tryz.func227, Tryz.ntmps227; go_wp2; go_ret; exact ⟨rfl, rfl⟩

def szR (x : Int) : Nat := if longB x then 2 else 1
theorem szR_is {kk : Nat} (hk : kk ≤ 20) : szR (kk : Int) = szOf kk := by
  have : ∀ k : Fin 21, szR ((k.val : Nat) : Int) = szOf k.val := by decide
  exact this ⟨kk, by omega⟩
theorem rsize_any (x : Int) (w : World) : Calls Tryz.prog 193 #[.int .u8 x] w fun e w' => e = .returned (.int .i64 (szR x)) ∧ w' = w := by
  unfold szR
  cases h : longB x
  all_goals
    go_enter Tryz.func193, Tryz.ntmps193
    go_wp2_with (go_at_call 227; refine (rlong_any _ _).mono ?_; rintro e w' ⟨rfl, rfl⟩)
    go_ret
    exact ⟨rfl, rfl⟩

/-- A list of numbers that is owned: its cells. -/
theorem own_cell {w : World} {base : Nat} {g n cap : Nat} {f : Nat → Int} {N : Nat} (h : w.ownsRow base 3 1 (.slice (some ⟨g, 0, none⟩) n cap) N ((List.range N).map fun i => .int .i64 (f i))) {i : Nat} (hi : i < N) :
    n = N ∧ w.cell? ⟨g, i, none⟩ = some (.int .i64 (f i)) := by
  rcases h.2 with ⟨hv, _⟩ | ⟨g', cap', cur, hv, _, hh, hle, _, hcs, htake⟩
  · cases hv
  · simp only [Value.slice.injEq, Option.some.injEq, Addr.mk.injEq, and_true] at hv
    obtain ⟨rfl, rfl, rfl⟩ := hv
    refine ⟨rfl, ?_⟩
    rw [cell_of_row w g _ _ _ _ hh]
    have h2 : (cur.toList.take (n * 1))[i]? = some (Value.int .i64 (f i)) := by
      rw [htake]; simp [List.getElem?_range hi]
    rw [List.getElem?_take, if_pos (by omega)] at h2
    simpa using h2

set_option maxHeartbeats 400000 in
/-- 'has': of a list of numbers. -/
theorem rhas_any (w : World) (g cap N : Nat) (f : Nat → Int) (x : Int) (hN : N ≤ 1000) (hc : ∀ i, i < N → w.cell? ⟨g, i, none⟩ = some (.int .i64 (f i))) :
    Calls Tryz.prog 162 #[.slice (some ⟨g, 0, none⟩) N cap, .int .i64 x] w fun e w' => e = .returned (.bool ((List.range N).any fun i => f i == x)) ∧ w' = w := by
  go_enter Tryz.func162, Tryz.ntmps162
  go_wp2
  go_loop [5] (fun i => ∃ k : Nat, k ≤ N ∧ i = .int .i64 k ∧ ((List.range k).any fun i => f i == x) = false) (fun i => N - (intOf i).toNat)
  case atStart => exact ⟨0, by omega, rfl, rfl⟩
  case round =>
    obtain ⟨k, hk, rfl, hno⟩ := hrel
    by_cases hlt : k < N
    · have hck := hc k hlt
      have hi1 : (k : Int) < (N : Int) := by omega
      cases hf : (f k == x) with
      | false =>
        have HN : Hid (((List.range (k + 1)).any fun i => f i == x) = false) := by
          show ((List.range (k + 1)).any fun i => f i == x) = false
          rw [List.range_succ, List.any_append, hno]; simp [hf]
        clear hno
        go_wp2
        go_round
        case rel => exact ⟨k + 1, by omega, by go_num, HN.out⟩
        case measure => simp [intOf]; omega
      | true =>
        have HN : Hid (((List.range N).any fun i => f i == x) = true) := by
          show ((List.range N).any fun i => f i == x) = true
          rw [List.any_eq_true]; exact ⟨k, List.mem_range.2 hlt, hf⟩
        clear hno
        go_wp2
        go_ret
        exact ⟨by rw [HN.out]; rfl, rfl⟩
    · have e : k = N := by omega
      subst e
      have HN : Hid (((List.range k).any fun i => f i == x) = false) := hno
      clear hno
      go_wp2
      go_ret
      exact ⟨by rw [HN.out]; rfl, rfl⟩
end Go.Proofs.YtflenkppcclclaaGreatDoor

