import Derived.Test.YtflenkppcclclaaGreatDoorM25
namespace Go.Proofs.YtflenkppcclclaaGreatDoor
open Go.RowKit

theorem ent_plain {c : Nat → Int} {L N : Nat} (F : Fine c L N 19) {m : Nat} (hm : m < N) : entAt (bgn c N) L (pos c m) = if rbegAt c m N = true then (cntR c N m : Int) else -1 := by
  unfold entAt entB
  rw [if_pos (F.sp.lt hm), bgn_pos F.sp hm, cnt_is F m (by omega)]
theorem ent_probed {c : Nat → Int} {L N : Nat} (F : Fine c L N 20) {m : Nat} (hm : m < N) : pent c N (pos c m) = if c (pos c m) = 20 then c (pos c m + 1) else -1 := by
  unfold pent
  have : prb c N (pos c m) = (c (pos c m) == 20) := by
    cases h : (c (pos c m) == 20) with
    | true =>
      unfold prb
      rw [List.any_eq_true]
      exact ⟨m, List.mem_range.2 hm, by rw [h]; simp⟩
    | false =>
      cases h' : prb c N (pos c m) with
      | false => rfl
      | true =>
        unfold prb at h'
        rw [List.any_eq_true] at h'
        obtain ⟨t, ht, e⟩ := h'
        simp only [Bool.and_eq_true, beq_iff_eq] at e
        have := F.sp.inj (m := t) (k := m) (by have := List.mem_range.1 ht; omega) (by omega) e.1
        subst this
        rw [e.2] at h; cases h
  rw [this]
  by_cases e : c (pos c m) = 20
  · rw [if_pos e, e]; rfl
  · rw [if_neg e, if_neg (by simpa using e)]

/-- The document's run of what can be run. -/
theorem rrun_ent (w : World) (cb co L cap : Nat) (c ent : Nat → Int) (input : ByteArray) (fuel : Int) (h : EntIs c L ent) (hin : input.size ≤ 24) (hf0 : 0 ≤ fuel) (hf1 : fuel ≤ 500) (C : Laid w cb co L cap c) :
    Calls Tryz.prog 152 #[.slice (some ⟨cb, co, none⟩) L cap, .string input, .int .i64 fuel] w (RanR c ent input fuel w) := by
  have hb := fun p hp => h.bounds p hp
  rcases h with ⟨N, hL, F, rfl⟩ | ⟨N, r, _, F, hp, rfl⟩
  · refine rrun_any w cb co L cap N c _ false input fuel (F.sp.more (by omega) (by omega)) F.last F.one F.good hb ?_ ?_ (fun _ m hm => F.sp.op m hm) hin hf0 hf1 C
    · cases h : probeIn c N with
      | false => rfl
      | true => obtain ⟨m, hm, e⟩ := probeIn_ex c h; have := F.sp.op m hm; omega
    · intro m hm
      rw [ent_plain F hm]; rfl
  · refine rrun_any w cb co L cap N c _ true input fuel F.sp F.last F.one F.good hb hp ?_ (fun h => by cases h) hin hf0 hf1 C
    intro m hm
    rw [ent_probed F hm]; rfl

set_option maxHeartbeats 2000000 in
theorem rRun_gen (w : World) (v : Value) (L : Nat) (c : Nat → Int) (hby : ∀ i, i < L → 0 ≤ c i ∧ c i ≤ 255) (C : Coded w v L c) (input : ByteArray) (fuel : Int) :
    Calls Tryz.prog 100 #[v, .string input, .int .i64 fuel] w (RunIs c L input fuel w) := by
  have B0 : Below w.heap.size w (w.alloc (.cells #[.int .i64 0, .int .i64 0, .int .i64 0, .string ⟨#[]⟩, .int .i64 0] 35)) := (Below.refl _ _).alloc (Nat.le_refl _) _
  have hz0 : (w.alloc (.cells #[.int .i64 0, .int .i64 0, .int .i64 0, .string ⟨#[]⟩, .int .i64 0] 35)).heap.size = w.heap.size + 1 := by simp
  have hH0 := heap_alloc_new w (.cells #[.int .i64 0, .int .i64 0, .int .i64 0, .string ⟨#[]⟩, .int .i64 0] 35)
  have HW1 : Hid (∀ w, Coded w v L c → Calls Tryz.prog 147 #[v, .int .i64 80, .bool false] w (WrongIs c L 80 false w)) := fun w C => rwrong_gen w v L 80 c false (by omega) hby C
  have HW2 : Hid (∀ w, Coded w v L c → Calls Tryz.prog 147 #[v, .int .i64 240, .bool true] w (WrongIs c L 240 true w)) := fun w C => rwrong_gen w v L 240 c true (by omega) hby C
  go_enter Tryz.func100, Tryz.ntmps100
  go_wp2_with fail
  generalize (w.alloc (.cells #[.int .i64 0, .int .i64 0, .int .i64 0, .string ⟨#[]⟩, .int .i64 0] 35)) = w0 at *
  refine (HW1.out w0 (C.below B0)).mono ?_
  rintro e w1 ⟨r1, b1, hF1, rfl, B1⟩
  have B01 := B0.trans (B1.mono B0.size)
  cases b1 with
  | false =>
    have hm1 : ¬ (0 : Int) ≤ -1 := by omega
    go_wp2_with fail
    refine (HW2.out w1 (C.below B01)).mono ?_
    rintro e w2 ⟨r2, b2, hF2, rfl, B2⟩
    have B02 := B01.trans (B2.mono B01.size)
    have W02 : Below w0.heap.size w0 w2 := B1.trans (B2.mono B1.size)
    obtain ⟨_, hL80, N, F⟩ := hF1.fine
    have hcan : CanIs c L true := Or.inl ⟨rfl, hL80, N, F⟩
    obtain ⟨ent, hent⟩ : ∃ ent, EntIs c L ent := ⟨_, Or.inl ⟨N, hL80, F, rfl⟩⟩
    have F20 : SP c L N 20 := F.sp.more (by unfold zOf; simp) (by omega)
    have hlast := F.last
    have hpn : probeIn c N = false := by
      cases h : probeIn c N with
      | false => rfl
      | true => obtain ⟨m, hm, e⟩ := probeIn_ex c h; have := F.sp.op m hm; unfold zOf at this; simp at this; omega
    cases C.below B02 with
    | bare p cap hv hL0 => have := F.pos; omega
    | full cb co cap hv C2 =>
      subst hv
      cases b2 with
      | true =>
        have hr2 : ¬ ((r2 : Nat) : Int) < 0 := by omega
        have hr2' : decide (((r2 : Nat) : Int) < 0) = false := by simp
        have HENT : Hid (EntIs c L ent) := hent
        by_cases hbad : badArg input fuel
        · have hsz : w.heap.size < w2.heap.size := by have := W02.size; rw [hz0] at this; omega
          have hH : w2.heap[w.heap.size]? = some (.cells #[.int .i64 0, .int .i64 0, .int .i64 0, .string ⟨#[]⟩, .int .i64 0] 35 (0, 0)) := (W02.block _ (by omega)).trans hH0
          have i0 : w2.cell? ⟨w.heap.size, 0, none⟩ = some (.int .i64 0) := cell_of_row _ _ _ _ _ _ hH
          have i1 : w2.cell? ⟨w.heap.size, 1, none⟩ = some (.int .i64 0) := cell_of_row _ _ _ _ _ _ hH
          have i2 : w2.cell? ⟨w.heap.size, 2, none⟩ = some (.int .i64 0) := cell_of_row _ _ _ _ _ _ hH
          have i3 : w2.cell? ⟨w.heap.size, 3, none⟩ = some (.string ⟨#[]⟩) := cell_of_row _ _ _ _ _ _ hH
          have i4 : w2.cell? ⟨w.heap.size, 4, none⟩ = some (.int .i64 0) := cell_of_row _ _ _ _ _ _ hH
          have j0 := frozen_of_row w2 w.heap.size 0 _ _ hH
          have j1 := frozen_of_row w2 w.heap.size 1 _ _ hH
          have j2 := frozen_of_row w2 w.heap.size 2 _ _ hH
          have j3 := frozen_of_row w2 w.heap.size 3 _ _ hH
          have j4 := frozen_of_row w2 w.heap.size 4 _ _ hH
          have HB : Hid (badArg input fuel) := hbad
          clear hH
          by_cases q1 : 24 < input.size
          · have d1 : decide ((24 : Int) < (input.size : Int)) = true := by simp; omega
            have d1' : (24 : Int) < (input.size : Int) := by omega
            clear hbad
            go_wp2_with fail
            refine bodyPost_ret (v := .tuple #[.agg #[.int .i64 0, .int .i64 0, .int .i64 0, .string ⟨#[]⟩, .int .i64 0], .slice none 0 0, .int .i64 2]) ?_ rfl ?_
            · simp [results, Tryz.results100, go_sem, i0, i1, i2, i3, i4]
            · exact Or.inr (Or.inl ⟨hcan, HB.out, rfl, (below_set (below_set (below_set (below_set (below_set B02 0 _) 1 _) 2 _) 3 _) 4 _)⟩)
          · have d1 : decide ((24 : Int) < (input.size : Int)) = false := by simp; omega
            have d1' : ¬ (24 : Int) < (input.size : Int) := by omega
            by_cases q2 : fuel < 0
            · have d2 : decide (fuel < 0) = true := by simp; omega
              clear hbad
              go_wp2_with fail
              refine bodyPost_ret (v := .tuple #[.agg #[.int .i64 0, .int .i64 0, .int .i64 0, .string ⟨#[]⟩, .int .i64 0], .slice none 0 0, .int .i64 2]) ?_ rfl ?_
              · simp [results, Tryz.results100, go_sem, i0, i1, i2, i3, i4]
              · exact Or.inr (Or.inl ⟨hcan, HB.out, rfl, (below_set (below_set (below_set (below_set (below_set B02 0 _) 1 _) 2 _) 3 _) 4 _)⟩)
            · have d2 : decide (fuel < 0) = false := by simp; omega
              have d3 : (500 : Int) < fuel := by unfold badArg at hbad; omega
              have d3' : decide ((500 : Int) < fuel) = true := by simp; omega
              clear hbad
              go_wp2_with fail
              refine bodyPost_ret (v := .tuple #[.agg #[.int .i64 0, .int .i64 0, .int .i64 0, .string ⟨#[]⟩, .int .i64 0], .slice none 0 0, .int .i64 2]) ?_ rfl ?_
              · simp [results, Tryz.results100, go_sem, i0, i1, i2, i3, i4]
              · exact Or.inr (Or.inl ⟨hcan, HB.out, rfl, (below_set (below_set (below_set (below_set (below_set B02 0 _) 1 _) 2 _) 3 _) 4 _)⟩)
        · have HNB : Hid (¬ badArg input fuel) := hbad
          have hnn : input.size ≤ 24 ∧ 0 ≤ fuel ∧ fuel ≤ 500 := by unfold badArg at hbad; omega
          obtain ⟨hin, hf0, hf1⟩ := hnn
          clear hbad
          have d1 : decide ((24 : Int) < (input.size : Int)) = false := by simp; omega
          have d1' : ¬ (24 : Int) < (input.size : Int) := by omega
          have d2 : decide (fuel < 0) = false := by simp; omega
          have d2' : ¬ fuel < 0 := by omega
          have d3 : ¬ (500 : Int) < fuel := by omega
          have d3' : decide ((500 : Int) < fuel) = false := by simp; omega
          have HRR : Hid (Calls Tryz.prog 152 #[.slice (some ⟨cb, co, none⟩) L cap, .string input, .int .i64 fuel] w2 (RanR c ent input fuel w2)) := rrun_ent w2 cb co L cap c ent input fuel hent hin hf0 hf1 C2
          clear hent C2
          go_wp2_with fail
          refine HRR.out.mono ?_
          rintro e w4 ⟨n, τ, h1, h2, h3, B4, gg, hgg, hcov, rfl⟩
          have B04 := B02.trans (B4.mono B02.size)
          have W04 := W02.trans (B4.mono W02.size)
          have hs4 := W04.size
          rw [hz0] at hs4
          have hH : w4.heap[w.heap.size]? = some (.cells #[.int .i64 0, .int .i64 0, .int .i64 0, .string ⟨#[]⟩, .int .i64 0] 35 (0, 0)) := (W04.block _ (by omega)).trans hH0
          have i0 : w4.cell? ⟨w.heap.size, 0, none⟩ = some (.int .i64 0) := cell_of_row _ _ _ _ _ _ hH
          have i1 : w4.cell? ⟨w.heap.size, 1, none⟩ = some (.int .i64 0) := cell_of_row _ _ _ _ _ _ hH
          have i2 : w4.cell? ⟨w.heap.size, 2, none⟩ = some (.int .i64 0) := cell_of_row _ _ _ _ _ _ hH
          have i3 : w4.cell? ⟨w.heap.size, 3, none⟩ = some (.string ⟨#[]⟩) := cell_of_row _ _ _ _ _ _ hH
          have i4 : w4.cell? ⟨w.heap.size, 4, none⟩ = some (.int .i64 0) := cell_of_row _ _ _ _ _ _ hH
          have j0 := frozen_of_row w4 w.heap.size 0 _ _ hH
          have j1 := frozen_of_row w4 w.heap.size 1 _ _ hH
          have j2 := frozen_of_row w4 w.heap.size 2 _ _ hH
          have j3 := frozen_of_row w4 w.heap.size 3 _ _ hH
          have j4 := frozen_of_row w4 w.heap.size 4 _ _ hH
          have hszx : w.heap.size < w2.heap.size := by have := W02.size; rw [hz0] at this; omega
          have HFIN : Hid (τ = after c ent fuel (ρ0 input) n ∧ τ.σ.ended = true ∧ (∀ m, m < n → (after c ent fuel (ρ0 input) m).σ.ended = false) ∧ Below w.heap.size w w4 ∧ w4.heap[gg]? = some (.cells (covL τ.cnt 64).toArray 5 (0, 0)) ∧ w.heap.size < gg ∧ gg < w4.heap.size) := ⟨h1, h2, h3, B04, hcov, by omega, (Array.getElem?_eq_some_iff.1 hcov).1⟩
          obtain ⟨so, hso⟩ : ∃ so, strOfNums τ.σ.out = so := ⟨_, rfl⟩
          rw [hso]
          have HSO : Hid (strOfNums τ.σ.out = so) := hso
          have hH3 : w.heap.size < w4.heap.size := by omega
          clear hso h1 h2 h3 B0 B1 B01 B2 B02 B04 B4 W04 hH hcov hF1 hF2 hcan
          go_wp2
          obtain ⟨F1, F2, F3, F4, F5, F6, F7⟩ := HFIN.out
          refine bodyPost_ret (v := .tuple #[.agg #[.int .i64 τ.σ.kind, .int .i64 τ.σ.fault, .int .i64 τ.σ.place, .string so, .int .i64 τ.σ.steps], .slice (some ⟨gg, 0, none⟩) 64 64, .int .i64 0]) ?_ rfl ?_
          · simp [results, Tryz.results100, go_sem, i0, i1, i2, i3, i4, hH3]
          · refine Or.inr (Or.inr ⟨HNB.out, ent, HENT.out, ?_⟩)
            unfold AnswerE
            refine ⟨n, τ, F1, F2, F3, ?_, gg, by omega, ?_, by rw [HSO.out]⟩
            · exact (below_set (below_set (below_set (below_set (below_set F4 0 _) 1 _) 2 _) 3 _) 4 _).alloc (by simp; omega) _
            · rw [Below.heap_alloc _ _ _ (by simp; omega)]
              have hne : gg ≠ w.heap.size := by omega
              rw [heap_setCell_other _ ⟨w.heap.size, 4, none⟩ _ _ hne, heap_setCell_other _ ⟨w.heap.size, 3, none⟩ _ _ hne, heap_setCell_other _ ⟨w.heap.size, 2, none⟩ _ _ hne, heap_setCell_other _ ⟨w.heap.size, 1, none⟩ _ _ hne, heap_setCell_other _ ⟨w.heap.size, 0, none⟩ _ _ hne]
              exact F5
      | false =>
        have HPR : Hid (Calls Tryz.prog 151 #[.slice (some ⟨cb, co, none⟩) L cap] w2 fun e w' => e = .returned (.bool false) ∧ Below w2.heap.size w2 w') := by
          have := rprobed_any w2 cb co L cap N c F20 hlast C2
          rw [hpn] at this
          exact this
        go_wp2_with fail
        refine HPR.out.mono ?_
        rintro e w3 ⟨rfl, B3⟩
        have B03 := B02.trans (B3.mono B02.size)
        have W03 := W02.trans (B3.mono W02.size)
        have C3 := C2.below B3
        have HENT : Hid (EntIs c L ent) := hent
        by_cases hbad : badArg input fuel
        · have hsz : w.heap.size < w3.heap.size := by have := W03.size; rw [hz0] at this; omega
          have hH : w3.heap[w.heap.size]? = some (.cells #[.int .i64 0, .int .i64 0, .int .i64 0, .string ⟨#[]⟩, .int .i64 0] 35 (0, 0)) := (W03.block _ (by omega)).trans hH0
          have i0 : w3.cell? ⟨w.heap.size, 0, none⟩ = some (.int .i64 0) := cell_of_row _ _ _ _ _ _ hH
          have i1 : w3.cell? ⟨w.heap.size, 1, none⟩ = some (.int .i64 0) := cell_of_row _ _ _ _ _ _ hH
          have i2 : w3.cell? ⟨w.heap.size, 2, none⟩ = some (.int .i64 0) := cell_of_row _ _ _ _ _ _ hH
          have i3 : w3.cell? ⟨w.heap.size, 3, none⟩ = some (.string ⟨#[]⟩) := cell_of_row _ _ _ _ _ _ hH
          have i4 : w3.cell? ⟨w.heap.size, 4, none⟩ = some (.int .i64 0) := cell_of_row _ _ _ _ _ _ hH
          have j0 := frozen_of_row w3 w.heap.size 0 _ _ hH
          have j1 := frozen_of_row w3 w.heap.size 1 _ _ hH
          have j2 := frozen_of_row w3 w.heap.size 2 _ _ hH
          have j3 := frozen_of_row w3 w.heap.size 3 _ _ hH
          have j4 := frozen_of_row w3 w.heap.size 4 _ _ hH
          have HB : Hid (badArg input fuel) := hbad
          clear hH
          by_cases q1 : 24 < input.size
          · have d1 : decide ((24 : Int) < (input.size : Int)) = true := by simp; omega
            have d1' : (24 : Int) < (input.size : Int) := by omega
            clear hbad
            go_wp2_with fail
            refine bodyPost_ret (v := .tuple #[.agg #[.int .i64 0, .int .i64 0, .int .i64 0, .string ⟨#[]⟩, .int .i64 0], .slice none 0 0, .int .i64 2]) ?_ rfl ?_
            · simp [results, Tryz.results100, go_sem, i0, i1, i2, i3, i4]
            · exact Or.inr (Or.inl ⟨hcan, HB.out, rfl, (below_set (below_set (below_set (below_set (below_set B03 0 _) 1 _) 2 _) 3 _) 4 _)⟩)
          · have d1 : decide ((24 : Int) < (input.size : Int)) = false := by simp; omega
            have d1' : ¬ (24 : Int) < (input.size : Int) := by omega
            by_cases q2 : fuel < 0
            · have d2 : decide (fuel < 0) = true := by simp; omega
              clear hbad
              go_wp2_with fail
              refine bodyPost_ret (v := .tuple #[.agg #[.int .i64 0, .int .i64 0, .int .i64 0, .string ⟨#[]⟩, .int .i64 0], .slice none 0 0, .int .i64 2]) ?_ rfl ?_
              · simp [results, Tryz.results100, go_sem, i0, i1, i2, i3, i4]
              · exact Or.inr (Or.inl ⟨hcan, HB.out, rfl, (below_set (below_set (below_set (below_set (below_set B03 0 _) 1 _) 2 _) 3 _) 4 _)⟩)
            · have d2 : decide (fuel < 0) = false := by simp; omega
              have d3 : (500 : Int) < fuel := by unfold badArg at hbad; omega
              have d3' : decide ((500 : Int) < fuel) = true := by simp; omega
              clear hbad
              go_wp2_with fail
              refine bodyPost_ret (v := .tuple #[.agg #[.int .i64 0, .int .i64 0, .int .i64 0, .string ⟨#[]⟩, .int .i64 0], .slice none 0 0, .int .i64 2]) ?_ rfl ?_
              · simp [results, Tryz.results100, go_sem, i0, i1, i2, i3, i4]
              · exact Or.inr (Or.inl ⟨hcan, HB.out, rfl, (below_set (below_set (below_set (below_set (below_set B03 0 _) 1 _) 2 _) 3 _) 4 _)⟩)
        · have HNB : Hid (¬ badArg input fuel) := hbad
          have hnn : input.size ≤ 24 ∧ 0 ≤ fuel ∧ fuel ≤ 500 := by unfold badArg at hbad; omega
          obtain ⟨hin, hf0, hf1⟩ := hnn
          clear hbad
          have d1 : decide ((24 : Int) < (input.size : Int)) = false := by simp; omega
          have d1' : ¬ (24 : Int) < (input.size : Int) := by omega
          have d2 : decide (fuel < 0) = false := by simp; omega
          have d2' : ¬ fuel < 0 := by omega
          have d3 : ¬ (500 : Int) < fuel := by omega
          have d3' : decide ((500 : Int) < fuel) = false := by simp; omega
          have HRR : Hid (Calls Tryz.prog 152 #[.slice (some ⟨cb, co, none⟩) L cap, .string input, .int .i64 fuel] w3 (RanR c ent input fuel w3)) := rrun_ent w3 cb co L cap c ent input fuel hent hin hf0 hf1 C3
          clear hent C3
          go_wp2_with fail
          refine HRR.out.mono ?_
          rintro e w4 ⟨n, τ, h1, h2, h3, B4, gg, hgg, hcov, rfl⟩
          have B04 := B03.trans (B4.mono B03.size)
          have W04 := W03.trans (B4.mono W03.size)
          have hs4 := W04.size
          rw [hz0] at hs4
          have hH : w4.heap[w.heap.size]? = some (.cells #[.int .i64 0, .int .i64 0, .int .i64 0, .string ⟨#[]⟩, .int .i64 0] 35 (0, 0)) := (W04.block _ (by omega)).trans hH0
          have i0 : w4.cell? ⟨w.heap.size, 0, none⟩ = some (.int .i64 0) := cell_of_row _ _ _ _ _ _ hH
          have i1 : w4.cell? ⟨w.heap.size, 1, none⟩ = some (.int .i64 0) := cell_of_row _ _ _ _ _ _ hH
          have i2 : w4.cell? ⟨w.heap.size, 2, none⟩ = some (.int .i64 0) := cell_of_row _ _ _ _ _ _ hH
          have i3 : w4.cell? ⟨w.heap.size, 3, none⟩ = some (.string ⟨#[]⟩) := cell_of_row _ _ _ _ _ _ hH
          have i4 : w4.cell? ⟨w.heap.size, 4, none⟩ = some (.int .i64 0) := cell_of_row _ _ _ _ _ _ hH
          have j0 := frozen_of_row w4 w.heap.size 0 _ _ hH
          have j1 := frozen_of_row w4 w.heap.size 1 _ _ hH
          have j2 := frozen_of_row w4 w.heap.size 2 _ _ hH
          have j3 := frozen_of_row w4 w.heap.size 3 _ _ hH
          have j4 := frozen_of_row w4 w.heap.size 4 _ _ hH
          have hszx : w.heap.size < w3.heap.size := by have := W03.size; rw [hz0] at this; omega
          have HFIN : Hid (τ = after c ent fuel (ρ0 input) n ∧ τ.σ.ended = true ∧ (∀ m, m < n → (after c ent fuel (ρ0 input) m).σ.ended = false) ∧ Below w.heap.size w w4 ∧ w4.heap[gg]? = some (.cells (covL τ.cnt 64).toArray 5 (0, 0)) ∧ w.heap.size < gg ∧ gg < w4.heap.size) := ⟨h1, h2, h3, B04, hcov, by omega, (Array.getElem?_eq_some_iff.1 hcov).1⟩
          obtain ⟨so, hso⟩ : ∃ so, strOfNums τ.σ.out = so := ⟨_, rfl⟩
          rw [hso]
          have HSO : Hid (strOfNums τ.σ.out = so) := hso
          have hH3 : w.heap.size < w4.heap.size := by omega
          clear hso h1 h2 h3 B0 B1 B01 B2 B02 B04 B4 W04 hH hcov hF1 hF2 hcan
          go_wp2
          obtain ⟨F1, F2, F3, F4, F5, F6, F7⟩ := HFIN.out
          refine bodyPost_ret (v := .tuple #[.agg #[.int .i64 τ.σ.kind, .int .i64 τ.σ.fault, .int .i64 τ.σ.place, .string so, .int .i64 τ.σ.steps], .slice (some ⟨gg, 0, none⟩) 64 64, .int .i64 0]) ?_ rfl ?_
          · simp [results, Tryz.results100, go_sem, i0, i1, i2, i3, i4, hH3]
          · refine Or.inr (Or.inr ⟨HNB.out, ent, HENT.out, ?_⟩)
            unfold AnswerE
            refine ⟨n, τ, F1, F2, F3, ?_, gg, by omega, ?_, by rw [HSO.out]⟩
            · exact (below_set (below_set (below_set (below_set (below_set F4 0 _) 1 _) 2 _) 3 _) 4 _).alloc (by simp; omega) _
            · rw [Below.heap_alloc _ _ _ (by simp; omega)]
              have hne : gg ≠ w.heap.size := by omega
              rw [heap_setCell_other _ ⟨w.heap.size, 4, none⟩ _ _ hne, heap_setCell_other _ ⟨w.heap.size, 3, none⟩ _ _ hne, heap_setCell_other _ ⟨w.heap.size, 2, none⟩ _ _ hne, heap_setCell_other _ ⟨w.heap.size, 1, none⟩ _ _ hne, heap_setCell_other _ ⟨w.heap.size, 0, none⟩ _ _ hne]
              exact F5
  | true =>
    have hm1 : (0 : Int) ≤ ((r1 : Nat) : Int) := by omega
    have hm1' : decide ((0 : Int) ≤ ((r1 : Nat) : Int)) = true := by simp
    go_wp2_with fail
    refine (HW2.out w1 (C.below B01)).mono ?_
    rintro e w2 ⟨r2, b2, hF2, rfl, B2⟩
    have B02 := B01.trans (B2.mono B01.size)
    have W02 : Below w0.heap.size w0 w2 := B1.trans (B2.mono B1.size)
    cases b2 with
    | true =>
      have hr2 : ¬ ((r2 : Nat) : Int) < 0 := by omega
      have hr2' : decide (((r2 : Nat) : Int) < 0) = false := by simp
      have hcan : CanIs c L false := Or.inr ⟨r1, hF1, Or.inr ⟨rfl, Or.inl ⟨r2, hF2⟩⟩⟩
      have hsz : w.heap.size < w2.heap.size := by have := W02.size; rw [hz0] at this; omega
      have hH : w2.heap[w.heap.size]? = some (.cells #[.int .i64 0, .int .i64 0, .int .i64 0, .string ⟨#[]⟩, .int .i64 0] 35 (0, 0)) := (W02.block _ (by omega)).trans hH0
      have i0 : w2.cell? ⟨w.heap.size, 0, none⟩ = some (.int .i64 0) := cell_of_row _ _ _ _ _ _ hH
      have i1 : w2.cell? ⟨w.heap.size, 1, none⟩ = some (.int .i64 0) := cell_of_row _ _ _ _ _ _ hH
      have i2 : w2.cell? ⟨w.heap.size, 2, none⟩ = some (.int .i64 0) := cell_of_row _ _ _ _ _ _ hH
      have i3 : w2.cell? ⟨w.heap.size, 3, none⟩ = some (.string ⟨#[]⟩) := cell_of_row _ _ _ _ _ _ hH
      have i4 : w2.cell? ⟨w.heap.size, 4, none⟩ = some (.int .i64 0) := cell_of_row _ _ _ _ _ _ hH
      have j0 := frozen_of_row w2 w.heap.size 0 _ _ hH
      have j1 := frozen_of_row w2 w.heap.size 1 _ _ hH
      have j2 := frozen_of_row w2 w.heap.size 2 _ _ hH
      have j3 := frozen_of_row w2 w.heap.size 3 _ _ hH
      have j4 := frozen_of_row w2 w.heap.size 4 _ _ hH
      clear hH
      go_wp2_with fail
      refine bodyPost_ret (v := .tuple #[.agg #[.int .i64 0, .int .i64 0, .int .i64 0, .string ⟨#[]⟩, .int .i64 0], .slice none 0 0, .int .i64 1]) ?_ rfl ?_
      · simp [results, Tryz.results100, go_sem, i0, i1, i2, i3, i4]
      · exact Or.inl ⟨hcan, rfl, (below_set (below_set (below_set (below_set (below_set B02 0 _) 1 _) 2 _) 3 _) 4 _)⟩
    | false =>
      obtain ⟨_, hL240, N, F⟩ := hF2.fine
      cases C.below B02 with
      | bare p cap hv hL0 => have := F.pos; omega
      | full cb co cap hv C2 =>
        subst hv
        have HPR : Hid (Calls Tryz.prog 151 #[.slice (some ⟨cb, co, none⟩) L cap] w2 fun e w' => e = .returned (.bool (probeIn c N)) ∧ Below w2.heap.size w2 w') := rprobed_any w2 cb co L cap N c F.sp F.last C2
        cases hp : probeIn c N with
        | false =>
          rw [hp] at HPR
          have hcan : CanIs c L false := Or.inr ⟨r1, hF1, Or.inr ⟨rfl, Or.inr ⟨N, F, hp⟩⟩⟩
          go_wp2_with fail
          refine HPR.out.mono ?_
          rintro e w3 ⟨rfl, B3⟩
          have B03 := B02.trans (B3.mono B02.size)
          have W03 := W02.trans (B3.mono W02.size)
          have hsz : w.heap.size < w3.heap.size := by have := W03.size; rw [hz0] at this; omega
          have hH : w3.heap[w.heap.size]? = some (.cells #[.int .i64 0, .int .i64 0, .int .i64 0, .string ⟨#[]⟩, .int .i64 0] 35 (0, 0)) := (W03.block _ (by omega)).trans hH0
          have i0 : w3.cell? ⟨w.heap.size, 0, none⟩ = some (.int .i64 0) := cell_of_row _ _ _ _ _ _ hH
          have i1 : w3.cell? ⟨w.heap.size, 1, none⟩ = some (.int .i64 0) := cell_of_row _ _ _ _ _ _ hH
          have i2 : w3.cell? ⟨w.heap.size, 2, none⟩ = some (.int .i64 0) := cell_of_row _ _ _ _ _ _ hH
          have i3 : w3.cell? ⟨w.heap.size, 3, none⟩ = some (.string ⟨#[]⟩) := cell_of_row _ _ _ _ _ _ hH
          have i4 : w3.cell? ⟨w.heap.size, 4, none⟩ = some (.int .i64 0) := cell_of_row _ _ _ _ _ _ hH
          have j0 := frozen_of_row w3 w.heap.size 0 _ _ hH
          have j1 := frozen_of_row w3 w.heap.size 1 _ _ hH
          have j2 := frozen_of_row w3 w.heap.size 2 _ _ hH
          have j3 := frozen_of_row w3 w.heap.size 3 _ _ hH
          have j4 := frozen_of_row w3 w.heap.size 4 _ _ hH
          clear hH
          go_wp2_with fail
          refine bodyPost_ret (v := .tuple #[.agg #[.int .i64 0, .int .i64 0, .int .i64 0, .string ⟨#[]⟩, .int .i64 0], .slice none 0 0, .int .i64 1]) ?_ rfl ?_
          · simp [results, Tryz.results100, go_sem, i0, i1, i2, i3, i4]
          · exact Or.inl ⟨hcan, rfl, (below_set (below_set (below_set (below_set (below_set B03 0 _) 1 _) 2 _) 3 _) 4 _)⟩
        | true =>
          rw [hp] at HPR
          have hcan : CanIs c L true := Or.inr ⟨r1, hF1, Or.inl ⟨rfl, N, F, hp⟩⟩
          obtain ⟨ent, hent⟩ : ∃ ent, EntIs c L ent := ⟨_, Or.inr ⟨N, r1, hF1, F, hp, rfl⟩⟩
          go_wp2_with fail
          refine HPR.out.mono ?_
          rintro e w3 ⟨rfl, B3⟩
          have B03 := B02.trans (B3.mono B02.size)
          have W03 := W02.trans (B3.mono W02.size)
          have C3 := C2.below B3
          have HENT : Hid (EntIs c L ent) := hent
          by_cases hbad : badArg input fuel
          · have hsz : w.heap.size < w3.heap.size := by have := W03.size; rw [hz0] at this; omega
            have hH : w3.heap[w.heap.size]? = some (.cells #[.int .i64 0, .int .i64 0, .int .i64 0, .string ⟨#[]⟩, .int .i64 0] 35 (0, 0)) := (W03.block _ (by omega)).trans hH0
            have i0 : w3.cell? ⟨w.heap.size, 0, none⟩ = some (.int .i64 0) := cell_of_row _ _ _ _ _ _ hH
            have i1 : w3.cell? ⟨w.heap.size, 1, none⟩ = some (.int .i64 0) := cell_of_row _ _ _ _ _ _ hH
            have i2 : w3.cell? ⟨w.heap.size, 2, none⟩ = some (.int .i64 0) := cell_of_row _ _ _ _ _ _ hH
            have i3 : w3.cell? ⟨w.heap.size, 3, none⟩ = some (.string ⟨#[]⟩) := cell_of_row _ _ _ _ _ _ hH
            have i4 : w3.cell? ⟨w.heap.size, 4, none⟩ = some (.int .i64 0) := cell_of_row _ _ _ _ _ _ hH
            have j0 := frozen_of_row w3 w.heap.size 0 _ _ hH
            have j1 := frozen_of_row w3 w.heap.size 1 _ _ hH
            have j2 := frozen_of_row w3 w.heap.size 2 _ _ hH
            have j3 := frozen_of_row w3 w.heap.size 3 _ _ hH
            have j4 := frozen_of_row w3 w.heap.size 4 _ _ hH
            have HB : Hid (badArg input fuel) := hbad
            clear hH
            by_cases q1 : 24 < input.size
            · have d1 : decide ((24 : Int) < (input.size : Int)) = true := by simp; omega
              have d1' : (24 : Int) < (input.size : Int) := by omega
              clear hbad
              go_wp2_with fail
              refine bodyPost_ret (v := .tuple #[.agg #[.int .i64 0, .int .i64 0, .int .i64 0, .string ⟨#[]⟩, .int .i64 0], .slice none 0 0, .int .i64 2]) ?_ rfl ?_
              · simp [results, Tryz.results100, go_sem, i0, i1, i2, i3, i4]
              · exact Or.inr (Or.inl ⟨hcan, HB.out, rfl, (below_set (below_set (below_set (below_set (below_set B03 0 _) 1 _) 2 _) 3 _) 4 _)⟩)
            · have d1 : decide ((24 : Int) < (input.size : Int)) = false := by simp; omega
              have d1' : ¬ (24 : Int) < (input.size : Int) := by omega
              by_cases q2 : fuel < 0
              · have d2 : decide (fuel < 0) = true := by simp; omega
                clear hbad
                go_wp2_with fail
                refine bodyPost_ret (v := .tuple #[.agg #[.int .i64 0, .int .i64 0, .int .i64 0, .string ⟨#[]⟩, .int .i64 0], .slice none 0 0, .int .i64 2]) ?_ rfl ?_
                · simp [results, Tryz.results100, go_sem, i0, i1, i2, i3, i4]
                · exact Or.inr (Or.inl ⟨hcan, HB.out, rfl, (below_set (below_set (below_set (below_set (below_set B03 0 _) 1 _) 2 _) 3 _) 4 _)⟩)
              · have d2 : decide (fuel < 0) = false := by simp; omega
                have d3 : (500 : Int) < fuel := by unfold badArg at hbad; omega
                have d3' : decide ((500 : Int) < fuel) = true := by simp; omega
                clear hbad
                go_wp2_with fail
                refine bodyPost_ret (v := .tuple #[.agg #[.int .i64 0, .int .i64 0, .int .i64 0, .string ⟨#[]⟩, .int .i64 0], .slice none 0 0, .int .i64 2]) ?_ rfl ?_
                · simp [results, Tryz.results100, go_sem, i0, i1, i2, i3, i4]
                · exact Or.inr (Or.inl ⟨hcan, HB.out, rfl, (below_set (below_set (below_set (below_set (below_set B03 0 _) 1 _) 2 _) 3 _) 4 _)⟩)
          · have HNB : Hid (¬ badArg input fuel) := hbad
            have hnn : input.size ≤ 24 ∧ 0 ≤ fuel ∧ fuel ≤ 500 := by unfold badArg at hbad; omega
            obtain ⟨hin, hf0, hf1⟩ := hnn
            clear hbad
            have d1 : decide ((24 : Int) < (input.size : Int)) = false := by simp; omega
            have d1' : ¬ (24 : Int) < (input.size : Int) := by omega
            have d2 : decide (fuel < 0) = false := by simp; omega
            have d2' : ¬ fuel < 0 := by omega
            have d3 : ¬ (500 : Int) < fuel := by omega
            have d3' : decide ((500 : Int) < fuel) = false := by simp; omega
            have HRR : Hid (Calls Tryz.prog 152 #[.slice (some ⟨cb, co, none⟩) L cap, .string input, .int .i64 fuel] w3 (RanR c ent input fuel w3)) := rrun_ent w3 cb co L cap c ent input fuel hent hin hf0 hf1 C3
            clear hent C3
            go_wp2_with fail
            refine HRR.out.mono ?_
            rintro e w4 ⟨n, τ, h1, h2, h3, B4, gg, hgg, hcov, rfl⟩
            have B04 := B03.trans (B4.mono B03.size)
            have W04 := W03.trans (B4.mono W03.size)
            have hs4 := W04.size
            rw [hz0] at hs4
            have hH : w4.heap[w.heap.size]? = some (.cells #[.int .i64 0, .int .i64 0, .int .i64 0, .string ⟨#[]⟩, .int .i64 0] 35 (0, 0)) := (W04.block _ (by omega)).trans hH0
            have i0 : w4.cell? ⟨w.heap.size, 0, none⟩ = some (.int .i64 0) := cell_of_row _ _ _ _ _ _ hH
            have i1 : w4.cell? ⟨w.heap.size, 1, none⟩ = some (.int .i64 0) := cell_of_row _ _ _ _ _ _ hH
            have i2 : w4.cell? ⟨w.heap.size, 2, none⟩ = some (.int .i64 0) := cell_of_row _ _ _ _ _ _ hH
            have i3 : w4.cell? ⟨w.heap.size, 3, none⟩ = some (.string ⟨#[]⟩) := cell_of_row _ _ _ _ _ _ hH
            have i4 : w4.cell? ⟨w.heap.size, 4, none⟩ = some (.int .i64 0) := cell_of_row _ _ _ _ _ _ hH
            have j0 := frozen_of_row w4 w.heap.size 0 _ _ hH
            have j1 := frozen_of_row w4 w.heap.size 1 _ _ hH
            have j2 := frozen_of_row w4 w.heap.size 2 _ _ hH
            have j3 := frozen_of_row w4 w.heap.size 3 _ _ hH
            have j4 := frozen_of_row w4 w.heap.size 4 _ _ hH
            have hszx : w.heap.size < w3.heap.size := by have := W03.size; rw [hz0] at this; omega
            have HFIN : Hid (τ = after c ent fuel (ρ0 input) n ∧ τ.σ.ended = true ∧ (∀ m, m < n → (after c ent fuel (ρ0 input) m).σ.ended = false) ∧ Below w.heap.size w w4 ∧ w4.heap[gg]? = some (.cells (covL τ.cnt 64).toArray 5 (0, 0)) ∧ w.heap.size < gg ∧ gg < w4.heap.size) := ⟨h1, h2, h3, B04, hcov, by omega, (Array.getElem?_eq_some_iff.1 hcov).1⟩
            obtain ⟨so, hso⟩ : ∃ so, strOfNums τ.σ.out = so := ⟨_, rfl⟩
            rw [hso]
            have HSO : Hid (strOfNums τ.σ.out = so) := hso
            have hH3 : w.heap.size < w4.heap.size := by omega
            clear hso h1 h2 h3 B0 B1 B01 B2 B02 B04 B4 W04 hH hcov hF1 hF2 hcan
            go_wp2
            obtain ⟨F1, F2, F3, F4, F5, F6, F7⟩ := HFIN.out
            refine bodyPost_ret (v := .tuple #[.agg #[.int .i64 τ.σ.kind, .int .i64 τ.σ.fault, .int .i64 τ.σ.place, .string so, .int .i64 τ.σ.steps], .slice (some ⟨gg, 0, none⟩) 64 64, .int .i64 0]) ?_ rfl ?_
            · simp [results, Tryz.results100, go_sem, i0, i1, i2, i3, i4, hH3]
            · refine Or.inr (Or.inr ⟨HNB.out, ent, HENT.out, ?_⟩)
              unfold AnswerE
              refine ⟨n, τ, F1, F2, F3, ?_, gg, by omega, ?_, by rw [HSO.out]⟩
              · exact (below_set (below_set (below_set (below_set (below_set F4 0 _) 1 _) 2 _) 3 _) 4 _).alloc (by simp; omega) _
              · rw [Below.heap_alloc _ _ _ (by simp; omega)]
                have hne : gg ≠ w.heap.size := by omega
                rw [heap_setCell_other _ ⟨w.heap.size, 4, none⟩ _ _ hne, heap_setCell_other _ ⟨w.heap.size, 3, none⟩ _ _ hne, heap_setCell_other _ ⟨w.heap.size, 2, none⟩ _ _ hne, heap_setCell_other _ ⟨w.heap.size, 1, none⟩ _ _ hne, heap_setCell_other _ ⟨w.heap.size, 0, none⟩ _ _ hne]
                exact F5
end Go.Proofs.YtflenkppcclclaaGreatDoor

