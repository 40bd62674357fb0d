import Derived.Test.YtflenkppcclclaaDoorM19
import Derived.Test.YtflenkppcclclaaDoorM22
import Derived.BigQuiet
namespace Go.Proofs.YtflenkppcclclaaDoor
open Go.RowKit

theorem own_at {w : World} {base : Nat} {e : TypeId} {v : Value} {N : Nat} {xs : List Value} (h : w.ownsRow base e 1 v N xs) (hN : 0 < N) :
    ∃ g cap, v = .slice (some ⟨g, 0, none⟩) N cap ∧ base ≤ g ∧ N ≤ cap ∧ cap ≤ maxLen ∧ ∀ (i : Nat) (u : Value), xs[i]? = some u → w.cell? ⟨g, i, none⟩ = some u := by
  rcases h.2 with ⟨_, h0⟩ | ⟨g, cap, cur, hv, hb, hh, hle, hcap, hcs, htake⟩
  · omega
  · refine ⟨g, cap, hv, hb, hle, hcap, fun i u hx => ?_⟩
    rw [cell_of_row w g _ _ _ _ hh]
    have hi : i < N := by
      have h1 := (List.getElem?_eq_some_iff.1 hx).1
      have h2 := h.1
      omega
    have h2 : (cur.toList.take (N * 1))[i]? = some u := by rw [htake]; exact hx
    rw [List.getElem?_take, if_pos (by omega)] at h2
    simpa using h2

theorem xProbe_any (w : World) (cb co L cap N : Nat) (c : Nat → Int) (V : VP c L N) (C : Laid w cb co L cap c) (hT : Tab w) :
    Calls Tryd.prog 13 #[.slice (some ⟨cb, co, none⟩) L cap] w fun e w' => ∃ base W vc vf, w.heap.size ≤ W ∧ WR base W w' vc vf (pcode c N L) (pfrom c N L) ∧ e = .returned (.tuple #[vc, vf, .int .i64 0]) ∧ Below w.heap.size w w' := by
  go_enter Tryd.func13, Tryd.ntmps13
  go_wp2_with fail
  refine (pCheck_any w cb co L cap N c V C hT).mono ?_
  rintro e w1 ⟨rfl, B1⟩
  go_wp2_with fail
  refine (withProbes_any w1 cb co L cap N c V (C.below B1) (hT.below B1)).mono ?_
  rintro e w2 ⟨base, W, vc, vf, hW, hR, rfl, B2⟩
  have HR : Hid (WR base W w2 vc vf (pcode c N L) (pfrom c N L)) := hR
  clear hR
  go_wp2_with fail
  refine bodyPost_ret (v := .tuple #[vc, vf, .int .i64 0]) (by simp [results, Tryd.results13, go_sem]) rfl ?_
  exact ⟨base, W, vc, vf, by have := B1.size; omega, HR.out, rfl, B1.trans (B2.mono B1.size)⟩

theorem xProbe_bad (w : World) (v : Value) (L : Nat) (c : Nat → Int) (hby : ∀ i, i < L → 0 ≤ c i ∧ c i ≤ 255) (C : Coded w v L c) (hT : Tab w) (hbad : ¬ ∃ N, VP c L N) :
    Calls Tryd.prog 13 #[v] w fun e w' => e = .returned (.tuple #[.slice none 0 0, .slice none 0 0, .int .i64 1]) ∧ Below w.heap.size w w' := by
  go_enter Tryd.func13, Tryd.ntmps13
  go_wp2_with fail
  refine (pCheck_gen w v L c hby C hT).mono ?_
  rintro e w1 ⟨n, b, hC, rfl, B1⟩
  cases b with
  | true =>
    rcases hC with ⟨h, _⟩ | ⟨_, hL, N, F, _⟩
    · cases h
    · exact absurd ⟨N, F.vp hL⟩ hbad
  | false =>
    go_wp2_with fail
    refine bodyPost_ret (v := .tuple #[.slice none 0 0, .slice none 0 0, .int .i64 1]) (by simp [results, Tryd.results13, go_sem]) rfl ?_
    exact ⟨rfl, B1⟩

/-- Two rows, as they come out: the probed code, and the places. -/
structure Two (w : World) (B g1 cap1 g2 cap2 Q : Nat) (d f : Nat → Int) : Prop where
  code : Laid w g1 0 Q cap1 d
  from' : ∀ i, i < Q → w.cell? ⟨g2, i, none⟩ = some (.int .i64 (f i))
  b1 : B ≤ g1
  b2 : B ≤ g2
  ne : g1 ≠ g2
  room : Q ≤ cap2
  lt : g2 < w.heap.size
theorem WR.two {base W B : Nat} {w : World} {vc vf : Value} {c : Nat → Int} {N L : Nat} (h : WR base W w vc vf (pcode c N L) (pfrom c N L)) (hB : B ≤ W) (hQ : 0 < qOf (bgn c N) L) :
    ∃ g1 cap1 g2 cap2, vc = .slice (some ⟨g1, 0, none⟩) (qOf (bgn c N) L) cap1 ∧ vf = .slice (some ⟨g2, 0, none⟩) (qOf (bgn c N) L) cap2 ∧ Two w B g1 cap1 g2 cap2 (qOf (bgn c N) L) (pc c N L) (pf c N L) := by
  have h1 := h.own1
  have h2 := h.own2
  rw [pcode_len] at h1
  rw [pfrom_len] at h2
  obtain ⟨g1, cap1, e1, b1, r1, m1, c1⟩ := own_at h1 hQ
  obtain ⟨g2, cap2, e2, b2, r2, m2, c2⟩ := own_at h2 hQ
  have hlt := h.lt
  have hcell : ∀ i, i < qOf (bgn c N) L → w.cell? ⟨g2, i, none⟩ = some (.int .i64 (pf c N L i)) := fun i hi => c2 i _ (by
      rw [← pfrom_len c N L] at hi
      rw [List.getElem?_map, List.getElem?_eq_getElem hi]
      unfold pf
      rw [List.getD_eq_getElem?_getD, List.getElem?_eq_getElem hi]; rfl)
  refine ⟨g1, cap1, g2, cap2, e1, e2, ⟨fun i hi => ?_, r1, m1, hQ⟩, hcell, by omega, by omega, ?_, r2, block_lt_of_cell (hcell 0 hQ)⟩
  · rw [Nat.zero_add]
    refine c1 i _ ?_
    rw [← pcode_len c N L] at hi
    rw [List.getElem?_map, List.getElem?_eq_getElem hi]
    unfold pc
    rw [List.getD_eq_getElem?_getD, List.getElem?_eq_getElem hi]; rfl
  · have := h.apart
    rw [e1, e2] at this
    rcases this with h | h
    · cases h
    · intro e; exact h (by rw [e]; rfl)
theorem VP.qPos {c : Nat → Int} {L N : Nat} (V : VP c L N) : 0 < qOf (bgn c N) L := by
  have := V.lt V.one
  unfold qOf
  have : pos c 0 = 0 := rfl
  omega
end Go.Proofs.YtflenkppcclclaaDoor

namespace Go.Proofs.YtflenkppcclclaaDoor
open Go.RowKit

theorem example_any (w : World) : Calls Tryd.prog 19 #[] w fun e w' => e = .returned (.slice (some ⟨w.heap.size, 0, none⟩) 10 10) ∧ w' = w.alloc (.cells #[.int .u8 2, .int .u8 1, .int .u8 97, .int .u8 12, .int .u8 15, .int .u8 9, .int .u8 19, .int .u8 7, .int .u8 0, .int .u8 0] 5) := by
  go_enter Tryd.func19, Tryd.ntmps19
  go_wp2
  go_ret
  exact ⟨rfl, rfl⟩

theorem laidE (w : World) : Laid (w.alloc (.cells #[.int .u8 2, .int .u8 1, .int .u8 97, .int .u8 12, .int .u8 15, .int .u8 9, .int .u8 19, .int .u8 7, .int .u8 0, .int .u8 0] 5)) w.heap.size 0 10 10 cE where
  cell := by
    intro i hi
    rw [Nat.zero_add, World.cell?_alloc_new]
    match i, hi with
    | 0, _ | 1, _ | 2, _ | 3, _ | 4, _ | 5, _ | 6, _ | 7, _ | 8, _ | 9, _ => rfl
    | i + 10, hi => omega
  room := Nat.le_refl _
  room' := by decide
  some' := by decide

theorem short_any (s : ByteArray) (hs : s.size ≤ 9223372036854775807) (w : World) : Calls Tryd.prog 8 #[.string s, .int .i64 24] w fun e w' => e = .returned (.string (if 24 < s.size then s.extract 0 24 else s)) ∧ w' = w := by
  by_cases h : 24 < s.size
  · rw [if_pos h]
    have h1 : (24 : Int) < (s.size : Int) := by omega
    have h2 : (24 : Int) ≤ (s.size : Int) := by omega
    go_enter Tryd.func8, Tryd.ntmps8
    go_wp2
    go_ret
    exact ⟨rfl, rfl⟩
  · rw [if_neg h]
    have h1 : ¬ (24 : Int) < (s.size : Int) := by omega
    go_enter Tryd.func8, Tryd.ntmps8
    go_wp2
    go_ret
    exact ⟨rfl, rfl⟩

theorem pick_any (c n : Int) (h1 : -9223372036854775808 ≤ c) (h2 : c ≤ 9223372036854775807) (hn : 1 ≤ n) (hn' : n ≤ 1000) (w : World) : Calls Tryd.prog 9 #[.int .i64 c, .int .i64 n] w fun e w' => (∃ p, e = .returned (.int .i64 p) ∧ 0 ≤ p ∧ p < n) ∧ w' = w := by
  by_cases h : c < 0
  · have e : -((c + 1).tmod n) = (-(c + 1)) % n := by rw [← Int.tmod_eq_emod_of_nonneg (by omega), Int.neg_tmod]
    have e1 := Int.emod_nonneg (-(c + 1)) (show n ≠ 0 by omega)
    have e2 := Int.emod_lt_of_pos (-(c + 1)) (show 0 < n by omega)
    have E : Hid (0 ≤ -((c + 1).tmod n) ∧ -((c + 1).tmod n) < n) := ⟨by rw [e]; exact e1, by rw [e]; exact e2⟩
    clear e e1 e2
    go_enter Tryd.func9, Tryd.ntmps9
    go_wp2
    go_ret
    exact ⟨⟨_, rfl, E.out.1, E.out.2⟩, rfl⟩
  · have e1 := Int.emod_nonneg c (show n ≠ 0 by omega)
    have e2 := Int.emod_lt_of_pos c (show 0 < n by omega)
    have E : Hid (0 ≤ c % n ∧ c % n < n) := ⟨e1, e2⟩
    clear e1 e2
    go_enter Tryd.func9, Tryd.ntmps9
    go_wp2
    go_ret
    exact ⟨⟨_, rfl, E.out.1, E.out.2⟩, rfl⟩
end Go.Proofs.YtflenkppcclclaaDoor

namespace Go.Proofs.YtflenkppcclclaaDoor
open Go.RowKit

theorem cov_cell {w : World} {g : Nat} {cnt : Nat → Int} (h : w.heap[g]? = some (.cells (covL cnt 64).toArray 5 (0, 0))) (i : Nat) (hi : i < 64) : w.cell? ⟨g, i, none⟩ = some (.int .u8 (classS (cnt i))) := by
  rw [cell_of_row w g _ _ _ _ h, List.getElem?_toArray, covL_get cnt 64 i hi, if_pos hi]

theorem runA (w : World) (cb co cap : Nat) (C : Laid w cb co 10 cap cE) (hT : Tab w) :
    Calls Tryd.prog 10 #[.slice (some ⟨cb, co, none⟩) 10 cap, .string ⟨#[97]⟩, .int .i64 100] w fun e w' => Below w.heap.size w w' ∧ ∃ g, w.heap.size ≤ g ∧ g < w'.heap.size ∧ w'.cell? ⟨g, 0, none⟩ = some (.int .u8 1) ∧ w'.cell? ⟨g, 8, none⟩ = some (.int .u8 1) ∧ w'.cell? ⟨g, 10, none⟩ = some (.int .u8 0) ∧
      e = .returned (.tuple #[.agg #[.int .i64 1, .int .i64 23, .int .i64 6, .string ⟨#[]⟩, .int .i64 5], .slice (some ⟨g, 0, none⟩) 64 64, .int .i64 0]) := by
  refine (xRun_any w cb co 10 cap 7 cE vE C hT ⟨#[97]⟩ 100 (by decide) (by omega) (by omega)).mono ?_
  rintro e w' ⟨n, τ, rfl, h2, h3, h4, g, h5, h6, h7⟩
  have hn : n = 5 := once h2 h3 rA_end rA_not
  subst hn
  have e0 : after cE (entAt (bgn cE 7) 10) 100 (ρ0 ⟨#[97]⟩) 5 = rA 5 := rfl
  rw [e0] at h6 h7
  refine ⟨h4, g, h5, (Array.getElem?_eq_some_iff.1 h6).1, ?_, ?_, ?_, ?_⟩
  · rw [cov_cell h6 0 (by omega), rA_0]
  · rw [cov_cell h6 8 (by omega), rA_8]
  · rw [cov_cell h6 10 (by omega), rA_10]
  · rw [h7, rA_kind, rA_fault, rA_place, rA_steps, rA_out]; rfl
theorem runB (w : World) (cb co cap : Nat) (C : Laid w cb co 10 cap cE) (hT : Tab w) :
    Calls Tryd.prog 10 #[.slice (some ⟨cb, co, none⟩) 10 cap, .string ⟨#[98]⟩, .int .i64 100] w fun e w' => Below w.heap.size w w' ∧ ∃ g, w.heap.size ≤ g ∧ g < w'.heap.size ∧ w'.cell? ⟨g, 0, none⟩ = some (.int .u8 1) ∧ w'.cell? ⟨g, 8, none⟩ = some (.int .u8 0) ∧ w'.cell? ⟨g, 10, none⟩ = some (.int .u8 1) ∧
      e = .returned (.tuple #[.agg #[.int .i64 0, .int .i64 0, .int .i64 9, .string ⟨#[]⟩, .int .i64 5], .slice (some ⟨g, 0, none⟩) 64 64, .int .i64 0]) := by
  refine (xRun_any w cb co 10 cap 7 cE vE C hT ⟨#[98]⟩ 100 (by decide) (by omega) (by omega)).mono ?_
  rintro e w' ⟨n, τ, rfl, h2, h3, h4, g, h5, h6, h7⟩
  have hn : n = 5 := once h2 h3 rB_end rB_not
  subst hn
  have e0 : after cE (entAt (bgn cE 7) 10) 100 (ρ0 ⟨#[98]⟩) 5 = rB 5 := rfl
  rw [e0] at h6 h7
  refine ⟨h4, g, h5, (Array.getElem?_eq_some_iff.1 h6).1, ?_, ?_, ?_, ?_⟩
  · rw [cov_cell h6 0 (by omega), rB_0]
  · rw [cov_cell h6 8 (by omega), rB_8]
  · rw [cov_cell h6 10 (by omega), rB_10]
  · rw [h7, rB_kind, rB_fault, rB_place, rB_steps, rB_out]; rfl
theorem chkE (w : World) (cb co cap : Nat) (C : Laid w cb co 10 cap cE) (hT : Tab w) :
    Calls Tryd.prog 18 #[.slice (some ⟨cb, co, none⟩) 10 cap] w fun e w' => e = .returned (.tuple #[.int .i64 4, .int .i64 0]) ∧ Below w.heap.size w w' := by
  have := xCheck_any w cb co 10 cap 7 cE vE C hT
  rw [cntE] at this
  exact this

set_option maxHeartbeats 1000000 in
theorem ran_any (w : World) (hT : Tab w) : Calls Tryd.prog 7 #[] w fun e w' => e = .returned (.bool true) ∧ Below w.heap.size w w' := by
  go_enter Tryd.func7, Tryd.ntmps7
  go_wp2_with fail
  refine (example_any w).mono ?_
  rintro e w1 ⟨rfl, hw1⟩
  have B1 : Below w.heap.size w w1 := by rw [hw1]; exact (Below.refl _ _).alloc (Nat.le_refl _) _
  have C1 := laidE w
  rw [← hw1] at C1
  clear hw1
  go_wp2_with fail
  refine (chkE w1 _ _ _ C1 (hT.below B1)).mono ?_
  rintro e w2 ⟨rfl, B2⟩
  have B02 := B1.trans (B2.mono B1.size)
  go_wp2_with fail
  refine (example_any w2).mono ?_
  rintro e w3 ⟨rfl, hw3⟩
  have B3 : Below w2.heap.size w2 w3 := by rw [hw3]; exact (Below.refl _ _).alloc (Nat.le_refl _) _
  have B03 := B02.trans (B3.mono B02.size)
  have C3 := laidE w2
  rw [← hw3] at C3
  clear hw3
  go_wp2_with fail
  refine (runA w3 _ _ _ C3 (hT.below B03)).mono ?_
  rintro e w4 ⟨B4, g4, hg4, hl4, a0, a8, a10, rfl⟩
  have B04 := B03.trans (B4.mono B03.size)
  clear C1 C3 B1 B2 B02 B3 B03 B4
  go_wp2_with fail
  refine (example_any _).mono ?_
  rintro e w6 ⟨rfl, hw6⟩
  have hz5 : (w4.alloc (.cells #[.int .i64 1, .int .i64 23, .int .i64 6, .string ⟨#[]⟩, .int .i64 5] 27)).heap.size = w4.heap.size + 1 := by simp
  have B6 : Below (w4.alloc (.cells #[.int .i64 1, .int .i64 23, .int .i64 6, .string ⟨#[]⟩, .int .i64 5] 27)).heap.size (w4.alloc (.cells #[.int .i64 1, .int .i64 23, .int .i64 6, .string ⟨#[]⟩, .int .i64 5] 27)) w6 := by rw [hw6]; exact (Below.refl _ _).alloc (Nat.le_refl _) _
  have C6 := laidE (w4.alloc (.cells #[.int .i64 1, .int .i64 23, .int .i64 6, .string ⟨#[]⟩, .int .i64 5] 27))
  rw [← hw6, hz5] at C6
  clear hw6
  have B05 : Below w.heap.size w (w4.alloc (.cells #[.int .i64 1, .int .i64 23, .int .i64 6, .string ⟨#[]⟩, .int .i64 5] 27)) := B04.alloc (by have := B04.size; omega) _
  rw [hz5] at B6
  have B06 := B05.trans (B6.mono (by have := B04.size; omega))
  have hs6 : w4.heap.size + 1 ≤ w6.heap.size := by have := B6.size; rw [hz5] at this; exact this
  have b0 : w6.cell? ⟨g4, 0, none⟩ = some (.int .u8 1) := (B6.cell (p := ⟨g4, 0, none⟩) (by show g4 < w4.heap.size + 1; omega)).trans ((World.cell?_alloc_past _ _ _ hl4).trans a0)
  have b8 : w6.cell? ⟨g4, 8, none⟩ = some (.int .u8 1) := (B6.cell (p := ⟨g4, 8, none⟩) (by show g4 < w4.heap.size + 1; omega)).trans ((World.cell?_alloc_past _ _ _ hl4).trans a8)
  have b10 : w6.cell? ⟨g4, 10, none⟩ = some (.int .u8 0) := (B6.cell (p := ⟨g4, 10, none⟩) (by show g4 < w4.heap.size + 1; omega)).trans ((World.cell?_alloc_past _ _ _ hl4).trans a10)
  have s0 : w6.cell? ⟨w4.heap.size, 0, none⟩ = some (.int .i64 1) := (B6.cell (p := ⟨w4.heap.size, 0, none⟩) (by show w4.heap.size < w4.heap.size + 1; omega)).trans (World.cell?_alloc_new _ _ _ _)
  have s1 : w6.cell? ⟨w4.heap.size, 1, none⟩ = some (.int .i64 23) := (B6.cell (p := ⟨w4.heap.size, 1, none⟩) (by show w4.heap.size < w4.heap.size + 1; omega)).trans (World.cell?_alloc_new _ _ _ _)
  have s2 : w6.cell? ⟨w4.heap.size, 2, none⟩ = some (.int .i64 6) := (B6.cell (p := ⟨w4.heap.size, 2, none⟩) (by show w4.heap.size < w4.heap.size + 1; omega)).trans (World.cell?_alloc_new _ _ _ _)
  have s3 : w6.cell? ⟨w4.heap.size, 3, none⟩ = some (.string ⟨#[]⟩) := (B6.cell (p := ⟨w4.heap.size, 3, none⟩) (by show w4.heap.size < w4.heap.size + 1; omega)).trans (World.cell?_alloc_new _ _ _ _)
  have s4 : w6.cell? ⟨w4.heap.size, 4, none⟩ = some (.int .i64 5) := (B6.cell (p := ⟨w4.heap.size, 4, none⟩) (by show w4.heap.size < w4.heap.size + 1; omega)).trans (World.cell?_alloc_new _ _ _ _)
  clear B6 B05 a0 a8 a10
  go_wp2_with fail
  refine (runB w6 _ _ _ C6 (hT.below B06)).mono ?_
  rintro e w7 ⟨B7, g7, hg7, hl7, d0, d8, d10, rfl⟩
  have B07 := B06.trans (B7.mono B06.size)
  have hs7 := B7.size
  have e0 := (B7.cell (p := ⟨g4, 0, none⟩) (by show g4 < w6.heap.size; omega)).trans b0
  have e8 := (B7.cell (p := ⟨g4, 8, none⟩) (by show g4 < w6.heap.size; omega)).trans b8
  have e10 := (B7.cell (p := ⟨g4, 10, none⟩) (by show g4 < w6.heap.size; omega)).trans b10
  have t0 := (B7.cell (p := ⟨w4.heap.size, 0, none⟩) (by show w4.heap.size < w6.heap.size; omega)).trans s0
  have t1 := (B7.cell (p := ⟨w4.heap.size, 1, none⟩) (by show w4.heap.size < w6.heap.size; omega)).trans s1
  have t2 := (B7.cell (p := ⟨w4.heap.size, 2, none⟩) (by show w4.heap.size < w6.heap.size; omega)).trans s2
  have t3 := (B7.cell (p := ⟨w4.heap.size, 3, none⟩) (by show w4.heap.size < w6.heap.size; omega)).trans s3
  have t4 := (B7.cell (p := ⟨w4.heap.size, 4, none⟩) (by show w4.heap.size < w6.heap.size; omega)).trans s4
  have u1 : g4 < w7.heap.size := by omega
  have u2 : w4.heap.size < w7.heap.size := by omega
  clear B7 C6 b0 b8 b10 s0 s1 s2 s3 s4 B06 B04 hg4 hg7 hl4 hs6 hs7
  go_wp2_with fail
  go_ret
  exact ⟨rfl, B07.alloc (by have := B07.size; omega) _⟩
end Go.Proofs.YtflenkppcclclaaDoor

namespace Go.Proofs.YtflenkppcclclaaDoor
open Go.RowKit

theorem kprogram_any (w : World) (v : Value) (L : Nat) (c : Nat → Int) (hby : ∀ i, i < L → 0 ≤ c i ∧ c i ≤ 255) (C : Coded w v L c) (hT : Tab w) :
    Calls Tryd.prog 12 #[v] w fun e w' => Below w.heap.size w w' ∧ ∃ cb co L' cap c' N', VP c' L' N' ∧ Laid w' cb co L' cap c' ∧ e = .returned (.slice (some ⟨cb, co, none⟩) L' cap) := by
  go_enter Tryd.func12, Tryd.ntmps12
  go_wp2_with fail
  refine (xCheck_gen w v L c hby C hT).mono ?_
  rintro e w1 ⟨n, b, hC, rfl, B1⟩
  cases b with
  | true =>
    rcases hC with ⟨h, _⟩ | ⟨_, hL, N, F, _⟩
    · cases h
    · cases C with
      | bare p cap hv h0 => have := F.pos; omega
      | full cb co cap hv C =>
        subst hv
        have HC := C.below B1
        clear C
        go_wp2_with fail
        go_ret
        exact ⟨B1, cb, co, L, cap, c, N, F.vp hL, HC, rfl⟩
  | false =>
    clear hC
    go_wp2_with fail
    refine (example_any w1).mono ?_
    rintro e w2 ⟨rfl, hw2⟩
    have C2 := laidE w1
    rw [← hw2] at C2
    have B2 : Below w.heap.size w w2 := by rw [hw2]; exact B1.alloc B1.size _
    clear hw2
    go_wp2_with fail
    go_ret
    exact ⟨B2, _, _, _, _, _, _, vE, C2, rfl⟩

theorem qE : qOf (bgn cE 7) 10 = 18 := by kernel_rfl
theorem pcE : pc cE 7 10 0 = 20 ∧ pc cE 7 10 1 = 0 ∧ pc cE 7 10 7 = 15 ∧ pc cE 7 10 17 = 0 := by
  refine ⟨?_, ?_, ?_, ?_⟩ <;> kernel_rfl
theorem pfE : pf cE 7 10 0 = -1 ∧ pf cE 7 10 2 = 0 ∧ pf cE 7 10 17 = 9 := by
  refine ⟨?_, ?_, ?_⟩ <;> kernel_rfl

set_option maxHeartbeats 1000000 in
theorem kprobed_any (w : World) (hT : Tab w) : Calls Tryd.prog 11 #[] w fun e w' => e = .returned (.bool true) ∧ Below w.heap.size w w' := by
  go_enter Tryd.func11, Tryd.ntmps11
  go_wp2_with fail
  refine (ran_any w hT).mono ?_
  rintro e w1 ⟨rfl, B1⟩
  go_wp2_with fail
  refine (example_any w1).mono ?_
  rintro e w2 ⟨rfl, hw2⟩
  have C2 := laidE w1
  rw [← hw2] at C2
  have B2 : Below w.heap.size w w2 := by rw [hw2]; exact B1.alloc B1.size _
  clear hw2
  go_wp2_with fail
  refine (xProbe_any w2 _ _ _ _ _ _ vE C2 (hT.below B2)).mono ?_
  rintro e w3 ⟨base, W, vc, vf, hW, hR, rfl, B3⟩
  obtain ⟨g1, cap1, g2, cap2, rfl, rfl, T⟩ := hR.two hW vE.qPos
  rw [qE] at T ⊢
  have B23 := B2.trans (B3.mono B2.size)
  have hr1 := T.code.room
  have hr2 := T.code.room'
  have hr3 := T.room
  have a0 := T.code.cell 0 (by omega)
  have a1 := T.code.cell 1 (by omega)
  have a7 := T.code.cell 7 (by omega)
  have a17 := T.code.cell 17 (by omega)
  rw [pcE.1] at a0
  rw [pcE.2.1] at a1
  rw [pcE.2.2.1] at a7
  rw [pcE.2.2.2] at a17
  have d0 := T.from' 0 (by omega)
  have d2 := T.from' 2 (by omega)
  have d17 := T.from' 17 (by omega)
  rw [pfE.1] at d0
  rw [pfE.2.1] at d2
  rw [pfE.2.2] at d17
  simp only [Nat.zero_add] at a0 a1 a7 a17
  clear T hR
  go_wp2_with fail
  go_ret
  exact ⟨rfl, B23⟩

theorem short_size' (s : ByteArray) : (if 24 < s.size then s.extract 0 24 else s).size ≤ 24 := by
  split
  · rw [Lib.size_eq, Lib.extract_data, List.length_take]; omega
  · omega

/-- A cover as a text. -/
def covS (cnt : Nat → Int) : ByteArray := strOfNums ((List.range 64).map fun i => classS (cnt i))
theorem conv_cov {w : World} {g : Nat} {cnt : Nat → Int} (hh : w.heap[g]? = some (.cells (covL cnt 64).toArray 5 (0, 0))) :
    (convert 25 9 (.slice (some ⟨g, 0, none⟩) 64 64)).run Tryd.prog w = .ok (.string (covS cnt)) w := by
  refine run_convert_bytes_arg w 25 5 Tryd.underlying25 Tryd.underlying5 g 0 64 64 ((List.range 64).map fun i => classS (cnt i)) (by simp) (fun i hi => ?_) 9 Tryd.underlying9
  have hi' : i < 64 := by simpa using hi
  rw [Nat.zero_add, cov_cell hh i hi']
  simp [List.getD, List.getElem?_range hi']
end Go.Proofs.YtflenkppcclclaaDoor

