import Derived.Test.YtflenkppcclclaaGreatDoorM12
import Derived.Test.YtflenkppcclclaaGreatDoorM15
import Derived.BigQuiet
import Derived.Test.YtflenkppcclclaaGreatDoorM00
import Derived.Laws.BytesArg
import Derived.OpenShut
namespace Go.Proofs.YtflenkppcclclaaGreatDoor
open Go.RowKit

theorem own_at {w : World} {base : Nat} {e : TypeId} {v : Value} {N : Nat} {xs : List Value} (h : w.ownsRow base e 1 v N xs) (hN : 0 < N) :
    ∃ g cap, v = .slice (some ⟨g, 0, none⟩) N cap ∧ base ≤ g ∧ N ≤ cap ∧ cap ≤ maxLen ∧ ∀ (i : Nat) (u : Value), xs[i]? = some u → w.cell? ⟨g, i, none⟩ = some u := by
  rcases h.2 with ⟨_, h0⟩ | ⟨g, cap, cur, hv, hb, hh, hle, hcap, hcs, htake⟩
  · omega
  · refine ⟨g, cap, hv, hb, hle, hcap, fun i u hx => ?_⟩
    rw [cell_of_row w g _ _ _ _ hh]
    have hi : i < N := by
      have h1 := (List.getElem?_eq_some_iff.1 hx).1
      have h2 := h.1
      omega
    have h2 : (cur.toList.take (N * 1))[i]? = some u := by rw [htake]; exact hx
    rw [List.getElem?_take, if_pos (by omega)] at h2
    simpa using h2

theorem xProbe_any (w : World) (cb co L cap N : Nat) (c : Nat → Int) (V : VP c L N) (C : Laid w cb co L cap c) (hT : Tab w) :
    Calls Tryz.prog 102 #[.slice (some ⟨cb, co, none⟩) L cap] w fun e w' => ∃ base W vc vf, w.heap.size ≤ W ∧ WR base W w' vc vf (pcode c N L) (pfrom c N L) ∧ e = .returned (.tuple #[vc, vf, .int .i64 0]) ∧ Below w.heap.size w w' := by
  go_enter Tryz.func102, Tryz.ntmps102
  go_wp2_with fail
  refine (pCheck_any w cb co L cap N c V C hT).mono ?_
  rintro e w1 ⟨rfl, B1⟩
  go_wp2_with fail
  refine (withProbes_any w1 cb co L cap N c V (C.below B1) (hT.below B1)).mono ?_
  rintro e w2 ⟨base, W, vc, vf, hW, hR, rfl, B2⟩
  have HR : Hid (WR base W w2 vc vf (pcode c N L) (pfrom c N L)) := hR
  clear hR
  go_wp2_with fail
  refine bodyPost_ret (v := .tuple #[vc, vf, .int .i64 0]) (by simp [results, Tryz.results102, go_sem]) rfl ?_
  exact ⟨base, W, vc, vf, by have := B1.size; omega, HR.out, rfl, B1.trans (B2.mono B1.size)⟩

theorem xProbe_bad (w : World) (v : Value) (L : Nat) (c : Nat → Int) (hby : ∀ i, i < L → 0 ≤ c i ∧ c i ≤ 255) (C : Coded w v L c) (hT : Tab w) (hbad : ¬ ∃ N, VP c L N) :
    Calls Tryz.prog 102 #[v] w fun e w' => e = .returned (.tuple #[.slice none 0 0, .slice none 0 0, .int .i64 1]) ∧ Below w.heap.size w w' := by
  go_enter Tryz.func102, Tryz.ntmps102
  go_wp2_with fail
  refine (pCheck_gen w v L c hby C hT).mono ?_
  rintro e w1 ⟨n, b, hC, rfl, B1⟩
  cases b with
  | true =>
    rcases hC with ⟨h, _⟩ | ⟨_, hL, N, F, _⟩
    · cases h
    · exact absurd ⟨N, F.vp hL⟩ hbad
  | false =>
    go_wp2_with fail
    refine bodyPost_ret (v := .tuple #[.slice none 0 0, .slice none 0 0, .int .i64 1]) (by simp [results, Tryz.results102, go_sem]) rfl ?_
    exact ⟨rfl, B1⟩

/-- Two rows, as they come out: the probed code, and the places. -/
structure Two (w : World) (B g1 cap1 g2 cap2 Q : Nat) (d f : Nat → Int) : Prop where
  code : Laid w g1 0 Q cap1 d
  from' : ∀ i, i < Q → w.cell? ⟨g2, i, none⟩ = some (.int .i64 (f i))
  b1 : B ≤ g1
  b2 : B ≤ g2
  ne : g1 ≠ g2
  room : Q ≤ cap2
  lt : g2 < w.heap.size
theorem WR.two {base W B : Nat} {w : World} {vc vf : Value} {c : Nat → Int} {N L : Nat} (h : WR base W w vc vf (pcode c N L) (pfrom c N L)) (hB : B ≤ W) (hQ : 0 < qOf (bgn c N) L) :
    ∃ g1 cap1 g2 cap2, vc = .slice (some ⟨g1, 0, none⟩) (qOf (bgn c N) L) cap1 ∧ vf = .slice (some ⟨g2, 0, none⟩) (qOf (bgn c N) L) cap2 ∧ Two w B g1 cap1 g2 cap2 (qOf (bgn c N) L) (pc c N L) (pf c N L) := by
  have h1 := h.own1
  have h2 := h.own2
  rw [pcode_len] at h1
  rw [pfrom_len] at h2
  obtain ⟨g1, cap1, e1, b1, r1, m1, c1⟩ := own_at h1 hQ
  obtain ⟨g2, cap2, e2, b2, r2, m2, c2⟩ := own_at h2 hQ
  have hlt := h.lt
  have hcell : ∀ i, i < qOf (bgn c N) L → w.cell? ⟨g2, i, none⟩ = some (.int .i64 (pf c N L i)) := fun i hi => c2 i _ (by
      rw [← pfrom_len c N L] at hi
      rw [List.getElem?_map, List.getElem?_eq_getElem hi]
      unfold pf
      rw [List.getD_eq_getElem?_getD, List.getElem?_eq_getElem hi]; rfl)
  refine ⟨g1, cap1, g2, cap2, e1, e2, ⟨fun i hi => ?_, r1, m1, hQ⟩, hcell, by omega, by omega, ?_, r2, block_lt_of_cell (hcell 0 hQ)⟩
  · rw [Nat.zero_add]
    refine c1 i _ ?_
    rw [← pcode_len c N L] at hi
    rw [List.getElem?_map, List.getElem?_eq_getElem hi]
    unfold pc
    rw [List.getD_eq_getElem?_getD, List.getElem?_eq_getElem hi]; rfl
  · have := h.apart
    rw [e1, e2] at this
    rcases this with h | h
    · cases h
    · intro e; exact h (by rw [e]; rfl)
theorem VP.qPos {c : Nat → Int} {L N : Nat} (V : VP c L N) : 0 < qOf (bgn c N) L := by
  have := V.lt V.one
  unfold qOf
  have : pos c 0 = 0 := rfl
  omega
end Go.Proofs.YtflenkppcclclaaGreatDoor

namespace Go.Proofs.YtflenkppcclclaaGreatDoor
open Go.RowKit

theorem example_any (w : World) : Calls Tryz.prog 30 #[] w fun e w' => e = .returned (.slice (some ⟨w.heap.size, 0, none⟩) 10 10) ∧ w' = w.alloc (.cells #[.int .u8 2, .int .u8 1, .int .u8 97, .int .u8 12, .int .u8 15, .int .u8 9, .int .u8 19, .int .u8 7, .int .u8 0, .int .u8 0] 5) := by
  go_enter Tryz.func30, Tryz.ntmps30
  go_wp2
  go_ret
  exact ⟨rfl, rfl⟩

theorem laidE (w : World) : Laid (w.alloc (.cells #[.int .u8 2, .int .u8 1, .int .u8 97, .int .u8 12, .int .u8 15, .int .u8 9, .int .u8 19, .int .u8 7, .int .u8 0, .int .u8 0] 5)) w.heap.size 0 10 10 cE where
  cell := by
    intro i hi
    rw [Nat.zero_add, World.cell?_alloc_new]
    match i, hi with
    | 0, _ | 1, _ | 2, _ | 3, _ | 4, _ | 5, _ | 6, _ | 7, _ | 8, _ | 9, _ => rfl
    | i + 10, hi => omega
  room := Nat.le_refl _
  room' := by decide
  some' := by decide

theorem short_any (s : ByteArray) (hs : s.size ≤ 9223372036854775807) (w : World) : Calls Tryz.prog 31 #[.string s, .int .i64 24] w fun e w' => e = .returned (.string (if 24 < s.size then s.extract 0 24 else s)) ∧ w' = w := by
  by_cases h : 24 < s.size
  · rw [if_pos h]
    have h1 : (24 : Int) < (s.size : Int) := by omega
    have h2 : (24 : Int) ≤ (s.size : Int) := by omega
    go_enter Tryz.func31, Tryz.ntmps31
    go_wp2
    go_ret
    exact ⟨rfl, rfl⟩
  · rw [if_neg h]
    have h1 : ¬ (24 : Int) < (s.size : Int) := by omega
    go_enter Tryz.func31, Tryz.ntmps31
    go_wp2
    go_ret
    exact ⟨rfl, rfl⟩

theorem pick_any (c n : Int) (h1 : -9223372036854775808 ≤ c) (h2 : c ≤ 9223372036854775807) (hn : 1 ≤ n) (hn' : n ≤ 1000) (w : World) : Calls Tryz.prog 15 #[.int .i64 c, .int .i64 n] w fun e w' => (∃ p, e = .returned (.int .i64 p) ∧ 0 ≤ p ∧ p < n) ∧ w' = w := by
  by_cases h : c < 0
  · have e : -((c + 1).tmod n) = (-(c + 1)) % n := by rw [← Int.tmod_eq_emod_of_nonneg (by omega), Int.neg_tmod]
    have e1 := Int.emod_nonneg (-(c + 1)) (show n ≠ 0 by omega)
    have e2 := Int.emod_lt_of_pos (-(c + 1)) (show 0 < n by omega)
    have E : Hid (0 ≤ -((c + 1).tmod n) ∧ -((c + 1).tmod n) < n) := ⟨by rw [e]; exact e1, by rw [e]; exact e2⟩
    clear e e1 e2
    go_enter Tryz.func15, Tryz.ntmps15
    go_wp2
    go_ret
    exact ⟨⟨_, rfl, E.out.1, E.out.2⟩, rfl⟩
  · have e1 := Int.emod_nonneg c (show n ≠ 0 by omega)
    have e2 := Int.emod_lt_of_pos c (show 0 < n by omega)
    have E : Hid (0 ≤ c % n ∧ c % n < n) := ⟨e1, e2⟩
    clear e1 e2
    go_enter Tryz.func15, Tryz.ntmps15
    go_wp2
    go_ret
    exact ⟨⟨_, rfl, E.out.1, E.out.2⟩, rfl⟩
end Go.Proofs.YtflenkppcclclaaGreatDoor

namespace Go.Proofs.YtflenkppcclclaaGreatDoor
open Go.RowKit

theorem cov_cell {w : World} {g : Nat} {cnt : Nat → Int} (h : w.heap[g]? = some (.cells (covL cnt 64).toArray 5 (0, 0))) (i : Nat) (hi : i < 64) : w.cell? ⟨g, i, none⟩ = some (.int .u8 (classS (cnt i))) := by
  rw [cell_of_row w g _ _ _ _ h, List.getElem?_toArray, covL_get cnt 64 i hi, if_pos hi]

theorem runA (w : World) (cb co cap : Nat) (C : Laid w cb co 10 cap cE) (hT : Tab w) :
    Calls Tryz.prog 17 #[.slice (some ⟨cb, co, none⟩) 10 cap, .string ⟨#[97]⟩, .int .i64 100] w fun e w' => Below w.heap.size w w' ∧ ∃ g, w.heap.size ≤ g ∧ g < w'.heap.size ∧ w'.cell? ⟨g, 0, none⟩ = some (.int .u8 1) ∧ w'.cell? ⟨g, 8, none⟩ = some (.int .u8 1) ∧ w'.cell? ⟨g, 10, none⟩ = some (.int .u8 0) ∧
      e = .returned (.tuple #[.agg #[.int .i64 1, .int .i64 23, .int .i64 6, .string ⟨#[]⟩, .int .i64 5], .slice (some ⟨g, 0, none⟩) 64 64, .int .i64 0]) := by
  refine (xRun_any w cb co 10 cap 7 cE vE C hT ⟨#[97]⟩ 100 (by decide) (by omega) (by omega)).mono ?_
  rintro e w' ⟨n, τ, rfl, h2, h3, h4, g, h5, h6, h7⟩
  have hn : n = 5 := once h2 h3 rA_end rA_not
  subst hn
  have e0 : after cE (entAt (bgn cE 7) 10) 100 (ρ0 ⟨#[97]⟩) 5 = rA 5 := rfl
  rw [e0] at h6 h7
  refine ⟨h4, g, h5, (Array.getElem?_eq_some_iff.1 h6).1, ?_, ?_, ?_, ?_⟩
  · rw [cov_cell h6 0 (by omega), rA_0]
  · rw [cov_cell h6 8 (by omega), rA_8]
  · rw [cov_cell h6 10 (by omega), rA_10]
  · rw [h7, rA_kind, rA_fault, rA_place, rA_steps, rA_out]; rfl
theorem runB (w : World) (cb co cap : Nat) (C : Laid w cb co 10 cap cE) (hT : Tab w) :
    Calls Tryz.prog 17 #[.slice (some ⟨cb, co, none⟩) 10 cap, .string ⟨#[98]⟩, .int .i64 100] w fun e w' => Below w.heap.size w w' ∧ ∃ g, w.heap.size ≤ g ∧ g < w'.heap.size ∧ w'.cell? ⟨g, 0, none⟩ = some (.int .u8 1) ∧ w'.cell? ⟨g, 8, none⟩ = some (.int .u8 0) ∧ w'.cell? ⟨g, 10, none⟩ = some (.int .u8 1) ∧
      e = .returned (.tuple #[.agg #[.int .i64 0, .int .i64 0, .int .i64 9, .string ⟨#[]⟩, .int .i64 5], .slice (some ⟨g, 0, none⟩) 64 64, .int .i64 0]) := by
  refine (xRun_any w cb co 10 cap 7 cE vE C hT ⟨#[98]⟩ 100 (by decide) (by omega) (by omega)).mono ?_
  rintro e w' ⟨n, τ, rfl, h2, h3, h4, g, h5, h6, h7⟩
  have hn : n = 5 := once h2 h3 rB_end rB_not
  subst hn
  have e0 : after cE (entAt (bgn cE 7) 10) 100 (ρ0 ⟨#[98]⟩) 5 = rB 5 := rfl
  rw [e0] at h6 h7
  refine ⟨h4, g, h5, (Array.getElem?_eq_some_iff.1 h6).1, ?_, ?_, ?_, ?_⟩
  · rw [cov_cell h6 0 (by omega), rB_0]
  · rw [cov_cell h6 8 (by omega), rB_8]
  · rw [cov_cell h6 10 (by omega), rB_10]
  · rw [h7, rB_kind, rB_fault, rB_place, rB_steps, rB_out]; rfl
theorem chkE (w : World) (cb co cap : Nat) (C : Laid w cb co 10 cap cE) (hT : Tab w) :
    Calls Tryz.prog 32 #[.slice (some ⟨cb, co, none⟩) 10 cap] w fun e w' => e = .returned (.tuple #[.int .i64 4, .int .i64 0]) ∧ Below w.heap.size w w' := by
  have := xCheck_any w cb co 10 cap 7 cE vE C hT
  rw [cntE] at this
  exact this

set_option maxHeartbeats 1000000 in
theorem ran_any (w : World) (hT : Tab w) : Calls Tryz.prog 119 #[] w fun e w' => e = .returned (.bool true) ∧ Below w.heap.size w w' := by
  go_enter Tryz.func119, Tryz.ntmps119
  go_wp2_with fail
  refine (example_any w).mono ?_
  rintro e w1 ⟨rfl, hw1⟩
  have B1 : Below w.heap.size w w1 := by rw [hw1]; exact (Below.refl _ _).alloc (Nat.le_refl _) _
  have C1 := laidE w
  rw [← hw1] at C1
  clear hw1
  go_wp2_with fail
  refine (chkE w1 _ _ _ C1 (hT.below B1)).mono ?_
  rintro e w2 ⟨rfl, B2⟩
  have B02 := B1.trans (B2.mono B1.size)
  go_wp2_with fail
  refine (example_any w2).mono ?_
  rintro e w3 ⟨rfl, hw3⟩
  have B3 : Below w2.heap.size w2 w3 := by rw [hw3]; exact (Below.refl _ _).alloc (Nat.le_refl _) _
  have B03 := B02.trans (B3.mono B02.size)
  have C3 := laidE w2
  rw [← hw3] at C3
  clear hw3
  go_wp2_with fail
  refine (runA w3 _ _ _ C3 (hT.below B03)).mono ?_
  rintro e w4 ⟨B4, g4, hg4, hl4, a0, a8, a10, rfl⟩
  have B04 := B03.trans (B4.mono B03.size)
  clear C1 C3 B1 B2 B02 B3 B03 B4
  go_wp2_with fail
  refine (example_any _).mono ?_
  rintro e w6 ⟨rfl, hw6⟩
  have hz5 : (w4.alloc (.cells #[.int .i64 1, .int .i64 23, .int .i64 6, .string ⟨#[]⟩, .int .i64 5] 35)).heap.size = w4.heap.size + 1 := by simp
  have B6 : Below (w4.alloc (.cells #[.int .i64 1, .int .i64 23, .int .i64 6, .string ⟨#[]⟩, .int .i64 5] 35)).heap.size (w4.alloc (.cells #[.int .i64 1, .int .i64 23, .int .i64 6, .string ⟨#[]⟩, .int .i64 5] 35)) w6 := by rw [hw6]; exact (Below.refl _ _).alloc (Nat.le_refl _) _
  have C6 := laidE (w4.alloc (.cells #[.int .i64 1, .int .i64 23, .int .i64 6, .string ⟨#[]⟩, .int .i64 5] 35))
  rw [← hw6, hz5] at C6
  clear hw6
  have B05 : Below w.heap.size w (w4.alloc (.cells #[.int .i64 1, .int .i64 23, .int .i64 6, .string ⟨#[]⟩, .int .i64 5] 35)) := B04.alloc (by have := B04.size; omega) _
  rw [hz5] at B6
  have B06 := B05.trans (B6.mono (by have := B04.size; omega))
  have hs6 : w4.heap.size + 1 ≤ w6.heap.size := by have := B6.size; rw [hz5] at this; exact this
  have b0 : w6.cell? ⟨g4, 0, none⟩ = some (.int .u8 1) := (B6.cell (p := ⟨g4, 0, none⟩) (by show g4 < w4.heap.size + 1; omega)).trans ((World.cell?_alloc_past _ _ _ hl4).trans a0)
  have b8 : w6.cell? ⟨g4, 8, none⟩ = some (.int .u8 1) := (B6.cell (p := ⟨g4, 8, none⟩) (by show g4 < w4.heap.size + 1; omega)).trans ((World.cell?_alloc_past _ _ _ hl4).trans a8)
  have b10 : w6.cell? ⟨g4, 10, none⟩ = some (.int .u8 0) := (B6.cell (p := ⟨g4, 10, none⟩) (by show g4 < w4.heap.size + 1; omega)).trans ((World.cell?_alloc_past _ _ _ hl4).trans a10)
  have s0 : w6.cell? ⟨w4.heap.size, 0, none⟩ = some (.int .i64 1) := (B6.cell (p := ⟨w4.heap.size, 0, none⟩) (by show w4.heap.size < w4.heap.size + 1; omega)).trans (World.cell?_alloc_new _ _ _ _)
  have s1 : w6.cell? ⟨w4.heap.size, 1, none⟩ = some (.int .i64 23) := (B6.cell (p := ⟨w4.heap.size, 1, none⟩) (by show w4.heap.size < w4.heap.size + 1; omega)).trans (World.cell?_alloc_new _ _ _ _)
  have s2 : w6.cell? ⟨w4.heap.size, 2, none⟩ = some (.int .i64 6) := (B6.cell (p := ⟨w4.heap.size, 2, none⟩) (by show w4.heap.size < w4.heap.size + 1; omega)).trans (World.cell?_alloc_new _ _ _ _)
  have s3 : w6.cell? ⟨w4.heap.size, 3, none⟩ = some (.string ⟨#[]⟩) := (B6.cell (p := ⟨w4.heap.size, 3, none⟩) (by show w4.heap.size < w4.heap.size + 1; omega)).trans (World.cell?_alloc_new _ _ _ _)
  have s4 : w6.cell? ⟨w4.heap.size, 4, none⟩ = some (.int .i64 5) := (B6.cell (p := ⟨w4.heap.size, 4, none⟩) (by show w4.heap.size < w4.heap.size + 1; omega)).trans (World.cell?_alloc_new _ _ _ _)
  clear B6 B05 a0 a8 a10
  go_wp2_with fail
  refine (runB w6 _ _ _ C6 (hT.below B06)).mono ?_
  rintro e w7 ⟨B7, g7, hg7, hl7, d0, d8, d10, rfl⟩
  have B07 := B06.trans (B7.mono B06.size)
  have hs7 := B7.size
  have e0 := (B7.cell (p := ⟨g4, 0, none⟩) (by show g4 < w6.heap.size; omega)).trans b0
  have e8 := (B7.cell (p := ⟨g4, 8, none⟩) (by show g4 < w6.heap.size; omega)).trans b8
  have e10 := (B7.cell (p := ⟨g4, 10, none⟩) (by show g4 < w6.heap.size; omega)).trans b10
  have t0 := (B7.cell (p := ⟨w4.heap.size, 0, none⟩) (by show w4.heap.size < w6.heap.size; omega)).trans s0
  have t1 := (B7.cell (p := ⟨w4.heap.size, 1, none⟩) (by show w4.heap.size < w6.heap.size; omega)).trans s1
  have t2 := (B7.cell (p := ⟨w4.heap.size, 2, none⟩) (by show w4.heap.size < w6.heap.size; omega)).trans s2
  have t3 := (B7.cell (p := ⟨w4.heap.size, 3, none⟩) (by show w4.heap.size < w6.heap.size; omega)).trans s3
  have t4 := (B7.cell (p := ⟨w4.heap.size, 4, none⟩) (by show w4.heap.size < w6.heap.size; omega)).trans s4
  have u1 : g4 < w7.heap.size := by omega
  have u2 : w4.heap.size < w7.heap.size := by omega
  clear B7 C6 b0 b8 b10 s0 s1 s2 s3 s4 B06 B04 hg4 hg7 hl4 hs6 hs7
  go_wp2_with fail
  go_ret
  exact ⟨rfl, B07.alloc (by have := B07.size; omega) _⟩
end Go.Proofs.YtflenkppcclclaaGreatDoor

namespace Go.Proofs.YtflenkppcclclaaGreatDoor
open Go.RowKit

theorem kprogram_any (w : World) (v : Value) (L : Nat) (c : Nat → Int) (hby : ∀ i, i < L → 0 ≤ c i ∧ c i ≤ 255) (C : Coded w v L c) (hT : Tab w) :
    Calls Tryz.prog 14 #[v] w fun e w' => Below w.heap.size w w' ∧ ∃ cb co L' cap c' N', VP c' L' N' ∧ Laid w' cb co L' cap c' ∧ e = .returned (.slice (some ⟨cb, co, none⟩) L' cap) := by
  go_enter Tryz.func14, Tryz.ntmps14
  go_wp2_with fail
  refine (xCheck_gen w v L c hby C hT).mono ?_
  rintro e w1 ⟨n, b, hC, rfl, B1⟩
  cases b with
  | true =>
    rcases hC with ⟨h, _⟩ | ⟨_, hL, N, F, _⟩
    · cases h
    · cases C with
      | bare p cap hv h0 => have := F.pos; omega
      | full cb co cap hv C =>
        subst hv
        have HC := C.below B1
        clear C
        go_wp2_with fail
        go_ret
        exact ⟨B1, cb, co, L, cap, c, N, F.vp hL, HC, rfl⟩
  | false =>
    clear hC
    go_wp2_with fail
    refine (example_any w1).mono ?_
    rintro e w2 ⟨rfl, hw2⟩
    have C2 := laidE w1
    rw [← hw2] at C2
    have B2 : Below w.heap.size w w2 := by rw [hw2]; exact B1.alloc B1.size _
    clear hw2
    go_wp2_with fail
    go_ret
    exact ⟨B2, _, _, _, _, _, _, vE, C2, rfl⟩

theorem qE : qOf (bgn cE 7) 10 = 18 := by kernel_rfl
theorem pcE : pc cE 7 10 0 = 20 ∧ pc cE 7 10 1 = 0 ∧ pc cE 7 10 7 = 15 ∧ pc cE 7 10 17 = 0 := by
  refine ⟨?_, ?_, ?_, ?_⟩ <;> kernel_rfl
theorem pfE : pf cE 7 10 0 = -1 ∧ pf cE 7 10 2 = 0 ∧ pf cE 7 10 17 = 9 := by
  refine ⟨?_, ?_, ?_⟩ <;> kernel_rfl

set_option maxHeartbeats 1000000 in
theorem kprobed_any (w : World) (hT : Tab w) : Calls Tryz.prog 61 #[] w fun e w' => e = .returned (.bool true) ∧ Below w.heap.size w w' := by
  go_enter Tryz.func61, Tryz.ntmps61
  go_wp2_with fail
  refine (ran_any w hT).mono ?_
  rintro e w1 ⟨rfl, B1⟩
  go_wp2_with fail
  refine (example_any w1).mono ?_
  rintro e w2 ⟨rfl, hw2⟩
  have C2 := laidE w1
  rw [← hw2] at C2
  have B2 : Below w.heap.size w w2 := by rw [hw2]; exact B1.alloc B1.size _
  clear hw2
  go_wp2_with fail
  refine (xProbe_any w2 _ _ _ _ _ _ vE C2 (hT.below B2)).mono ?_
  rintro e w3 ⟨base, W, vc, vf, hW, hR, rfl, B3⟩
  obtain ⟨g1, cap1, g2, cap2, rfl, rfl, T⟩ := hR.two hW vE.qPos
  rw [qE] at T ⊢
  have B23 := B2.trans (B3.mono B2.size)
  have hr1 := T.code.room
  have hr2 := T.code.room'
  have hr3 := T.room
  have a0 := T.code.cell 0 (by omega)
  have a1 := T.code.cell 1 (by omega)
  have a7 := T.code.cell 7 (by omega)
  have a17 := T.code.cell 17 (by omega)
  rw [pcE.1] at a0
  rw [pcE.2.1] at a1
  rw [pcE.2.2.1] at a7
  rw [pcE.2.2.2] at a17
  have d0 := T.from' 0 (by omega)
  have d2 := T.from' 2 (by omega)
  have d17 := T.from' 17 (by omega)
  rw [pfE.1] at d0
  rw [pfE.2.1] at d2
  rw [pfE.2.2] at d17
  simp only [Nat.zero_add] at a0 a1 a7 a17
  clear T hR
  go_wp2_with fail
  go_ret
  exact ⟨rfl, B23⟩

theorem short_size' (s : ByteArray) : (if 24 < s.size then s.extract 0 24 else s).size ≤ 24 := by
  split
  · rw [Lib.size_eq, Lib.extract_data, List.length_take]; omega
  · omega

/-- A cover as a text. -/
def covS (cnt : Nat → Int) : ByteArray := strOfNums ((List.range 64).map fun i => classS (cnt i))
theorem conv_cov {w : World} {g : Nat} {cnt : Nat → Int} (hh : w.heap[g]? = some (.cells (covL cnt 64).toArray 5 (0, 0))) :
    (convert 25 9 (.slice (some ⟨g, 0, none⟩) 64 64)).run Tryz.prog w = .ok (.string (covS cnt)) w := by
  refine run_convert_bytes_arg w 25 5 Tryz.underlying25 Tryz.underlying5 g 0 64 64 ((List.range 64).map fun i => classS (cnt i)) (by simp) (fun i hi => ?_) 9 Tryz.underlying9
  have hi' : i < 64 := by simpa using hi
  rw [Nat.zero_add, cov_cell hh i hi']
  simp [List.getD, List.getElem?_range hi']
end Go.Proofs.YtflenkppcclclaaGreatDoor

namespace Go.Proofs.YtflenkppcclclaaGreatDoor
open Go.RowKit

/-! Texts as lists of numbers. -/
def nums (s : ByteArray) : List Int := s.data.toList.map fun b => (b.toNat : Int)
theorem nums_len (s : ByteArray) : (nums s).length = s.size := by
  simp only [nums, List.length_map]
  exact Array.length_toList
def Byt (l : List Int) : Prop := ∀ x ∈ l, 0 ≤ x ∧ x ≤ 255
theorem nums_byt (s : ByteArray) : Byt (nums s) := by
  intro x hx
  simp only [nums, List.mem_map] at hx
  obtain ⟨b, _, rfl⟩ := hx
  have := b.toNat_lt
  omega
theorem ofNat_toNat (b : UInt8) : UInt8.ofNat ((b.toNat : Int)).toNat = b := by simp
theorem str_nums (s : ByteArray) : strOfNums (nums s) = s := by
  cases s with
  | mk d =>
    cases d with
    | mk l =>
      simp only [strOfNums, nums, List.map_map]
      congr 1
      have : ((fun n : Int => UInt8.ofNat n.toNat) ∘ fun b : UInt8 => (b.toNat : Int)) = id := funext fun b => ofNat_toNat b
      rw [this, List.map_id]
theorem nums_inj {a b : ByteArray} (h : nums a = nums b) : a = b := by rw [← str_nums a, ← str_nums b, h]
theorem nums_str {l : List Int} (h : Byt l) : nums (strOfNums l) = l := by
  simp only [strOfNums, nums, List.map_map]
  conv => rhs; rw [← List.map_id l]
  apply List.map_congr_left
  intro x hx
  have := h x hx
  simp only [Function.comp, UInt8.toNat_ofNat', id]
  have e : x.toNat % 256 = x.toNat := Nat.mod_eq_of_lt (by omega)
  rw [show (2 : Nat) ^ 8 = 256 from rfl, e]
  omega
theorem is_str {s : ByteArray} {l : List Int} (h : nums s = l) : s = strOfNums l := by rw [← h, str_nums]
theorem nums_append (a b : ByteArray) : nums (a ++ b) = nums a ++ nums b := by simp [nums]
theorem nums_extract (s : ByteArray) (i j : Nat) : nums (s.extract i j) = ((nums s).drop i).take (j - i) := by
  simp [nums, List.map_take, List.map_drop]
theorem nums_get (s : ByteArray) (i : Nat) (h : i < s.size) : ((s[i]'h).toNat : Int) = (nums s).getD i 0 := by
  have h' : i < s.data.toList.length := by simpa using h
  simp [nums, List.getD, h, ByteArray.getElem_eq_getElem_data]
theorem nums_data (s : ByteArray) (i : Nat) (h : i < s.size) : ((s.data.toList.getD i 0).toNat : Int) = (nums s).getD i 0 := by
  have h' : i < s.data.size := h
  simp [nums, List.getD, Array.getElem?_eq_getElem h']
theorem Byt.at {l : List Int} (h : Byt l) (i : Nat) : 0 ≤ l.getD i 0 ∧ l.getD i 0 ≤ 255 := by
  rw [List.getD_eq_getElem?_getD]
  cases e : l[i]? with
  | none => simp
  | some x => exact h x (List.mem_of_getElem? e)
theorem Byt.set {l : List Int} (h : Byt l) (i : Nat) {v : Int} (h0 : 0 ≤ v) (h1 : v ≤ 255) : Byt (l.set i v) := fun x hx => by
  rcases List.mem_or_eq_of_mem_set hx with hx | rfl
  · exact h x hx
  · exact ⟨h0, h1⟩
theorem Byt.app {a b : List Int} (ha : Byt a) (hb : Byt b) : Byt (a ++ b) := fun x hx => by
  rcases List.mem_append.1 hx with h | h
  · exact ha x h
  · exact hb x h
theorem Byt.take {a : List Int} (ha : Byt a) (n : Nat) : Byt (a.take n) := fun x hx => ha x (List.mem_of_mem_take hx)
theorem Byt.drop {a : List Int} (ha : Byt a) (n : Nat) : Byt (a.drop n) := fun x hx => ha x (List.mem_of_mem_drop hx)
theorem byt_one {v : Int} (h0 : 0 ≤ v) (h1 : v ≤ 255) : Byt [v] := fun x hx => by simp at hx; subst hx; exact ⟨h0, h1⟩
theorem bits_u8 (op : BinOp) (x y : Int) : 0 ≤ bits op .u8 x y ∧ bits op .u8 x y ≤ 255 := by
  have := wf_bits op .u8 x y
  simp [Lit.wf, IntKind.min, IntKind.max, IntKind.signed, IntKind.bits] at this
  omega

/-! P6: the changes in their order. -/
def flipL (l : List Int) (k : Nat) : List Int := l.set (k / 8) (bits .xor .u8 (l.getD (k / 8) 0) (2 ^ (7 - k % 8)))
def markL (k : Nat) : Int := [0, 1, 127, 128, 255].getD k 0
def cutL (l : List Int) (n : Nat) : List Int := l.take n ++ l.drop (n + 1)
def twiceL (l : List Int) (n : Nat) : List Int := l.take n ++ l.getD n 0 :: l.drop n
def mutL (l : List Int) (n : Nat) : Option (List Int) :=
  let L := l.length
  if n < 8 * L then some (flipL l n)
  else if n - 8 * L < 8 * L - 1 then some (flipL (flipL l (n - 8 * L)) (n - 8 * L + 1))
  else if n - 8 * L - (8 * L - 1) < L then some (l.set (n - 8 * L - (8 * L - 1)) (bits .xor .u8 (l.getD (n - 8 * L - (8 * L - 1)) 0) 255))
  else if n - 8 * L - (8 * L - 1) - L < 4 * L then some (l.set ((n - 8 * L - (8 * L - 1) - L) / 4) ((l.getD ((n - 8 * L - (8 * L - 1) - L) / 4) 0 + ((n - 8 * L - (8 * L - 1) - L) % 4 + 1 : Nat)) % 256))
  else if n - 8 * L - (8 * L - 1) - L - 4 * L < 4 * L then some (l.set ((n - 8 * L - (8 * L - 1) - L - 4 * L) / 4) ((l.getD ((n - 8 * L - (8 * L - 1) - L - 4 * L) / 4) 0 - ((n - 8 * L - (8 * L - 1) - L - 4 * L) % 4 + 1 : Nat)) % 256))
  else if n - 8 * L - (8 * L - 1) - L - 4 * L - 4 * L < 5 * L then some (l.set ((n - 8 * L - (8 * L - 1) - L - 4 * L - 4 * L) / 5) (markL ((n - 8 * L - (8 * L - 1) - L - 4 * L - 4 * L) % 5)))
  else if n - 8 * L - (8 * L - 1) - L - 4 * L - 4 * L - 5 * L < L then some (cutL l (n - 8 * L - (8 * L - 1) - L - 4 * L - 4 * L - 5 * L))
  else if n - 8 * L - (8 * L - 1) - L - 4 * L - 4 * L - 5 * L - L < L ∧ L < 24 then some (twiceL l (n - 8 * L - (8 * L - 1) - L - 4 * L - 4 * L - 5 * L - L))
  else none

/-! P7: chance. -/
/-- The seed behind a draw. -/
def nextI (x : Int) : Int :=
  bits .xor .u64 (bits .xor .u64 (bits .xor .u64 x (x / 4096)) (IntKind.u64.wrap (bits .xor .u64 x (x / 4096) * 33554432))) (bits .xor .u64 (bits .xor .u64 x (x / 4096)) (IntKind.u64.wrap (bits .xor .u64 x (x / 4096) * 33554432)) / 134217728)
def sd (x : Int) : Int := nextI (if x = 0 then 88172645463325252 else x)
/-- What is drawn from it, below n. -/
def dr (x : Int) (n : Nat) : Nat := (IntKind.u64.wrap (sd x * 2685821657736338717) / 8589934592).toNat % n
def onceL (l o : List Int) (x : Int) : List Int × Int :=
  let L := l.length
  let w := dr x 6
  let y := sd x
  if L = 0 ∧ w ≠ 3 ∧ w ≠ 4 then (l, y)
  else if w = 0 then (flipL l (dr y (8 * L)), sd y)
  else if w = 1 then (l.set (dr y L) (dr (sd y) 256 : Int), sd (sd y))
  else if w = 2 then (cutL l (dr y L), sd y)
  else if w = 3 then (if 24 ≤ L then (l, y) else (l.take (dr y (L + 1)) ++ (dr (sd y) 256 : Int) :: l.drop (dr y (L + 1)), sd (sd y)))
  else if w = 4 then ((l.take (dr y (L + 1)) ++ o.drop (dr (sd y) (o.length + 1))).take 24, sd (sd y))
  else (l.set (dr y L) (l.getD (dr (sd y) L) 0), sd (sd y))
def timesL (l o : List Int) (x : Int) : Nat → List Int × Int
  | 0 => (l, x)
  | n + 1 => onceL (timesL l o x n).1 o (timesL l o x n).2
def wildL (l o : List Int) (x : Int) : List Int × Int := timesL l o (sd x) (1 + dr x 4)

theorem flip_len (l : List Int) (k : Nat) : (flipL l k).length = l.length := by simp [flipL]
theorem flip_byt {l : List Int} (h : Byt l) (k : Nat) : Byt (flipL l k) := h.set _ (bits_u8 _ _ _).1 (bits_u8 _ _ _).2
theorem cut_len (l : List Int) (k : Nat) (h : k < l.length) : (cutL l k).length = l.length - 1 := by simp [cutL]; omega
theorem cut_byt {l : List Int} (h : Byt l) (k : Nat) : Byt (cutL l k) := (h.take _).app (h.drop _)
theorem put_byt {l : List Int} (h : Byt l) (k : Nat) {v : Int} (h0 : 0 ≤ v) (h1 : v ≤ 255) : Byt (l.take k ++ v :: l.drop k) := (h.take _).app (fun x hx => by
  rcases List.mem_cons.1 hx with rfl | hx
  · exact ⟨h0, h1⟩
  · exact h.drop _ x hx)
theorem put_len (l : List Int) (k : Nat) (v : Int) (h : k ≤ l.length) : (l.take k ++ v :: l.drop k).length = l.length + 1 := by simp; omega
theorem dr_lt (x : Int) (n : Nat) (h : 0 < n) : dr x n < n := Nat.mod_lt _ h
theorem once_byt {l o : List Int} (hl : Byt l) (ho : Byt o) (x : Int) : Byt (onceL l o x).1 := by
  unfold onceL
  dsimp only
  have hd := dr_lt (sd (sd x)) 256 (by omega)
  split
  · exact hl
  split
  · exact flip_byt hl _
  split
  · exact hl.set _ (by omega) (by omega)
  split
  · exact cut_byt hl _
  split
  · split
    · exact hl
    · exact put_byt hl _ (by omega) (by omega)
  split
  · exact ((hl.take _).app (ho.drop _)).take _
  · exact hl.set _ (hl.at _).1 (hl.at _).2
theorem once_len {l o : List Int} (hl : l.length ≤ 24) (ho : o.length ≤ 24) (x : Int) : (onceL l o x).1.length ≤ 24 ∧ (onceL l o x).1.length ≤ l.length + o.length + 1 := by
  unfold onceL
  dsimp only
  split
  · exact ⟨hl, by dsimp only; omega⟩
  split
  · rw [flip_len]; exact ⟨hl, by omega⟩
  split
  · simp; omega
  split
  · simp [cutL]; omega
  split
  · split
    · exact ⟨hl, by dsimp only; omega⟩
    · have := dr_lt (sd x) (l.length + 1) (by omega)
      rw [put_len _ _ _ (by omega)]; omega
  split
  · simp; omega
  · simp; omega
theorem times_byt {l o : List Int} (hl : Byt l) (ho : Byt o) (x : Int) : ∀ n, Byt (timesL l o x n).1
  | 0 => hl
  | n + 1 => once_byt (times_byt hl ho x n) ho _
theorem times_len {l o : List Int} (hl : l.length ≤ 24) (ho : o.length ≤ 24) (x : Int) : ∀ n, (timesL l o x n).1.length ≤ 24 ∧ (timesL l o x n).1.length ≤ l.length + n * (o.length + 1)
  | 0 => ⟨hl, by simp [timesL]⟩
  | n + 1 => by
    have ih := times_len hl ho x n
    have := once_len ih.1 ho (timesL l o x n).2
    refine ⟨this.1, ?_⟩
    rw [Nat.succ_mul]
    have := this.2
    show (onceL _ o _).1.length ≤ _
    omega
end Go.Proofs.YtflenkppcclclaaGreatDoor

