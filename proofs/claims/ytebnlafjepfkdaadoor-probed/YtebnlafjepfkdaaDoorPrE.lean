import Derived.Test.YtebnlafjepfkdaaDoorWrC
import Derived.Test.YtebnlafjepfkdaaDoorPrD
namespace Go.Proofs.YtebnlafjepfkdaaDoor
open Go.RowKit

theorem own_at {w : World} {base : Nat} {e : TypeId} {v : Value} {N : Nat} {xs : List Value} (h : w.ownsRow base e 1 v N xs) (hN : 0 < N) :
    ∃ g cap, v = .slice (some ⟨g, 0, none⟩) N cap ∧ base ≤ g ∧ N ≤ cap ∧ cap ≤ maxLen ∧ ∀ (i : Nat) (u : Value), xs[i]? = some u → w.cell? ⟨g, i, none⟩ = some u := by
  rcases h.2 with ⟨_, h0⟩ | ⟨g, cap, cur, hv, hb, hh, hle, hcap, hcs, htake⟩
  · omega
  · refine ⟨g, cap, hv, hb, hle, hcap, fun i u hx => ?_⟩
    rw [cell_of_row w g _ _ _ _ hh]
    have hi : i < N := by
      have h1 := (List.getElem?_eq_some_iff.1 hx).1
      have h2 := h.1
      omega
    have h2 : (cur.toList.take (N * 1))[i]? = some u := by rw [htake]; exact hx
    rw [List.getElem?_take, if_pos (by omega)] at h2
    simpa using h2

theorem xProbe_any (w : World) (cb co L cap N : Nat) (c : Nat → Int) (V : VP c L N) (C : Laid w cb co L cap c) (hT : Tab w) :
    Calls Tryd.prog 11 #[.slice (some ⟨cb, co, none⟩) L cap] w fun e w' => ∃ base W vc vf, w.heap.size ≤ W ∧ WR base W w' vc vf (pcode c N L) (pfrom c N L) ∧ e = .returned (.tuple #[vc, vf, .int .i64 0]) ∧ Below w.heap.size w w' := by
  go_enter Tryd.func11, Tryd.ntmps11
  go_wp2_with fail
  refine (pCheck_any w cb co L cap N c V C hT).mono ?_
  rintro e w1 ⟨rfl, B1⟩
  go_wp2_with fail
  refine (withProbes_any w1 cb co L cap N c V (C.below B1) (hT.below B1)).mono ?_
  rintro e w2 ⟨base, W, vc, vf, hW, hR, rfl, B2⟩
  have HR : Hid (WR base W w2 vc vf (pcode c N L) (pfrom c N L)) := hR
  clear hR
  go_wp2_with fail
  refine bodyPost_ret (v := .tuple #[vc, vf, .int .i64 0]) (by simp [results, Tryd.results11, go_sem]) rfl ?_
  exact ⟨base, W, vc, vf, by have := B1.size; omega, HR.out, rfl, B1.trans (B2.mono B1.size)⟩

theorem xProbe_bad (w : World) (v : Value) (L : Nat) (c : Nat → Int) (hby : ∀ i, i < L → 0 ≤ c i ∧ c i ≤ 255) (C : Coded w v L c) (hT : Tab w) (hbad : ¬ ∃ N, VP c L N) :
    Calls Tryd.prog 11 #[v] w fun e w' => e = .returned (.tuple #[.slice none 0 0, .slice none 0 0, .int .i64 1]) ∧ Below w.heap.size w w' := by
  go_enter Tryd.func11, Tryd.ntmps11
  go_wp2_with fail
  refine (pCheck_gen w v L c hby C hT).mono ?_
  rintro e w1 ⟨n, b, hC, rfl, B1⟩
  cases b with
  | true =>
    rcases hC with ⟨h, _⟩ | ⟨_, hL, N, F, _⟩
    · cases h
    · exact absurd ⟨N, F.vp hL⟩ hbad
  | false =>
    go_wp2_with fail
    refine bodyPost_ret (v := .tuple #[.slice none 0 0, .slice none 0 0, .int .i64 1]) (by simp [results, Tryd.results11, go_sem]) rfl ?_
    exact ⟨rfl, B1⟩

/-- Two rows, as they come out: the probed code, and the places. -/
structure Two (w : World) (B g1 cap1 g2 cap2 Q : Nat) (d f : Nat → Int) : Prop where
  code : Laid w g1 0 Q cap1 d
  from' : ∀ i, i < Q → w.cell? ⟨g2, i, none⟩ = some (.int .i64 (f i))
  b1 : B ≤ g1
  b2 : B ≤ g2
  ne : g1 ≠ g2
  room : Q ≤ cap2
  lt : g2 < w.heap.size
theorem WR.two {base W B : Nat} {w : World} {vc vf : Value} {c : Nat → Int} {N L : Nat} (h : WR base W w vc vf (pcode c N L) (pfrom c N L)) (hB : B ≤ W) (hQ : 0 < qOf (bgn c N) L) :
    ∃ g1 cap1 g2 cap2, vc = .slice (some ⟨g1, 0, none⟩) (qOf (bgn c N) L) cap1 ∧ vf = .slice (some ⟨g2, 0, none⟩) (qOf (bgn c N) L) cap2 ∧ Two w B g1 cap1 g2 cap2 (qOf (bgn c N) L) (pc c N L) (pf c N L) := by
  have h1 := h.own1
  have h2 := h.own2
  rw [pcode_len] at h1
  rw [pfrom_len] at h2
  obtain ⟨g1, cap1, e1, b1, r1, m1, c1⟩ := own_at h1 hQ
  obtain ⟨g2, cap2, e2, b2, r2, m2, c2⟩ := own_at h2 hQ
  have hlt := h.lt
  have hcell : ∀ i, i < qOf (bgn c N) L → w.cell? ⟨g2, i, none⟩ = some (.int .i64 (pf c N L i)) := fun i hi => c2 i _ (by
      rw [← pfrom_len c N L] at hi
      rw [List.getElem?_map, List.getElem?_eq_getElem hi]
      unfold pf
      rw [List.getD_eq_getElem?_getD, List.getElem?_eq_getElem hi]; rfl)
  refine ⟨g1, cap1, g2, cap2, e1, e2, ⟨fun i hi => ?_, r1, m1, hQ⟩, hcell, by omega, by omega, ?_, r2, block_lt_of_cell (hcell 0 hQ)⟩
  · rw [Nat.zero_add]
    refine c1 i _ ?_
    rw [← pcode_len c N L] at hi
    rw [List.getElem?_map, List.getElem?_eq_getElem hi]
    unfold pc
    rw [List.getD_eq_getElem?_getD, List.getElem?_eq_getElem hi]; rfl
  · have := h.apart
    rw [e1, e2] at this
    rcases this with h | h
    · cases h
    · intro e; exact h (by rw [e]; rfl)
theorem VP.qPos {c : Nat → Int} {L N : Nat} (V : VP c L N) : 0 < qOf (bgn c N) L := by
  have := V.lt V.one
  unfold qOf
  have : pos c 0 = 0 := rfl
  omega
end Go.Proofs.YtebnlafjepfkdaaDoor
