import Derived.Test.YtflenkppcclclaaGreatDoorM00
import Derived.Test.YtflenkppcclclaaGreatDoorRows
import Derived.ProofKit
import Derived.LaidMore
import Derived.OpenShut
import Derived.Stop.Joined
import Derived.Deep.Strs
import Derived.Test.YtflenkppcclclaaGreatDoorM33
import Derived.Deep.Slices
import Derived.ChangeSlices
import Derived.SizedLaws
namespace Go.Proofs.YtflenkppcclclaaGreatDoor
open Go.ChangeShapes Go.WideShapes Go.ChangeAt Go.WideMaps Go.WideElems Go.RowKit Go.Deep

theorem gShapes : (Rows.runsRow.named.head?.bind fun s => Tryz.prog.globalNamed s) = some 0 := by kernel_rfl
theorem tShapes : (Tryz.prog.globals[0]?).map (·.type) = some 224 := by kernel_rfl
theorem Tryz.cellsInt : Tryz.prog.cellsOf 3 = 1 := by kernel_rfl
theorem Tryz.cellsShape : Tryz.prog.cellsOf 179 = 3 := by kernel_rfl

theorem one_of {cs : List Value} {r : Nat} {v : Value} (h : (cs.drop r).take 1 = [v]) : cs[r]? = some v := by
  have : ((cs.drop r).take 1)[0]? = some v := by rw [h]; rfl
  rw [List.getElem?_take, if_pos (by omega), List.getElem?_drop, Nat.add_zero] at this
  exact this

theorem shape_cells {H : Type} {enc : TypeId × Value → H} {W : World} {base : Nat} {spare : Nat → Bool} {held : Bool} {m : Nat} {cs : List Value} {x : DataW H × List MemPlace} {a b c : Int}
    (h : DataW.trod enc Tryz.prog W base spare held m 179 cs = some x) (hx : x.1 = .agg [.lit (.int .i64 a), .lit (.int .i64 b), .lit (.int .i64 c)]) :
    cs[0]? = some (.int .i64 a) ∧ cs[1]? = some (.int .i64 b) ∧ cs[2]? = some (.int .i64 c) := by
  obtain ⟨y0, y1, y2, n, rfl, hlen, e0, e1, e2⟩ := trod_struct3 Tryz.underlying179 h
  simp only [Tryz.cellsInt] at e0 e1 e2
  obtain ⟨k0, c0, d0, _⟩ := DataW.trod_int Tryz.underlying3 e0
  obtain ⟨k1, c1, d1, _⟩ := DataW.trod_int Tryz.underlying3 e1
  obtain ⟨k2, c2, d2, _⟩ := DataW.trod_int Tryz.underlying3 e2
  rw [d0, d1, d2] at hx
  simp only [DataW.agg.injEq, List.cons.injEq, DataW.lit.injEq, Lit.int.injEq, and_true, true_and] at hx
  obtain ⟨rfl, rfl, rfl⟩ := hx
  exact ⟨one_of c0, one_of c1, one_of c2⟩

/-- The condition gives the table, cell by cell. -/
theorem tab_of_laid {W : World} (h : laidMetH Tryz.prog Rows.runsRow.laid W) : Tab W := by
  rw [MakeChecks.laidMetH_plain _ _ _ (by kernel_rfl)] at h
  obtain ⟨ps, ⟨g0, t0, cs0, f0, p0, q0, hg0, ht0, hv0, hd0, _⟩, _, _⟩ := h
  obtain rfl := Option.some.inj (gShapes.symm.trans hg0)
  obtain rfl := Option.some.inj (tShapes.symm.trans ht0)
  obtain ⟨xs, m1, rfl, hx, hlen, hn, hel⟩ := DataW.trod_array Tryz.underlying224 hd0
  simp only [Prod.mk.injEq] at hx
  have hcell := fun j => World.var?_cell hg0 hv0 j
  intro k hk
  obtain ⟨i, r, hr, rfl⟩ : ∃ i r, r < 3 ∧ k = i * 3 + r := ⟨k / 3, k % 3, by omega, by omega⟩
  have hi : i < 21 := by omega
  have hxi : (xs.map (·.1))[i]? = some (.agg [.lit (.int .i64 (shp (i * 3))), .lit (.int .i64 (shp (i * 3 + 1))), .lit (.int .i64 (shp (i * 3 + 2)))]) := by
    have e : (DataW.agg (xs.map (·.1)) : DataW Unit) = Rows.laid_prowl_program_shapes := hx.1.symm
    unfold Rows.laid_prowl_program_shapes at e
    simp only [DataW.agg.injEq] at e
    rw [e]
    match i, hi with
    | 0, _ | 1, _ | 2, _ | 3, _ | 4, _ | 5, _ | 6, _ | 7, _ | 8, _ | 9, _ | 10, _ | 11, _ | 12, _ | 13, _ | 14, _ | 15, _ | 16, _ | 17, _ | 18, _ | 19, _ | 20, _ => rfl
    | i + 21, hi => omega
  rw [List.getElem?_map, Option.map_eq_some_iff] at hxi
  obtain ⟨x, hx1, hx2⟩ := hxi
  have he := hel i hi
  rw [hx1, Tryz.cellsShape] at he
  obtain ⟨a0, a1, a2⟩ := shape_cells he hx2
  have hc : ∀ r, r < 3 → ∀ v, ((cs0.toList.drop (i * 3)).take 3)[r]? = some v → W.cell? ⟨0, i * 3 + r, none⟩ = some v := by
    intro r hr v hv
    rw [List.getElem?_take, if_pos hr, List.getElem?_drop] at hv
    rw [hcell]
    simpa using hv
  match r, hr with
  | 0, _ => exact hc 0 (by omega) _ a0
  | 1, _ => exact hc 1 (by omega) _ a1
  | 2, _ => exact hc 2 (by omega) _ a2
  | r + 3, hr => omega
end Go.Proofs.YtflenkppcclclaaGreatDoor

namespace Go.Proofs.YtflenkppcclclaaGreatDoor
open Go.ChangeShapes Go.WideShapes Go.ChangeAt Go.RowKit Go.Deep

theorem Tryz.cellsOp : Tryz.prog.cellsOf 70 = 9 := by kernel_rfl
theorem Tryz.cellsBytes : Tryz.prog.cellsOf 25 = 1 := by kernel_rfl
theorem Tryz.cellsStr : Tryz.prog.cellsOf 9 = 1 := by kernel_rfl
theorem Tryz.cellsU64 : Tryz.prog.cellsOf 27 = 1 := by kernel_rfl
theorem Tryz.cellsStrs : Tryz.prog.cellsOf 26 = 1 := by kernel_rfl
theorem Tryz.cellsU8 : Tryz.prog.cellsOf 5 = 1 := by kernel_rfl
theorem Tryz.bytesOp : Tryz.prog.bytesOf 70 = 120 := by kernel_rfl
theorem Tryz.bytesU8 : Tryz.prog.bytesOf 5 = 1 := by kernel_rfl

/-- Bytes that came in, as the walk takes them. -/
theorem bytes_coded {W : World} {a : Addr} {len cap : Nat} {zs : List Int} (hl : len ≤ cap) (hm : cap ≤ maxLen) (hz : zs.length = cap)
    (hcell : ∀ i, i < zs.length → W.cell? (a.add i) = some (.int .u8 (zs.getD i 0))) (hwz : ∀ n ∈ zs, (Lit.int .u8 n).wf = true) :
    Coded W (.slice (some a) len cap) len (fun i => zs.getD i 0) ∧ ∀ i, i < len → 0 ≤ zs.getD i 0 ∧ zs.getD i 0 ≤ 255 := by
  constructor
  · by_cases h0 : len = 0
    · subst h0; exact .bare (some a) cap rfl rfl
    · obtain ⟨b, off, spot⟩ := a
      have hspot : spot = none := by simpa [Addr.add] using World.cell?_spot (hcell 0 (by omega))
      subst hspot
      exact .full b off cap rfl ⟨fun i hi => by rw [← add_plain]; exact hcell i (by omega), hl, hm, by omega⟩
  · intro i hi
    have := range_u8 hwz i
    rw [List.getD_eq_getElem?_getD]
    exact this

theorem weights_all {H : Type} {P : Program} {e : TypeId} : ∀ {l : List (DataW H)} {d : DataW H}, d ∈ l → ∀ n ∈ d.weights P e, n ∈ DataW.weightsAll P e l
  | d0 :: l, d, hd, n, hn => by
    simp only [DataW.weightsAll, List.mem_append]
    rcases List.mem_cons.1 hd with h | h
    · subst h; exact Or.inl hn
    · exact Or.inr (weights_all h n hn)

set_option maxRecDepth 100000 in
theorem op_open {H : Type} {enc : TypeId × Value → H} {W : World} {n0 : Nat} {cs : List Value} {x : DataW H × List MemPlace} (h : DataW.trod enc Tryz.prog W 0 (fun _ => true) true n0 70 cs = some x)
    (hw : ∀ k ∈ x.1.weights Tryz.prog 70, k ≤ reachBytes) :
    ∃ kd p n f cv s t sd b k e L c, (∀ j, j < 9 → cs[j]? = (opC kd p n f cv s t sd (.slice b k e))[j]?) ∧ Coded W cv L c ∧ (∀ i, i < L → 0 ≤ c i ∧ c i ≤ 255) ∧ L + 8 ≤ 140737488355328 ∧ OpOk n sd s t := by
  obtain ⟨xs, m, _, rfl, hl, hlen, hf⟩ := DataW.trod_struct Tryz.underlying70 h
  match xs, hlen with
  | [y0, y1, y2, y3, y4, y5, y6, y7, y8], _ =>
    have e0 : DataW.trod enc Tryz.prog W 0 (fun _ => true) true m 3 ((cs.drop 0).take (Tryz.prog.cellsOf 3)) = some y0 := hf 0 _ rfl
    rw [Tryz.cellsInt] at e0
    have e1 : DataW.trod enc Tryz.prog W 0 (fun _ => true) true m 3 ((cs.drop 1).take (Tryz.prog.cellsOf 3)) = some y1 := hf 1 _ rfl
    rw [Tryz.cellsInt] at e1
    have e2 : DataW.trod enc Tryz.prog W 0 (fun _ => true) true m 3 ((cs.drop 2).take (Tryz.prog.cellsOf 3)) = some y2 := hf 2 _ rfl
    rw [Tryz.cellsInt] at e2
    have e3 : DataW.trod enc Tryz.prog W 0 (fun _ => true) true m 3 ((cs.drop 3).take (Tryz.prog.cellsOf 3)) = some y3 := hf 3 _ rfl
    rw [Tryz.cellsInt] at e3
    have e4 : DataW.trod enc Tryz.prog W 0 (fun _ => true) true m 25 ((cs.drop 4).take (Tryz.prog.cellsOf 25)) = some y4 := hf 4 _ rfl
    rw [Tryz.cellsBytes] at e4
    have e5 : DataW.trod enc Tryz.prog W 0 (fun _ => true) true m 9 ((cs.drop 5).take (Tryz.prog.cellsOf 9)) = some y5 := hf 5 _ rfl
    rw [Tryz.cellsStr] at e5
    have e6 : DataW.trod enc Tryz.prog W 0 (fun _ => true) true m 9 ((cs.drop 6).take (Tryz.prog.cellsOf 9)) = some y6 := hf 6 _ rfl
    rw [Tryz.cellsStr] at e6
    have e7 : DataW.trod enc Tryz.prog W 0 (fun _ => true) true m 27 ((cs.drop 7).take (Tryz.prog.cellsOf 27)) = some y7 := hf 7 _ rfl
    rw [Tryz.cellsU64] at e7
    have e8 : DataW.trod enc Tryz.prog W 0 (fun _ => true) true m 26 ((cs.drop 8).take (Tryz.prog.cellsOf 26)) = some y8 := hf 8 _ rfl
    rw [Tryz.cellsStrs] at e8
    obtain ⟨k0, c0, _, _⟩ := DataW.trod_int Tryz.underlying3 e0
    obtain ⟨k1, c1, _, _⟩ := DataW.trod_int Tryz.underlying3 e1
    obtain ⟨k2, c2, _, wf2⟩ := DataW.trod_int Tryz.underlying3 e2
    obtain ⟨k3, c3, _, _⟩ := DataW.trod_int Tryz.underlying3 e3
    obtain ⟨s5, c5, _, wf5⟩ := DataW.trod_string Tryz.underlying9 e5
    obtain ⟨s6, c6, _, wf6⟩ := DataW.trod_string Tryz.underlying9 e6
    obtain ⟨k7, c7, _, wf7⟩ := DataW.trod_int Tryz.underlying27 e7
    have hc8 : ∃ b k e, cs[8]? = some (.slice b k e) := by
      rcases DataW.trod_slice Tryz.underlying26 e8 with ⟨c8, _⟩ | ⟨a, len, cap, _, _, _, _, c8, _⟩
      · exact ⟨_, _, _, one_of c8⟩
      · exact ⟨_, _, _, one_of c8⟩
    obtain ⟨b, k, e, c8⟩ := hc8
    have hw4 : ∀ k ∈ y4.1.weights Tryz.prog 25, k ≤ reachBytes := fun k hk => hw k (by
      simp only [DataW.weights, Tryz.underlying70]
      exact DataW.weights_mem_each (j := 4) rfl rfl k hk)
    have hcode : ∃ cv L c, cs[4]? = some cv ∧ Coded W cv L c ∧ (∀ i, i < L → 0 ≤ c i ∧ c i ≤ 255) ∧ L + 8 ≤ 140737488355328 := by
      rcases open_ints Tryz.underlying25 Tryz.underlying5 Tryz.cellsU8 e4 with ⟨c4, _⟩ | ⟨a, len, cap, zs, c4, _, hl, hm, hz, hy, hcell, hwz⟩
      · exact ⟨_, 0, fun _ => 0, one_of c4, .bare none 0 rfl rfl, fun i hi => by omega, by omega⟩
      · simp only [if_true] at hz
        obtain ⟨C, hby⟩ := bytes_coded hl hm hz hcell hwz
        refine ⟨_, len, _, one_of c4, C, hby, ?_⟩
        have := hw4 ((lits .u8 (zs.take len)).length + (lits .u8 (zs.drop len)).length) (by
          rw [hy]
          simp only [DataW.weights, Tryz.underlying25, Tryz.bytesU8, Nat.mul_one]
          exact List.mem_cons_self)
        simp only [lits, List.length_map, List.length_take, List.length_drop, reachBytes] at this
        omega
    obtain ⟨cv, L, c, c4, C, hby, hL⟩ := hcode
    have opok : OpOk k2 k7 s5 s6 := by
      simp [Lit.wf, IntKind.min, IntKind.max, IntKind.signed, IntKind.bits] at wf2 wf7
      unfold maxLen at wf5 wf6
      exact ⟨by omega, by omega, by omega, by omega, by omega, by omega⟩
    refine ⟨k0, k1, k2, k3, cv, s5, s6, k7, b, k, e, L, c, fun j hj => ?_, C, hby, hL, opok⟩
    match j, hj with
    | 0, _ => exact one_of c0
    | 1, _ => exact one_of c1
    | 2, _ => exact one_of c2
    | 3, _ => exact one_of c3
    | 4, _ => exact c4
    | 5, _ => exact one_of c5
    | 6, _ => exact one_of c6
    | 7, _ => exact one_of c7
    | 8, _ => exact c8
    | j + 9, hj => omega

theorem script_open {H : Type} {enc : TypeId × Value → H} {W : World} {a0 : Option Addr} {len cap fuel : Nat} {x : DataW H × List MemPlace} (h : DataW.trod enc Tryz.prog W 0 (fun _ => true) true fuel 22 [.slice a0 len cap] = some x)
    (hw : ∀ k ∈ x.1.weights Tryz.prog 22, k ≤ reachBytes) :
    ∃ news : List Value, news.length = len * 9 ∧ (∀ ad, a0 = some ad → ∀ j u, news[j]? = some u → W.cell? (ad.add j) = some u) ∧ (a0 = none → len = 0) ∧ (9 + len) * 120 ≤ 140737488355328 ∧ ScriptOk W len news := by
  rcases open_slice Tryz.underlying22 h with ⟨hcs, _⟩ | ⟨a, len', cap', m, n, D, Pl, hcs, _, hl, hm, hmm, rfl, hx⟩
  · simp at hcs
    obtain ⟨rfl, rfl, rfl⟩ := hcs
    exact ⟨[], rfl, fun ad h => (by cases h), fun _ => rfl, by omega, fun i hi => by omega⟩
  · simp at hcs
    obtain ⟨rfl, rfl, rfl⟩ := hcs
    simp only [if_true] at hmm
    subst hmm
    rw [Tryz.cellsOp] at hx
    simp only [DataW.weights, Tryz.underlying22, Tryz.bytesOp] at hw
    have hcnt := hw _ List.mem_cons_self
    simp only [List.length_map, List.length_range, reachBytes] at hcnt
    have hel : ∀ i, i < len → ∃ cs' : List Value, (∀ j, j < 9 → W.cell? (a.add (i * 9 + j)) = cs'[j]?) ∧ ∃ kd p n f cv s t sd b k e L c, (∀ j, j < 9 → cs'[j]? = (opC kd p n f cv s t sd (.slice b k e))[j]?) ∧ Coded W cv L c ∧ (∀ i, i < L → 0 ≤ c i ∧ c i ≤ 255) ∧ L + 8 ≤ 140737488355328 ∧ OpOk n sd s t := by
      intro i hi
      obtain ⟨cs', h1, h2⟩ := hx i (by omega)
      obtain ⟨_, _, h3⟩ := World.cells?_some h1
      refine ⟨cs', fun j hj => by rw [← add_add]; exact h3 j hj, op_open h2 fun k hk => hw k (List.mem_cons_of_mem _ (List.mem_append_left _ (weights_all (List.mem_map.2 ⟨i, List.mem_range.2 hi, rfl⟩) k hk)))⟩
    have hsome : ∀ t, t < len * 9 → ∃ u, W.cell? (a.add t) = some u := by
      intro t ht
      obtain ⟨cs', h1, _, _, _, _, _, _, _, _, _, _, _, _, _, h2, _⟩ := hel (t / 9) (by omega)
      have h3 := h1 (t % 9) (by omega)
      rw [h2 (t % 9) (by omega), show t / 9 * 9 + t % 9 = t by omega] at h3
      exact ⟨_, h3.trans (Array.getElem?_eq_getElem (show t % 9 < 9 by omega))⟩
    have hget : ∀ t, t < len * 9 → ((List.range (len * 9)).map fun t => (W.cell? (a.add t)).getD undef)[t]? = W.cell? (a.add t) := by
      intro t ht
      obtain ⟨u, hu⟩ := hsome t ht
      rw [List.getElem?_map, List.getElem?_range ht, Option.map_some, hu]
      rfl
    refine ⟨(List.range (len * 9)).map fun t => (W.cell? (a.add t)).getD undef, by simp, ?_, fun h => (by cases h), by omega, ?_⟩
    · intro ad had j u hj
      obtain rfl := Option.some.inj had
      obtain ⟨hlt, _⟩ := List.getElem?_eq_some_iff.1 hj
      rw [← hget j (by simpa using hlt)]
      exact hj
    · intro i hi
      obtain ⟨cs', h1, kd, p, n, f, cv, s, t, sd, b, k, e, L, c, h2, h3⟩ := hel i hi
      refine ⟨kd, p, n, f, cv, s, t, sd, b, k, e, L, c, fun j hj => ?_, h3⟩
      rw [hget _ (by omega), show 9 * i + j = i * 9 + j by omega]
      exact (h1 j hj).trans (h2 j hj)
end Go.Proofs.YtflenkppcclclaaGreatDoor

