import Derived.Test.YtflenkppcclclaaDoorM26
import Derived.Test.YtflenkppcclclaaDoorM27
import Derived.Test.YtflenkppcclclaaDoorM28
import Derived.Test.YtflenkppcclclaaDoorM29
import Derived.Test.YtflenkppcclclaaDoorM30
import Derived.Test.YtflenkppcclclaaDoorM00
import Derived.Test.YtflenkppcclclaaDoorRows
import Derived.ProofKit
import Derived.LaidMore
import Derived.OpenShut
import Derived.Stop.Joined
import Derived.Deep.Strs
import Derived.Test.YtflenkppcclclaaDoorM02
import Derived.Test.YtflenkppcclclaaDoorTie
import Derived.Test.YtflenkppcclclaaDoorCards
import Derived.ShutString
import Derived.ChangeOld
import Derived.Below
import Derived.SevenTiedAt
namespace Go.Proofs.YtflenkppcclclaaDoor
open Go.RowKit

theorem idx_nums (s : ByteArray) (q : Nat) (hq : q < s.size) (W : World) : (Instr.index 9 (.string s) (.int .i64 (q : Int))).run Tryd.prog W = .ok (.int .u8 ((nums s).getD q 0)) W := by
  rw [run_index_string W _ _ _ _ Tryd.underlying9, dif_pos ⟨by omega, by omega⟩, ← nums_get s q hq]
  rfl
theorem set_take (l : List Int) (q : Nat) (v : Int) : (l.set q v).take q = l.take q := by
  rw [List.take_set, List.set_eq_of_length_le (by simp; omega)]
theorem set_drop (l : List Int) (q : Nat) (v : Int) : (l.set q v).drop (q + 1) = l.drop (q + 1) := List.drop_set_of_lt (by omega)

set_option maxRecDepth 100000 in
theorem turned_marks (w : World) (hT : Tab w) (hM : Mrk w) (input s : ByteArray) (hin : input.size ≤ 9223372036854775807) (hsi : (if 24 < input.size then input.extract 0 24 else input) = s) (hL0 : 0 < s.size) (hL : s.size ≤ 24) (which : Int) (h1 : -9223372036854775808 ≤ which) (h2 : which ≤ 9223372036854775807)
    (m : Nat) (hm : (m : Int) = kpickS which (allOf s.size : Nat)) (g0 : ¬ m < 25 * s.size - 1) (g1 : m < 30 * s.size - 1) :
    Calls Tryd.prog 5 #[.string input, .int .i64 which] w fun e w' => e = .returned (.bool true) ∧ Below w.heap.size w w' := by
  have hl := nums_len s
  obtain ⟨k, rfl⟩ : ∃ k, m = 25 * s.size - 1 + k := ⟨m - (25 * s.size - 1), by omega⟩
  have e := (mut_at (nums s) s.size hl hL0 k).2.2.2.2.2.1 (by omega)
  have TU := tu_make w hT hM input s hin hsi hL0 hL which h1 h2 _ hm _ e
  have hq : k / 5 < s.size := by omega
  have mb := markL_bd (k % 5)
  have hby : Byt ((nums s).set (k / 5) (markL (k % 5))) := (nums_byt s).set _ mb.1 mb.2
  have hts : (strOfNums ((nums s).set (k / 5) (markL (k % 5)))).size = s.size := by rw [strOfNums_size, set_len, hl]
  have ht1 : (strOfNums ((nums s).set (k / 5) (markL (k % 5)))).extract 0 (k / 5) = s.extract 0 (k / 5) := by
    apply nums_inj
    rw [nums_extract, nums_extract, nums_str hby, List.drop_zero, List.drop_zero, Nat.sub_zero, set_take]
  have ht2 : (strOfNums ((nums s).set (k / 5) (markL (k % 5)))).extract (k / 5 + 1) s.size = s.extract (k / 5 + 1) s.size := by
    apply nums_inj
    rw [nums_extract, nums_extract, nums_str hby, set_drop]
  have hidx := idx_nums (strOfNums ((nums s).set (k / 5) (markL (k % 5)))) (k / 5) (by rw [hts]; exact hq)
  rw [nums_str hby, getD_set _ _ _ (by rw [hl]; exact hq)] at hidx
  have ha24 : s.size < 24 → (31 * (s.size : Int) - 1) + (s.size : Int) = ((allOf s.size : Nat) : Int) := fun h => by unfold allOf; rw [if_pos h]; omega
  have haf : ¬ s.size < 24 → 31 * (s.size : Int) - 1 = ((allOf s.size : Nat) : Int) := fun h => by unfold allOf; rw [if_neg h]; omega
  have hr : k % 5 < 5 := by omega
  have hkr : (k : Int) % 5 = ((k % 5 : Nat) : Int) := by omega
  have hkq : (k : Int) / 5 = ((k / 5 : Nat) : Int) := by omega
  generalize k % 5 = r at *
  by_cases h : s.size < 24
  · match r, hr with
    | 0, _ => exact turned50 _ _ _ _ _ _ _ _ _ _ _ _ _ TU (by omega) (ha24 h) k (k / 5) _ hq (by omega) (by omega) (by omega) (by omega) hkq hkr (by omega) hts rfl ht1 ht2 hidx
    | 1, _ => exact turned51 _ _ _ _ _ _ _ _ _ _ _ _ _ TU (by omega) (ha24 h) k (k / 5) _ hq (by omega) (by omega) (by omega) (by omega) hkq hkr (by omega) hts rfl ht1 ht2 hidx
    | 2, _ => exact turned52 _ _ _ _ _ _ _ _ _ _ _ _ _ TU (by omega) (ha24 h) k (k / 5) _ hq (by omega) (by omega) (by omega) (by omega) hkq hkr (by omega) hts rfl ht1 ht2 hidx
    | 3, _ => exact turned53 _ _ _ _ _ _ _ _ _ _ _ _ _ TU (by omega) (ha24 h) k (k / 5) _ hq (by omega) (by omega) (by omega) (by omega) hkq hkr (by omega) hts rfl ht1 ht2 hidx
    | 4, _ => exact turned54 _ _ _ _ _ _ _ _ _ _ _ _ _ TU (by omega) (ha24 h) k (k / 5) _ hq (by omega) (by omega) (by omega) (by omega) hkq hkr (by omega) hts rfl ht1 ht2 hidx
    | r + 5, hr => omega
  · match r, hr with
    | 0, _ => exact turned5f0 _ _ _ _ _ _ _ _ _ _ _ _ _ TU (by omega) (haf h) k (k / 5) _ hq (by omega) (by omega) (by omega) (by omega) hkq hkr (by omega) hts rfl ht1 ht2 hidx
    | 1, _ => exact turned5f1 _ _ _ _ _ _ _ _ _ _ _ _ _ TU (by omega) (haf h) k (k / 5) _ hq (by omega) (by omega) (by omega) (by omega) hkq hkr (by omega) hts rfl ht1 ht2 hidx
    | 2, _ => exact turned5f2 _ _ _ _ _ _ _ _ _ _ _ _ _ TU (by omega) (haf h) k (k / 5) _ hq (by omega) (by omega) (by omega) (by omega) hkq hkr (by omega) hts rfl ht1 ht2 hidx
    | 3, _ => exact turned5f3 _ _ _ _ _ _ _ _ _ _ _ _ _ TU (by omega) (haf h) k (k / 5) _ hq (by omega) (by omega) (by omega) (by omega) hkq hkr (by omega) hts rfl ht1 ht2 hidx
    | 4, _ => exact turned5f4 _ _ _ _ _ _ _ _ _ _ _ _ _ TU (by omega) (haf h) k (k / 5) _ hq (by omega) (by omega) (by omega) (by omega) hkq hkr (by omega) hts rfl ht1 ht2 hidx
    | r + 5, hr => omega

theorem turned_all (w : World) (hT : Tab w) (hM : Mrk w) (input : ByteArray) (hin : input.size ≤ 9223372036854775807) (which : Int) (h1 : -9223372036854775808 ≤ which) (h2 : which ≤ 9223372036854775807) :
    Calls Tryd.prog 5 #[.string input, .int .i64 which] w fun e w' => e = .returned (.bool true) ∧ Below w.heap.size w w' := by
  obtain ⟨s, hsi⟩ : ∃ s, (if 24 < input.size then input.extract 0 24 else input) = s := ⟨_, rfl⟩
  have hL : s.size ≤ 24 := by rw [← hsi]; exact short_size' input
  by_cases hz : s.size = 0
  · have es : s = ⟨#[]⟩ := by
      apply nums_inj
      have : (nums s).length = 0 := by rw [nums_len]; exact hz
      rw [List.length_eq_zero_iff.1 this]
      rfl
    have hb := kpick_bd which 10 (by omega)
    refine turned_empty w input which _ (kchanged_any w hT hM) (fun w' => ?_) (fun w' => kpick_any which 10 h1 h2 (by omega) (by omega) w') (fun w' B => chA_none w' (hM.all B) ⟨#[]⟩ (by decide) _ (by omega) (by omega) ?_)
    · have := short_any input hin w'
      rw [hsi, es] at this
      exact this
    · obtain ⟨p, hp⟩ : ∃ p : Nat, kpickS which 10 = p := ⟨(kpickS which 10).toNat, by omega⟩
      rw [hp, mutS_nat _ (by decide)]
      show mutL [] p = none
      rw [mut_try]
      simp [tryL, manyL]
  · have ha := allOf_le s.size (by omega) hL
    have hb := kpick_bd which (allOf s.size : Nat) (by omega)
    obtain ⟨m, hm⟩ : ∃ m : Nat, (m : Int) = kpickS which (allOf s.size : Nat) := ⟨(kpickS which (allOf s.size : Nat)).toNat, by omega⟩
    by_cases g0 : m < 25 * s.size - 1
    · exact turned_rest w hT hM input s hin hsi (by omega) hL which h1 h2 m hm (Or.inl g0)
    · by_cases g1 : m < 30 * s.size - 1
      · exact turned_marks w hT hM input s hin hsi (by omega) hL which h1 h2 m hm g0 g1
      · exact turned_rest w hT hM input s hin hsi (by omega) hL which h1 h2 m hm (Or.inr (by omega))
end Go.Proofs.YtflenkppcclclaaDoor

namespace Go.Proofs.YtflenkppcclclaaDoor
open Go.ChangeShapes Go.WideShapes Go.ChangeAt Go.WideMaps Go.WideElems Go.RowKit Go.Deep

theorem gShapes : (Rows.echoedRow.named.head?.bind fun s => Tryd.prog.globalNamed s) = some 0 := by kernel_rfl
theorem tShapes : (Tryd.prog.globals[0]?).map (·.type) = some 95 := by kernel_rfl
theorem Tryd.cellsInt : Tryd.prog.cellsOf 3 = 1 := by kernel_rfl
theorem Tryd.cellsShape : Tryd.prog.cellsOf 75 = 3 := by kernel_rfl

theorem one_of {cs : List Value} {r : Nat} {v : Value} (h : (cs.drop r).take 1 = [v]) : cs[r]? = some v := by
  have : ((cs.drop r).take 1)[0]? = some v := by rw [h]; rfl
  rw [List.getElem?_take, if_pos (by omega), List.getElem?_drop, Nat.add_zero] at this
  exact this

theorem shape_cells {H : Type} {enc : TypeId × Value → H} {W : World} {base : Nat} {spare : Nat → Bool} {held : Bool} {m : Nat} {cs : List Value} {x : DataW H × List MemPlace} {a b c : Int}
    (h : DataW.trod enc Tryd.prog W base spare held m 75 cs = some x) (hx : x.1 = .agg [.lit (.int .i64 a), .lit (.int .i64 b), .lit (.int .i64 c)]) :
    cs[0]? = some (.int .i64 a) ∧ cs[1]? = some (.int .i64 b) ∧ cs[2]? = some (.int .i64 c) := by
  obtain ⟨y0, y1, y2, n, rfl, hlen, e0, e1, e2⟩ := trod_struct3 Tryd.underlying75 h
  simp only [Tryd.cellsInt] at e0 e1 e2
  obtain ⟨k0, c0, d0, _⟩ := DataW.trod_int Tryd.underlying3 e0
  obtain ⟨k1, c1, d1, _⟩ := DataW.trod_int Tryd.underlying3 e1
  obtain ⟨k2, c2, d2, _⟩ := DataW.trod_int Tryd.underlying3 e2
  rw [d0, d1, d2] at hx
  simp only [DataW.agg.injEq, List.cons.injEq, DataW.lit.injEq, Lit.int.injEq, and_true, true_and] at hx
  obtain ⟨rfl, rfl, rfl⟩ := hx
  exact ⟨one_of c0, one_of c1, one_of c2⟩

/-- The condition gives the table, cell by cell. -/
theorem tab_of_laid {W : World} (h : laidMetH Tryd.prog Rows.echoedRow.laid W) : Tab W := by
  rw [MakeChecks.laidMetH_plain _ _ _ (by kernel_rfl)] at h
  obtain ⟨ps, ⟨g0, t0, cs0, f0, p0, q0, hg0, ht0, hv0, hd0, _⟩, _, _⟩ := h
  obtain rfl := Option.some.inj (gShapes.symm.trans hg0)
  obtain rfl := Option.some.inj (tShapes.symm.trans ht0)
  obtain ⟨xs, m1, rfl, hx, hlen, hn, hel⟩ := DataW.trod_array Tryd.underlying95 hd0
  simp only [Prod.mk.injEq] at hx
  have hcell := fun j => World.var?_cell hg0 hv0 j
  intro k hk
  obtain ⟨i, r, hr, rfl⟩ : ∃ i r, r < 3 ∧ k = i * 3 + r := ⟨k / 3, k % 3, by omega, by omega⟩
  have hi : i < 21 := by omega
  have hxi : (xs.map (·.1))[i]? = some (.agg [.lit (.int .i64 (shp (i * 3))), .lit (.int .i64 (shp (i * 3 + 1))), .lit (.int .i64 (shp (i * 3 + 2)))]) := by
    have e : (DataW.agg (xs.map (·.1)) : DataW Unit) = Rows.laid_prowl_program_shapes := hx.1.symm
    unfold Rows.laid_prowl_program_shapes at e
    simp only [DataW.agg.injEq] at e
    rw [e]
    match i, hi with
    | 0, _ | 1, _ | 2, _ | 3, _ | 4, _ | 5, _ | 6, _ | 7, _ | 8, _ | 9, _ | 10, _ | 11, _ | 12, _ | 13, _ | 14, _ | 15, _ | 16, _ | 17, _ | 18, _ | 19, _ | 20, _ => rfl
    | i + 21, hi => omega
  rw [List.getElem?_map, Option.map_eq_some_iff] at hxi
  obtain ⟨x, hx1, hx2⟩ := hxi
  have he := hel i hi
  rw [hx1, Tryd.cellsShape] at he
  obtain ⟨a0, a1, a2⟩ := shape_cells he hx2
  have hc : ∀ r, r < 3 → ∀ v, ((cs0.toList.drop (i * 3)).take 3)[r]? = some v → W.cell? ⟨0, i * 3 + r, none⟩ = some v := by
    intro r hr v hv
    rw [List.getElem?_take, if_pos hr, List.getElem?_drop] at hv
    rw [hcell]
    simpa using hv
  match r, hr with
  | 0, _ => exact hc 0 (by omega) _ a0
  | 1, _ => exact hc 1 (by omega) _ a1
  | 2, _ => exact hc 2 (by omega) _ a2
  | r + 3, hr => omega
end Go.Proofs.YtflenkppcclclaaDoor

namespace Go.Proofs.YtflenkppcclclaaDoor
open Go.ChangeShapes Go.WideShapes Go.ChangeAt Go.WideMaps Go.WideElems Go.RowKit Go.Deep

theorem gMarked : Tryd.prog.globalNamed "prowl/changes.marked" = some 1 := by kernel_rfl
theorem tMarked : (Tryd.prog.globals[1]?).map (·.type) = some 105 := by kernel_rfl
theorem Tryd.cellsByte : Tryd.prog.cellsOf 5 = 1 := by kernel_rfl

theorem both_of_vars {W : World} {ps : List MemPlace} (h : DataW.LaidVars Tryd.prog W Rows.wildlyRow.laid ps) : Tab W ∧ Mrk W := by
  obtain ⟨g0, t0, cs0, f0, p0, q0, hg0, ht0, hv0, hd0, hrest⟩ := h
  refine ⟨?_, ?_⟩
  · clear hrest
    obtain rfl := Option.some.inj (gShapes.symm.trans hg0)
    obtain rfl := Option.some.inj (tShapes.symm.trans ht0)
    obtain ⟨xs, m1, rfl, hx, hlen, hn, hel⟩ := DataW.trod_array Tryd.underlying95 hd0
    simp only [Prod.mk.injEq] at hx
    have hcell := fun j => World.var?_cell hg0 hv0 j
    intro k hk
    obtain ⟨i, r, hr, rfl⟩ : ∃ i r, r < 3 ∧ k = i * 3 + r := ⟨k / 3, k % 3, by omega, by omega⟩
    have hi : i < 21 := by omega
    have hxi : (xs.map (·.1))[i]? = some (.agg [.lit (.int .i64 (shp (i * 3))), .lit (.int .i64 (shp (i * 3 + 1))), .lit (.int .i64 (shp (i * 3 + 2)))]) := by
      have e : (DataW.agg (xs.map (·.1)) : DataW Unit) = Rows.laid_prowl_program_shapes := hx.1.symm
      unfold Rows.laid_prowl_program_shapes at e
      simp only [DataW.agg.injEq] at e
      rw [e]
      match i, hi with
      | 0, _ | 1, _ | 2, _ | 3, _ | 4, _ | 5, _ | 6, _ | 7, _ | 8, _ | 9, _ | 10, _ | 11, _ | 12, _ | 13, _ | 14, _ | 15, _ | 16, _ | 17, _ | 18, _ | 19, _ | 20, _ => rfl
      | i + 21, hi => omega
    rw [List.getElem?_map, Option.map_eq_some_iff] at hxi
    obtain ⟨x, hx1, hx2⟩ := hxi
    have he := hel i hi
    rw [hx1, Tryd.cellsShape] at he
    obtain ⟨a0, a1, a2⟩ := shape_cells he hx2
    have hc : ∀ r, r < 3 → ∀ v, ((cs0.toList.drop (i * 3)).take 3)[r]? = some v → W.cell? ⟨0, i * 3 + r, none⟩ = some v := by
      intro r hr v hv
      rw [List.getElem?_take, if_pos hr, List.getElem?_drop] at hv
      rw [hcell]
      simpa using hv
    match r, hr with
    | 0, _ => exact hc 0 (by omega) _ a0
    | 1, _ => exact hc 1 (by omega) _ a1
    | 2, _ => exact hc 2 (by omega) _ a2
    | r + 3, hr => omega
  · obtain ⟨⟨g1, t1, cs1, f1, p1, q1, hg1, ht1, hv1, hd1, _⟩, _⟩ := hrest
    clear hd0 hv0 ht0 hg0
    obtain rfl := Option.some.inj (gMarked.symm.trans hg1)
    obtain rfl := Option.some.inj (tMarked.symm.trans ht1)
    obtain ⟨xs, m1, rfl, hx, hlen, hn, hel⟩ := DataW.trod_array Tryd.underlying105 hd1
    simp only [Prod.mk.injEq] at hx
    have hcell := fun j => World.var?_cell hg1 hv1 j
    intro k hk
    have hxi : (xs.map (·.1))[k]? = some (.lit (.int .u8 (markL k))) := by
      have e : (DataW.agg (xs.map (·.1)) : DataW Unit) = Rows.laid_prowl_changes_marked := hx.1.symm
      unfold Rows.laid_prowl_changes_marked at e
      simp only [DataW.agg.injEq] at e
      rw [e]
      match k, hk with
      | 0, _ | 1, _ | 2, _ | 3, _ | 4, _ => rfl
      | k + 5, hk => omega
    rw [List.getElem?_map, Option.map_eq_some_iff] at hxi
    obtain ⟨x, hx1, hx2⟩ := hxi
    have he := hel k hk
    rw [hx1, Tryd.cellsByte] at he
    obtain ⟨k0, c0, d0, _⟩ := DataW.trod_int Tryd.underlying5 he
    rw [d0] at hx2
    simp only [DataW.lit.injEq, Lit.int.injEq, true_and] at hx2
    subst hx2
    rw [hcell]
    have := one_of c0
    simpa using this
theorem both_of_laid {W : World} (h : laidMetH Tryd.prog Rows.wildlyRow.laid W) : Tab W ∧ Mrk W := by
  rw [MakeChecks.laidMetH_plain _ _ _ (by kernel_rfl)] at h
  obtain ⟨ps, h0, _⟩ := h
  exact both_of_vars h0
end Go.Proofs.YtflenkppcclclaaDoor

namespace Go.Proofs.YtflenkppcclclaaDoor
open Go.ChangeShapes Go.WideShapes Go.ChangeAt Go.RowKit
open Go.ChangeMaps (open_string shut_string)

theorem Tryd.own : ownKnob Tryd.prog.godebug = none := by kernel_rfl
theorem int_bounds {x : Int} (h : (Lit.int .i64 x).wf = true) : -9223372036854775808 ≤ x ∧ x ≤ 9223372036854775807 := by
  simp [Lit.wf, IntKind.min, IntKind.max, IntKind.signed, IntKind.bits] at h
  exact ⟨by omega, by omega⟩

/-- The door's own heap meets the condition. -/
theorem door_met (os : Os) (args : Array Value) : laidMetH Tryd.prog Rows.turnedRow.laid ((World.doorLaid Tryd.prog 400 os).forCall (fun _ _ => 0) ⟨#[], args, []⟩).memory :=
  laidMetH_of_parts3 (fuel := 8) (laidMet_of_run' 8 (by kernel_rfl) (by kernel_rfl)) (by kernel_rfl) (by kernel_rfl)

set_option maxRecDepth 100000 in
theorem turned_lifted (os : Os) (started : os.Started) (H : Type) (enc : TypeId × Value → H) :
    ReturnsInHanded {} Tryd.checked os 5 .any (fun w args => (Rows.turnedSpec.pre enc Tryd.prog Tryd.f5 [] false w args ∧ laidMetH Tryd.prog Rows.turnedRow.laid w) ∧ sizedMet enc Tryd.prog Tryd.f5 (OpenSpec.ofChange Rows.turnedSpec) false w args)
      (Rows.turnedSpec.post enc Tryd.prog Tryd.f5 false true false false) := by
  refine returnsInHanded_of_change_and (C := Tryd.checked) (X := fun w _ => laidMetH Tryd.prog Rows.turnedRow.laid w) (fun _ _ _ hh h => h.of_heap hh) Tryd.own started (by kernel_rfl) Tryd.func5
    (ChangeSpec.witness_shaped (enc := enc) (C := Tryd.checked) (os := os) (X := fun w _ => laidMetH Tryd.prog Rows.turnedRow.laid w) false (World.doorLaid Tryd.prog 400 os) #[.string ByteArray.empty, .int .i64 0] 8 rfl (World.shaped_of_RefB (by kernel_rfl) (by kernel_rfl)) (by kernel_rfl) (by kernel_rfl) (by kernel_rfl) (door_met os _)) ?_
  intro W base args ds gs before hval0 hW _ _ hL _
  have hval : ∀ (j : Nat) t v, Tryd.f5.params[j]? = some t → args[j]? = some v → Value.okWide Tryd.prog W .any base t v := hval0
  have hW' := hW
  obtain ⟨p, q, hA0, hV, rfl, hfz, hnd⟩ := hW
  have hA : DataW.TrodAll enc Tryd.prog W 0 (fun _ => true) true Tryd.f5.params.toList args.toList ds p := hA0
  rw [Tryd.params5] at hA hval
  obtain ⟨v0, v1, d0, d1, p0, p1, rfl, rfl, rfl, h0, h1⟩ := trodAll_two hA
  obtain ⟨rfl, rfl⟩ := trodVars_none hV
  obtain ⟨a0, rfl, rfl, rfl, w0⟩ := open_string Tryd.underlying9 (hval 0 9 v0 rfl rfl) h0
  obtain ⟨a1, rfl, rfl, rfl, w1⟩ := open_int Tryd.underlying3 (hval 1 3 v1 rfl rfl) h1
  clear hA0 hval0
  have hb := int_bounds w1
  refine (turned_all W (both_of_laid (show laidMetH Tryd.prog Rows.wildlyRow.laid W from hL)).1 (both_of_laid (show laidMetH Tryd.prog Rows.wildlyRow.laid W from hL)).2 a0 (by unfold maxLen at w0; omega) a1 hb.1 hb.2).mono fun e W' ⟨he, bel⟩ => ?_
  subst he
  exact ⟨_, rfl, _, _, _, [], _, [], hW', trodAll_mk1 (shut_bool Tryd.underlying4 _), trodAll_mk2 (shut_string Tryd.underlying9 w0) (shut_int Tryd.underlying3 w1), rfl, bel.frame _, fun h => by cases h⟩

theorem turned_over : Rows.TurnedSaid :=
  OpenClaim.holds_of_wide 5 Tryd.f5 rfl rfl rfl rfl rfl rfl rfl ⟨rfl, rfl, rfl, rfl, rfl⟩ rfl rfl rfl rfl rfl (by kernel_rfl) Tryd.func5 (by kernel_rfl)
    (of_decide_eq_true (by kernel_rfl)) (by unfold Func.isWrapper; first | (rw [if_pos (by decide +kernel)]; kernel_rfl) | (rw [if_neg (by decide +kernel)]; exact ⟨rfl, rfl⟩))
    (fun os started H enc _ => turned_lifted os started H enc)

theorem turned_holds : Rows.TurnedCardSaid :=
  Claim7.holds_tied_plain_at .later [] [.data, .data] true Rows.turnedCard.stood.harness false
    turned_over (fun _ h => by cases h) (by kernel_rfl) (fun _ h => by cases h) turned_row_tie rfl ⟨rfl, rfl⟩ (by kernel_rfl) rfl
    (fun f fn hf hfn => by
      obtain rfl : f = 5 := Option.some.inj ((show Tryd.prog.funcNamed Rows.turnedRow.func = some 5 by kernel_rfl).symm.trans hf) |>.symm
      obtain rfl : fn = Tryd.f5 := (Option.some.inj (Tryd.func5.symm.trans hfn)).symm
      exact ⟨by kernel_rfl, fun j t ht => by
        rw [Tryd.params5] at ht
        have hm : t ∈ [9, 3] := by simpa using Array.mem_of_getElem? ht
        have hall : ([9, 3].all fun u => !Tryd.prog.wantsStandIn u) = true := by kernel_rfl
        exact (show Tryd.prog.wantsStandIn t = false by simpa using List.all_eq_true.1 hall t hm)⟩)
    (by kernel_rfl)
#print axioms turned_holds
end Go.Proofs.YtflenkppcclclaaDoor

