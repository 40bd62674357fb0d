import Derived.Test.YtflenkppcclclaaDoorM11
import Derived.Test.YtflenkppcclclaaDoorM12
import Derived.Test.YtflenkppcclclaaDoorM13
import Derived.Test.YtflenkppcclclaaDoorM00
import Derived.Test.YtflenkppcclclaaDoorRows
import Derived.ProofKit
import Derived.LaidMore
import Derived.OpenShut
import Derived.Stop.Joined
import Derived.Deep.Strs
import Derived.Test.YtflenkppcclclaaDoorTie
import Derived.Test.YtflenkppcclclaaDoorCards
import Derived.ShutString
import Derived.ChangeOld
import Derived.Below
import Derived.SevenTiedAt
namespace Go.Proofs.YtflenkppcclclaaDoor
open Go.RowKit

theorem short_size (s : ByteArray) : (if 24 < s.size then s.extract 0 24 else s).size ≤ 24 := by
  split
  · rw [Lib.size_eq, Lib.extract_data, List.length_take]; omega
  · omega

/-- 'prowlkeep.Echoed' returns true, whatever it is given, and changes nothing that was there. -/
theorem echoed_all (input : ByteArray) (hin : input.size ≤ 9223372036854775807) (fuel : Int) (h1 : -9223372036854775808 ≤ fuel) (h2 : fuel ≤ 9223372036854775807) (w : World) (hT : Tab w) :
    Calls Tryd.prog 3 #[.string input, .int .i64 fuel] w fun e w' => e = .returned (.bool true) ∧ Below w.heap.size w w' := by
  have hsh : Hid (∀ w, Calls Tryd.prog 8 #[.string input, .int .i64 24] w fun e w' => e = .returned (.string (if 24 < input.size then input.extract 0 24 else input)) ∧ w' = w) := fun w => short_any input hin w
  have hpk : Hid (∀ w, Calls Tryd.prog 9 #[.int .i64 fuel, .int .i64 501] w fun e w' => e = .returned (.int .i64 (pickS fuel 501)) ∧ w' = w) := fun w => pickS_any fuel 501 h1 h2 (by omega) (by omega) w
  have hs := short_size input
  obtain ⟨hf0, hf1⟩ := pickS_bd fuel 501 (by omega)
  generalize (if 24 < input.size then input.extract 0 24 else input) = s at hsh hs
  generalize pickS fuel 501 = f at hpk hf0 hf1
  have hf1' : f ≤ 500 := by omega
  obtain ⟨n, hn⟩ := Int.eq_ofNat_of_zero_le (show 0 ≤ (f + 1) / 8 by omega)
  by_cases h16 : s.size ≤ 16
  · by_cases hT2 : 8 * (s.size : Int) + 7 ≤ f
    · exact ech_done input s fuel f w hT hsh hpk hs hf0 hf1' h16 hT2
    · have hT3 : f < 8 * (s.size : Int) + 7 := by omega
      by_cases hc : n < s.size
      · have hk : f % 8 = 0 ∨ f % 8 = 1 ∨ f % 8 = 2 ∨ f % 8 = 3 ∨ f % 8 = 4 ∨ f % 8 = 5 ∨ f % 8 = 6 ∨ f % 8 = 7 := by omega
        rcases hk with hk | hk | hk | hk | hk | hk | hk | hk
        · exact ech_h0lts input s fuel f w hT hsh hpk hs hf0 hf1' n hn hk hc h16 hT3
        · exact ech_h1lts input s fuel f w hT hsh hpk hs hf0 hf1' n hn hk hc h16 hT3
        · exact ech_h2lts input s fuel f w hT hsh hpk hs hf0 hf1' n hn hk hc h16 hT3
        · exact ech_h3lts input s fuel f w hT hsh hpk hs hf0 hf1' n hn hk hc h16 hT3
        · exact ech_h4lts input s fuel f w hT hsh hpk hs hf0 hf1' n hn hk hc h16 hT3
        · exact ech_h5lts input s fuel f w hT hsh hpk hs hf0 hf1' n hn hk hc h16 hT3
        · exact ech_h6lts input s fuel f w hT hsh hpk hs hf0 hf1' n hn hk hc h16 hT3
        · exact ech_h7lts input s fuel f w hT hsh hpk hs hf0 hf1' n hn hk hc h16 hT3
      · have hc' : s.size ≤ n := by omega
        have hk : f % 8 = 0 ∨ f % 8 = 1 ∨ f % 8 = 2 ∨ f % 8 = 3 ∨ f % 8 = 4 ∨ f % 8 = 5 ∨ f % 8 = 6 ∨ f % 8 = 7 := by omega
        rcases hk with hk | hk | hk | hk | hk | hk | hk | hk
        · exact ech_h0ges input s fuel f w hT hsh hpk hs hf0 hf1' n hn hk hc' h16 hT3
        · exact ech_h1ges input s fuel f w hT hsh hpk hs hf0 hf1' n hn hk hc' h16 hT3
        · exact ech_h2ges input s fuel f w hT hsh hpk hs hf0 hf1' n hn hk hc' h16 hT3
        · exact ech_h3ges input s fuel f w hT hsh hpk hs hf0 hf1' n hn hk hc' h16 hT3
        · exact ech_h4ges input s fuel f w hT hsh hpk hs hf0 hf1' n hn hk hc' h16 hT3
        · exact ech_h5ges input s fuel f w hT hsh hpk hs hf0 hf1' n hn hk hc' h16 hT3
        · exact ech_h6ges input s fuel f w hT hsh hpk hs hf0 hf1' n hn hk hc' h16 hT3
        · exact ech_h7ges input s fuel f w hT hsh hpk hs hf0 hf1' n hn hk hc' h16 hT3
  · have h16' : 16 < s.size := by omega
    by_cases hT2 : 135 ≤ f
    · exact ech_full input s fuel f w hT hsh hpk hs hf0 hf1' h16' hT2
    · have hT3 : f < 135 := by omega
      have hc : n < s.size := by omega
      have hk : f % 8 = 0 ∨ f % 8 = 1 ∨ f % 8 = 2 ∨ f % 8 = 3 ∨ f % 8 = 4 ∨ f % 8 = 5 ∨ f % 8 = 6 ∨ f % 8 = 7 := by omega
      rcases hk with hk | hk | hk | hk | hk | hk | hk | hk
      · exact ech_h0ltb input s fuel f w hT hsh hpk hs hf0 hf1' n hn hk hc h16' hT3
      · exact ech_h1ltb input s fuel f w hT hsh hpk hs hf0 hf1' n hn hk hc h16' hT3
      · exact ech_h2ltb input s fuel f w hT hsh hpk hs hf0 hf1' n hn hk hc h16' hT3
      · exact ech_h3ltb input s fuel f w hT hsh hpk hs hf0 hf1' n hn hk hc h16' hT3
      · exact ech_h4ltb input s fuel f w hT hsh hpk hs hf0 hf1' n hn hk hc h16' hT3
      · exact ech_h5ltb input s fuel f w hT hsh hpk hs hf0 hf1' n hn hk hc h16' hT3
      · exact ech_h6ltb input s fuel f w hT hsh hpk hs hf0 hf1' n hn hk hc h16' hT3
      · exact ech_h7ltb input s fuel f w hT hsh hpk hs hf0 hf1' n hn hk hc h16' hT3
end Go.Proofs.YtflenkppcclclaaDoor

namespace Go.Proofs.YtflenkppcclclaaDoor
open Go.ChangeShapes Go.WideShapes Go.ChangeAt Go.WideMaps Go.WideElems Go.RowKit Go.Deep

theorem gShapes : (Rows.echoedRow.named.head?.bind fun s => Tryd.prog.globalNamed s) = some 0 := by kernel_rfl
theorem tShapes : (Tryd.prog.globals[0]?).map (·.type) = some 95 := by kernel_rfl
theorem Tryd.cellsInt : Tryd.prog.cellsOf 3 = 1 := by kernel_rfl
theorem Tryd.cellsShape : Tryd.prog.cellsOf 75 = 3 := by kernel_rfl

theorem one_of {cs : List Value} {r : Nat} {v : Value} (h : (cs.drop r).take 1 = [v]) : cs[r]? = some v := by
  have : ((cs.drop r).take 1)[0]? = some v := by rw [h]; rfl
  rw [List.getElem?_take, if_pos (by omega), List.getElem?_drop, Nat.add_zero] at this
  exact this

theorem shape_cells {H : Type} {enc : TypeId × Value → H} {W : World} {base : Nat} {spare : Nat → Bool} {held : Bool} {m : Nat} {cs : List Value} {x : DataW H × List MemPlace} {a b c : Int}
    (h : DataW.trod enc Tryd.prog W base spare held m 75 cs = some x) (hx : x.1 = .agg [.lit (.int .i64 a), .lit (.int .i64 b), .lit (.int .i64 c)]) :
    cs[0]? = some (.int .i64 a) ∧ cs[1]? = some (.int .i64 b) ∧ cs[2]? = some (.int .i64 c) := by
  obtain ⟨y0, y1, y2, n, rfl, hlen, e0, e1, e2⟩ := trod_struct3 Tryd.underlying75 h
  simp only [Tryd.cellsInt] at e0 e1 e2
  obtain ⟨k0, c0, d0, _⟩ := DataW.trod_int Tryd.underlying3 e0
  obtain ⟨k1, c1, d1, _⟩ := DataW.trod_int Tryd.underlying3 e1
  obtain ⟨k2, c2, d2, _⟩ := DataW.trod_int Tryd.underlying3 e2
  rw [d0, d1, d2] at hx
  simp only [DataW.agg.injEq, List.cons.injEq, DataW.lit.injEq, Lit.int.injEq, and_true, true_and] at hx
  obtain ⟨rfl, rfl, rfl⟩ := hx
  exact ⟨one_of c0, one_of c1, one_of c2⟩

/-- The condition gives the table, cell by cell. -/
theorem tab_of_laid {W : World} (h : laidMetH Tryd.prog Rows.echoedRow.laid W) : Tab W := by
  rw [MakeChecks.laidMetH_plain _ _ _ (by kernel_rfl)] at h
  obtain ⟨ps, ⟨g0, t0, cs0, f0, p0, q0, hg0, ht0, hv0, hd0, _⟩, _, _⟩ := h
  obtain rfl := Option.some.inj (gShapes.symm.trans hg0)
  obtain rfl := Option.some.inj (tShapes.symm.trans ht0)
  obtain ⟨xs, m1, rfl, hx, hlen, hn, hel⟩ := DataW.trod_array Tryd.underlying95 hd0
  simp only [Prod.mk.injEq] at hx
  have hcell := fun j => World.var?_cell hg0 hv0 j
  intro k hk
  obtain ⟨i, r, hr, rfl⟩ : ∃ i r, r < 3 ∧ k = i * 3 + r := ⟨k / 3, k % 3, by omega, by omega⟩
  have hi : i < 21 := by omega
  have hxi : (xs.map (·.1))[i]? = some (.agg [.lit (.int .i64 (shp (i * 3))), .lit (.int .i64 (shp (i * 3 + 1))), .lit (.int .i64 (shp (i * 3 + 2)))]) := by
    have e : (DataW.agg (xs.map (·.1)) : DataW Unit) = Rows.laid_prowl_program_shapes := hx.1.symm
    unfold Rows.laid_prowl_program_shapes at e
    simp only [DataW.agg.injEq] at e
    rw [e]
    match i, hi with
    | 0, _ | 1, _ | 2, _ | 3, _ | 4, _ | 5, _ | 6, _ | 7, _ | 8, _ | 9, _ | 10, _ | 11, _ | 12, _ | 13, _ | 14, _ | 15, _ | 16, _ | 17, _ | 18, _ | 19, _ | 20, _ => rfl
    | i + 21, hi => omega
  rw [List.getElem?_map, Option.map_eq_some_iff] at hxi
  obtain ⟨x, hx1, hx2⟩ := hxi
  have he := hel i hi
  rw [hx1, Tryd.cellsShape] at he
  obtain ⟨a0, a1, a2⟩ := shape_cells he hx2
  have hc : ∀ r, r < 3 → ∀ v, ((cs0.toList.drop (i * 3)).take 3)[r]? = some v → W.cell? ⟨0, i * 3 + r, none⟩ = some v := by
    intro r hr v hv
    rw [List.getElem?_take, if_pos hr, List.getElem?_drop] at hv
    rw [hcell]
    simpa using hv
  match r, hr with
  | 0, _ => exact hc 0 (by omega) _ a0
  | 1, _ => exact hc 1 (by omega) _ a1
  | 2, _ => exact hc 2 (by omega) _ a2
  | r + 3, hr => omega
end Go.Proofs.YtflenkppcclclaaDoor

namespace Go.Proofs.YtflenkppcclclaaDoor
open Go.ChangeShapes Go.WideShapes Go.ChangeAt Go.RowKit
open Go.ChangeMaps (open_string shut_string)

theorem Tryd.own : ownKnob Tryd.prog.godebug = none := by kernel_rfl
theorem int_bounds {x : Int} (h : (Lit.int .i64 x).wf = true) : -9223372036854775808 ≤ x ∧ x ≤ 9223372036854775807 := by
  simp [Lit.wf, IntKind.min, IntKind.max, IntKind.signed, IntKind.bits] at h
  exact ⟨by omega, by omega⟩

/-- The door's own heap meets the condition. -/
theorem door_met (os : Os) (args : Array Value) : laidMetH Tryd.prog Rows.echoedRow.laid ((World.doorLaid Tryd.prog 400 os).forCall (fun _ _ => 0) ⟨#[], args, []⟩).memory :=
  laidMetH_of_parts3 (fuel := 8) (laidMet_of_run' 8 (by kernel_rfl) (by kernel_rfl)) (by kernel_rfl) (by kernel_rfl)

set_option maxRecDepth 100000 in
theorem echoed_lifted (os : Os) (started : os.Started) (H : Type) (enc : TypeId × Value → H) :
    ReturnsInHanded {} Tryd.checked os 3 .any (fun w args => (Rows.echoedSpec.pre enc Tryd.prog Tryd.f3 [] false w args ∧ laidMetH Tryd.prog Rows.echoedRow.laid w) ∧ sizedMet enc Tryd.prog Tryd.f3 (OpenSpec.ofChange Rows.echoedSpec) false w args)
      (Rows.echoedSpec.post enc Tryd.prog Tryd.f3 false true false false) := by
  refine returnsInHanded_of_change_and (C := Tryd.checked) (X := fun w _ => laidMetH Tryd.prog Rows.echoedRow.laid w) (fun _ _ _ hh h => h.of_heap hh) Tryd.own started (by kernel_rfl) Tryd.func3
    (ChangeSpec.witness_shaped (enc := enc) (C := Tryd.checked) (os := os) (X := fun w _ => laidMetH Tryd.prog Rows.echoedRow.laid w) false (World.doorLaid Tryd.prog 400 os) #[.string ByteArray.empty, .int .i64 0] 8 rfl (World.shaped_of_RefB (by kernel_rfl) (by kernel_rfl)) (by kernel_rfl) (by kernel_rfl) (by kernel_rfl) (door_met os _)) ?_
  intro W base args ds gs before hval0 hW _ _ hL _
  have hval : ∀ (j : Nat) t v, Tryd.f3.params[j]? = some t → args[j]? = some v → Value.okWide Tryd.prog W .any base t v := hval0
  have hW' := hW
  obtain ⟨p, q, hA0, hV, rfl, hfz, hnd⟩ := hW
  have hA : DataW.TrodAll enc Tryd.prog W 0 (fun _ => true) true Tryd.f3.params.toList args.toList ds p := hA0
  rw [Tryd.params3] at hA hval
  obtain ⟨v0, v1, d0, d1, p0, p1, rfl, rfl, rfl, h0, h1⟩ := trodAll_two hA
  obtain ⟨rfl, rfl⟩ := trodVars_none hV
  obtain ⟨a0, rfl, rfl, rfl, w0⟩ := open_string Tryd.underlying9 (hval 0 9 v0 rfl rfl) h0
  obtain ⟨a1, rfl, rfl, rfl, w1⟩ := open_int Tryd.underlying3 (hval 1 3 v1 rfl rfl) h1
  clear hA0 hval0
  have hb := int_bounds w1
  refine (echoed_all a0 (by unfold maxLen at w0; omega) a1 hb.1 hb.2 W (tab_of_laid hL)).mono fun e W' ⟨he, bel⟩ => ?_
  subst he
  exact ⟨_, rfl, _, _, _, [], _, [], hW', trodAll_mk1 (shut_bool Tryd.underlying4 _), trodAll_mk2 (shut_string Tryd.underlying9 w0) (shut_int Tryd.underlying3 w1), rfl, bel.frame _, fun h => by cases h⟩

theorem echoed_over : Rows.EchoedSaid :=
  OpenClaim.holds_of_wide 3 Tryd.f3 rfl rfl rfl rfl rfl rfl rfl ⟨rfl, rfl, rfl, rfl, rfl⟩ rfl rfl rfl rfl rfl (by kernel_rfl) Tryd.func3 (by kernel_rfl)
    (of_decide_eq_true (by kernel_rfl)) (by unfold Func.isWrapper; first | (rw [if_pos (by decide +kernel)]; kernel_rfl) | (rw [if_neg (by decide +kernel)]; exact ⟨rfl, rfl⟩))
    (fun os started H enc _ => echoed_lifted os started H enc)

theorem echoed_holds : Rows.EchoedCardSaid :=
  Claim7.holds_tied_plain_at .later [] [.data] true Rows.echoedCard.stood.harness false
    echoed_over (fun _ h => by cases h) (by kernel_rfl) (fun _ h => by cases h) echoed_row_tie rfl ⟨rfl, rfl⟩ (by kernel_rfl) rfl
    (fun f fn hf hfn => by
      obtain rfl : f = 3 := Option.some.inj ((show Tryd.prog.funcNamed Rows.echoedRow.func = some 3 by kernel_rfl).symm.trans hf) |>.symm
      obtain rfl : fn = Tryd.f3 := (Option.some.inj (Tryd.func3.symm.trans hfn)).symm
      exact ⟨by kernel_rfl, fun j t ht => by
        rw [Tryd.params3] at ht
        have hm : t ∈ [9, 3] := by simpa using Array.mem_of_getElem? ht
        have hall : ([9, 3].all fun u => !Tryd.prog.wantsStandIn u) = true := by kernel_rfl
        exact (show Tryd.prog.wantsStandIn t = false by simpa using List.all_eq_true.1 hall t hm)⟩)
    (by kernel_rfl)
#print axioms echoed_holds
end Go.Proofs.YtflenkppcclclaaDoor

