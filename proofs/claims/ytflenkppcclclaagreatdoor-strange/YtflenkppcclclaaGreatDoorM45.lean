import Derived.Test.YtflenkppcclclaaGreatDoorM42
import Derived.Test.YtflenkppcclclaaGreatDoorM44
import Derived.Deep.RegionHeld3
import Derived.Deep.DeepFit
import Derived.Test.YtflenkppcclclaaGreatDoorM00
import Derived.Test.YtflenkppcclclaaGreatDoorRows
import Derived.ProofKit
import Derived.LaidMore
import Derived.OpenShut
import Derived.Stop.Joined
import Derived.Deep.Strs
import Derived.Test.YtflenkppcclclaaGreatDoorM20
namespace Go.Proofs.YtflenkppcclclaaGreatDoor
open Go.RowKit

/-! Strange. -/
theorem LA.resume {w : World} {v tv : Value} {seed fuel pk : Int} {g : PG} {l : List ByteArray} (A : LA w v tv seed fuel pk g l) (W : World) (b : Below w.heap.size w W) (cb co cap : Nat) (C : Laid W cb co g.L cap g.c) (lg : ByteArray) (hs : lg.size ≤ 9223372036854775806) :
    Calls Tryz.prog 24 #[.slice (some ⟨cb, co, none⟩) g.L cap, .string lg, .int .u64 seed, .int .i64 (1 + pk)] W (ResPost W.heap.size g seed lg W) := by
  have h2 := (A.mrk.all b).two
  have := xResume_any W cb co cap g A.ok C lg hs seed A.sd0 A.sd1 (A.tab.below b) (A.mrk.all b) (by omega)
  rw [A.fu] at this
  exact this
/-- What was followed to the end is the log, up to its last line's end. -/
theorem fol_log {R : ByteArray → Sh} {seed : Int} {log : ByteArray} {h' : HS} (hf : followS R 1 (HS.zero seed) (linesL (nums log)) = (h', none)) : strOfNums (logL h'.hist) = log.extract 0 (endL (nums log)) := by
  obtain ⟨l, e1, _, e3⟩ := follow_ok R _ _ _ _ hf
  have hh := (retry_is R l _ _ e3).1
  have e : h'.hist = l := by rw [hh]; rfl
  rw [e, log_join, ← e1, ← take_endL]
  apply nums_inj
  rw [nums_str (fun x hx => nums_byt log x (List.mem_of_mem_take hx)), nums_extract, List.drop_zero, Nat.sub_zero]
theorem take_next (l : List Int) (i : Nat) (hi : i < l.length) : l.take (i + 1) = l.take i ++ [l.getD i 0] := by
  rw [List.take_succ_eq_append_getElem hi, List.getD_eq_getElem?_getD, List.getElem?_eq_getElem hi]
  rfl
/-- How far the lines have been counted. -/
structure LnC (l : List Int) (n i m a : Nat) : Prop where
  le : i ≤ l.length
  num : (linesL (l.take i)).length = m
  most : m ≤ n
  at' : endL (l.take i) = a
theorem LnC.next {l : List Int} {n i m a : Nat} (c : LnC l n i m a) (hi : i < l.length) (hm : m < n) : if l.getD i 0 = 10 then LnC l n (i + 1) (m + 1) (i + 1) else LnC l n (i + 1) m a := by
  have hs := lines_snoc (l.take i) (l.getD i 0)
  rw [← take_next l i hi, c.num, c.at', List.length_take, Nat.min_eq_left c.le] at hs
  split
  · rename_i e
    rw [if_pos e, if_pos e] at hs
    exact ⟨by omega, hs.1, by omega, hs.2⟩
  · rename_i e
    rw [if_neg e, if_neg e] at hs
    exact ⟨by omega, hs.1, c.most, hs.2⟩
theorem LnC.end' {l : List Int} {n i m a : Nat} (c : LnC l n i m a) (hn : n ≤ (linesL l).length) (h : i = l.length ∨ n ≤ m) : m = n := by
  have := c.most
  rcases h with h | h
  · have e := c.num
    rw [h, List.take_length] at e
    omega
  · omega
theorem LnC.a_le {l : List Int} {n i m a : Nat} (c : LnC l n i m a) : a ≤ l.length := by
  have := endL_le (l.take i)
  rw [c.at', List.length_take] at this
  omega
/-- A wrong line is wrong, whatever follows. -/
theorem fol_more {R : ByteArray → Sh} {seed : Int} {log more : ByteArray} {h' : HS} {n i a : Nat} (hf : followS R 1 (HS.zero seed) (linesL (nums log)) = (h', some n)) (c : LnC (nums log) n i n a) : followS R 1 (HS.zero seed) (linesL (nums (log.extract 0 a ++ more))) = (h', some n) := by
  obtain ⟨h1, h2, h3⟩ := follow_bad R _ _ _ _ _ hf
  have e : linesL (nums (log.extract 0 a ++ more)) = (linesL (nums log)).take n ++ linesL (nums more) := by
    rw [nums_append, nums_extract, List.drop_zero, Nat.sub_zero, ← c.at']
    exact lines_first (nums log) (nums more) i n c.num
  rw [e]
  have := h3 (linesL (nums more))
  rw [show n - 1 + 1 = n by omega] at this
  exact this
set_option maxHeartbeats 1000000 in
set_option maxRecDepth 100000 in
theorem strange_all (w : World) (v tv : Value) (seed fuel pk : Int) (g : PG) (A : LA w v tv seed fuel pk g []) (log : ByteArray) (hlog : log.size ≤ 140737488355328) (more : ByteArray) (hmore : more.size ≤ 140737488355328) :
    Calls Tryz.prog 10 #[v, .string log, .string more, .int .u64 seed, .int .i64 fuel] w fun e w' => e = .returned (.bool true) ∧ Below w.heap.size w w' := by
  have H0 : Hid (Calls Tryz.prog 12 #[] w fun e w' => e = .returned (.bool true) ∧ Below w.heap.size w w') := A.prowled
  have H2 : Hid (∀ W, Below w.heap.size w W → Calls Tryz.prog 14 #[v] W fun e w' => ∃ cb co cap, e = .returned (.slice (some ⟨cb, co, none⟩) g.L cap) ∧ Below W.heap.size W w' ∧ Laid w' cb co g.L cap g.c) := A.prog
  have H3 : Hid (∀ W, Calls Tryz.prog 15 #[.int .i64 fuel, .int .i64 200] W fun e w' => e = .returned (.int .i64 pk) ∧ w' = W) := A.pick
  have H4 : Hid (∀ W, Below w.heap.size w W → ∀ cb co cap, Laid W cb co g.L cap g.c → ∀ lg : ByteArray, lg.size ≤ 9223372036854775806 → Calls Tryz.prog 24 #[.slice (some ⟨cb, co, none⟩) g.L cap, .string lg, .int .u64 seed, .int .i64 (1 + pk)] W (ResPost W.heap.size g seed lg W)) := fun W b cb co cap C lg hs => A.resume W b cb co cap C lg hs
  have pk0 := A.pk0
  have pk1 := A.pk1
  clear A
  obtain ⟨gL, hgL⟩ : ∃ x, g.L = x := ⟨_, rfl⟩
  rw [hgL] at H2 H4
  clear hgL
  have HIX : Hid (∀ q, q < log.size → (∀ W : World, (Instr.index 9 (.string log) (.int .i64 (q : Int))).run Tryz.prog W = .ok (.int .u8 ((nums log).getD q 0)) W)) := fun q hq => idx_str' log q hq
  have HLN : Hid ((nums log).length = log.size) := nums_len log
  go_enter Tryz.func10, Tryz.ntmps10
  go_wp2_with fail
  refine H0.out.mono ?_
  rintro e w1 ⟨rfl, B1⟩
  have HB1 : Hid (Below w.heap.size w w1) := B1
  clear B1 H0
  go_wp2_with fail
  refine (H2.out w1 HB1.out).mono ?_
  rintro e w2 ⟨cb, co, cap, rfl, B2, C2⟩
  have HB2 : Hid (Below w.heap.size w w2 ∧ Laid w2 cb co gL cap g.c) := ⟨HB1.out.trans (B2.mono HB1.out.size), C2⟩
  clear B2 C2 H2 HB1
  go_wp2_with fail
  refine (H3.out w2).mono ?_
  rintro e w3 ⟨rfl, hw⟩
  obtain rfl := hw.symm
  have H5 : Hid (Calls Tryz.prog 24 #[.slice (some ⟨cb, co, none⟩) gL cap, .string log, .int .u64 seed, .int .i64 (1 + pk)] w2 (ResPost w2.heap.size g seed log w2)) := H4.out w2 HB2.out.1 cb co cap HB2.out.2 log (by omega)
  clear H3
  go_wp2_with fail
  refine H5.out.mono ?_
  rintro e w4 ⟨B4, ⟨h', H, U, hf, rfl, pw⟩ | ⟨h', n, hf, rfl⟩⟩
  · have HB4 : Hid (Below w.heap.size w w4) := HB2.out.1.trans (B4.mono HB2.out.1.size)
    have HXL : Hid (∀ W, Below w4.heap.size w4 W → Calls Tryz.prog 23 #[.pointer (some ⟨H, 0, none⟩)] W fun e w' => e = .returned (.string (log.extract 0 (endL (nums log)))) ∧ Below w.heap.size w w') := fun W b => by
      have := (pw.below b).log
      rw [fol_log hf] at this
      have bb : Below w.heap.size w W := HB4.out.trans (b.mono HB4.out.size)
      exact this.mono fun e w' ⟨x, y⟩ => ⟨x, bb.trans (y.mono bb.size)⟩
    clear B4 hf pw HB2 H4 H5
    go_wp2_with fail
    go_loopw [17] (fun ev wr => ∃ e : Nat, e ≤ log.size ∧ ev = .int .i64 e ∧ (∀ j, e ≤ j → j < (nums log).length → (nums log).getD j 0 ≠ 10) ∧ wr = w4) (fun ev _ => (intOf ev).toNat)
    case atStart => exact ⟨log.size, Nat.le_refl _, rfl, fun j h1 h2 => by have := HLN.out; omega, rfl⟩
    case round =>
      obtain ⟨e, he, rfl, hno, hwr⟩ := hrel
      obtain rfl := hwr.symm
      have HNO : Hid (∀ j, e ≤ j → j < (nums log).length → (nums log).getD j 0 ≠ 10) := hno
      clear hno
      by_cases h0 : 0 < e
      · have hi0 : (0 : Int) < (e : Int) := by omega
        have hx := HIX.out (e - 1) (by omega)
        have ec : (((e - 1 : Nat) : Nat) : Int) = (e : Int) - 1 := by omega
        rw [ec] at hx
        obtain ⟨x, hxx⟩ : ∃ x, (nums log).getD (e - 1) 0 = x := ⟨_, rfl⟩
        rw [hxx] at hx
        have HXX : Hid ((nums log).getD (e - 1) 0 = x) := hxx
        clear hxx ec
        by_cases h10 : x = 10
        · subst h10
          have HEE : Hid (e = endL (nums log)) := endL_is _ _ HNO.out (Or.inr HXX.out)
          have heI : (e : Int) ≤ (log.size : Int) := by omega
          clear HXX
          have HX2 : Hid (∀ W, Below w4.heap.size w4 W → Calls Tryz.prog 23 #[.pointer (some ⟨H, 0, none⟩)] W fun r w' => r = .returned (.string (log.extract 0 e)) ∧ Below w.heap.size w w') := by
            have h := HXL
            rw [← HEE.out] at h
            exact h
          clear HXL HEE HNO
          go_wp2_with fail
          go_region_held3 (fun _ => True) (trivial) (first
            | (go_at_call 23; go_fit (HX2.out w4.drew (Below.refl _ _).drew); rintro e w5 ⟨rfl, b5⟩; have HB5 : Hid (Below w.heap.size w w5) := b5; clear b5))
          all_goals
            go_wp2_with fail
            go_ret
            exact ⟨by kernel_rfl, HB5.out⟩
        · go_wp2_with fail
          go_roundw
          case rel => exact ⟨e - 1, by omega, by go_num, fun j h1 h2 => by
            by_cases c : j = e - 1
            · rw [c, HXX.out]; exact h10
            · exact HNO.out j (by omega) h2, trivial⟩
          case measure => simp [intOf]; omega
      · have hi0 : ¬ (0 : Int) < (e : Int) := by omega
        obtain rfl : e = 0 := by omega
        have HEE : Hid (0 = endL (nums log)) := endL_is _ _ HNO.out (Or.inl rfl)
        have heI : (0 : Int) ≤ (log.size : Int) := by omega
        have HX2 : Hid (∀ W, Below w4.heap.size w4 W → Calls Tryz.prog 23 #[.pointer (some ⟨H, 0, none⟩)] W fun e w' => e = .returned (.string (log.extract 0 0)) ∧ Below w.heap.size w w') := by
            have h := HXL
            rw [← HEE.out] at h
            exact h
        clear HXL HEE HNO
        go_wp2_with fail
        go_region_held3 (fun _ => True) (trivial) (first
          | (go_at_call 23; go_fit (HX2.out w4.drew (Below.refl _ _).drew); rintro e w5 ⟨rfl, b5⟩; have HB5 : Hid (Below w.heap.size w w5) := b5; clear b5))
        all_goals
          go_wp2_with fail
          go_ret
          exact ⟨by kernel_rfl, HB5.out⟩
  · have HB4 : Hid (Below w.heap.size w w4 ∧ Laid w4 cb co gL cap g.c) := ⟨HB2.out.1.trans (B4.mono HB2.out.1.size), HB2.out.2.below B4⟩
    obtain ⟨h1n, hnl, _⟩ := follow_bad g.R _ _ _ _ _ hf
    have HNL : Hid (n ≤ (linesL (nums log)).length) := by show n ≤ _; omega
    have hnb : n ≤ log.size := by
      have h1 : (linesL (nums log)).length ≤ (joinL (linesL (nums log))).length := by
        have : ∀ ls : List (List Int), ls.length ≤ (joinL ls).length := by
          intro ls
          induction ls with
          | nil => simp
          | cons x ls ih => simp [joinL]; omega
        exact this _
      have h2 := endL_le (nums log)
      have h3 := HLN.out
      unfold endL at h2
      have h4 := HNL.out
      omega
    have HFM : Hid (∀ i a, LnC (nums log) n i n a → followS g.R 1 (HS.zero seed) (linesL (nums (log.extract 0 a ++ more))) = (h', some n)) := fun i a c => fol_more hf c
    clear B4 HB2 H5 hnl hf
    go_wp2_with fail
    go_loopw [18, 19, 20] (fun lv av iv wr => ∃ i m a : Nat, iv = .int .i64 i ∧ lv = .int .i64 ((1 : Int) + m) ∧ av = .int .i64 a ∧ LnC (nums log) n i m a ∧ wr = w4) (fun _ _ iv _ => log.size - (intOf iv).toNat)
    case atStart => exact ⟨0, 0, 0, rfl, rfl, rfl, ⟨Nat.zero_le _, rfl, Nat.zero_le _, rfl⟩, rfl⟩
    case round =>
      obtain ⟨i, m, a, rfl, rfl, rfl, hc, hwr⟩ := hrel
      obtain rfl := hwr.symm
      have hmn := hc.most
      have hil : i ≤ log.size := by have := hc.le; have := HLN.out; omega
      by_cases hgo : i < log.size ∧ m < n
      · have hi1 : (i : Int) < (log.size : Int) := by omega
        have hi2 : (1 : Int) + (m : Int) ≤ (n : Int) := by omega
        have hx := HIX.out i hgo.1
        have hnx := hc.next (by have := HLN.out; omega) hgo.2
        have HGO : Hid (i < log.size) := hgo.1
        clear hc hgo
        obtain ⟨x, hxx⟩ : ∃ x, (nums log).getD i 0 = x := ⟨_, rfl⟩
        rw [hxx] at hx hnx
        clear hxx
        by_cases h10 : x = 10
        · subst h10
          rw [if_pos rfl] at hnx
          have HNX : Hid (LnC (nums log) n (i + 1) (m + 1) (i + 1)) := hnx
          clear hnx
          go_wp2_with fail
          go_roundw
          case rel => exact ⟨i + 1, m + 1, i + 1, by go_num, by go_num, by go_num, HNX.out, trivial⟩
          case measure => have := HGO.out; simp [intOf]; omega
        · rw [if_neg h10] at hnx
          have HNX : Hid (LnC (nums log) n (i + 1) m a) := hnx
          clear hnx
          go_wp2_with fail
          go_roundw
          case rel => exact ⟨i + 1, m, a, by go_num, rfl, rfl, HNX.out, trivial⟩
          case measure => have := HGO.out; simp [intOf]; omega
      · have hend : m = n := hc.end' HNL.out (by have := HLN.out; omega)
        subst hend
        have hal := hc.a_le
        have haI : (a : Int) ≤ (log.size : Int) := by have := HLN.out; omega
        have hsz : (log.extract 0 a).size ≤ log.size := by rw [Lib.size_eq, Lib.extract_data, List.length_take, List.length_drop, ← Lib.size_eq]; omega
        have hsa : (log.extract 0 a ++ more).size = (log.extract 0 a).size + more.size := by simp
        have H6 : Hid (Calls Tryz.prog 24 #[.slice (some ⟨cb, co, none⟩) gL cap, .string (log.extract 0 a ++ more), .int .u64 seed, .int .i64 (1 + pk)] w4 fun e w' => Below w.heap.size w w' ∧ e = .returned (.tuple #[.pointer none, .int .i64 (m : Nat), .int .i64 5])) := by
          refine (H4.out w4 HB4.out.1 cb co cap HB4.out.2 (log.extract 0 a ++ more) (by omega)).mono ?_
          have hfm := HFM.out i a hc
          rintro e w' ⟨B, ⟨h2, H2, U2, hf2, _, _⟩ | ⟨h2, n2, hf2, rfl⟩⟩
          · rw [hfm] at hf2; cases hf2
          · rw [hfm] at hf2
            injection hf2 with _ q
            injection q with q
            subst q
            exact ⟨HB4.out.1.trans (B.mono HB4.out.1.size), rfl⟩
        have hn1 : ¬ (m : Int) < 1 := by omega
        have hcase : (¬ (i : Int) < (log.size : Int)) ∨ ((i : Int) < (log.size : Int) ∧ ¬ (1 : Int) + (m : Int) ≤ (m : Int)) := by omega
        have hcomm : (1 : Int) + (m : Int) = (m : Int) + 1 := by omega
        clear hc HFM hgo hmn H4 HIX
        rcases hcase with hi1 | ⟨hi1, hi2⟩
        all_goals
          go_wp2_with fail
          refine H6.out.mono ?_
          rintro r w5 ⟨B5, rfl⟩
          have HB5 : Hid (Below w.heap.size w w5) := B5
          clear B5
          go_wp2_with fail
          go_ret
          exact ⟨rfl, HB5.out⟩
end Go.Proofs.YtflenkppcclclaaGreatDoor

namespace Go.Proofs.YtflenkppcclclaaGreatDoor
open Go.ChangeShapes Go.WideShapes Go.ChangeAt Go.WideMaps Go.WideElems Go.RowKit Go.Deep

theorem gShapes : (Rows.runsRow.named.head?.bind fun s => Tryz.prog.globalNamed s) = some 0 := by kernel_rfl
theorem tShapes : (Tryz.prog.globals[0]?).map (·.type) = some 224 := by kernel_rfl
theorem Tryz.cellsInt : Tryz.prog.cellsOf 3 = 1 := by kernel_rfl
theorem Tryz.cellsShape : Tryz.prog.cellsOf 179 = 3 := by kernel_rfl

theorem one_of {cs : List Value} {r : Nat} {v : Value} (h : (cs.drop r).take 1 = [v]) : cs[r]? = some v := by
  have : ((cs.drop r).take 1)[0]? = some v := by rw [h]; rfl
  rw [List.getElem?_take, if_pos (by omega), List.getElem?_drop, Nat.add_zero] at this
  exact this

theorem shape_cells {H : Type} {enc : TypeId × Value → H} {W : World} {base : Nat} {spare : Nat → Bool} {held : Bool} {m : Nat} {cs : List Value} {x : DataW H × List MemPlace} {a b c : Int}
    (h : DataW.trod enc Tryz.prog W base spare held m 179 cs = some x) (hx : x.1 = .agg [.lit (.int .i64 a), .lit (.int .i64 b), .lit (.int .i64 c)]) :
    cs[0]? = some (.int .i64 a) ∧ cs[1]? = some (.int .i64 b) ∧ cs[2]? = some (.int .i64 c) := by
  obtain ⟨y0, y1, y2, n, rfl, hlen, e0, e1, e2⟩ := trod_struct3 Tryz.underlying179 h
  simp only [Tryz.cellsInt] at e0 e1 e2
  obtain ⟨k0, c0, d0, _⟩ := DataW.trod_int Tryz.underlying3 e0
  obtain ⟨k1, c1, d1, _⟩ := DataW.trod_int Tryz.underlying3 e1
  obtain ⟨k2, c2, d2, _⟩ := DataW.trod_int Tryz.underlying3 e2
  rw [d0, d1, d2] at hx
  simp only [DataW.agg.injEq, List.cons.injEq, DataW.lit.injEq, Lit.int.injEq, and_true, true_and] at hx
  obtain ⟨rfl, rfl, rfl⟩ := hx
  exact ⟨one_of c0, one_of c1, one_of c2⟩

/-- The condition gives the table, cell by cell. -/
theorem tab_of_laid {W : World} (h : laidMetH Tryz.prog Rows.runsRow.laid W) : Tab W := by
  rw [MakeChecks.laidMetH_plain _ _ _ (by kernel_rfl)] at h
  obtain ⟨ps, ⟨g0, t0, cs0, f0, p0, q0, hg0, ht0, hv0, hd0, _⟩, _, _⟩ := h
  obtain rfl := Option.some.inj (gShapes.symm.trans hg0)
  obtain rfl := Option.some.inj (tShapes.symm.trans ht0)
  obtain ⟨xs, m1, rfl, hx, hlen, hn, hel⟩ := DataW.trod_array Tryz.underlying224 hd0
  simp only [Prod.mk.injEq] at hx
  have hcell := fun j => World.var?_cell hg0 hv0 j
  intro k hk
  obtain ⟨i, r, hr, rfl⟩ : ∃ i r, r < 3 ∧ k = i * 3 + r := ⟨k / 3, k % 3, by omega, by omega⟩
  have hi : i < 21 := by omega
  have hxi : (xs.map (·.1))[i]? = some (.agg [.lit (.int .i64 (shp (i * 3))), .lit (.int .i64 (shp (i * 3 + 1))), .lit (.int .i64 (shp (i * 3 + 2)))]) := by
    have e : (DataW.agg (xs.map (·.1)) : DataW Unit) = Rows.laid_prowl_program_shapes := hx.1.symm
    unfold Rows.laid_prowl_program_shapes at e
    simp only [DataW.agg.injEq] at e
    rw [e]
    match i, hi with
    | 0, _ | 1, _ | 2, _ | 3, _ | 4, _ | 5, _ | 6, _ | 7, _ | 8, _ | 9, _ | 10, _ | 11, _ | 12, _ | 13, _ | 14, _ | 15, _ | 16, _ | 17, _ | 18, _ | 19, _ | 20, _ => rfl
    | i + 21, hi => omega
  rw [List.getElem?_map, Option.map_eq_some_iff] at hxi
  obtain ⟨x, hx1, hx2⟩ := hxi
  have he := hel i hi
  rw [hx1, Tryz.cellsShape] at he
  obtain ⟨a0, a1, a2⟩ := shape_cells he hx2
  have hc : ∀ r, r < 3 → ∀ v, ((cs0.toList.drop (i * 3)).take 3)[r]? = some v → W.cell? ⟨0, i * 3 + r, none⟩ = some v := by
    intro r hr v hv
    rw [List.getElem?_take, if_pos hr, List.getElem?_drop] at hv
    rw [hcell]
    simpa using hv
  match r, hr with
  | 0, _ => exact hc 0 (by omega) _ a0
  | 1, _ => exact hc 1 (by omega) _ a1
  | 2, _ => exact hc 2 (by omega) _ a2
  | r + 3, hr => omega
end Go.Proofs.YtflenkppcclclaaGreatDoor

namespace Go.Proofs.YtflenkppcclclaaGreatDoor
open Go.ChangeShapes Go.WideShapes Go.ChangeAt Go.WideMaps Go.WideElems Go.RowKit Go.Deep

theorem gMarked : Tryz.prog.globalNamed "prowl/changes.marked" = some 2 := by kernel_rfl
theorem tMarked : (Tryz.prog.globals[2]?).map (·.type) = some 271 := by kernel_rfl
theorem Tryz.cellsByte : Tryz.prog.cellsOf 5 = 1 := by kernel_rfl

theorem both_of_vars {W : World} {ps : List MemPlace} (h : DataW.LaidVars Tryz.prog W Rows.changesRow.laid ps) : Tab W ∧ Mrk W := by
  obtain ⟨g0, t0, cs0, f0, p0, q0, hg0, ht0, hv0, hd0, hrest⟩ := h
  refine ⟨?_, ?_⟩
  · clear hrest
    obtain rfl := Option.some.inj (gShapes.symm.trans hg0)
    obtain rfl := Option.some.inj (tShapes.symm.trans ht0)
    obtain ⟨xs, m1, rfl, hx, hlen, hn, hel⟩ := DataW.trod_array Tryz.underlying224 hd0
    simp only [Prod.mk.injEq] at hx
    have hcell := fun j => World.var?_cell hg0 hv0 j
    intro k hk
    obtain ⟨i, r, hr, rfl⟩ : ∃ i r, r < 3 ∧ k = i * 3 + r := ⟨k / 3, k % 3, by omega, by omega⟩
    have hi : i < 21 := by omega
    have hxi : (xs.map (·.1))[i]? = some (.agg [.lit (.int .i64 (shp (i * 3))), .lit (.int .i64 (shp (i * 3 + 1))), .lit (.int .i64 (shp (i * 3 + 2)))]) := by
      have e : (DataW.agg (xs.map (·.1)) : DataW Unit) = Rows.laid_prowl_program_shapes := hx.1.symm
      unfold Rows.laid_prowl_program_shapes at e
      simp only [DataW.agg.injEq] at e
      rw [e]
      match i, hi with
      | 0, _ | 1, _ | 2, _ | 3, _ | 4, _ | 5, _ | 6, _ | 7, _ | 8, _ | 9, _ | 10, _ | 11, _ | 12, _ | 13, _ | 14, _ | 15, _ | 16, _ | 17, _ | 18, _ | 19, _ | 20, _ => rfl
      | i + 21, hi => omega
    rw [List.getElem?_map, Option.map_eq_some_iff] at hxi
    obtain ⟨x, hx1, hx2⟩ := hxi
    have he := hel i hi
    rw [hx1, Tryz.cellsShape] at he
    obtain ⟨a0, a1, a2⟩ := shape_cells he hx2
    have hc : ∀ r, r < 3 → ∀ v, ((cs0.toList.drop (i * 3)).take 3)[r]? = some v → W.cell? ⟨0, i * 3 + r, none⟩ = some v := by
      intro r hr v hv
      rw [List.getElem?_take, if_pos hr, List.getElem?_drop] at hv
      rw [hcell]
      simpa using hv
    match r, hr with
    | 0, _ => exact hc 0 (by omega) _ a0
    | 1, _ => exact hc 1 (by omega) _ a1
    | 2, _ => exact hc 2 (by omega) _ a2
    | r + 3, hr => omega
  · obtain ⟨⟨g1, t1, cs1, f1, p1, q1, hg1, ht1, hv1, hd1, _⟩, _⟩ := hrest
    clear hd0 hv0 ht0 hg0
    obtain rfl := Option.some.inj (gMarked.symm.trans hg1)
    obtain rfl := Option.some.inj (tMarked.symm.trans ht1)
    obtain ⟨xs, m1, rfl, hx, hlen, hn, hel⟩ := DataW.trod_array Tryz.underlying271 hd1
    simp only [Prod.mk.injEq] at hx
    have hcell := fun j => World.var?_cell hg1 hv1 j
    intro k hk
    have hxi : (xs.map (·.1))[k]? = some (.lit (.int .u8 (markL k))) := by
      have e : (DataW.agg (xs.map (·.1)) : DataW Unit) = Rows.laid_prowl_changes_marked := hx.1.symm
      unfold Rows.laid_prowl_changes_marked at e
      simp only [DataW.agg.injEq] at e
      rw [e]
      match k, hk with
      | 0, _ | 1, _ | 2, _ | 3, _ | 4, _ => rfl
      | k + 5, hk => omega
    rw [List.getElem?_map, Option.map_eq_some_iff] at hxi
    obtain ⟨x, hx1, hx2⟩ := hxi
    have he := hel k hk
    rw [hx1, Tryz.cellsByte] at he
    obtain ⟨k0, c0, d0, _⟩ := DataW.trod_int Tryz.underlying5 he
    rw [d0] at hx2
    simp only [DataW.lit.injEq, Lit.int.injEq, true_and] at hx2
    subst hx2
    rw [hcell]
    have := one_of c0
    simpa using this
theorem both_of_laid {W : World} (h : laidMetH Tryz.prog Rows.changesRow.laid W) : Tab W ∧ Mrk W := by
  rw [MakeChecks.laidMetH_plain _ _ _ (by kernel_rfl)] at h
  obtain ⟨ps, h0, _⟩ := h
  exact both_of_vars h0
end Go.Proofs.YtflenkppcclclaaGreatDoor

