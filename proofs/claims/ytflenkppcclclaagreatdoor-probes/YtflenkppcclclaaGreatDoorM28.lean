import Derived.Test.YtflenkppcclclaaGreatDoorM27
import Derived.BigQuiet
namespace Go.Proofs.YtflenkppcclclaaGreatDoor
open Go.RowKit

/-- The same memory (draws aside). -/
structure Sm (w w' : World) : Prop where
  heap : w'.heap = w.heap
  os : w'.os = w.os
  tape : w'.tape = w.tape
  output : w'.output = w.output
theorem Sm.refl (w : World) : Sm w w := ⟨rfl, rfl, rfl, rfl⟩
theorem Sm.trans {a b c : World} (h : Sm a b) (k : Sm b c) : Sm a c := ⟨k.heap.trans h.heap, k.os.trans h.os, k.tape.trans h.tape, k.output.trans h.output⟩
theorem Sm.drewN {a b : World} (h : Sm a b) (n : Nat) : Sm a (b.drewN n) := ⟨h.heap, h.os, h.tape, h.output⟩
theorem Sm.below {a b : World} (h : Sm a b) (n : Nat) : Below n a b := ⟨h.os, h.tape, h.output, by rw [h.heap]; exact Nat.le_refl _, fun k _ => by rw [h.heap]⟩
theorem BK.sm {base M : Nat} {w w' : World} {F : Nat → Value} {X : Nat → List Value} (h : BK base M w F X) (s : Sm w w') : BK base M w' F X := h.below (s.below _)
theorem BD.sm {M : Nat} {w w' : World} {F : Nat → Value} {X : Nat → List Value} (h : BD M w F X) (s : Sm w w') : BD M w' F X := h.below (s.below _)

/-- A field that holds something: where it lies, and what stands there. -/
theorem BK.at {base M : Nat} {w : World} {F : Nat → Value} {X : Nat → List Value} (h : BK base M w F X) (r : Nat) (hr : r < 10) {i : Nat} (hi : i < (X r).length) :
    ∃ g cap, F r = .slice (some ⟨g, 0, none⟩) (X r).length cap ∧ ∀ (i : Nat) (u : Value), (X r)[i]? = some u → w.cell? ⟨g, i, none⟩ = some u := by
  obtain ⟨g, cap, h1, _, _, _, h5⟩ := own_at' (h.own r hr) (by omega)
  exact ⟨g, cap, h1, h5⟩
theorem BK.head {base M : Nat} {w : World} {F : Nat → Value} {X : Nat → List Value} (h : BK base M w F X) (r : Nat) (hr : r < 10) : ∃ ao cap, F r = .slice ao (X r).length cap := by
  rcases (h.own r hr).2 with ⟨e, h0⟩ | ⟨g, cap, cur, hv, _⟩
  · exact ⟨none, 0, by rw [h0]; exact e⟩
  · exact ⟨_, _, hv⟩

set_option maxHeartbeats 2000000 in
set_option maxRecDepth 100000 in
theorem loans_any (base M : Nat) (w : World) (F : Nat → Value) (X : Nat → List Value) (h : BK base M w F X) (d : BD M w F X) (hL : (X 8).length ≤ 4611686018427387904) :
    Calls Tryz.prog 60 #[.pointer (some ⟨M, 0, none⟩)] w fun e w' => e = .returned (.bool true) ∧ Sm w w' := by
  have HB : Hid (∀ wr, Sm w wr → BK base M wr F X) := fun wr s => h.sm s
  have HD : Hid (∀ wr, Sm w wr → BD M wr F X) := fun wr s => d.sm s
  have hx9 := d.none9
  obtain ⟨a9, cap9, hF9⟩ := h.head 9 (by omega)
  obtain ⟨a8, cap8, hF8⟩ := h.head 8 (by omega)
  rw [hx9] at hF9
  clear h d
  go_enter Tryz.func60, Tryz.ntmps60
  go_wp2_with fail
  go_loopw [3, 4] (fun i _ wr => ∃ k : Nat, k ≤ (X 8).length ∧ i = .int .i64 k ∧ Sm w wr) (fun i _ _ => (X 8).length - (intOf i).toNat)
  case atStart => exact ⟨0, by omega, rfl, Sm.refl w⟩
  case round =>
    obtain ⟨k, hk, rfl, hS⟩ := hrel
    have hB := HB.out wr hS
    have c8 := hB.cell 8 (by omega)
    rw [hF8] at c8
    by_cases hlt : k < (X 8).length
    · obtain ⟨g, cap, hF, hX⟩ := hB.at 8 (by omega) hlt
      rw [hF8] at hF
      simp only [Value.slice.injEq] at hF
      obtain ⟨rfl, _, rfl⟩ := hF
      obtain ⟨v, hv⟩ : ∃ v, (X 8)[k]? = some v := ⟨_, List.getElem?_eq_getElem hlt⟩
      obtain ⟨n, hn, hC, _⟩ := (HD.out wr hS).lent k v hv
      have cv := hX k v hv
      have hi1 : (k : Int) < ((X 8).length : Int) := by omega
      have HS : Hid (Sm w wr) := hS
      clear hB hX hS
      cases hC with
      | bare p cap' hv' hn0 =>
        subst hv'
        go_wp2_with fail
        go_loopw [4] (fun j wx => j = .int .i64 0 ∧ Sm w wx ∧ wx.cell? ⟨M, 8, none⟩ = some (.slice (some ⟨g, 0, none⟩) (X 8).length cap8) ∧ wx.cell? ⟨g, k, none⟩ = some (.slice p 0 cap')) (fun _ _ => 0)
        case atStart => exact ⟨rfl, HS.out, c8, cv⟩
        case round =>
          obtain ⟨rfl, hS, c8, cv⟩ := hrel
          go_wp2_with fail
          go_roundw
          case rel => exact ⟨k + 1, by omega, by go_num, hS⟩
          case measure => simp [intOf]; omega
      | full cb co cap' hv' C =>
        subst hv'
        go_wp2_with fail
        go_loopw [4] (fun j wx => ∃ q : Nat, q ≤ n ∧ j = .int .i64 q ∧ Sm w wx ∧ wx.heap = wr.heap) (fun j _ => n - (intOf j).toNat)
        case atStart => exact ⟨0, by omega, rfl, HS.out, rfl⟩
        case round =>
          obtain ⟨q, hq, rfl, hS, hh⟩ := hrel
          have c8' := (World.cell?_of_block (w' := wr) (a := ⟨M, 8, none⟩) (by rw [hh])).trans c8
          have cv' := (World.cell?_of_block (w' := wr) (a := ⟨g, k, none⟩) (by rw [hh])).trans cv
          have HH : Hid (Sm w wr) := hS
          by_cases hql : q < n
          · have cd := (World.cell?_of_block (w' := wr) (a := ⟨cb, co + q, none⟩) (by rw [hh])).trans (C.cell q hql)
            have hi2 : (q : Int) < (n : Int) := by omega
            have HX : Hid (wr.heap = _) := hh
            clear hS hh
            go_wp2_with fail
            go_roundw
            case rel => exact ⟨q + 1, by omega, by go_num, HH.out, HX.out⟩
            case measure => simp [intOf]; omega
          · have e : q = n := by omega
            subst e
            have hnn : ¬ (q : Int) < (q : Int) := by omega
            clear hS hh
            go_wp2_with fail
            go_roundw
            case rel => exact ⟨k + 1, by omega, by go_num, HH.out⟩
            case measure => simp [intOf]; omega
    · have e : k = (X 8).length := by omega
      subst e
      have hnn : ¬ (((X 8).length : Nat) : Int) < (((X 8).length : Nat) : Int) := by omega
      have HS : Hid (Sm w wr) := hS
      clear hB hS
      go_wp2_with fail
      go_loopw [5] (fun j wx => j = .int .i64 0 ∧ Sm w wx) (fun _ _ => 0)
      case atStart => exact ⟨rfl, HS.out⟩
      case round =>
        obtain ⟨rfl, hS⟩ := hrel
        have c9 := (HB.out wr hS).cell 9 (by omega)
        rw [hF9] at c9
        simp only [List.length_nil] at c9
        go_wp2_with fail
        go_ret
        exact ⟨rfl, hS⟩

set_option maxHeartbeats 4000000 in
set_option maxRecDepth 100000 in
theorem looks_any (base M : Nat) (w : World) (F : Nat → Value) (X : Nat → List Value) (h : BK base M w F X) (d : BD M w F X) (hL8 : (X 8).length ≤ 4611686018427387904) (hL0 : (X 0).length ≤ 4611686018427387904) (hL4 : (X 4).length ≤ 4611686018427387904) (hL1 : (X 1).length ≤ 4611686018427387904) :
    Calls Tryz.prog 27 #[.pointer (some ⟨M, 0, none⟩)] w fun e w' => e = .returned (.bool true) ∧ Sm w w' := by
  have HB : Hid (∀ wr, Sm w wr → BK base M wr F X) := fun wr s => h.sm s
  have HD : Hid (∀ wr, Sm w wr → BD M wr F X) := fun wr s => d.sm s
  have HLO : Hid (∀ wr, Sm w wr → Calls Tryz.prog 60 #[.pointer (some ⟨M, 0, none⟩)] wr fun e w' => e = .returned (.bool true) ∧ Sm wr w') := fun wr s => loans_any base M wr F X (h.sm s) (d.sm s) hL8
  have hx2 := d.none2
  have hx3 := d.none3
  obtain ⟨a0, cap0, hF0⟩ := h.head 0 (by omega)
  obtain ⟨a1, cap1, hF1⟩ := h.head 1 (by omega)
  obtain ⟨a2, cap2, hF2⟩ := h.head 2 (by omega)
  obtain ⟨a3, cap3, hF3⟩ := h.head 3 (by omega)
  rw [hx2] at hF2
  rw [hx3] at hF3
  clear h d
  go_enter Tryz.func27, Tryz.ntmps27
  go_wp2_with fail
  go_loopw [3, 4] (fun i _ wr => ∃ k : Nat, k ≤ (X 0).length ∧ i = .int .i64 k ∧ Sm w wr) (fun i _ _ => (X 0).length - (intOf i).toNat)
  case atStart => exact ⟨0, by omega, rfl, Sm.refl w⟩
  case round =>
    obtain ⟨k, hk, rfl, hS⟩ := hrel
    have hB := HB.out wr hS
    have c0 := hB.cell 0 (by omega)
    rw [hF0] at c0
    by_cases hlt : k < (X 0).length
    · obtain ⟨g, cap, hF, hX⟩ := hB.at 0 (by omega) hlt
      rw [hF0] at hF
      simp only [Value.slice.injEq] at hF
      obtain ⟨rfl, _, rfl⟩ := hF
      obtain ⟨v, hv⟩ : ∃ v, (X 0)[k]? = some v := ⟨_, List.getElem?_eq_getElem hlt⟩
      obtain ⟨m, n, hm4, hmb, hn, hC, _⟩ := (HD.out wr hS).bytes k v hv
      have hlt4 : k < (X 4).length := (List.getElem?_eq_some_iff.1 hm4).1
      obtain ⟨g4, cap4, hF4, hX4⟩ := hB.at 4 (by omega) hlt4
      have c4 := hB.cell 4 (by omega)
      rw [hF4] at c4
      have cm := hX4 k _ hm4
      have cv := hX k v hv
      have hi1 : (k : Int) < ((X 0).length : Int) := by omega
      have hi4 : (k : Int) < ((X 4).length : Int) := by omega
      have HS : Hid (Sm w wr) := hS
      clear hB hX hX4 hS hm4 hv
      cases hC with
      | bare p cap' hv' hn0 =>
        subst hv'
        go_wp2_with fail
        go_loopw [4] (fun j wx => j = .int .i64 0 ∧ Sm w wx ∧ wx.cell? ⟨M, 0, none⟩ = some (.slice (some ⟨g, 0, none⟩) (X 0).length cap0) ∧ wx.cell? ⟨g, k, none⟩ = some (.slice p 0 cap')) (fun _ _ => 0)
        case atStart => exact ⟨rfl, HS.out, c0, cv⟩
        case round =>
          obtain ⟨rfl, hS, c0, cv⟩ := hrel
          go_wp2_with fail
          go_roundw
          case rel => exact ⟨k + 1, by omega, by go_num, hS⟩
          case measure => simp [intOf]; omega
      | full cb co cap' hv' C =>
        subst hv'
        go_wp2_with fail
        go_loopw [4] (fun j wx => ∃ q : Nat, q ≤ n ∧ j = .int .i64 q ∧ Sm w wx ∧ wx.heap = wr.heap) (fun j _ => n - (intOf j).toNat)
        case atStart => exact ⟨0, by omega, rfl, HS.out, rfl⟩
        case round =>
          obtain ⟨q, hq, rfl, hS, hh⟩ := hrel
          have c0' := (World.cell?_of_block (w' := wr) (a := ⟨M, 0, none⟩) (by rw [hh])).trans c0
          have cv' := (World.cell?_of_block (w' := wr) (a := ⟨g, k, none⟩) (by rw [hh])).trans cv
          have HH : Hid (Sm w wr) := hS
          by_cases hql : q < n
          · have cd := (World.cell?_of_block (w' := wr) (a := ⟨cb, co + q, none⟩) (by rw [hh])).trans (C.cell q hql)
            have c4' := (World.cell?_of_block (w' := wr) (a := ⟨M, 4, none⟩) (by rw [hh])).trans c4
            have cm' := (World.cell?_of_block (w' := wr) (a := ⟨g4, k, none⟩) (by rw [hh])).trans cm
            have hi2 : (q : Int) < (n : Int) := by omega
            have HX : Hid (wr.heap = _) := hh
            have HDG : Hid (∀ wy, Calls Tryz.prog 58 #[.int .i64 (m : Int), .int .i64 (q : Int)] wy fun e w' => e = .returned (.int .u8 (digS m q)) ∧ w' = wy) := fun wy => digit_any m q (by omega) (by omega) wy
            clear hS hh
            generalize digS m q = dg at *
            go_wp2_with fail
            go_quiet ((go_at_call 58; refine Calls.quiet_of_same (HDG.out _)))
            go_wp2_with fail
            go_roundw
            case rel => exact ⟨q + 1, by omega, by go_num, HH.out.drewN _, HX.out⟩
            case measure => simp [intOf]; omega
          · have e : q = n := by omega
            subst e
            have hnn : ¬ (q : Int) < (q : Int) := by omega
            clear hS hh
            go_wp2_with fail
            go_roundw
            case rel => exact ⟨k + 1, by omega, by go_num, HH.out⟩
            case measure => simp [intOf]; omega
    · have e : k = (X 0).length := by omega
      subst e
      have hnn : ¬ (((X 0).length : Nat) : Int) < (((X 0).length : Nat) : Int) := by omega
      have HS0 : Hid (Sm w wr) := hS
      clear hB hS
      go_wp2_with fail
      go_loopw [5, 6] (fun i _ wx => ∃ k : Nat, k ≤ (X 1).length ∧ i = .int .i64 k ∧ Sm w wx) (fun i _ _ => (X 1).length - (intOf i).toNat)
      case atStart => exact ⟨0, by omega, rfl, HS0.out⟩
      case round =>
        clear HS0
        obtain ⟨k, hk, rfl, hS⟩ := hrel
        have hB := HB.out wr hS
        have c1 := hB.cell 1 (by omega)
        rw [hF1] at c1
        by_cases hlt : k < (X 1).length
        · obtain ⟨g, cap, hF, hX⟩ := hB.at 1 (by omega) hlt
          rw [hF1] at hF
          simp only [Value.slice.injEq] at hF
          obtain ⟨rfl, _, rfl⟩ := hF
          obtain ⟨v, hv⟩ : ∃ v, (X 1)[k]? = some v := ⟨_, List.getElem?_eq_getElem hlt⟩
          obtain ⟨m, n, hm5, hn, hC, _⟩ := (HD.out wr hS).numbers k v hv
          have hlt5 : k < (X 5).length := (List.getElem?_eq_some_iff.1 hm5).1
          obtain ⟨g5, cap5, hF5, hX5⟩ := hB.at 5 (by omega) hlt5
          have c5 := hB.cell 5 (by omega)
          rw [hF5] at c5
          have cm := hX5 k _ hm5
          have cv := hX k v hv
          have hi1 : (k : Int) < ((X 1).length : Int) := by omega
          have hi5 : (k : Int) < ((X 5).length : Int) := by omega
          have HS : Hid (Sm w wr) := hS
          clear hB hX hX5 hS hm5 hv
          cases hC with
          | bare p cap' hv' hn0 =>
            subst hv'
            go_wp2_with fail
            go_loopw [6] (fun j wx => j = .int .i64 0 ∧ Sm w wx ∧ wx.cell? ⟨M, 1, none⟩ = some (.slice (some ⟨g, 0, none⟩) (X 1).length cap1) ∧ wx.cell? ⟨g, k, none⟩ = some (.slice p 0 cap')) (fun _ _ => 0)
            case atStart => exact ⟨rfl, HS.out, c1, cv⟩
            case round =>
              obtain ⟨rfl, hS, c1, cv⟩ := hrel
              go_wp2_with fail
              go_roundw
              case rel => exact ⟨k + 1, by omega, by go_num, hS⟩
              case measure => simp [intOf]; omega
          | full cb co cap' hv' hc hr hr' h0 =>
            subst hv'
            go_wp2_with fail
            go_loopw [6] (fun j wx => ∃ q : Nat, q ≤ n ∧ j = .int .i64 q ∧ Sm w wx ∧ wx.heap = wr.heap) (fun j _ => n - (intOf j).toNat)
            case atStart => exact ⟨0, by omega, rfl, HS.out, rfl⟩
            case round =>
              obtain ⟨q, hq, rfl, hS, hh⟩ := hrel
              have c1' := (World.cell?_of_block (w' := wr) (a := ⟨M, 1, none⟩) (by rw [hh])).trans c1
              have cv' := (World.cell?_of_block (w' := wr) (a := ⟨g, k, none⟩) (by rw [hh])).trans cv
              have HH : Hid (Sm w wr) := hS
              by_cases hql : q < n
              · have cd := (World.cell?_of_block (w' := wr) (a := ⟨cb, co + q, none⟩) (by rw [hh])).trans (hc q hql)
                have c5' := (World.cell?_of_block (w' := wr) (a := ⟨M, 5, none⟩) (by rw [hh])).trans c5
                have cm' := (World.cell?_of_block (w' := wr) (a := ⟨g5, k, none⟩) (by rw [hh])).trans cm
                have hi2 : (q : Int) < (n : Int) := by omega
                have HX : Hid (wr.heap = _) := hh
                clear hS hh
                go_wp2_with fail
                go_quiet (fail)
                go_wp2_with fail
                go_roundw
                case rel => exact ⟨q + 1, by omega, by go_num, HH.out.drewN _, HX.out⟩
                case measure => simp [intOf]; omega
              · have e : q = n := by omega
                subst e
                have hnn : ¬ (q : Int) < (q : Int) := by omega
                clear hS hh
                go_wp2_with fail
                go_roundw
                case rel => exact ⟨k + 1, by omega, by go_num, HH.out⟩
                case measure => simp [intOf]; omega
        · have e : k = (X 1).length := by omega
          subst e
          have hnn1 : ¬ (((X 1).length : Nat) : Int) < (((X 1).length : Nat) : Int) := by omega
          have HS1 : Hid (Sm w wr) := hS
          clear hB hS
          go_wp2_with fail
          go_loopw [7] (fun j wx => j = .int .i64 0 ∧ Sm w wx) (fun _ _ => 0)
          case atStart => exact ⟨rfl, HS1.out⟩
          case round =>
            clear HS1
            obtain ⟨rfl, hS⟩ := hrel
            have c2 := (HB.out wr hS).cell 2 (by omega)
            rw [hF2] at c2
            simp only [List.length_nil] at c2
            have HS2 : Hid (Sm w wr) := hS
            go_wp2_with fail
            go_loopw [10] (fun j wx => j = .int .i64 0 ∧ Sm w wx) (fun _ _ => 0)
            case atStart => exact ⟨rfl, HS2.out⟩
            case round =>
              clear HS2 hS c2
              obtain ⟨rfl, hS⟩ := hrel
              have c3 := (HB.out wr hS).cell 3 (by omega)
              rw [hF3] at c3
              simp only [List.length_nil] at c3
              have HL := HLO.out wr hS
              have HLL : Hid (Calls Tryz.prog 60 #[.pointer (some ⟨M, 0, none⟩)] wr fun e w' => e = .returned (.bool true) ∧ Sm wr w') := HL
              clear HL
              go_wp2_with fail
              refine HLL.out.mono ?_
              rintro e w5 ⟨rfl, S5⟩
              have HS5 : Hid (Sm w w5) := hS.trans S5
              go_wp2_with fail
              go_ret
              exact ⟨rfl, HS5.out⟩
end Go.Proofs.YtflenkppcclclaaGreatDoor

namespace Go.Proofs.YtflenkppcclclaaGreatDoor
open Go.RowKit

def bytesL (c : Nat → Int) (L : Nat) : List Value := (List.range L).map fun i => Value.int .u8 (c i)
theorem bytesL_len (c : Nat → Int) (L : Nat) : (bytesL c L).length = L := by unfold bytesL; simp
theorem bytesL_get (c : Nat → Int) {L i : Nat} (h : i < L) : (bytesL c L)[i]? = some (.int .u8 (c i)) := by unfold bytesL; simp [List.getElem?_range h]
theorem bytesL_one (c : Nat → Int) (L : Nat) : ∀ u ∈ bytesL c L, u.oneCell' = true := by
  intro u hu
  unfold bytesL at hu
  obtain ⟨i, _, rfl⟩ := List.mem_map.1 hu
  rfl
theorem append_noneB (w : World) (p : Option Addr) (cap : Nat) : (Builtin.append_ #[25, 25] 25 #[.slice none 0 0, .slice p 0 cap]).run Tryz.prog w = .ok (.slice none 0 0) w := by
  obtain ⟨i, hi, hz0, hz1, hz2⟩ := info_parts Tryz.infoU8
  cases p <;> simp [Builtin.append_, run_underlying Tryz.underlying25, sizeOf, typeInfo, hi, loadCells, go_sem]

/-- What is lent: the bytes, with marks behind them. -/
def lentAt (c : Nat → Int) (L i : Nat) : Int := if i < L then c i else 252
theorem lent_add (c : Nat → Int) (L k : Nat) : bytesL (lentAt c L) (L + k) ++ [.int .u8 252] = bytesL (lentAt c L) (L + (k + 1)) := by
  unfold bytesL
  rw [← Nat.add_assoc, List.range_succ, List.map_append]
  show _ = _ ++ [Value.int .u8 (lentAt c L (L + k))]
  unfold lentAt
  rw [if_neg (by omega)]
theorem lent_zero (c : Nat → Int) (L : Nat) : bytesL c L = bytesL (lentAt c L) (L + 0) := by
  unfold bytesL
  apply List.map_congr_left
  intro i hi
  show _ = Value.int .u8 (lentAt c L i)
  unfold lentAt
  rw [if_pos (List.mem_range.1 hi)]

set_option maxHeartbeats 1000000 in
set_option maxRecDepth 100000 in
theorem lend_any (w : World) (v : Value) (L : Nat) (c : Nat → Int) (C : Coded w v L c) (hL : L + 8 ≤ 140737488355328) :
    Calls Tryz.prog 98 #[v] w fun e w' => ∃ g cap, e = .returned (.slice (some ⟨g, 0, none⟩) (L + 8) cap) ∧ w'.ownsRow w.heap.size 5 1 (.slice (some ⟨g, 0, none⟩) (L + 8) cap) (L + 8) (bytesL (lentAt c L) (L + 8)) ∧ Below w.heap.size w w' := by
  obtain ⟨i, hi, hz0, hz1, hz2⟩ := info_parts Tryz.infoU8
  have key : Hid (∀ (o : Value) (w1 : World), w1.ownsRow w.heap.size 5 1 o L (bytesL c L) → Below w.heap.size w w1 → w1.ownsRow w.heap.size 5 1 o (L + 0) (bytesL (lentAt c L) (L + 0))) := by
    intro o w1 h _
    rw [← lent_zero]; exact h
  go_enter Tryz.func98, Tryz.ntmps98
  cases C with
  | bare p cap hv hL0 =>
    subst hv
    have hrun := append_noneB w p cap
    have O1 : Hid (w.ownsRow w.heap.size 5 1 (.slice none 0 0) (L + 0) (bytesL (lentAt c L) (L + 0))) := key.out _ _ (by rw [hL0]; exact World.ownsRow_nil _ _ _ _) (Below.refl _ _)
    clear hL0
    go_wp2_with (at_builtin; refine wp_append_run rfl (.tmp 5) (.tmp 6) 25 rfl _ _ _ rfl rfl hrun ?_)
    clear hrun
    go_wp2_with fail
    go_loopw [3, 4] (fun o k wr => ∃ q : Nat, q ≤ 8 ∧ k = .int .i64 q ∧ wr.ownsRow w.heap.size 5 1 o (L + q) (bytesL (lentAt c L) (L + q)) ∧ Below w.heap.size w wr) (fun _ k _ => 8 - (intOf k).toNat)
    case atStart => exact ⟨0, by omega, rfl, O1.out, Below.refl _ _⟩
    case round =>
      clear O1
      obtain ⟨q, hq, rfl, hown, hB⟩ := hrel
      have hsz := hB.size
      have HO : Hid (wr.ownsRow w.heap.size 5 1 u3 (L + q) (bytesL (lentAt c L) (L + q))) := hown
      have HLA : Hid (bytesL (lentAt c L) (L + q) ++ [.int .u8 252] = bytesL (lentAt c L) (L + (q + 1))) := lent_add c L q
      by_cases hlt : q < 8
      · have hi1 : (q : Int) < 8 := by omega
        clear hown
        go_wp2_with (at_builtin; refine wpList_append_own_at _ rfl (.tmp 12) (.tmp 13) 25 rfl w.heap.size 5 i (.int .u8 0) 1 1 Tryz.underlying25 hi hz0 hz1 hz2 rfl (by decide) _ _ _ rfl (HO.out.alloc _) ⟨_, 0, none⟩ 1 1 [.int .u8 252] rfl rfl (cell_one_new _ _ _) ?c2 (by unfold maxLen; omega) (by omega) (by simp; omega) ?_)
        case c2 => intro u hu; simp at hu; subst hu; rfl
        intro v' w1 hown' hgrow _ hat
        have hB1 := (hB.alloc hsz (.cells #[.int .u8 252] 5)).grown hgrow (by simp; omega) (fun k hk => (HO.out.lt k hk).1)
        have HO1 : Hid (w1.ownsRow w.heap.size 5 1 v' (L + (q + 1)) (bytesL (lentAt c L) (L + (q + 1)))) := by
          show w1.ownsRow w.heap.size 5 1 v' (L + (q + 1)) (bytesL (lentAt c L) (L + (q + 1)))
          rw [← HLA.out]; exact hown'
        clear hown' hgrow hat
        go_wp2
        go_roundw
        case rel => exact ⟨q + 1, by omega, by go_num, HO1.out, hB1⟩
        case measure => simp [intOf]; omega
      · have e : q = 8 := by omega
        subst e
        obtain ⟨g, cap, hv⟩ := own_form hown (by omega)
        subst hv
        clear HO
        go_wp2
        go_ret
        exact ⟨g, cap, rfl, hown, hB⟩
  | full cb co cap hv C =>
    subst hv
    have hcell : Hid (∀ j u, (bytesL c L)[j]? = some u → w.cell? ((⟨cb, co, none⟩ : Addr).add j) = some u) := by
      intro j u hu
      have hj : j < L := by have := (List.getElem?_eq_some_iff.1 hu).1; rw [bytesL_len] at this; exact this
      rw [bytesL_get c hj] at hu
      have ea : (⟨cb, co, none⟩ : Addr).add j = ⟨cb, co + j, none⟩ := by
        by_cases e : j = 0
        · subst e; simp [Addr.add]
        · simp [Addr.add, e]
      rw [ea, C.cell j hj]; exact hu
    have hone := bytesL_one c L
    have hlen := bytesL_len c L
    generalize bytesL c L = bl at *
    go_wp2_with (at_builtin; refine wpList_append_own_at _ rfl (.tmp 5) (.tmp 6) 25 rfl w.heap.size 5 i (.int .u8 0) 1 1 Tryz.underlying25 hi hz0 hz1 hz2 rfl (by decide) _ 0 [] rfl (World.ownsRow_nil _ _ _ _) ⟨cb, co, none⟩ L cap bl rfl (by omega) hcell.out hone (by unfold maxLen; omega) (by omega) (Nat.le_refl _) ?_)
    intro v1 w1 hown1 hgrow1 _ _
    have B1 := (Below.refl w.heap.size w).grown hgrow1 (Nat.le_refl _) (fun k hk => by cases hk)
    have O1 : Hid (w1.ownsRow w.heap.size 5 1 v1 (L + 0) (bytesL (lentAt c L) (L + 0))) := key.out _ _ (by simpa using hown1) B1
    clear hown1 hgrow1
    go_wp2_with fail
    go_loopw [3, 4] (fun o k wr => ∃ q : Nat, q ≤ 8 ∧ k = .int .i64 q ∧ wr.ownsRow w.heap.size 5 1 o (L + q) (bytesL (lentAt c L) (L + q)) ∧ Below w.heap.size w wr) (fun _ k _ => 8 - (intOf k).toNat)
    case atStart => exact ⟨0, by omega, rfl, O1.out, B1⟩
    case round =>
      clear O1
      obtain ⟨q, hq, rfl, hown, hB⟩ := hrel
      have hsz := hB.size
      have HO : Hid (wr.ownsRow w.heap.size 5 1 u3 (L + q) (bytesL (lentAt c L) (L + q))) := hown
      have HLA : Hid (bytesL (lentAt c L) (L + q) ++ [.int .u8 252] = bytesL (lentAt c L) (L + (q + 1))) := lent_add c L q
      by_cases hlt : q < 8
      · have hi1 : (q : Int) < 8 := by omega
        clear hown
        go_wp2_with (at_builtin; refine wpList_append_own_at _ rfl (.tmp 12) (.tmp 13) 25 rfl w.heap.size 5 i (.int .u8 0) 1 1 Tryz.underlying25 hi hz0 hz1 hz2 rfl (by decide) _ _ _ rfl (HO.out.alloc _) ⟨_, 0, none⟩ 1 1 [.int .u8 252] rfl rfl (cell_one_new _ _ _) ?c2 (by unfold maxLen; omega) (by omega) (by simp; omega) ?_)
        case c2 => intro u hu; simp at hu; subst hu; rfl
        intro v' w1 hown' hgrow _ hat
        have hB1 := (hB.alloc hsz (.cells #[.int .u8 252] 5)).grown hgrow (by simp; omega) (fun k hk => (HO.out.lt k hk).1)
        have HO1 : Hid (w1.ownsRow w.heap.size 5 1 v' (L + (q + 1)) (bytesL (lentAt c L) (L + (q + 1)))) := by
          show w1.ownsRow w.heap.size 5 1 v' (L + (q + 1)) (bytesL (lentAt c L) (L + (q + 1)))
          rw [← HLA.out]; exact hown'
        clear hown' hgrow hat
        go_wp2
        go_roundw
        case rel => exact ⟨q + 1, by omega, by go_num, HO1.out, hB1⟩
        case measure => simp [intOf]; omega
      · have e : q = 8 := by omega
        subst e
        obtain ⟨g, cap, hv⟩ := own_form hown (by omega)
        subst hv
        clear HO
        go_wp2
        go_ret
        exact ⟨g, cap, rfl, hown, hB⟩
end Go.Proofs.YtflenkppcclclaaGreatDoor

