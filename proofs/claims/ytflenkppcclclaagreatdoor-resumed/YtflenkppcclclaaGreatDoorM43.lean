import Derived.Test.YtflenkppcclclaaGreatDoorM42
import Derived.Test.YtflenkppcclclaaGreatDoorM39
namespace Go.Proofs.YtflenkppcclclaaGreatDoor
open Go.RowKit

/-! To read digits, two at a time. -/
theorem decode_app : ∀ a b : List Int, a.length % 2 = 0 → decodeL (a ++ b) = (decodeL a).bind fun x => (decodeL b).map fun y => x ++ y
  | [], b, _ => by
    show decodeL b = (decodeL b).map fun y => y
    simp
  | [_], _, h => by simp at h
  | x :: y :: a, b, h => by
    have ih := decode_app a b (by simp at h; omega)
    have e1 : ∀ t : List Int, decodeL (x :: y :: t) = match unDig x, unDig y, decodeL t with
      | some p, some q, some r => some ((16 * p + q) :: r)
      | _, _, _ => none := fun _ => rfl
    show decodeL (x :: y :: (a ++ b)) = _
    rw [e1, e1, ih]
    cases unDig x with
    | none => rfl
    | some p =>
      cases unDig y with
      | none => rfl
      | some q =>
        cases decodeL a with
        | none => rfl
        | some u =>
          cases decodeL b with
          | none => rfl
          | some v => rfl
/-- Where a digit stands among the digits. -/
def digAt (c : Int) : Int := (unDig c).getD (-1)
theorem digAt_is : ∀ k : Fin 256, Lib.indexByte [48, 49, 50, 51, 52, 53, 54, 55, 56, 57, 97, 98, 99, 100, 101, 102] (UInt8.ofNat k) = digAt ((k : Nat) : Int) := by decide +kernel
theorem digAt_neg (c : Int) : digAt c < 0 ↔ unDig c = none := by
  unfold digAt
  cases h : unDig c with
  | none => simp
  | some x =>
    have := (dig_unDig h).2.1
    simp
    omega
theorem digAt_some {c : Int} (h : ¬ digAt c < 0) : unDig c = some (digAt c) ∧ 0 ≤ digAt c ∧ digAt c ≤ 15 := by
  unfold digAt at h ⊢
  cases e : unDig c with
  | none => rw [e] at h; simp at h
  | some x =>
    obtain ⟨_, h1, h2⟩ := dig_unDig e
    exact ⟨rfl, h1, h2⟩
theorem hexed : ∀ a : Fin 16, ∀ b : Fin 16, bits .or .i64 (IntKind.i64.wrap (((a : Nat) : Int) * 16)) ((b : Nat) : Int) = 16 * ((a : Nat) : Int) + ((b : Nat) : Int) := by decide +kernel
/-- So far, n pairs were read. -/
def decN (l : List Int) (n : Nat) : Option (List Int) := decodeL (l.take (2 * n))
theorem dec_next (l : List Int) (n : Nat) (h : 2 * n + 1 < l.length) : decN l (n + 1) = (decN l n).bind fun r => match unDig (l.getD (2 * n) 0), unDig (l.getD (2 * n + 1) 0) with
    | some x, some y => some (r ++ [16 * x + y])
    | _, _ => none := by
  have e : l.take (2 * (n + 1)) = l.take (2 * n) ++ [l.getD (2 * n) 0, l.getD (2 * n + 1) 0] := by
    rw [show 2 * (n + 1) = 2 * n + 1 + 1 by omega, List.take_succ_eq_append_getElem h, List.take_succ_eq_append_getElem (show 2 * n < l.length by omega)]
    rw [List.getD_eq_getElem?_getD, List.getD_eq_getElem?_getD, List.getElem?_eq_getElem h, List.getElem?_eq_getElem (show 2 * n < l.length by omega), List.append_assoc]
    rfl
  unfold decN
  rw [e, decode_app _ _ (by rw [List.length_take]; omega)]
  congr 1
  funext r
  generalize l.getD (2 * n) 0 = a
  generalize l.getD (2 * n + 1) 0 = b
  show (match unDig a, unDig b, decodeL [] with | some x, some y, some r => some ((16 * x + y) :: r) | _, _, _ => none : Option (List Int)).map _ = _
  cases unDig a with
  | none => rfl
  | some x =>
    cases unDig b with
    | none => rfl
    | some y => rfl
theorem dec_bad (l : List Int) (n : Nat) (h : decN l n = none) (hn : 2 * n ≤ l.length) : decodeL l = none := by
  have e : l = l.take (2 * n) ++ l.drop (2 * n) := (List.take_append_drop _ _).symm
  rw [e, decode_app _ _ (by rw [List.length_take, Nat.min_eq_left hn]; omega)]
  have : decodeL (l.take (2 * n)) = none := h
  rw [this]
  rfl
theorem dec_len (l : List Int) : ∀ n r, 2 * n ≤ l.length → decN l n = some r → r.length = n ∧ Byt r := by
  intro n r hn h
  obtain ⟨_, h2, h3⟩ := hex_decode _ _ h
  rw [List.length_take, Nat.min_eq_left hn] at h3
  exact ⟨by omega, h2⟩
end Go.Proofs.YtflenkppcclclaaGreatDoor

namespace Go.Proofs.YtflenkppcclclaaGreatDoor
open Go.RowKit

/-! To read a log: strings.Cut, lines.decode, lines.Read. -/
/-- What Cut answers. -/
def CutIs (s line rest : ByteArray) (whole : Bool) : Prop := (linesL (nums s) = if whole then nums line :: linesL (nums rest) else []) ∧ line.size ≤ s.size ∧ (whole = true → rest.size < s.size)
theorem cutIs_some (s : ByteArray) (i : Nat) (h : Lib.indexByte s.data.toList 10 = i) : CutIs s (s.extract 0 i) (s.extract (i + 1) s.size) true := by
  obtain ⟨h1, h2⟩ := cut_some s i h
  refine ⟨by rw [if_pos rfl]; exact h2, ?_, fun _ => ?_⟩
  · rw [Lib.size_eq, Lib.extract_data, List.length_take, List.length_drop, ← Lib.size_eq]; omega
  · rw [Lib.size_eq, Lib.extract_data, List.length_take, List.length_drop, ← Lib.size_eq]; omega
theorem cutIs_none (s : ByteArray) (h : Lib.indexByte s.data.toList 10 = -1) : CutIs s s ⟨#[]⟩ false := ⟨by rw [if_neg (by decide)]; exact cut_none s h, Nat.le_refl _, fun c => by cases c⟩
set_option maxHeartbeats 1000000 in
theorem sliteCut_any (s : ByteArray) (hs : s.size ≤ 9223372036854775806) (w : World) : Calls Tryz.prog 145 #[.string s, .string ⟨#[10]⟩] w fun e w' => (∃ line rest whole, e = .returned (.tuple #[.string line, .string rest, .bool whole]) ∧ CutIs s line rest whole) ∧ Below w.heap.size w w' := by
  have H1 : Hid (Calls Tryz.prog 191 #[.string s, .string ⟨#[10]⟩] w fun e w' => e = .returned (.int .i64 (Lib.indexByte s.data.toList 10)) ∧ w' = w) := Tryz.stringslite_Index_one s 10 w
  have hge := Lib.indexByte_ge s.data.toList 10
  have H2 : ∀ i : Nat, Lib.indexByte s.data.toList 10 = i → i < s.size ∧ CutIs s (s.extract 0 i) (s.extract (i + 1) s.size) true := fun i h => ⟨(cut_some s i h).1, cutIs_some s i h⟩
  have H3 := cutIs_none s
  generalize Lib.indexByte s.data.toList 10 = x at *
  by_cases hx : x = -1
  · subst hx
    have HC : Hid (CutIs s s ⟨#[]⟩ false) := H3 rfl
    clear H2 H3 hge
    go_enter Tryz.func145, Tryz.ntmps145
    go_wp2_with fail
    refine H1.out.mono ?_
    rintro e w1 ⟨rfl, hw⟩
    obtain rfl := hw.symm
    go_wp2_with fail
    go_ret3
    exact ⟨⟨_, _, _, rfl, HC.out⟩, Below.refl _ _⟩
  · obtain ⟨i, rfl⟩ : ∃ i : Nat, x = i := ⟨x.toNat, by omega⟩
    obtain ⟨hi, hc⟩ := H2 i rfl
    have HC : Hid (CutIs s (s.extract 0 i) (s.extract (i + 1) s.size) true) := hc
    clear hc
    clear H2 H3 hge hx
    have hi1 : ¬ (i : Int) < 0 := by omega
    have hi2 : (i : Int) ≤ (s.size : Int) := by omega
    have hi3 : (i : Int) + 1 ≤ (s.size : Int) := by omega
    have hi4 : (0 : Int) ≤ (i : Int) := by omega
    go_enter Tryz.func145, Tryz.ntmps145
    go_wp2_with fail
    refine H1.out.mono ?_
    rintro e w1 ⟨rfl, hw⟩
    obtain rfl := hw.symm
    go_wp2_with fail
    go_region
    all_goals
      go_wp2_with fail
      go_ret3
      exact ⟨⟨_, _, _, rfl, HC.out⟩, (Below.refl _ _).drew⟩
theorem strCut_any (s : ByteArray) (hs : s.size ≤ 9223372036854775806) (w : World) : Calls Tryz.prog 95 #[.string s, .string ⟨#[10]⟩] w fun e w' => (∃ line rest whole, e = .returned (.tuple #[.string line, .string rest, .bool whole]) ∧ CutIs s line rest whole) ∧ Below w.heap.size w w' := by
  have H1 : Hid (Calls Tryz.prog 145 #[.string s, .string ⟨#[10]⟩] w fun e w' => (∃ line rest whole, e = .returned (.tuple #[.string line, .string rest, .bool whole]) ∧ CutIs s line rest whole) ∧ Below w.heap.size w w') := sliteCut_any s hs w
  go_enter Tryz.func95, Tryz.ntmps95
  go_wp2_with fail
  refine H1.out.mono ?_
  rintro e w1 ⟨⟨line, rest, whole, rfl, hc⟩, B1⟩
  have HC : Hid (CutIs s line rest whole ∧ Below w.heap.size w w1) := ⟨hc, B1⟩
  clear hc B1 H1
  go_wp2_with fail
  go_ret3
  exact ⟨⟨_, _, _, rfl, HC.out.1⟩, HC.out.2⟩

/-- What decode answers. -/
def decAns (s : ByteArray) : Option (List Int) := if s.size ≤ 48 ∧ s.size % 2 = 0 then decodeL (nums s) else none
set_option maxHeartbeats 2000000 in
set_option maxRecDepth 100000 in
theorem decode_any (s : ByteArray) (hs : s.size ≤ 9223372036854775806) (w : World) : Calls Tryz.prog 146 #[.string s] w fun e w' => e = .returned (.tuple #[.string (strOfNums ((decAns s).getD [])), .bool (decAns s).isSome]) ∧ Below w.heap.size w w' := by
  obtain ⟨i, hi, hz0, hz1, hz2⟩ := info_of Tryz.infoU8
  by_cases h48 : 48 < s.size
  · have e : decAns s = none := by unfold decAns; rw [if_neg (by omega)]
    rw [e]
    have hi1 : (48 : Int) < (s.size : Int) := by omega
    go_enter Tryz.func146, Tryz.ntmps146
    go_wp2
    go_ret2
    exact ⟨rfl, Below.refl _ _⟩
  · have hi1 : ¬ (48 : Int) < (s.size : Int) := by omega
    by_cases h2 : s.size % 2 = 0
    · have e : decAns s = decodeL (nums s) := by unfold decAns; rw [if_pos (by omega)]
      rw [e]
      have hi2 : (s.size : Int) % 2 = 0 := by omega
      have HS : Hid (∀ q, q < s.size → (∀ W : World, (Instr.index 9 (.string s) (.int .i64 (q : Int))).run Tryz.prog W = .ok (.int .u8 ((nums s).getD q 0)) W) ∧ 0 ≤ (nums s).getD q 0 ∧ (nums s).getD q 0 ≤ 255) := fun q hq => ⟨idx_str' s q hq, by rw [List.getD_eq_getElem?_getD, List.getElem?_eq_getElem (by rw [nums_len]; exact hq)]; exact nums_byt s _ (List.getElem_mem _)⟩
      have HN0 : Hid ((nums s).length = s.size) := nums_len s
      have HSZ : Hid (s.size ≤ 48 ∧ s.size % 2 = 0) := ⟨by omega, h2⟩
      have HIX : Hid (∀ (W : World) (c : Int), 0 ≤ c → c ≤ 255 → Calls Tryz.prog 192 #[.string ⟨#[48, 49, 50, 51, 52, 53, 54, 55, 56, 57, 97, 98, 99, 100, 101, 102]⟩, .int .u8 c] W fun e w' => e = .returned (.int .i64 (digAt c)) ∧ w' = W) := fun W c c0 c1 => by
        have := Tryz.strings_IndexByte ⟨#[48, 49, 50, 51, 52, 53, 54, 55, 56, 57, 97, 98, 99, 100, 101, 102]⟩ c W
        obtain ⟨k, rfl⟩ : ∃ k : Nat, c = k := ⟨c.toNat, by omega⟩
        have hk : k < 256 := by omega
        have e2 := digAt_is ⟨k, hk⟩
        have e3 : Lib.indexByte (⟨#[48, 49, 50, 51, 52, 53, 54, 55, 56, 57, 97, 98, 99, 100, 101, 102]⟩ : ByteArray).data.toList ((k : Int).toNat.toUInt8) = digAt (k : Int) := e2
        rw [e3] at this
        exact this
      obtain ⟨ll, hll⟩ : ∃ ll, nums s = ll := ⟨_, rfl⟩
      rw [hll] at HS HN0 ⊢
      obtain ⟨D, hD⟩ : ∃ D, decodeL ll = D := ⟨_, rfl⟩
      rw [hD]
      have HDD : Hid (decodeL ll = D) := hD
      have h48' : s.size ≤ 48 := by omega
      clear hD
      clear hll h48 h2 e
      generalize hN : s.size = N at *
      go_enter Tryz.func146, Tryz.ntmps146
      go_wp2_with fail
      go_loopw [4, 5, 6, 7] (fun v k _ _ wr => ∃ (n : Nat) (r : List Int), 2 * n ≤ N ∧ k = .int .i64 ((2 * n : Nat) : Int) ∧ decN ll n = some r ∧ wr.ownsRow w.heap.size 5 1 v n (r.map (Value.int .u8)) ∧ Below w.heap.size w wr) (fun _ k _ _ _ => N - (intOf k).toNat)
      case atStart => exact ⟨0, [], by omega, rfl, rfl, World.ownsRow_nil _ _ _ _, Below.refl _ _⟩
      case round =>
        obtain ⟨n, r, hn, rfl, hdec, hrow, BB⟩ := hrel
        obtain ⟨la, lc, rfl⟩ := own_slice hrow
        have HB : Hid (Below w.heap.size w wr) := BB
        have HR : Hid (wr.ownsRow w.heap.size 5 1 (.slice la n lc) n (r.map (Value.int .u8))) := hrow
        have HD : Hid (decN ll n = some r) := hdec
        have hsz := BB.size
        clear BB hrow hdec
        by_cases hlt : 2 * n < N
        · have hj1 : ((2 * n : Nat) : Int) < (N : Int) := by omega
          have hn1 : 2 * n + 1 < N := by have := HSZ.out; omega
          obtain ⟨hx, hx0, hx1⟩ := HS.out (2 * n) (by omega)
          obtain ⟨hy, hy0, hy1⟩ := HS.out (2 * n + 1) hn1
          have H1 : Hid (Calls Tryz.prog 192 #[.string ⟨#[48, 49, 50, 51, 52, 53, 54, 55, 56, 57, 97, 98, 99, 100, 101, 102]⟩, .int .u8 (ll.getD (2 * n) 0)] wr fun e w' => e = .returned (.int .i64 (digAt (ll.getD (2 * n) 0))) ∧ w' = wr) := HIX.out wr (ll.getD (2 * n) 0) hx0 hx1
          have H2 : Hid (Calls Tryz.prog 192 #[.string ⟨#[48, 49, 50, 51, 52, 53, 54, 55, 56, 57, 97, 98, 99, 100, 101, 102]⟩, .int .u8 (ll.getD (2 * n + 1) 0)] wr fun e w' => e = .returned (.int .i64 (digAt (ll.getD (2 * n + 1) 0))) ∧ w' = wr) := HIX.out wr (ll.getD (2 * n + 1) 0) hy0 hy1
          have HDN : Hid _ := dec_next ll n (by have := HN0.out; omega)
          have HLT : Hid (2 * n + 1 < N) := hn1
          generalize ll.getD (2 * n) 0 = x at *
          generalize ll.getD (2 * n + 1) 0 = y at *
          have hxx : ∀ W : World, (Instr.index 9 (.string s) (.int .i64 ((2 * n : Nat) : Int))).run Tryz.prog W = .ok (.int .u8 x) W := hx
          have hyy : ∀ W : World, (Instr.index 9 (.string s) (.int .i64 (((2 * n : Nat) : Int) + 1))).run Tryz.prog W = .ok (.int .u8 y) W := hy
          generalize hq : ((2 * n : Nat) : Int) = q at *
          have HQ : Hid (((2 * n : Nat) : Int) = q) := hq
          have hq0 : 0 ≤ q := by omega
          have hq1 : q ≤ 48 := by omega
          clear hx hy hq
          go_wp2_with fail
          refine H1.out.mono ?_
          rintro e w1 ⟨rfl, hw⟩
          obtain rfl := hw.symm
          go_wp2_with fail
          refine H2.out.mono ?_
          rintro e w1 ⟨rfl, hw⟩
          obtain rfl := hw.symm
          clear H1 H2 hxx hyy
          by_cases hdx : digAt x < 0
          · have HE : Hid (decodeL ll = none) := by
              have e1 := (digAt_neg x).1 hdx
              have h2 := HDN.out
              rw [HD.out, e1] at h2
              exact dec_bad ll (n + 1) h2 (by have := HN0.out; have := HLT.out; omega)
            obtain rfl : D = none := HDD.out.symm.trans HE.out
            clear HDN HD HE HR HDD
            go_wp2_with fail
            go_ret2
            exact ⟨rfl, HB.out⟩
          · by_cases hdy : digAt y < 0
            · have HE : Hid (decodeL ll = none) := by
                have e1 := (digAt_neg y).1 hdy
                have e2 := (digAt_some hdx).1
                have h2 := HDN.out
                rw [HD.out, e1, e2] at h2
                exact dec_bad ll (n + 1) h2 (by have := HN0.out; have := HLT.out; omega)
              obtain rfl : D = none := HDD.out.symm.trans HE.out
              clear HDN HD HE HR HDD
              go_wp2_with fail
              go_ret2
              exact ⟨rfl, HB.out⟩
            · obtain ⟨ux, dx0, dx1⟩ := digAt_some hdx
              obtain ⟨uy, dy0, dy1⟩ := digAt_some hdy
              have HD2 : Hid (decN ll (n + 1) = some (r ++ [16 * digAt x + digAt y])) := by
                have h2 := HDN.out
                rw [HD.out, ux, uy] at h2
                exact h2
              clear HDN HD ux uy
              generalize digAt x = dx at *
              generalize digAt y = dy at *
              have hor : bits .or .i64 (dx * 16) dy = 16 * dx + dy := by
                have h0 := hexed ⟨dx.toNat, by omega⟩ ⟨dy.toNat, by omega⟩
                have e1 : ((dx.toNat : Nat) : Int) = dx := by omega
                have e2 : ((dy.toNat : Nat) : Int) = dy := by omega
                dsimp only at h0
                rw [e1, e2, IntKind.wrap_i64] at h0
                rw [← h0]
                congr 1
                omega
              go_wp2_with (at_builtin; refine wpList_append_own _ rfl _ _ 25 rfl w.heap.size 5 i _ 1 1 Tryz.underlying25 hi hz0 hz1 hz2 rfl (by decide) (.slice la n lc) n (r.map (Value.int .u8)) rfl (HR.out.alloc (.cells #[.int .u8 (16 * dx + dy)] 5)) ⟨wr.heap.size, 0, none⟩ 1 1 [.int .u8 (16 * dx + dy)] rfl rfl (cells_of_new wr [.int .u8 (16 * dx + dy)] 5) (by intro u hu; simp at hu; rcases hu with rfl; rfl) (by unfold maxLen; have := HLT.out; omega) (by have := HLT.out; omega) (by simp; omega) ?_)
              intro v6 w6 ho6 hg6 hat6
              obtain ⟨a6, c6, rfl⟩ := own_slice ho6
              have HO6 : Hid (w6.ownsRow w.heap.size 5 1 (.slice a6 (n + 1) c6) (n + 1) ((r ++ [16 * dx + dy]).map (Value.int .u8)) ∧ Below w.heap.size w w6) := by
                refine ⟨by rw [List.map_append]; exact ho6, ?_⟩
                have hlb : ∀ k', Value.ownBlock (.slice la n lc) = some k' → w.heap.size ≤ k' := fun k' hk' => (HR.out.lt k' hk').1
                exact (HB.out.alloc hsz _).grown hg6 (by simp; omega) hlb
              clear ho6 hg6 hat6
              go_wp2_with fail
              go_roundw
              case rel => exact ⟨n + 1, r ++ [16 * dx + dy], by have := HLT.out; omega, by rw [← HQ.out]; go_num, HD2.out, HO6.out.1, HO6.out.2⟩
              case measure => have := HLT.out; have := HQ.out; simp [intOf]; omega
        · have hj1 : ¬ ((2 * n : Nat) : Int) < (N : Int) := by omega
          have HE : Hid (decodeL ll = some r) := by
            have h2 := HD.out
            unfold decN at h2
            rw [List.take_of_length_le (by have := HN0.out; omega)] at h2
            exact h2
          have HCV : Hid ((convert 25 9 (.slice la n lc)).run Tryz.prog wr = .ok (.string (strOfNums r)) wr) := by
            have hrl : r.length = n := (dec_len ll n r (by have := HN0.out; omega) HD.out).1
            rcases own_form0 HR.out with ⟨e, h0⟩ | ⟨b, cp, e, _, _, _, hc⟩
            · rw [e]
              rw [run_convert_bytes_nil wr 25 5 Tryz.underlying25 Tryz.underlying5 0 0 9 Tryz.underlying9]
              have : r = [] := List.eq_nil_of_length_eq_zero (by omega)
              rw [this]
              rfl
            · rw [e]
              exact run_convert_bytes_arg wr 25 5 Tryz.underlying25 Tryz.underlying5 b 0 n cp r hrl (fun j hj => by
                rw [Nat.zero_add]
                exact hc j _ (by rw [List.getElem?_map, List.getElem?_eq_getElem (by omega), List.getD_eq_getElem?_getD, List.getElem?_eq_getElem (by omega)]; rfl)) 9 Tryz.underlying9
          have hcv := HCV.out
          obtain rfl : D = some r := HDD.out.symm.trans HE.out
          clear HD HE HR HCV HDD
          generalize hq : ((2 * n : Nat) : Int) = q at *
          clear hq
          go_wp2_with fail
          go_ret2
          exact ⟨rfl, HB.out⟩
    · have e : decAns s = none := by unfold decAns; rw [if_neg (by omega)]
      rw [e]
      have hi2 : ¬ (s.size : Int) % 2 = 0 := by omega
      go_enter Tryz.func146, Tryz.ntmps146
      go_wp2
      go_ret2
      exact ⟨rfl, Below.refl _ _⟩
end Go.Proofs.YtflenkppcclclaaGreatDoor

