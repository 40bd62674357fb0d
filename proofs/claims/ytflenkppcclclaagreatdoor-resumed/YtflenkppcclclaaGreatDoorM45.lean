import Derived.Test.YtflenkppcclclaaGreatDoorM42
import Derived.Test.YtflenkppcclclaaGreatDoorM44
import Derived.Deep.RegionHeld3
import Derived.Deep.DeepFit
namespace Go.Proofs.YtflenkppcclclaaGreatDoor
open Go.RowKit

/-! Strange. -/
theorem LA.resume {w : World} {v tv : Value} {seed fuel pk : Int} {g : PG} {l : List ByteArray} (A : LA w v tv seed fuel pk g l) (W : World) (b : Below w.heap.size w W) (cb co cap : Nat) (C : Laid W cb co g.L cap g.c) (lg : ByteArray) (hs : lg.size ≤ 9223372036854775806) :
    Calls Tryz.prog 24 #[.slice (some ⟨cb, co, none⟩) g.L cap, .string lg, .int .u64 seed, .int .i64 (1 + pk)] W (ResPost W.heap.size g seed lg W) := by
  have h2 := (A.mrk.all b).two
  have := xResume_any W cb co cap g A.ok C lg hs seed A.sd0 A.sd1 (A.tab.below b) (A.mrk.all b) (by omega)
  rw [A.fu] at this
  exact this
/-- What was followed to the end is the log, up to its last line's end. -/
theorem fol_log {R : ByteArray → Sh} {seed : Int} {log : ByteArray} {h' : HS} (hf : followS R 1 (HS.zero seed) (linesL (nums log)) = (h', none)) : strOfNums (logL h'.hist) = log.extract 0 (endL (nums log)) := by
  obtain ⟨l, e1, _, e3⟩ := follow_ok R _ _ _ _ hf
  have hh := (retry_is R l _ _ e3).1
  have e : h'.hist = l := by rw [hh]; rfl
  rw [e, log_join, ← e1, ← take_endL]
  apply nums_inj
  rw [nums_str (fun x hx => nums_byt log x (List.mem_of_mem_take hx)), nums_extract, List.drop_zero, Nat.sub_zero]
theorem take_next (l : List Int) (i : Nat) (hi : i < l.length) : l.take (i + 1) = l.take i ++ [l.getD i 0] := by
  rw [List.take_succ_eq_append_getElem hi, List.getD_eq_getElem?_getD, List.getElem?_eq_getElem hi]
  rfl
/-- How far the lines have been counted. -/
structure LnC (l : List Int) (n i m a : Nat) : Prop where
  le : i ≤ l.length
  num : (linesL (l.take i)).length = m
  most : m ≤ n
  at' : endL (l.take i) = a
theorem LnC.next {l : List Int} {n i m a : Nat} (c : LnC l n i m a) (hi : i < l.length) (hm : m < n) : if l.getD i 0 = 10 then LnC l n (i + 1) (m + 1) (i + 1) else LnC l n (i + 1) m a := by
  have hs := lines_snoc (l.take i) (l.getD i 0)
  rw [← take_next l i hi, c.num, c.at', List.length_take, Nat.min_eq_left c.le] at hs
  split
  · rename_i e
    rw [if_pos e, if_pos e] at hs
    exact ⟨by omega, hs.1, by omega, hs.2⟩
  · rename_i e
    rw [if_neg e, if_neg e] at hs
    exact ⟨by omega, hs.1, c.most, hs.2⟩
theorem LnC.end' {l : List Int} {n i m a : Nat} (c : LnC l n i m a) (hn : n ≤ (linesL l).length) (h : i = l.length ∨ n ≤ m) : m = n := by
  have := c.most
  rcases h with h | h
  · have e := c.num
    rw [h, List.take_length] at e
    omega
  · omega
theorem LnC.a_le {l : List Int} {n i m a : Nat} (c : LnC l n i m a) : a ≤ l.length := by
  have := endL_le (l.take i)
  rw [c.at', List.length_take] at this
  omega
/-- A wrong line is wrong, whatever follows. -/
theorem fol_more {R : ByteArray → Sh} {seed : Int} {log more : ByteArray} {h' : HS} {n i a : Nat} (hf : followS R 1 (HS.zero seed) (linesL (nums log)) = (h', some n)) (c : LnC (nums log) n i n a) : followS R 1 (HS.zero seed) (linesL (nums (log.extract 0 a ++ more))) = (h', some n) := by
  obtain ⟨h1, h2, h3⟩ := follow_bad R _ _ _ _ _ hf
  have e : linesL (nums (log.extract 0 a ++ more)) = (linesL (nums log)).take n ++ linesL (nums more) := by
    rw [nums_append, nums_extract, List.drop_zero, Nat.sub_zero, ← c.at']
    exact lines_first (nums log) (nums more) i n c.num
  rw [e]
  have := h3 (linesL (nums more))
  rw [show n - 1 + 1 = n by omega] at this
  exact this
set_option maxHeartbeats 1000000 in
set_option maxRecDepth 100000 in
theorem strange_all (w : World) (v tv : Value) (seed fuel pk : Int) (g : PG) (A : LA w v tv seed fuel pk g []) (log : ByteArray) (hlog : log.size ≤ 140737488355328) (more : ByteArray) (hmore : more.size ≤ 140737488355328) :
    Calls Tryz.prog 10 #[v, .string log, .string more, .int .u64 seed, .int .i64 fuel] w fun e w' => e = .returned (.bool true) ∧ Below w.heap.size w w' := by
  have H0 : Hid (Calls Tryz.prog 12 #[] w fun e w' => e = .returned (.bool true) ∧ Below w.heap.size w w') := A.prowled
  have H2 : Hid (∀ W, Below w.heap.size w W → Calls Tryz.prog 14 #[v] W fun e w' => ∃ cb co cap, e = .returned (.slice (some ⟨cb, co, none⟩) g.L cap) ∧ Below W.heap.size W w' ∧ Laid w' cb co g.L cap g.c) := A.prog
  have H3 : Hid (∀ W, Calls Tryz.prog 15 #[.int .i64 fuel, .int .i64 200] W fun e w' => e = .returned (.int .i64 pk) ∧ w' = W) := A.pick
  have H4 : Hid (∀ W, Below w.heap.size w W → ∀ cb co cap, Laid W cb co g.L cap g.c → ∀ lg : ByteArray, lg.size ≤ 9223372036854775806 → Calls Tryz.prog 24 #[.slice (some ⟨cb, co, none⟩) g.L cap, .string lg, .int .u64 seed, .int .i64 (1 + pk)] W (ResPost W.heap.size g seed lg W)) := fun W b cb co cap C lg hs => A.resume W b cb co cap C lg hs
  have pk0 := A.pk0
  have pk1 := A.pk1
  clear A
  obtain ⟨gL, hgL⟩ : ∃ x, g.L = x := ⟨_, rfl⟩
  rw [hgL] at H2 H4
  clear hgL
  have HIX : Hid (∀ q, q < log.size → (∀ W : World, (Instr.index 9 (.string log) (.int .i64 (q : Int))).run Tryz.prog W = .ok (.int .u8 ((nums log).getD q 0)) W)) := fun q hq => idx_str' log q hq
  have HLN : Hid ((nums log).length = log.size) := nums_len log
  go_enter Tryz.func10, Tryz.ntmps10
  go_wp2_with fail
  refine H0.out.mono ?_
  rintro e w1 ⟨rfl, B1⟩
  have HB1 : Hid (Below w.heap.size w w1) := B1
  clear B1 H0
  go_wp2_with fail
  refine (H2.out w1 HB1.out).mono ?_
  rintro e w2 ⟨cb, co, cap, rfl, B2, C2⟩
  have HB2 : Hid (Below w.heap.size w w2 ∧ Laid w2 cb co gL cap g.c) := ⟨HB1.out.trans (B2.mono HB1.out.size), C2⟩
  clear B2 C2 H2 HB1
  go_wp2_with fail
  refine (H3.out w2).mono ?_
  rintro e w3 ⟨rfl, hw⟩
  obtain rfl := hw.symm
  have H5 : Hid (Calls Tryz.prog 24 #[.slice (some ⟨cb, co, none⟩) gL cap, .string log, .int .u64 seed, .int .i64 (1 + pk)] w2 (ResPost w2.heap.size g seed log w2)) := H4.out w2 HB2.out.1 cb co cap HB2.out.2 log (by omega)
  clear H3
  go_wp2_with fail
  refine H5.out.mono ?_
  rintro e w4 ⟨B4, ⟨h', H, U, hf, rfl, pw⟩ | ⟨h', n, hf, rfl⟩⟩
  · have HB4 : Hid (Below w.heap.size w w4) := HB2.out.1.trans (B4.mono HB2.out.1.size)
    have HXL : Hid (∀ W, Below w4.heap.size w4 W → Calls Tryz.prog 23 #[.pointer (some ⟨H, 0, none⟩)] W fun e w' => e = .returned (.string (log.extract 0 (endL (nums log)))) ∧ Below w.heap.size w w') := fun W b => by
      have := (pw.below b).log
      rw [fol_log hf] at this
      have bb : Below w.heap.size w W := HB4.out.trans (b.mono HB4.out.size)
      exact this.mono fun e w' ⟨x, y⟩ => ⟨x, bb.trans (y.mono bb.size)⟩
    clear B4 hf pw HB2 H4 H5
    go_wp2_with fail
    go_loopw [17] (fun ev wr => ∃ e : Nat, e ≤ log.size ∧ ev = .int .i64 e ∧ (∀ j, e ≤ j → j < (nums log).length → (nums log).getD j 0 ≠ 10) ∧ wr = w4) (fun ev _ => (intOf ev).toNat)
    case atStart => exact ⟨log.size, Nat.le_refl _, rfl, fun j h1 h2 => by have := HLN.out; omega, rfl⟩
    case round =>
      obtain ⟨e, he, rfl, hno, hwr⟩ := hrel
      obtain rfl := hwr.symm
      have HNO : Hid (∀ j, e ≤ j → j < (nums log).length → (nums log).getD j 0 ≠ 10) := hno
      clear hno
      by_cases h0 : 0 < e
      · have hi0 : (0 : Int) < (e : Int) := by omega
        have hx := HIX.out (e - 1) (by omega)
        have ec : (((e - 1 : Nat) : Nat) : Int) = (e : Int) - 1 := by omega
        rw [ec] at hx
        obtain ⟨x, hxx⟩ : ∃ x, (nums log).getD (e - 1) 0 = x := ⟨_, rfl⟩
        rw [hxx] at hx
        have HXX : Hid ((nums log).getD (e - 1) 0 = x) := hxx
        clear hxx ec
        by_cases h10 : x = 10
        · subst h10
          have HEE : Hid (e = endL (nums log)) := endL_is _ _ HNO.out (Or.inr HXX.out)
          have heI : (e : Int) ≤ (log.size : Int) := by omega
          clear HXX
          have HX2 : Hid (∀ W, Below w4.heap.size w4 W → Calls Tryz.prog 23 #[.pointer (some ⟨H, 0, none⟩)] W fun r w' => r = .returned (.string (log.extract 0 e)) ∧ Below w.heap.size w w') := by
            have h := HXL
            rw [← HEE.out] at h
            exact h
          clear HXL HEE HNO
          go_wp2_with fail
          go_region_held3 (fun _ => True) (trivial) (first
            | (go_at_call 23; go_fit (HX2.out w4.drew (Below.refl _ _).drew); rintro e w5 ⟨rfl, b5⟩; have HB5 : Hid (Below w.heap.size w w5) := b5; clear b5))
          all_goals
            go_wp2_with fail
            go_ret
            exact ⟨by kernel_rfl, HB5.out⟩
        · go_wp2_with fail
          go_roundw
          case rel => exact ⟨e - 1, by omega, by go_num, fun j h1 h2 => by
            by_cases c : j = e - 1
            · rw [c, HXX.out]; exact h10
            · exact HNO.out j (by omega) h2, trivial⟩
          case measure => simp [intOf]; omega
      · have hi0 : ¬ (0 : Int) < (e : Int) := by omega
        obtain rfl : e = 0 := by omega
        have HEE : Hid (0 = endL (nums log)) := endL_is _ _ HNO.out (Or.inl rfl)
        have heI : (0 : Int) ≤ (log.size : Int) := by omega
        have HX2 : Hid (∀ W, Below w4.heap.size w4 W → Calls Tryz.prog 23 #[.pointer (some ⟨H, 0, none⟩)] W fun e w' => e = .returned (.string (log.extract 0 0)) ∧ Below w.heap.size w w') := by
            have h := HXL
            rw [← HEE.out] at h
            exact h
        clear HXL HEE HNO
        go_wp2_with fail
        go_region_held3 (fun _ => True) (trivial) (first
          | (go_at_call 23; go_fit (HX2.out w4.drew (Below.refl _ _).drew); rintro e w5 ⟨rfl, b5⟩; have HB5 : Hid (Below w.heap.size w w5) := b5; clear b5))
        all_goals
          go_wp2_with fail
          go_ret
          exact ⟨by kernel_rfl, HB5.out⟩
  · have HB4 : Hid (Below w.heap.size w w4 ∧ Laid w4 cb co gL cap g.c) := ⟨HB2.out.1.trans (B4.mono HB2.out.1.size), HB2.out.2.below B4⟩
    obtain ⟨h1n, hnl, _⟩ := follow_bad g.R _ _ _ _ _ hf
    have HNL : Hid (n ≤ (linesL (nums log)).length) := by show n ≤ _; omega
    have hnb : n ≤ log.size := by
      have h1 : (linesL (nums log)).length ≤ (joinL (linesL (nums log))).length := by
        have : ∀ ls : List (List Int), ls.length ≤ (joinL ls).length := by
          intro ls
          induction ls with
          | nil => simp
          | cons x ls ih => simp [joinL]; omega
        exact this _
      have h2 := endL_le (nums log)
      have h3 := HLN.out
      unfold endL at h2
      have h4 := HNL.out
      omega
    have HFM : Hid (∀ i a, LnC (nums log) n i n a → followS g.R 1 (HS.zero seed) (linesL (nums (log.extract 0 a ++ more))) = (h', some n)) := fun i a c => fol_more hf c
    clear B4 HB2 H5 hnl hf
    go_wp2_with fail
    go_loopw [18, 19, 20] (fun lv av iv wr => ∃ i m a : Nat, iv = .int .i64 i ∧ lv = .int .i64 ((1 : Int) + m) ∧ av = .int .i64 a ∧ LnC (nums log) n i m a ∧ wr = w4) (fun _ _ iv _ => log.size - (intOf iv).toNat)
    case atStart => exact ⟨0, 0, 0, rfl, rfl, rfl, ⟨Nat.zero_le _, rfl, Nat.zero_le _, rfl⟩, rfl⟩
    case round =>
      obtain ⟨i, m, a, rfl, rfl, rfl, hc, hwr⟩ := hrel
      obtain rfl := hwr.symm
      have hmn := hc.most
      have hil : i ≤ log.size := by have := hc.le; have := HLN.out; omega
      by_cases hgo : i < log.size ∧ m < n
      · have hi1 : (i : Int) < (log.size : Int) := by omega
        have hi2 : (1 : Int) + (m : Int) ≤ (n : Int) := by omega
        have hx := HIX.out i hgo.1
        have hnx := hc.next (by have := HLN.out; omega) hgo.2
        have HGO : Hid (i < log.size) := hgo.1
        clear hc hgo
        obtain ⟨x, hxx⟩ : ∃ x, (nums log).getD i 0 = x := ⟨_, rfl⟩
        rw [hxx] at hx hnx
        clear hxx
        by_cases h10 : x = 10
        · subst h10
          rw [if_pos rfl] at hnx
          have HNX : Hid (LnC (nums log) n (i + 1) (m + 1) (i + 1)) := hnx
          clear hnx
          go_wp2_with fail
          go_roundw
          case rel => exact ⟨i + 1, m + 1, i + 1, by go_num, by go_num, by go_num, HNX.out, trivial⟩
          case measure => have := HGO.out; simp [intOf]; omega
        · rw [if_neg h10] at hnx
          have HNX : Hid (LnC (nums log) n (i + 1) m a) := hnx
          clear hnx
          go_wp2_with fail
          go_roundw
          case rel => exact ⟨i + 1, m, a, by go_num, rfl, rfl, HNX.out, trivial⟩
          case measure => have := HGO.out; simp [intOf]; omega
      · have hend : m = n := hc.end' HNL.out (by have := HLN.out; omega)
        subst hend
        have hal := hc.a_le
        have haI : (a : Int) ≤ (log.size : Int) := by have := HLN.out; omega
        have hsz : (log.extract 0 a).size ≤ log.size := by rw [Lib.size_eq, Lib.extract_data, List.length_take, List.length_drop, ← Lib.size_eq]; omega
        have hsa : (log.extract 0 a ++ more).size = (log.extract 0 a).size + more.size := by simp
        have H6 : Hid (Calls Tryz.prog 24 #[.slice (some ⟨cb, co, none⟩) gL cap, .string (log.extract 0 a ++ more), .int .u64 seed, .int .i64 (1 + pk)] w4 fun e w' => Below w.heap.size w w' ∧ e = .returned (.tuple #[.pointer none, .int .i64 (m : Nat), .int .i64 5])) := by
          refine (H4.out w4 HB4.out.1 cb co cap HB4.out.2 (log.extract 0 a ++ more) (by omega)).mono ?_
          have hfm := HFM.out i a hc
          rintro e w' ⟨B, ⟨h2, H2, U2, hf2, _, _⟩ | ⟨h2, n2, hf2, rfl⟩⟩
          · rw [hfm] at hf2; cases hf2
          · rw [hfm] at hf2
            injection hf2 with _ q
            injection q with q
            subst q
            exact ⟨HB4.out.1.trans (B.mono HB4.out.1.size), rfl⟩
        have hn1 : ¬ (m : Int) < 1 := by omega
        have hcase : (¬ (i : Int) < (log.size : Int)) ∨ ((i : Int) < (log.size : Int) ∧ ¬ (1 : Int) + (m : Int) ≤ (m : Int)) := by omega
        have hcomm : (1 : Int) + (m : Int) = (m : Int) + 1 := by omega
        clear hc HFM hgo hmn H4 HIX
        rcases hcase with hi1 | ⟨hi1, hi2⟩
        all_goals
          go_wp2_with fail
          refine H6.out.mono ?_
          rintro r w5 ⟨B5, rfl⟩
          have HB5 : Hid (Below w.heap.size w w5) := B5
          clear B5
          go_wp2_with fail
          go_ret
          exact ⟨rfl, HB5.out⟩
end Go.Proofs.YtflenkppcclclaaGreatDoor

namespace Go.Proofs.YtflenkppcclclaaGreatDoor
open Go.RowKit

/-! Resumed: what a log's first n bytes come to. -/
theorem endL_cut (l : List Int) (n e : Nat) (hn : n ≤ l.length) (he : e ≤ n) (h1 : ∀ j, e ≤ j → j < n → l.getD j 0 ≠ 10) (h2 : e = 0 ∨ l.getD (e - 1) 0 = 10) : e = endL (l.take n) := by
  have hg : ∀ j, j < n → (l.take n).getD j 0 = l.getD j 0 := fun j hj => by rw [List.getD_eq_getElem?_getD, List.getD_eq_getElem?_getD, List.getElem?_take, if_pos hj]
  apply endL_is
  · intro j hj hl
    rw [List.length_take, Nat.min_eq_left hn] at hl
    rw [hg j hl]
    exact h1 j hj hl
  · rcases h2 with h | h
    · exact Or.inl h
    · by_cases c : e = 0
      · exact Or.inl c
      · right
        rw [hg (e - 1) (by omega)]
        exact h
structure RsF (g : PG) (seed : Int) (h h1 : HS) (lg : ByteArray) (n e : Nat) : Prop where
  fol : followS g.R 1 (HS.zero seed) (linesL (nums (lg.extract 0 n))) = (h1, none)
  log : strOfNums (logL h1.hist) = lg.extract 0 e
  kept : ∀ i, i < h1.kept.length → i < h.kept.length ∧ (h1.kept.getD i in0).text = (h.kept.getD i in0).text
  found : ∀ i, i < h1.found.length → i < h.found.length ∧ h1.found.getD i cr0 = h.found.getD i cr0
  lk : h1.kept.length ≤ h.kept.length
  lf : h1.found.length ≤ h.found.length
  all : lg.size ≤ n → h1.kept = h.kept ∧ h1.found = h.found
  cnt : cntL true ((nums lg).take e) = (h1.kept.length, h1.found.length)
  le : e ≤ n
theorem rsf_of {g : PG} {h : HS} (inv : Hinv g.R h) (rp : Replays g.R h) (seed : Int) (n : Nat) (hn : n ≤ (strOfNums (logL h.hist)).size) : ∃ h1, RsF g seed h h1 (strOfNums (logL h.hist)) n (endL ((logL h.hist).take n)) := by
  have hnum : nums (strOfNums (logL h.hist)) = logL h.hist := nums_str (log_byt _)
  have h24 : ∀ x ∈ h.hist, x.2.size ≤ 24 := fun x hx => by
    obtain ⟨i, hi⟩ := List.getElem?_of_mem hx
    exact (hist_at inv i x.1 x.2 hi).1
  obtain ⟨h1, e1, e2, ⟨t, e3⟩, ⟨u, e4⟩, e5⟩ := retry_take rp seed (cutN h.hist n)
  have hinv1 : Hinv g.R h1 := Hinv.retried g.rok _ _ _ (hinv_zero g.R seed) (fun x hx => h24 x (List.mem_of_mem_take hx)) e1
  have hct := cut_text h.hist n
  have hsz : (strOfNums (logL h.hist)).size = (logL h.hist).length := str_size _
  refine ⟨h1, ?_, ?_, ?_, ?_, ?_, ?_, ?_, ?_, ?_⟩
  · rw [nums_extract, hnum, List.drop_zero, Nat.sub_zero, cut_lines]
    exact follow_of g.R _ _ _ _ (fun x hx => h24 x (List.mem_of_mem_take hx)) e1
  · apply nums_inj
    rw [nums_str (log_byt _), nums_extract, hnum, List.drop_zero, Nat.sub_zero, hct, e2]
  · intro i hi
    have : i < h.kept.length := by rw [e3, List.length_append]; omega
    refine ⟨this, ?_⟩
    rw [e3, List.getD_eq_getElem?_getD, List.getD_eq_getElem?_getD, List.getElem?_append_left hi]
  · intro i hi
    have : i < h.found.length := by rw [e4, List.length_append]; omega
    refine ⟨this, ?_⟩
    rw [e4, List.getD_eq_getElem?_getD, List.getD_eq_getElem?_getD, List.getElem?_append_left hi]
  · rw [e3, List.length_append]; omega
  · rw [e4, List.length_append]; omega
  · intro hl
    rw [hsz] at hl
    exact e5 (by rw [cut_all _ _ hl]; exact Nat.le_refl _)
  · rw [hnum, hct, (cnt_log _).1, ← e2, hinv1.histK, hinv1.histF, List.length_map, List.length_map]
  · have := endL_le ((logL h.hist).take n)
    rw [List.length_take] at this
    omega
theorem log_small {g : PG} {h : HS} (inv : Hinv g.R h) (ok : PGok g) : (strOfNums (logL h.hist)).size ≤ 10000000 := by
  have h24 : ∀ x ∈ h.hist, x.2.size ≤ 24 := fun x hx => by
    obtain ⟨i, hi⟩ := List.getElem?_of_mem hx
    exact (hist_at inv i x.1 x.2 hi).1
  have h1 := logB_len h.hist h24
  have h2 := hist_le inv ok.fok
  have h3 : (strOfNums (logL h.hist)).size = (logB h.hist).length := by rw [logB_is, Array.length_toList]; rfl
  omega
/-- Two prowls of one program. -/
structure Duo (w : World) (H K : Nat) (g : PG) (h h1 : HS) (wr : World) : Prop where
  bel : Below w.heap.size w wr
  p : ∃ U, Prw w.heap.size U H g h wr
  q : ∃ V, Prw w.heap.size V K g h1 wr
theorem Duo.below {w : World} {H K : Nat} {g : PG} {h h1 : HS} {wr w' : World} (t : Duo w H K g h h1 wr) (b : Below wr.heap.size wr w') : Duo w H K g h h1 w' := by
  obtain ⟨U, p⟩ := t.p
  obtain ⟨V, q⟩ := t.q
  exact ⟨t.bel.trans (b.mono t.bel.size), ⟨U, p.below b⟩, ⟨V, q.below b⟩⟩
theorem Duo.swap {w : World} {H K : Nat} {g : PG} {h h1 : HS} {wr : World} (t : Duo w H K g h h1 wr) : Duo w K H g h1 h wr := ⟨t.bel, t.q, t.p⟩
theorem Duo.keptP {w : World} {H K : Nat} {g : PG} {h h1 : HS} {wr : World} (t : Duo w H K g h h1 wr) : Calls Tryz.prog 16 #[.pointer (some ⟨H, 0, none⟩)] wr fun e w' => e = .returned (.slice (some ⟨wr.heap.size, 0, none⟩) h.kept.length h.kept.length) ∧ ((∀ i, i < h.kept.length → w'.cell? ⟨wr.heap.size, i, none⟩ = some (.string (h.kept.getD i in0).text)) ∧ wr.heap.size < w'.heap.size ∧ Below wr.heap.size wr w') := by
  obtain ⟨U, p⟩ := t.p
  refine p.kepts.mono ?_
  rintro e w' ⟨rfl, hr, b⟩
  exact ⟨rfl, fun i hi => by rw [cell_of_row w' wr.heap.size i _ _ _ hr, List.getElem?_toArray, txtL_get _ _ i hi], (Array.getElem?_eq_some_iff.1 hr).1, b⟩
/-- Crashes in memory, cell by cell. -/
def CrAt (ao : Option Addr) (l : List Cr) (w : World) : Prop := ∀ j, j < l.length → ∃ b, ao = some ⟨b, 0, none⟩ ∧ b < w.heap.size ∧ w.cell? ⟨b, j * 3, none⟩ = some (.string (l.getD j cr0).text) ∧ w.cell? ⟨b, j * 3 + 1, none⟩ = some (.int .i64 (l.getD j cr0).fault) ∧ w.cell? ⟨b, j * 3 + 2, none⟩ = some (.int .i64 (l.getD j cr0).place)
theorem CrAt.below {ao : Option Addr} {l : List Cr} {w w' : World} (c : CrAt ao l w) (b : Below w.heap.size w w') : CrAt ao l w' := fun j hj => by
  obtain ⟨bb, e, hb, c0, c1, c2⟩ := c j hj
  exact ⟨bb, e, Nat.lt_of_lt_of_le hb b.size, (b.cell (p := ⟨bb, j * 3, none⟩) hb).trans c0, (b.cell (p := ⟨bb, j * 3 + 1, none⟩) hb).trans c1, (b.cell (p := ⟨bb, j * 3 + 2, none⟩) hb).trans c2⟩
theorem Duo.crashP {w : World} {H K : Nat} {g : PG} {h h1 : HS} {wr : World} (t : Duo w H K g h h1 wr) : Calls Tryz.prog 18 #[.pointer (some ⟨H, 0, none⟩)] wr fun e w' => (∃ ao cp, e = .returned (.slice ao h.found.length cp) ∧ CrAt ao h.found w') ∧ Below wr.heap.size wr w' := by
  obtain ⟨U, p⟩ := t.p
  refine (p.crashes (by have := found_le p.inv p.ok.fok; omega)).mono ?_
  rintro e w' ⟨⟨v, rfl, cl⟩, b⟩
  refine ⟨?_, b⟩
  rcases cl.form with ⟨rfl, h0⟩ | ⟨bb, cp, rfl, hb, _, hc⟩
  · exact ⟨none, 0, by rw [h0]; rfl, fun j hj => by rw [h0] at hj; simp at hj⟩
  · refine ⟨_, cp, rfl, fun j hj => ?_⟩
    obtain ⟨f1, f2, f3⟩ := fcells_at h.found j hj
    exact ⟨bb, rfl, hb, hc _ _ f1, hc _ _ f2, hc _ _ f3⟩
theorem cnt_le : ∀ (l : List Int) (st : Bool), (cntL st l).1 + (cntL st l).2 ≤ l.length
  | [], _ => Nat.le_refl _
  | x :: l, st => by
    have ih := cnt_le l (decide (x = 10))
    rw [cnt_cons]
    cases st with
    | false => simp; omega
    | true =>
      by_cases hx : x = 113
      · simp [hx] at ih ⊢; omega
      · simp [hx]; omega
end Go.Proofs.YtflenkppcclclaaGreatDoor

