import Derived.Test.YtflenkppcclclaaGreatDoorM43
import Derived.Test.YtflenkppcclclaaGreatDoorM40
namespace Go.Proofs.YtflenkppcclclaaGreatDoor
open Go.RowKit

/-! lines.Read, Follow, Resume. -/
def ReadAns (o : Option (Bool × ByteArray)) (e : Ending) : Prop := (∃ b t, o = some (b, t) ∧ e = .returned (.tuple #[.int .u8 (letter b), .string t, .bool true])) ∨ (o = none ∧ ∃ x y, e = .returned (.tuple #[.int .u8 x, .string y, .bool false]))
theorem nums_two (s : ByteArray) (h : 2 ≤ s.size) : nums s = (nums s).getD 0 0 :: (nums s).getD 1 0 :: nums (s.extract 2 s.size) := by
  have hl := nums_len s
  rw [nums_extract, List.take_of_length_le (by rw [List.length_drop]; omega)]
  match hn : nums s, hl with
  | [], hl => simp at hl; omega
  | [a], hl => simp at hl; omega
  | a :: b :: l, _ => rfl
theorem read_split (s : ByteArray) (h : 2 ≤ s.size) (h0 : (nums s).getD 0 0 = 113 ∨ (nums s).getD 0 0 = 99) (h1 : (nums s).getD 1 0 = 32) : readL (nums s) = (decAns (s.extract 2 s.size)).map fun l => (decide ((nums s).getD 0 0 = 113), strOfNums l) := by
  have hn : (nums (s.extract 2 s.size)).length = (s.extract 2 s.size).size := nums_len _
  rw [nums_two s h]
  unfold readL decAns
  dsimp only
  rw [hn]
  by_cases c : (s.extract 2 s.size).size ≤ 48 ∧ (s.extract 2 s.size).size % 2 = 0
  · rw [if_pos ⟨h0, h1, c.1, c.2⟩, if_pos c]
    rfl
  · rw [if_neg (fun q => c ⟨q.2.2.1, q.2.2.2⟩), if_neg c]
    rfl
theorem read_not (s : ByteArray) (h : s.size < 2 ∨ ((nums s).getD 0 0 ≠ 113 ∧ (nums s).getD 0 0 ≠ 99) ∨ (nums s).getD 1 0 ≠ 32) : readL (nums s) = none := by
  by_cases h2 : 2 ≤ s.size
  · rw [nums_two s h2]
    unfold readL
    dsimp only
    rw [if_neg]
    rintro ⟨a, b, _⟩
    rcases h with h | h | h
    · omega
    · rcases a with a | a
      · exact h.1 a
      · exact h.2 a
    · exact h b
  · have hl := nums_len s
    match hn : nums s, hl with
    | [], _ => rfl
    | [a], _ => rfl
    | a :: b :: l, hl => simp at hl; omega
set_option maxHeartbeats 2000000 in
set_option maxRecDepth 100000 in
theorem read_any (s : ByteArray) (hs : s.size ≤ 9223372036854775806) (w : World) : Calls Tryz.prog 96 #[.string s] w fun e w' => ReadAns (readL (nums s)) e ∧ Below w.heap.size w w' := by
  by_cases h2 : s.size < 2
  · have HA : Hid (readL (nums s) = none) := read_not s (Or.inl h2)
    have hi1 : (s.size : Int) < 2 := by omega
    go_enter Tryz.func96, Tryz.ntmps96
    go_wp2
    go_ret3
    exact ⟨Or.inr ⟨HA.out, _, _, rfl⟩, Below.refl _ _⟩
  · have hi1 : ¬ (s.size : Int) < 2 := by omega
    have hx : ∀ W : World, (Instr.index 9 (.string s) (.int .i64 0)).run Tryz.prog W = .ok (.int .u8 ((nums s).getD 0 0)) W := idx_str' s 0 (by omega)
    have hy : ∀ W : World, (Instr.index 9 (.string s) (.int .i64 1)).run Tryz.prog W = .ok (.int .u8 ((nums s).getD 1 0)) W := idx_str' s 1 (by omega)
    have HD : Hid (Calls Tryz.prog 146 #[.string (s.extract 2 s.size)] w fun e w' => e = .returned (.tuple #[.string (strOfNums ((decAns (s.extract 2 s.size)).getD [])), .bool (decAns (s.extract 2 s.size)).isSome]) ∧ Below w.heap.size w w') := decode_any _ (by rw [Lib.size_eq, Lib.extract_data, List.length_take, List.length_drop, ← Lib.size_eq]; omega) w
    have HS := read_split s (by omega)
    have HN := read_not s
    have h2' : (2 : Int) ≤ (s.size : Int) := by omega
    clear h2
    generalize readL (nums s) = o at *
    generalize (nums s).getD 0 0 = x at *
    generalize (nums s).getD 1 0 = y at *
    by_cases hy1 : y = 32
    · subst hy1
      by_cases hx1 : x = 113
      · subst hx1
        have HO : Hid (o = (decAns (s.extract 2 s.size)).map fun l => (true, strOfNums l)) := HS (Or.inl rfl) rfl
        clear HS HN
        generalize decAns (s.extract 2 s.size) = D at *
        go_enter Tryz.func96, Tryz.ntmps96
        go_wp2_with fail
        refine HD.out.mono ?_
        rintro e w1 ⟨rfl, B1⟩
        have HB : Hid (Below w.heap.size w w1) := B1
        clear B1 HD
        go_wp2_with fail
        go_ret3
        refine ⟨?_, HB.out⟩
        rw [HO.out]
        cases D with
        | none => exact Or.inr ⟨rfl, _, _, rfl⟩
        | some l => exact Or.inl ⟨true, strOfNums l, rfl, rfl⟩
      · by_cases hx2 : x = 99
        · subst hx2
          have HO : Hid (o = (decAns (s.extract 2 s.size)).map fun l => (false, strOfNums l)) := HS (Or.inr rfl) rfl
          clear HS HN hx1
          generalize decAns (s.extract 2 s.size) = D at *
          go_enter Tryz.func96, Tryz.ntmps96
          go_wp2_with fail
          refine HD.out.mono ?_
          rintro e w1 ⟨rfl, B1⟩
          have HB : Hid (Below w.heap.size w w1) := B1
          clear B1 HD
          go_wp2_with fail
          go_ret3
          refine ⟨?_, HB.out⟩
          rw [HO.out]
          cases D with
          | none => exact Or.inr ⟨rfl, _, _, rfl⟩
          | some l => exact Or.inl ⟨false, strOfNums l, rfl, rfl⟩
        · have HA : Hid (o = none) := HN (Or.inr (Or.inl ⟨hx1, hx2⟩))
          clear HS HN HD
          go_enter Tryz.func96, Tryz.ntmps96
          go_wp2_with fail
          go_ret3
          exact ⟨Or.inr ⟨HA.out, _, _, rfl⟩, Below.refl _ _⟩
    · have HA : Hid (o = none) := HN (Or.inr (Or.inr hy1))
      clear HS HN HD
      by_cases hx1 : x = 113
      · subst hx1
        go_enter Tryz.func96, Tryz.ntmps96
        go_wp2_with fail
        go_ret3
        exact ⟨Or.inr ⟨HA.out, _, _, rfl⟩, Below.refl _ _⟩
      · by_cases hx2 : x = 99
        · subst hx2
          go_enter Tryz.func96, Tryz.ntmps96
          go_wp2_with fail
          go_ret3
          exact ⟨Or.inr ⟨HA.out, _, _, rfl⟩, Below.refl _ _⟩
        · go_enter Tryz.func96, Tryz.ntmps96
          go_wp2_with fail
          go_ret3
          exact ⟨Or.inr ⟨HA.out, _, _, rfl⟩, Below.refl _ _⟩
/-- What Follow leaves. -/
def FolPost (U : Nat → Prop) (H : Nat) (g : PG) (seed : Int) (log : ByteArray) (w : World) (e : Ending) (w' : World) : Prop :=
  (∃ h', followS g.R 1 (HS.zero seed) (linesL (nums log)) = (h', none) ∧ e = .returned (.tuple #[.int .i64 0, .bool true]) ∧ HuntTo U H g h' w w') ∨
  (∃ h' n, followS g.R 1 (HS.zero seed) (linesL (nums log)) = (h', some n) ∧ e = .returned (.tuple #[.int .i64 (n : Nat), .bool false]) ∧ Fr U w w')
set_option maxHeartbeats 2000000 in
set_option maxRecDepth 100000 in
theorem follow_any {w : World} {U : Nat → Prop} {d : HD} {g : PG} {seed : Int} (p : HG w U d g (HS.zero seed)) (log : ByteArray) (hlog : log.size ≤ 9223372036854775806) :
    Calls Tryz.prog 48 #[.pointer (some ⟨d.H, 0, none⟩), .string log] w (FolPost U d.H g seed log w) := by
  have HC : Hid (∀ (s : ByteArray) (W : World), s.size ≤ 9223372036854775806 → Calls Tryz.prog 95 #[.string s, .string ⟨#[10]⟩] W fun e w' => (∃ line rest whole, e = .returned (.tuple #[.string line, .string rest, .bool whole]) ∧ CutIs s line rest whole) ∧ Below W.heap.size W w') := fun s W hs => strCut_any s hs W
  have HRD : Hid (∀ (s : ByteArray) (W : World), s.size ≤ 9223372036854775806 → Calls Tryz.prog 96 #[.string s] W fun e w' => ReadAns (readL (nums s)) e ∧ Below W.heap.size W w') := fun s W hs => read_any s hs W
  have HTR : Hid (∀ W k h line rest whole (s : ByteArray), HuntTo U d.H g h w W → Foll g.R log (HS.zero seed) k h line rest whole → s.size ≤ 24 → Calls Tryz.prog 66 #[.pointer (some ⟨d.H, 0, none⟩), .string s] W fun e w' => e = .returned (.int .u8 (tryS g.R h s).2) ∧ HuntTo U d.H g (tryS g.R h s).1 w w') := fun W k h line rest whole s t f hs => by
    obtain ⟨i1, i2, i3, i4⟩ := f.inv g.rok
    have q := t.ht p
    obtain ⟨d', hd', p'⟩ := t.hu
    have hk := hist_le i1 p.ok.fok
    have := try_any p' p.ok q.tab (inv_cls g.rok i1) (i1.sz p.ok (by omega) (by omega)) s hs
    rw [hd'] at this
    exact this.mono fun e w' ⟨x, y⟩ => ⟨x, t.then y⟩
  have H0 : Hid (HuntTo U d.H g (HS.zero seed) w w) := HuntTo.refl p.hu
  have HKK : Hid (∀ k h line rest whole, Foll g.R log (HS.zero seed) k h line rest whole → k ≤ 120030) := fun k h line rest whole f => by
    obtain ⟨i1, i2, i3, i4⟩ := f.inv g.rok
    have hk := hist_le i1 p.ok.fok
    omega
  have HBG : Hid (∀ line rest whole, CutIs log line rest whole → Foll g.R log (HS.zero seed) 0 (HS.zero seed) line rest whole) := fun line rest whole c => Foll.begin _ _ _ c.1
  clear p
  go_enter Tryz.func48, Tryz.ntmps48
  go_wp2_with fail
  refine (HC.out log w hlog).mono ?_
  rintro e w1 ⟨⟨line0, rest0, whole0, rfl, c0⟩, B1⟩
  have HI : Hid (Foll g.R log (HS.zero seed) 0 (HS.zero seed) line0 rest0 whole0 ∧ HuntTo U d.H g (HS.zero seed) w w1 ∧ line0.size ≤ 9223372036854775806 ∧ (whole0 = true → rest0.size ≤ 9223372036854775806)) := ⟨HBG.out _ _ _ c0, H0.out.bel B1, by have := c0.2.1; omega, fun h => by have := c0.2.2 h; omega⟩
  clear c0 B1 H0 HBG
  go_wp2_with fail
  go_loopw [6, 7, 8, 9, 10, 11, 12] (fun a6 a7 a8 a9 _ _ _ wr => ∃ (k : Nat) (h : HS) (line rest : ByteArray) (whole : Bool), a6 = .string line ∧ a7 = .string rest ∧ a8 = .bool whole ∧ a9 = .int .i64 ((k + 1 : Nat) : Int) ∧ Foll g.R log (HS.zero seed) k h line rest whole ∧ HuntTo U d.H g h w wr ∧ line.size ≤ 9223372036854775806 ∧ (whole = true → rest.size ≤ 9223372036854775806)) (fun _ _ _ a9 _ _ _ _ => (linesL (nums log)).length + 1 - (intOf a9).toNat)
  case atStart => exact ⟨0, _, _, _, _, rfl, rfl, rfl, rfl, HI.out⟩
  case round =>
    obtain ⟨k, h, line, rest, whole, rfl, rfl, rfl, rfl, hF, hT, hl1, hl2⟩ := hrel
    have hk := HKK.out _ _ _ _ _ hF
    cases whole with
    | false =>
      have HP : Hid (followS g.R 1 (HS.zero seed) (linesL (nums log)) = (h, none) ∧ HuntTo U d.H g h w wr) := ⟨hF.last, hT⟩
      clear hF hT hl2
      go_wp2_with fail
      go_ret2
      exact Or.inl ⟨h, HP.out.1, rfl, HP.out.2⟩
    | true =>
      have HF : Hid (Foll g.R log (HS.zero seed) k h line rest true ∧ HuntTo U d.H g h w wr) := ⟨hF, hT⟩
      have hr2 := hl2 rfl
      have H1 : Hid (Calls Tryz.prog 96 #[.string line] wr fun e w' => ReadAns (readL (nums line)) e ∧ Below wr.heap.size wr w') := HRD.out line wr hl1
      clear hF hT hl2
      go_wp2_with fail
      refine H1.out.mono ?_
      rintro e w2 ⟨hR, B2⟩
      have HT2 : Hid (HuntTo U d.H g h w w2) := HF.out.2.bel B2
      clear B2 H1
      rcases hR with ⟨b, t, ho, rfl⟩ | ⟨ho, x, y, rfl⟩
      · have ht24 : t.size ≤ 24 := (read_is ho).2
        have H2 : Hid (Calls Tryz.prog 66 #[.pointer (some ⟨d.H, 0, none⟩), .string t] w2 fun e w' => e = .returned (.int .u8 (tryS g.R h t).2) ∧ HuntTo U d.H g (tryS g.R h t).1 w w') := HTR.out w2 k h line rest true t HT2.out HF.out.1 ht24
        have HO : Hid (readL (nums line) = some (b, t)) := ho
        clear ho ht24
        obtain ⟨h3, hh3⟩ : ∃ h3, (tryS g.R h t).1 = h3 := ⟨_, rfl⟩
        obtain ⟨l3, hl3⟩ : ∃ l3, (tryS g.R h t).2 = l3 := ⟨_, rfl⟩
        rw [hh3, hl3] at H2
        have HH3 : Hid ((tryS g.R h t).1 = h3 ∧ (tryS g.R h t).2 = l3) := ⟨hh3, hl3⟩
        clear hh3 hl3
        by_cases hne : l3 = letter b
        · have HNE : Hid (l3 = letter b) := hne
          clear hne
          generalize hlb : letter b = lb at *
          obtain rfl : l3 = lb := HNE.out
          go_wp2_with fail
          refine H2.out.mono ?_
          rintro e w3 ⟨rfl, t3⟩
          have HT3 : Hid (HuntTo U d.H g h3 w w3) := t3
          clear t3 H2
          go_wp2_with fail
          refine (HC.out rest w3 hr2).mono ?_
          rintro e w4 ⟨⟨line4, rest4, whole4, rfl, c4⟩, B4⟩
          have HN : Hid (Foll g.R log (HS.zero seed) (k + 1) h3 line4 rest4 whole4 ∧ HuntTo U d.H g h3 w w4 ∧ line4.size ≤ 9223372036854775806 ∧ (whole4 = true → rest4.size ≤ 9223372036854775806)) := by
            have f := HF.out.1.next HO.out (by rw [HH3.out.2, hlb]) c4.1
            rw [HH3.out.1] at f
            exact ⟨f, HT3.out.bel B4, by have := c4.2.1; omega, fun h => by have := c4.2.2 h; omega⟩
          have HKL : Hid (k < (linesL (nums log)).length) := HF.out.1.get.1
          clear c4 B4 hlb
          go_wp2_with fail
          go_roundw
          case rel => exact ⟨k + 1, h3, line4, rest4, whole4, rfl, rfl, rfl, by go_num, HN.out⟩
          case measure => have := HKL.out; simp [intOf]; omega
        · have hlb' : ¬ l3 = letter b := hne
          generalize hlb : letter b = lb at *
          go_wp2_with fail
          refine H2.out.mono ?_
          rintro e w3 ⟨rfl, t3⟩
          have HT3 : Hid (HuntTo U d.H g h3 w w3) := t3
          clear t3 H2
          go_wp2_with fail
          go_ret2
          refine Or.inr ⟨h3, k + 1, ?_, by go_num, HT3.out.fr⟩
          have f := HF.out.1.wrong HO.out (by rw [HH3.out.2, hlb]; exact hlb')
          rw [HH3.out.1] at f
          exact f
      · have HB : Hid (followS g.R 1 (HS.zero seed) (linesL (nums log)) = (h, some (k + 1))) := HF.out.1.bad ho
        clear ho
        go_wp2_with fail
        go_ret2
        exact Or.inr ⟨h, k + 1, HB.out, by go_num, HT2.out.fr⟩
end Go.Proofs.YtflenkppcclclaaGreatDoor

namespace Go.Proofs.YtflenkppcclclaaGreatDoor
open Go.RowKit

/-- What Resume answers. -/
def ResPost (lo : Nat) (g : PG) (seed : Int) (log : ByteArray) (w : World) (e : Ending) (w' : World) : Prop :=
  Below lo w w' ∧ ((∃ h' H U, followS g.R 1 (HS.zero seed) (linesL (nums log)) = (h', none) ∧ e = .returned (.tuple #[.pointer (some ⟨H, 0, none⟩), .int .i64 0, .int .i64 0]) ∧ Prw lo U H g h' w') ∨
  (∃ h' n, followS g.R 1 (HS.zero seed) (linesL (nums log)) = (h', some n) ∧ e = .returned (.tuple #[.pointer none, .int .i64 (n : Nat), .int .i64 5])))
theorem made_fol {w w1 : World} {g : PG} {seed : Int} {H : Nat} (s0 : 0 ≤ seed) (s1 : seed ≤ 18446744073709551615) (m : Made w g (HS.zero seed) H w1) (log : ByteArray) (hlog : log.size ≤ 9223372036854775806) :
    Calls Tryz.prog 48 #[.pointer (some ⟨H, 0, none⟩), .string log] w1 fun e w2 => Below w.heap.size w w2 ∧ ((∃ h' U, followS g.R 1 (HS.zero seed) (linesL (nums log)) = (h', none) ∧ e = .returned (.tuple #[.int .i64 0, .bool true]) ∧ Prw w.heap.size U H g h' w2) ∨ (∃ h' n, followS g.R 1 (HS.zero seed) (linesL (nums log)) = (h', some n) ∧ e = .returned (.tuple #[.int .i64 (n : Nat), .bool false]))) := by
  obtain ⟨U, d, rfl, G, hU⟩ := m.hg
  refine (follow_any G log hlog).mono ?_
  have hms := m.bel.size
  have low : ∀ w2, Fr U w1 w2 → Below w.heap.size w w2 := fun w2 f => m.bel.trans (f.low hU hms)
  rintro e w2 (⟨h', hf, rfl, t⟩ | ⟨h', n, hf, rfl, f⟩)
  · refine ⟨low w2 t.fr, Or.inl ⟨h', Gr U w1 w2, hf, rfl, ?_, ?_⟩⟩
    · obtain ⟨l, e1, e2, e3⟩ := follow_ok g.R _ _ _ _ hf
      have q := t.ht G
      obtain ⟨d', hd', p'⟩ := t.hu
      exact ⟨d', hd', p', G.ok, Hinv.retried g.rok l _ _ (hinv_zero g.R seed) e2 e3, Hpos.retried l _ _ (hpos_zero seed s0 s1) e3, q.tab, q.mrk⟩
    · intro k hk
      rcases hk with c | c
      · exact hU k c
      · omega
  · exact ⟨low w2 f, Or.inr ⟨h', n, hf, rfl⟩⟩
set_option maxHeartbeats 2000000 in
set_option maxRecDepth 100000 in
theorem xResume_any (w : World) (cb co cap : Nat) (g : PG) (ok : PGok g) (C : Laid w cb co g.L cap g.c) (log : ByteArray) (hlog : log.size ≤ 9223372036854775806) (seed : Int) (s0 : 0 ≤ seed) (s1 : seed ≤ 18446744073709551615) (hT : Tab w) (hM : Mrk w) (h3 : 3 ≤ w.heap.size) :
    Calls Tryz.prog 24 #[.slice (some ⟨cb, co, none⟩) g.L cap, .string log, .int .u64 seed, .int .i64 g.fuel] w (ResPost w.heap.size g seed log w) := by
  have H1 : Hid (Calls Tryz.prog 45 #[.slice (some ⟨cb, co, none⟩) g.L cap] w fun e w' => e = .returned (.tuple #[.int .i64 (cntB (bgn g.c g.N) g.L), .bool true]) ∧ Below w.heap.size w w') := pCheck_any w cb co g.L cap g.N g.c ok.vp C hT
  have hf0 := ok.fuel0
  have hf1 := ok.fuel1
  have H3 : Hid (∀ W, Calls Tryz.prog 46 #[.int .i64 g.fuel] W fun e w' => e = .returned (.bool true) ∧ w' = W) := fun W => by
    have := fuelFits_any W g.fuel
    rw [decide_eq_true hf0, decide_eq_true hf1] at this
    exact this
  have H4 : Hid (∀ W, Below w.heap.size w W → Calls Tryz.prog 47 #[.slice (some ⟨cb, co, none⟩) g.L cap, .int .u64 seed, .int .i64 g.fuel] W fun e w' => (∃ b' cap', e = .returned (.agg (hcells (.slice (some ⟨b', 0, none⟩) g.L cap') seed g.fuel)) ∧ w.heap.size ≤ b' ∧ Laid w' b' 0 g.L cap' g.c) ∧ Below w.heap.size w w') := fun W b =>
    (hNew_any W cb co g.L cap g.c (C.below b) ok.vp.most seed g.fuel).mono fun e w' ⟨⟨b', c', x, y, z⟩, t⟩ => ⟨⟨b', c', x, Nat.le_trans b.size y, z⟩, b.trans (t.mono b.size)⟩
  have H5 : Hid (∀ w1 b' cap', Below w.heap.size w w1 → w.heap.size ≤ b' → Laid w1 b' 0 g.L cap' g.c → Made w g (HS.zero seed) w1.heap.size (w1.alloc (.cells (hcells (.slice (some ⟨b', 0, none⟩) g.L cap') seed g.fuel) 98))) := fun w1 b' cap' b hb Cb =>
    ⟨b.size, b.trans ((Below.refl _ _).alloc b.size _), _, _, rfl, hg_new ok b' cap' seed s0 s1 b hb Cb hT hM h3, fun k hk => hk.1⟩
  have HFO : Hid (∀ W H, Made w g (HS.zero seed) H W → Calls Tryz.prog 48 #[.pointer (some ⟨H, 0, none⟩), .string log] W fun e w2 => Below w.heap.size w w2 ∧ ((∃ h' U, followS g.R 1 (HS.zero seed) (linesL (nums log)) = (h', none) ∧ e = .returned (.tuple #[.int .i64 0, .bool true]) ∧ Prw w.heap.size U H g h' w2) ∨ (∃ h' n, followS g.R 1 (HS.zero seed) (linesL (nums log)) = (h', some n) ∧ e = .returned (.tuple #[.int .i64 (n : Nat), .bool false])))) := fun W H m => made_fol s0 s1 m log hlog
  clear hT hM h3 ok C
  generalize g.L = gL at *
  generalize g.fuel = gf at *
  go_enter Tryz.func24, Tryz.ntmps24
  go_wp2_with fail
  refine H1.out.mono ?_
  rintro e w1 ⟨rfl, B1⟩
  have HB1 : Hid (Below w.heap.size w w1) := B1
  clear B1
  go_wp2_with fail
  refine (H3.out w1).mono ?_
  rintro e w3 ⟨rfl, hw3⟩
  obtain rfl := hw3.symm
  go_wp2_with fail
  refine (H4.out w1 HB1.out).mono ?_
  rintro e w4 ⟨⟨b4, c4, rfl, hb4, C4⟩, B4⟩
  have HMD : Hid (Made w g (HS.zero seed) w4.heap.size (w4.alloc (.cells (hcells (.slice (some ⟨b4, 0, none⟩) gL c4) seed gf) 98))) := H5.out w4 b4 c4 B4 hb4 C4
  clear B4 hb4 C4 H1 H3 H4 H5
  go_wp2_with (first | refine wpList_build_c rfl 98 0 _ rfl (.agg (hcells (.slice (some ⟨b4, 0, none⟩) gL c4) seed gf)) rfl (hcells (.slice (some ⟨b4, 0, none⟩) gL c4) seed gf) (buildP b4 gL c4 seed gf) ?_)
  generalize hcells (.slice (some ⟨b4, 0, none⟩) gL c4) seed gf = cs at *
  refine (HFO.out _ _ HMD.out).mono ?_
  rintro e w5 ⟨B5, ⟨h', U, hf, rfl, pw⟩ | ⟨h', n, hf, rfl⟩⟩
  · have HP : Hid (Below w.heap.size w w5 ∧ followS g.R 1 (HS.zero seed) (linesL (nums log)) = (h', none) ∧ Prw w.heap.size U w4.heap.size g h' w5) := ⟨B5, hf, pw⟩
    clear B5 hf pw HMD HFO
    go_wp2_with fail
    go_ret3
    exact ⟨HP.out.1, Or.inl ⟨h', w4.heap.size, U, HP.out.2.1, rfl, HP.out.2.2⟩⟩
  · have HP : Hid (Below w.heap.size w w5 ∧ followS g.R 1 (HS.zero seed) (linesL (nums log)) = (h', some n)) := ⟨B5, hf⟩
    clear B5 hf HMD HFO
    go_wp2_with fail
    go_ret3
    exact ⟨HP.out.1, Or.inr ⟨h', n, HP.out.2, rfl⟩⟩
end Go.Proofs.YtflenkppcclclaaGreatDoor

