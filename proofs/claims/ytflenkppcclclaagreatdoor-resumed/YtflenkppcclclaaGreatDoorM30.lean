import Derived.Test.YtflenkppcclclaaGreatDoorM29
import Derived.Test.YtflenkppcclclaaGreatDoorM22
import Derived.Test.YtflenkppcclclaaGreatDoorM18
namespace Go.Proofs.YtflenkppcclclaaGreatDoor
open Go.RowKit

theorem below_drw {B h fo g cap : Nat} {l : List Int} (hg : B ≤ g) (hh : h < B) (x : Int) (n : Nat) (h1 : 1 ≤ n) (h2 : n ≤ 1000) (w : World) (T : Txt w g cap l) (s : Sd w h fo x) :
    Calls Tryz.prog 140 #[.pointer (some ⟨h, fo, none⟩), .int .i64 n] w (Drw w B h fo g cap l (dr x n) (sd x)) :=
  (below_step w B h fo g cap l x T s hg hh n h1 h2).mono fun _ _ d => d.drw

theorem once_any (w : World) (B h fo g cap : Nat) (l : List Int) (o : ByteArray) (x : Int) (T : Txt w g cap l) (s : Sd w h fo x) (hg : B ≤ g) (hh : h < B) (hL : l.length ≤ 24) (ho : o.size ≤ 24) :
    Calls Tryz.prog 164 #[.slice (some ⟨g, 0, none⟩) l.length cap, .string o, .pointer (some ⟨h, fo, none⟩)] w (WAns w B h fo (onceL l (nums o) x).1 (onceL l (nums o) x).2) := by
  have H0 : Hid (Calls Tryz.prog 140 #[.pointer (some ⟨h, fo, none⟩), .int .i64 6] w (Drw w B h fo g cap l (dr x 6) (sd x))) := below_drw hg hh x 6 (by omega) (by omega) w T s
  have hw := dr_lt x 6 (by omega)
  unfold onceL
  dsimp only
  generalize dr x 6 = k at H0 hw ⊢
  by_cases h0 : l.length = 0 ∧ k ≠ 3 ∧ k ≠ 4
  · rw [if_pos h0]
    exact once_empty w B h fo g cap l o hg k (by omega) h0.1 (sd x) H0
  rw [if_neg h0]
  match k, hw with
  | 0, _ =>
    rw [if_pos rfl]
    exact once_bit w B h fo g cap l o hg hh hL _ (dr_lt _ _ (by omega)) _ _ H0 (fun w1 T1 s1 => below_drw hg hh (sd x) (8 * l.length) (by omega) (by omega) w1 T1 s1)
  | 1, _ =>
    rw [if_neg (by decide), if_pos rfl]
    exact once_byte w B h fo g cap l o hg hh _ _ (dr_lt _ _ (by omega)) (dr_lt _ _ (by omega)) _ _ _ H0 (fun w1 T1 s1 => below_drw hg hh (sd x) l.length (by omega) (by omega) w1 T1 s1) (fun w1 T1 s1 => below_drw hg hh (sd (sd x)) 256 (by omega) (by omega) w1 T1 s1)
  | 2, _ =>
    rw [if_neg (by decide), if_neg (by decide), if_pos rfl]
    exact once_cut w B h fo g cap l o hg hh hL _ (dr_lt _ _ (by omega)) _ _ H0 (fun w1 T1 s1 => below_drw hg hh (sd x) l.length (by omega) (by omega) w1 T1 s1)
  | 3, _ =>
    rw [if_neg (by decide), if_neg (by decide), if_neg (by decide), if_pos rfl]
    by_cases h24 : 24 ≤ l.length
    · rw [if_pos h24]
      exact once_in w B h fo g cap l o l _ _ H0 (fun w1 T1 s1 => putIn_full w1 B h fo g cap l _ T1 s1 hg (by omega))
    · rw [if_neg h24]
      exact once_in w B h fo g cap l o _ _ _ H0 (fun w1 T1 s1 => putIn_any w1 B h fo g cap l _ T1 s1 hg hh (by omega))
  | 4, _ =>
    rw [if_neg (by decide), if_neg (by decide), if_neg (by decide), if_neg (by decide), if_pos rfl, nums_len]
    exact once_cross w B h fo g cap l o _ _ _ H0 (fun w1 T1 s1 => cross_any w1 B h fo g cap l o _ T1 s1 hg hh hL ho)
  | 5, _ =>
    rw [if_neg (by decide), if_neg (by decide), if_neg (by decide), if_neg (by decide), if_neg (by decide)]
    exact once_copy w B h fo g cap l o hg hh _ _ (dr_lt _ _ (by omega)) (dr_lt _ _ (by omega)) _ _ _ H0 (fun w1 T1 s1 => below_drw hg hh (sd x) l.length (by omega) (by omega) w1 T1 s1) (fun w1 T1 s1 => below_drw hg hh (sd (sd x)) l.length (by omega) (by omega) w1 T1 s1)
  | k + 6, hk => omega

/-- Several changes, one upon the other: what the loop goes through. -/
structure WSt (w : World) (B h fo : Nat) (l : List Int) (x : Int) (v : Value) (w' : World) : Prop where
  is : ∃ g cap, B ≤ g ∧ v = .slice (some ⟨g, 0, none⟩) l.length cap ∧ Txt w' g cap l ∧ Sd w' h fo x ∧ SK B h fo w w'

set_option maxHeartbeats 1000000 in
set_option maxRecDepth 100000 in
theorem cWild_core (w : World) (B h fo : Nat) (s o : ByteArray) (hs : s.size ≤ 24) (n : Nat) (hn : n ≤ 3) (x1 : Int) (F : Nat → List Int × Int) (hF0 : F 0 = (nums s, x1))
    (hh : h < B) (hB : B ≤ w.heap.size) (x0 : Int) (hsd : Sd w h fo x0)
    (H0 : Hid (∀ w1 cap, Txt w1 w.heap.size cap (nums s) → Sd w1 h fo x0 → Calls Tryz.prog 140 #[.pointer (some ⟨h, fo, none⟩), .int .i64 4] w1 (Drw w1 B h fo w.heap.size cap (nums s) n x1)))
    (H1 : Hid (∀ i w1 g cap, Txt w1 g cap (F i).1 → Sd w1 h fo (F i).2 → B ≤ g → Calls Tryz.prog 164 #[.slice (some ⟨g, 0, none⟩) (F i).1.length cap, .string o, .pointer (some ⟨h, fo, none⟩)] w1 (WAns w1 B h fo (F (i + 1)).1 (F (i + 1)).2))) :
    Calls Tryz.prog 121 #[.string s, .string o, .pointer (some ⟨h, fo, none⟩)] w fun e w' => e = .returned (.string (strOfNums (F (1 + n)).1)) ∧ Sd w' h fo (F (1 + n)).2 ∧ SK B h fo w w' := by
  obtain ⟨w1, cap1, hconv, T1, B1, hsz1⟩ := conv_in w s (by omega)
  have HB1 : Hid (SK B h fo w w1) := SK.of_below B1 hB hh
  have HT1 : Hid (Txt w1 w.heap.size cap1 (nums s)) := T1
  have HS1 : Hid (Sd w1 h fo x0) := hsd.below B1 (by omega)
  have H0' : Hid (Calls Tryz.prog 140 #[.pointer (some ⟨h, fo, none⟩), .int .i64 4] w1 (Drw w1 B h fo w.heap.size cap1 (nums s) n x1)) := H0.out w1 cap1 T1 HS1.out
  have HF0 : Hid (F 0 = (nums s, x1)) := hF0
  generalize hLs : s.size = L at hconv
  clear T1 B1 hsd hF0
  go_enter Tryz.func121, Tryz.ntmps121
  go_wp2_with fail
  refine H0'.out.mono ?_
  rintro e w2 ⟨rfl, T2, s2, B2⟩
  have HW : Hid (WSt w B h fo (F 0).1 (F 0).2 (.slice (some ⟨w.heap.size, 0, none⟩) L cap1) w2) := by
    rw [HF0.out]
    exact ⟨_, cap1, hB, by rw [nums_len, hLs], T2, s2, HB1.out.trans B2⟩
  clear T2 s2 B2
  go_wp2_with fail
  go_loopw [7, 13] (fun v i wr => ∃ k : Nat, k ≤ 1 + n ∧ i = .int .i64 k ∧ WSt w B h fo (F k).1 (F k).2 v wr) (fun _ i _ => 1 + n - (intOf i).toNat)
  case atStart => exact ⟨0, by omega, rfl, HW.out⟩
  case round =>
    obtain ⟨k, hk, rfl, ⟨g, cap, hg, rfl, T, s', BB⟩⟩ := hrel
    by_cases hlt' : k < 1 + n
    · have hi1 : (k : Int) < 1 + (n : Int) := by omega
      have HC : Hid (Calls Tryz.prog 164 #[.slice (some ⟨g, 0, none⟩) (F k).1.length cap, .string o, .pointer (some ⟨h, fo, none⟩)] wr (WAns wr B h fo (F (k + 1)).1 (F (k + 1)).2)) := H1.out k wr g cap T s' hg
      generalize (F k).1.length = Lk at HC ⊢
      go_wp2_with fail
      refine HC.out.mono ?_
      rintro e w3 ⟨g3, cap3, hg3, rfl, T3, s3, B3⟩
      have HW3 : Hid (WSt w B h fo (F (k + 1)).1 (F (k + 1)).2 (.slice (some ⟨g3, 0, none⟩) (F (k + 1)).1.length cap3) w3) := ⟨g3, cap3, hg3, rfl, T3, s3, BB.trans B3⟩
      generalize (F (k + 1)).1.length = Lk1 at HW3 ⊢
      clear T3 s3 B3
      go_wp2_with fail
      go_roundw
      case rel => exact ⟨k + 1, by omega, by go_num, HW3.out⟩
      case measure => simp [intOf]; omega
    · have hi1 : ¬ (k : Int) < 1 + (n : Int) := by omega
      obtain rfl : k = 1 + n := by omega
      have cv := conv_back T
      obtain ⟨st, hst⟩ : ∃ st, strOfNums (F (1 + n)).1 = st := ⟨_, rfl⟩
      rw [hst] at cv
      have HST : Hid (strOfNums (F (1 + n)).1 = st) := hst
      clear hst
      generalize (F (1 + n)).1.length = Lk at cv ⊢
      go_wp2_with fail
      go_ret
      exact ⟨by rw [HST.out]; rfl, s', BB⟩

theorem times_len' {l o : List Int} (hl : l.length ≤ 24) (ho : o.length ≤ 24) (x : Int) (n : Nat) : (timesL l o x n).1.length ≤ 24 := (times_len hl ho x n).1
theorem wild_way (s o : ByteArray) (hs : s.size ≤ 24) (ho : o.size ≤ 24) (x : Int) : ∃ (n : Nat) (x1 : Int) (F : Nat → List Int × Int), n = dr x 4 ∧ x1 = sd x ∧ n ≤ 3 ∧ F 0 = (nums s, x1) ∧ (∀ i, F (i + 1) = onceL (F i).1 (nums o) (F i).2) ∧ (∀ i, (F i).1.length ≤ 24) ∧ F (1 + n) = wildL (nums s) (nums o) x := by
  refine ⟨dr x 4, sd x, fun i => timesL (nums s) (nums o) (sd x) i, rfl, rfl, ?_, rfl, fun i => rfl, fun i => times_len' (by rw [nums_len]; exact hs) (by rw [nums_len]; exact ho) _ _, by unfold wildL; rfl⟩
  have := dr_lt x 4 (by omega)
  omega
theorem cWild_any (w : World) (B h fo : Nat) (s o : ByteArray) (hs : s.size ≤ 24) (ho : o.size ≤ 24) (hh : h < B) (hB : B ≤ w.heap.size) (x : Int) (hsd : Sd w h fo x) :
    Calls Tryz.prog 121 #[.string s, .string o, .pointer (some ⟨h, fo, none⟩)] w fun e w' => e = .returned (.string (strOfNums (wildL (nums s) (nums o) x).1)) ∧ Sd w' h fo (wildL (nums s) (nums o) x).2 ∧ SK B h fo w w' := by
  obtain ⟨n, x1, F, hn, hx1, hn3, hF0, hFs, hFl, hFn⟩ := wild_way s o hs ho x
  rw [← hFn]
  refine cWild_core w B h fo s o hs n hn3 x1 F hF0 hh hB x hsd (fun w1 cap T1 s1 => ?_) (fun i w1 g cap T s' hg => ?_)
  · rw [hn, hx1]
    exact below_drw hB hh x 4 (by omega) (by omega) w1 T1 s1
  · rw [hFs i]
    exact once_any w1 B h fo g cap _ o _ T s' hg hh (hFl i) ho

/-- What Wild answers. -/
structure WildAns (w : World) (t : ByteArray) (y : Int) (e : Ending) (w' : World) : Prop where
  bel : Below w.heap.size w w'
  ans : e = .returned (.tuple #[.string t, .int .u64 y])

set_option maxRecDepth 100000 in
theorem xWild_core (w : World) (s o t : ByteArray) (hs : s.size ≤ 24) (ho : o.size ≤ 24) (x y : Int)
    (H : Hid (Calls Tryz.prog 121 #[.string s, .string o, .pointer (some ⟨w.heap.size, 0, none⟩)] (w.alloc (.cells #[.int .u64 x] 87)) fun e w' => e = .returned (.string t) ∧ Sd w' w.heap.size 0 y ∧ Below w.heap.size (w.alloc (.cells #[.int .u64 x] 87)) w')) :
    Calls Tryz.prog 63 #[.string s, .string o, .int .u64 x] w (WildAns w t y) := by
  generalize hL : s.size = L at hs
  generalize hO : o.size = O at ho
  have h1 : ¬ (24 : Int) < (L : Int) := by omega
  have h2 : ¬ (24 : Int) < (O : Int) := by omega
  go_enter Tryz.func63, Tryz.ntmps63
  go_wp2_with fail
  refine H.out.mono ?_
  rintro e w1 ⟨rfl, s1, B1⟩
  have hc := s1.cell
  have hlt := s1.lt
  have HB : Hid (Below w.heap.size w w1) := ((Below.refl _ _).alloc (Nat.le_refl _) _).trans B1
  clear s1 B1
  go_wp2_with fail
  go_quiet (fail)
  go_wp2_with fail
  go_ret2
  exact ⟨⟨HB.out.os, HB.out.tape, HB.out.output, HB.out.size, HB.out.block⟩, rfl⟩

theorem xWild_any (w : World) (s o : ByteArray) (hs : s.size ≤ 24) (ho : o.size ≤ 24) (x : Int) (h0 : 0 ≤ x) (h1 : x ≤ 18446744073709551615) :
    Calls Tryz.prog 63 #[.string s, .string o, .int .u64 x] w (WildAns w (strOfNums (wildL (nums s) (nums o) x).1) (wildL (nums s) (nums o) x).2) :=
  xWild_core w s o _ hs ho x _ ((cWild_any (w.alloc (.cells #[.int .u64 x] 87)) (w.heap.size + 1) w.heap.size 0 s o hs ho (by omega) (by simp) x ⟨by rw [World.cell?_alloc_new]; rfl, World.frozen?_alloc_at (w := w) _ _ w.heap.size 0 rfl, h0, h1⟩).mono fun _ _ ⟨a, b, c⟩ => ⟨a, b, c.below (by omega)⟩)

theorem xWild_long (w : World) (s o : ByteArray) (hsz : s.size ≤ 9223372036854775807) (hoz : o.size ≤ 9223372036854775807) (hl : 24 < s.size ∨ 24 < o.size) (x : Int) :
    Calls Tryz.prog 63 #[.string s, .string o, .int .u64 x] w (WildAns w ⟨#[]⟩ x) := by
  generalize hL : s.size = L at hsz hl
  generalize hO : o.size = O at hoz hl
  by_cases h1 : 24 < L
  · have h1' : (24 : Int) < (L : Int) := by omega
    go_enter Tryz.func63, Tryz.ntmps63
    go_wp2_with fail
    go_ret2
    exact ⟨Below.refl _ _, rfl⟩
  · have h1' : ¬ (24 : Int) < (L : Int) := by omega
    have h2' : (24 : Int) < (O : Int) := by omega
    go_enter Tryz.func63, Tryz.ntmps63
    go_wp2_with fail
    go_ret2
    exact ⟨Below.refl _ _, rfl⟩

/-- Mutant, of any text and number: what the document asks. -/
def mutS (s : ByteArray) (n : Int) : Option (List Int) := if 24 < s.size ∨ n < 0 then none else mutL (nums s) n.toNat
theorem xMutant_any (w : World) (hM : Mrk w) (s : ByteArray) (hsz : s.size ≤ 9223372036854775807) (n : Int) (h1 : -9223372036854775808 ≤ n) (h2 : n ≤ 9223372036854775807) :
    Calls Tryz.prog 62 #[.string s, .int .i64 n] w (MutAns w (mutS s n)) := by
  unfold mutS
  by_cases hl : 24 < s.size
  · rw [if_pos (Or.inl hl)]
    generalize hL : s.size = L at hsz hl
    have hl' : (24 : Int) < (L : Int) := by omega
    go_enter Tryz.func62, Tryz.ntmps62
    go_wp2_with fail
    go_ret2
    exact ⟨Below.refl _ _, rfl⟩
  · by_cases hn : n < 0
    · rw [if_pos (Or.inr hn)]
      have HC : Hid (Calls Tryz.prog 120 #[.string s, .int .i64 n] w (MutAns w none)) := by
        show Calls _ _ _ _ _
        go_enter Tryz.func120, Tryz.ntmps120
        go_wp2_with fail
        go_ret2
        exact ⟨Below.refl _ _, rfl⟩
      generalize hL : s.size = L at hsz hl
      have hl' : ¬ (24 : Int) < (L : Int) := by omega
      go_enter Tryz.func62, Tryz.ntmps62
      go_wp2_with fail
      refine HC.out.mono ?_
      rintro e w1 ⟨B1, rfl⟩
      go_wp2_with fail
      go_ret2
      exact ⟨B1, rfl⟩
    · rw [if_neg (by omega)]
      obtain ⟨m, rfl⟩ : ∃ m : Nat, n = m := ⟨n.toNat, by omega⟩
      have HC : Hid (Calls Tryz.prog 120 #[.string s, .int .i64 m] w (MutAns w (mutL (nums s) m))) := cMutant_any s (by omega) m (by omega) w hM
      rw [Int.toNat_natCast]
      generalize mutL (nums s) m = ot at HC ⊢
      generalize hL : s.size = L at hsz hl
      have hl' : ¬ (24 : Int) < (L : Int) := by omega
      go_enter Tryz.func62, Tryz.ntmps62
      go_wp2_with fail
      refine HC.out.mono ?_
      rintro e w1 ⟨B1, rfl⟩
      cases ot with
      | none =>
        go_wp2_with fail
        go_ret2
        exact ⟨B1, rfl⟩
      | some t =>
        go_wp2_with fail
        go_ret2
        exact ⟨B1, rfl⟩
end Go.Proofs.YtflenkppcclclaaGreatDoor

namespace Go.Proofs.YtflenkppcclclaaGreatDoor
open Go.RowKit

/-! Where a text's last whole line ends; what its lines begin with; how many there are. -/
def endL (l : List Int) : Nat := (joinL (linesL l)).length
theorem join_last : ∀ ls : List (List Int), ls ≠ [] → (joinL ls).getLast? = some 10
  | [], h => absurd rfl h
  | [x], _ => by simp [joinL]
  | x :: y :: ls, _ => by
    have ih := join_last (y :: ls) (by simp)
    have e : joinL (x :: y :: ls) = (x ++ [10]) ++ joinL (y :: ls) := by simp [joinL]
    rw [e, List.getLast?_append, ih]
    rfl
theorem endL_le (l : List Int) : endL l ≤ l.length := by
  obtain ⟨r, h, _⟩ := lines_split l
  have := congrArg List.length h
  rw [List.length_append] at this
  unfold endL
  omega
theorem take_endL (l : List Int) : l.take (endL l) = joinL (linesL l) := by
  obtain ⟨r, h, _⟩ := lines_split l
  conv => lhs; arg 2; rw [h]
  unfold endL
  rw [List.take_left']
  rfl
/-- Behind the last line's end there is none. -/
theorem endL_past (l : List Int) (j : Nat) (h1 : endL l ≤ j) : l.getD j 0 ≠ 10 := by
  obtain ⟨r, h, h2, _⟩ := lines_split l
  intro c
  have e : l.getD j 0 = r.getD (j - endL l) 0 := by
    conv => lhs; rw [h]
    rw [List.getD_eq_getElem?_getD, List.getD_eq_getElem?_getD, List.getElem?_append_right h1]
    rfl
  rw [e, List.getD_eq_getElem?_getD] at c
  cases hr : r[j - endL l]? with
  | none => rw [hr] at c; cases c
  | some x =>
    rw [hr] at c
    simp at c
    subst c
    exact h2 (List.mem_of_getElem? hr)
theorem endL_last (l : List Int) (h0 : 0 < endL l) : l.getD (endL l - 1) 0 = 10 := by
  have ht := take_endL l
  have hne : linesL l ≠ [] := fun c => by unfold endL at h0; rw [c] at h0; simp [joinL] at h0
  have hl := join_last (linesL l) hne
  rw [List.getLast?_eq_getElem?] at hl
  have e : (l.take (endL l))[endL l - 1]? = some 10 := by rw [ht]; exact hl
  rw [List.getElem?_take, if_pos (by omega)] at e
  rw [List.getD_eq_getElem?_getD, e]
  rfl
theorem endL_is (l : List Int) (e : Nat) (h1 : ∀ j, e ≤ j → j < l.length → l.getD j 0 ≠ 10) (h2 : e = 0 ∨ l.getD (e - 1) 0 = 10) : e = endL l := by
  rcases Nat.lt_trichotomy e (endL l) with c | c | c
  · have := endL_last l (by omega)
    exact absurd this (h1 _ (by omega) (by have := endL_le l; omega))
  · exact c
  · rcases h2 with h2 | h2
    · omega
    · exact absurd h2 (endL_past l (e - 1) (by omega))
/-- A text's lines, and more behind it. -/
theorem lines_app (a b : List Int) : ∃ ls, linesL (a ++ b) = linesL a ++ ls := by
  obtain ⟨r, h, _, h3⟩ := lines_split a
  refine ⟨linesL (r ++ b), ?_⟩
  conv => lhs; rw [h]
  rw [List.append_assoc, lines_join _ _ h3]
theorem lines_take (l : List Int) (i : Nat) : linesL (l.take i) = (linesL l).take (linesL (l.take i)).length := by
  obtain ⟨ls, h⟩ := lines_app (l.take i) (l.drop i)
  rw [List.take_append_drop] at h
  conv => rhs; rw [h]
  rw [List.take_left']
  rfl
theorem lines_snoc (l : List Int) (x : Int) : (linesL (l ++ [x])).length = (linesL l).length + (if x = 10 then 1 else 0) ∧ endL (l ++ [x]) = if x = 10 then l.length + 1 else endL l := by
  obtain ⟨r, h, h2, h3⟩ := lines_split l
  by_cases e : x = 10
  · subst e
    have hx : l ++ [10] = joinL (linesL l) ++ (r ++ 10 :: []) := by
      rw [← List.append_assoc, ← h]
    have hl : linesL (l ++ [10]) = linesL l ++ [r] := by
      rw [hx, lines_join _ _ h3, lines_cut _ _ h2]
      rfl
    refine ⟨by rw [hl]; simp, ?_⟩
    rw [if_pos rfl]
    symm
    apply endL_is
    · intro j h1 h2
      simp at h2
      omega
    · right
      rw [Nat.add_sub_cancel, List.getD_eq_getElem?_getD, List.getElem?_append_right (Nat.le_refl _)]
      simp
  · have hx : l ++ [x] = joinL (linesL l) ++ (r ++ [x]) := by
      rw [← List.append_assoc, ← h]
    have hl : linesL (l ++ [x]) = linesL l := by
      rw [hx, lines_join _ _ h3, lines_none (r ++ [x]) (by simp [h2]; exact fun c => e c.symm)]
      simp
    refine ⟨by rw [hl]; simp [e], ?_⟩
    rw [if_neg e]
    unfold endL
    rw [hl]
theorem join_take_len (ls : List (List Int)) : ∀ n, (joinL (ls.take n)).length ≤ (joinL ls).length := by
  intro n
  induction ls generalizing n with
  | nil => simp
  | cons x ls ih =>
    cases n with
    | zero => simp [joinL]
    | succ n => simp [joinL]; exact ih n
theorem join_app : ∀ a b : List (List Int), joinL (a ++ b) = joinL a ++ joinL b
  | [], _ => rfl
  | x :: a, b => by show x ++ 10 :: joinL (a ++ b) = (x ++ 10 :: joinL a) ++ joinL b; rw [join_app a b]; simp
/-- The first n lines, and more. -/
theorem lines_first (l more : List Int) (i n : Nat) (hn : (linesL (l.take i)).length = n) : linesL (l.take (endL (l.take i)) ++ more) = (linesL l).take n ++ linesL more := by
  have h1 : l.take (endL (l.take i)) = (l.take i).take (endL (l.take i)) := by
    rw [List.take_take]
    congr 1
    have := endL_le (l.take i)
    rw [List.length_take] at this
    omega
  have h2 := lines_take l i
  obtain ⟨_, _, _, h3⟩ := lines_split (l.take i)
  rw [h1, take_endL, lines_join _ _ h3]
  rw [hn] at h2
  rw [← h2]

/-! What the lines of a log begin with. -/
def cntL (st : Bool) : List Int → Nat × Nat
  | [] => (0, 0)
  | x :: l => if st then (if x = 113 then ((cntL (decide (x = 10)) l).1 + 1, (cntL (decide (x = 10)) l).2) else ((cntL (decide (x = 10)) l).1, (cntL (decide (x = 10)) l).2 + 1)) else cntL (decide (x = 10)) l
/-- Does a line begin behind these? -/
def lastL (st : Bool) : List Int → Bool
  | [] => st
  | x :: l => lastL (decide (x = 10)) l
theorem cnt_cons (st : Bool) (x : Int) (l : List Int) : cntL st (x :: l) = if st then (if x = 113 then ((cntL (decide (x = 10)) l).1 + 1, (cntL (decide (x = 10)) l).2) else ((cntL (decide (x = 10)) l).1, (cntL (decide (x = 10)) l).2 + 1)) else cntL (decide (x = 10)) l := rfl
theorem cnt_app : ∀ (a b : List Int) (st : Bool), cntL st (a ++ b) = ((cntL st a).1 + (cntL (lastL st a) b).1, (cntL st a).2 + (cntL (lastL st a) b).2)
  | [], b, st => by simp [cntL, lastL]
  | x :: a, b, st => by
    have ih := cnt_app a b (decide (x = 10))
    rw [List.cons_append, cnt_cons, cnt_cons, ih]
    have e : lastL st (x :: a) = lastL (decide (x = 10)) a := rfl
    rw [e]
    cases st with
    | false => simp
    | true =>
      by_cases hx : x = 113
      · simp [hx]; omega
      · simp [hx]; omega
theorem last_app : ∀ (a b : List Int) (st : Bool), lastL st (a ++ b) = lastL (lastL st a) b
  | [], _, _ => rfl
  | x :: a, b, _ => last_app a b (decide (x = 10))
theorem cnt_no10 : ∀ l : List Int, (10 : Int) ∉ l → cntL false l = (0, 0) ∧ lastL false l = false
  | [], _ => ⟨rfl, rfl⟩
  | x :: l, h => by
    have hx : x ≠ 10 := fun e => h (by simp [e])
    have ih := cnt_no10 l (fun c => h (by simp [c]))
    unfold cntL lastL
    simp [hx, ih]
theorem last_is (st : Bool) (l : List Int) (n : Nat) (hn : n ≤ l.length) : lastL st (l.take n) = if n = 0 then st else decide (l.getD (n - 1) 0 = 10) := by
  by_cases h : n = 0
  · subst h; rfl
  · rw [if_neg h]
    obtain ⟨m, rfl⟩ : ∃ m, n = m + 1 := ⟨n - 1, by omega⟩
    have hm : m < l.length := by omega
    rw [List.take_succ_eq_append_getElem hm, last_app, Nat.add_sub_cancel, List.getD_eq_getElem?_getD, List.getElem?_eq_getElem hm]
    rfl
theorem cnt_next (l : List Int) (n : Nat) (hn : n < l.length) : cntL true (l.take (n + 1)) =
    if n = 0 ∨ l.getD (n - 1) 0 = 10 then (if l.getD n 0 = 113 then ((cntL true (l.take n)).1 + 1, (cntL true (l.take n)).2) else ((cntL true (l.take n)).1, (cntL true (l.take n)).2 + 1)) else cntL true (l.take n) := by
  rw [List.take_succ_eq_append_getElem hn, cnt_app, last_is true l n (by omega)]
  have e : l.getD n 0 = l[n] := by rw [List.getD_eq_getElem?_getD, List.getElem?_eq_getElem hn]; rfl
  rw [e]
  by_cases h0 : n = 0
  · rw [if_pos h0, if_pos (Or.inl h0)]
    by_cases hx : l[n] = 113
    · simp [cntL, hx]
    · simp [cntL, hx]
  · rw [if_neg h0]
    by_cases h1 : l.getD (n - 1) 0 = 10
    · rw [if_pos (Or.inr h1), decide_eq_true h1]
      by_cases hx : l[n] = 113
      · simp [cntL, hx]
      · simp [cntL, hx]
    · rw [if_neg (fun c => c.elim h0 h1), decide_eq_false h1]
      simp [cntL]
theorem cnt_line (b : Bool) (s : ByteArray) : cntL true (lineL b s) = (if b then (1, 0) else (0, 1)) ∧ lastL true (lineL b s) = true := by
  have h10 := body_no10 b s
  have hh : (10 : Int) ∉ 32 :: hexL (nums s) := fun c => h10 (by unfold bodyL; simp at c ⊢; exact Or.inr c)
  obtain ⟨h1, h2⟩ := cnt_no10 _ hh
  have e : lineL b s = letter b :: ((32 :: hexL (nums s)) ++ [10]) := by rw [line_body]; rfl
  rw [e]
  have hd : decide (letter b = 10) = false := by cases b <;> rfl
  constructor
  · unfold cntL
    rw [hd, cnt_app, h1, h2]
    cases b <;> simp [letter, cntL]
  · unfold lastL
    rw [hd, last_app, h2]
    rfl
theorem cnt_log : ∀ l : List (Bool × ByteArray), cntL true (logL l) = ((l.filterMap isK).length, (l.filterMap isF).length) ∧ lastL true (logL l) = true
  | [] => ⟨rfl, rfl⟩
  | x :: l => by
    obtain ⟨h1, h2⟩ := cnt_line x.1 x.2
    obtain ⟨g1, g2⟩ := cnt_log l
    show cntL true (lineL x.1 x.2 ++ logL l) = _ ∧ lastL true (lineL x.1 x.2 ++ logL l) = true
    rw [cnt_app, last_app, h1, h2, g1, g2]
    refine ⟨?_, rfl⟩
    obtain ⟨b, s⟩ := x
    cases b with
    | true =>
      rw [List.filterMap_cons, List.filterMap_cons]
      simp [isK, isF]; omega
    | false =>
      rw [List.filterMap_cons, List.filterMap_cons]
      simp [isK, isF]; omega

/-! The first bytes of a log. -/
theorem log_app : ∀ a b : List (Bool × ByteArray), logL (a ++ b) = logL a ++ logL b
  | [], _ => rfl
  | x :: a, b => by show lineL x.1 x.2 ++ logL (a ++ b) = (lineL x.1 x.2 ++ logL a) ++ logL b; rw [log_app a b]; simp
theorem log_lines (l : List (Bool × ByteArray)) : linesL (logL l) = l.map fun x => bodyL x.1 x.2 := by
  have := lines_join (l.map fun x => bodyL x.1 x.2) [] (fun x hx => by
    obtain ⟨y, _, rfl⟩ := List.mem_map.1 hx
    exact body_no10 _ _)
  rw [List.append_nil, ← log_join] at this
  rw [this]
  simp [linesL, linesA]
/-- So many lines do the first n bytes of a log have. -/
def cutN (l : List (Bool × ByteArray)) (n : Nat) : Nat := (linesL ((logL l).take n)).length
theorem cut_lines (l : List (Bool × ByteArray)) (n : Nat) : linesL ((logL l).take n) = (l.take (cutN l n)).map fun x => bodyL x.1 x.2 := by
  have h := lines_take (logL l) n
  rw [log_lines] at h
  rw [List.map_take]
  exact h
theorem cut_text (l : List (Bool × ByteArray)) (n : Nat) : (logL l).take (endL ((logL l).take n)) = logL (l.take (cutN l n)) := by
  have h1 : (logL l).take (endL ((logL l).take n)) = ((logL l).take n).take (endL ((logL l).take n)) := by
    rw [List.take_take]
    congr 1
    have := endL_le ((logL l).take n)
    rw [List.length_take] at this
    omega
  rw [h1, take_endL, cut_lines, log_join]
theorem cut_all (l : List (Bool × ByteArray)) (n : Nat) (h : (logL l).length ≤ n) : cutN l n = l.length := by
  unfold cutN
  rw [List.take_of_length_le h, log_lines, List.length_map]
theorem cut_le (l : List (Bool × ByteArray)) (n : Nat) : cutN l n ≤ l.length := by
  have h := congrArg List.length (cut_lines l n)
  rw [List.length_map, List.length_take] at h
  unfold cutN at h ⊢
  omega
theorem log_byt : ∀ l : List (Bool × ByteArray), Byt (logL l)
  | [] => fun x hx => by simp [logL] at hx
  | x :: l => by
    have hl : Byt (lineL x.1 x.2) := by
      have hd : ∀ (y : Int), 0 ≤ y → y ≤ 255 → 0 ≤ dig (y / 16) ∧ dig (y / 16) ≤ 255 ∧ 0 ≤ dig (y % 16) ∧ dig (y % 16) ≤ 255 := by
        intro y h0 h1
        have k : ∀ z : Int, 0 ≤ z → z ≤ 15 → 0 ≤ dig z ∧ dig z ≤ 255 := by
          intro z z0 z1
          obtain ⟨k, rfl⟩ : ∃ k : Nat, z = k := ⟨z.toNat, by omega⟩
          have hk : k < 16 := by omega
          match k, hk with
          | 0, _ | 1, _ | 2, _ | 3, _ | 4, _ | 5, _ | 6, _ | 7, _ | 8, _ | 9, _ | 10, _ | 11, _ | 12, _ | 13, _ | 14, _ | 15, _ => decide
          | k + 16, h => omega
        have a := k (y / 16) (by omega) (by omega)
        have b := k (y % 16) (by omega) (by omega)
        exact ⟨a.1, a.2, b.1, b.2⟩
      have hh : ∀ t : List Int, Byt t → Byt (hexL t) := by
        intro t
        induction t with
        | nil => intro _ y hy; simp [hexL] at hy
        | cons a t ih =>
          intro ht y hy
          have ha := ht a (by simp)
          obtain ⟨q1, q2, q3, q4⟩ := hd a ha.1 ha.2
          simp only [hexL, List.mem_cons] at hy
          rcases hy with rfl | rfl | hy
          · exact ⟨q1, q2⟩
          · exact ⟨q3, q4⟩
          · exact ih (fun z hz => ht z (by simp [hz])) y hy
      intro y hy
      unfold lineL at hy
      simp only [List.cons_append, List.mem_cons, List.mem_append, List.not_mem_nil, or_false] at hy
      rcases hy with rfl | rfl | hy | rfl
      · split <;> omega
      · omega
      · exact hh _ (nums_byt _) y hy
      · omega
    intro y hy
    have hy' : y ∈ lineL x.1 x.2 ++ logL l := hy
    rcases List.mem_append.1 hy' with hy' | hy'
    · exact hl y hy'
    · exact log_byt l y hy'
end Go.Proofs.YtflenkppcclclaaGreatDoor

