import Derived.Test.YtflenkppcclclaaDoorM03
import Derived.Test.YtflenkppcclclaaDoorM04
namespace Go.Proofs.YtflenkppcclclaaDoor
open Go.RowKit

theorem below_drw {B h fo g cap : Nat} {l : List Int} (hg : B ≤ g) (hh : h < B) (x : Int) (n : Nat) (h1 : 1 ≤ n) (h2 : n ≤ 1000) (w : World) (T : Txt w g cap l) (s : Sd w h fo x) :
    Calls Tryd.prog 42 #[.pointer (some ⟨h, fo, none⟩), .int .i64 n] w (Drw w B h fo g cap l (dr x n) (sd x)) :=
  (below_step w B h fo g cap l x T s hg hh n h1 h2).mono fun _ _ d => d.drw

theorem once_any (w : World) (B h fo g cap : Nat) (l : List Int) (o : ByteArray) (x : Int) (T : Txt w g cap l) (s : Sd w h fo x) (hg : B ≤ g) (hh : h < B) (hL : l.length ≤ 24) (ho : o.size ≤ 24) :
    Calls Tryd.prog 43 #[.slice (some ⟨g, 0, none⟩) l.length cap, .string o, .pointer (some ⟨h, fo, none⟩)] w (WAns w B h fo (onceL l (nums o) x).1 (onceL l (nums o) x).2) := by
  have H0 : Hid (Calls Tryd.prog 42 #[.pointer (some ⟨h, fo, none⟩), .int .i64 6] w (Drw w B h fo g cap l (dr x 6) (sd x))) := below_drw hg hh x 6 (by omega) (by omega) w T s
  have hw := dr_lt x 6 (by omega)
  unfold onceL
  dsimp only
  generalize dr x 6 = k at H0 hw ⊢
  by_cases h0 : l.length = 0 ∧ k ≠ 3 ∧ k ≠ 4
  · rw [if_pos h0]
    exact once_empty w B h fo g cap l o hg k (by omega) h0.1 (sd x) H0
  rw [if_neg h0]
  match k, hw with
  | 0, _ =>
    rw [if_pos rfl]
    exact once_bit w B h fo g cap l o hg hh hL _ (dr_lt _ _ (by omega)) _ _ H0 (fun w1 T1 s1 => below_drw hg hh (sd x) (8 * l.length) (by omega) (by omega) w1 T1 s1)
  | 1, _ =>
    rw [if_neg (by decide), if_pos rfl]
    exact once_byte w B h fo g cap l o hg hh _ _ (dr_lt _ _ (by omega)) (dr_lt _ _ (by omega)) _ _ _ H0 (fun w1 T1 s1 => below_drw hg hh (sd x) l.length (by omega) (by omega) w1 T1 s1) (fun w1 T1 s1 => below_drw hg hh (sd (sd x)) 256 (by omega) (by omega) w1 T1 s1)
  | 2, _ =>
    rw [if_neg (by decide), if_neg (by decide), if_pos rfl]
    exact once_cut w B h fo g cap l o hg hh hL _ (dr_lt _ _ (by omega)) _ _ H0 (fun w1 T1 s1 => below_drw hg hh (sd x) l.length (by omega) (by omega) w1 T1 s1)
  | 3, _ =>
    rw [if_neg (by decide), if_neg (by decide), if_neg (by decide), if_pos rfl]
    by_cases h24 : 24 ≤ l.length
    · rw [if_pos h24]
      exact once_in w B h fo g cap l o l _ _ H0 (fun w1 T1 s1 => putIn_full w1 B h fo g cap l _ T1 s1 hg (by omega))
    · rw [if_neg h24]
      exact once_in w B h fo g cap l o _ _ _ H0 (fun w1 T1 s1 => putIn_any w1 B h fo g cap l _ T1 s1 hg hh (by omega))
  | 4, _ =>
    rw [if_neg (by decide), if_neg (by decide), if_neg (by decide), if_neg (by decide), if_pos rfl, nums_len]
    exact once_cross w B h fo g cap l o _ _ _ H0 (fun w1 T1 s1 => cross_any w1 B h fo g cap l o _ T1 s1 hg hh hL ho)
  | 5, _ =>
    rw [if_neg (by decide), if_neg (by decide), if_neg (by decide), if_neg (by decide), if_neg (by decide)]
    exact once_copy w B h fo g cap l o hg hh _ _ (dr_lt _ _ (by omega)) (dr_lt _ _ (by omega)) _ _ _ H0 (fun w1 T1 s1 => below_drw hg hh (sd x) l.length (by omega) (by omega) w1 T1 s1) (fun w1 T1 s1 => below_drw hg hh (sd (sd x)) l.length (by omega) (by omega) w1 T1 s1)
  | k + 6, hk => omega

/-- Several changes, one upon the other: what the loop goes through. -/
structure WSt (w : World) (B h fo : Nat) (l : List Int) (x : Int) (v : Value) (w' : World) : Prop where
  is : ∃ g cap, B ≤ g ∧ v = .slice (some ⟨g, 0, none⟩) l.length cap ∧ Txt w' g cap l ∧ Sd w' h fo x ∧ SK B h fo w w'

set_option maxHeartbeats 1000000 in
set_option maxRecDepth 100000 in
theorem cWild_core (w : World) (B h fo : Nat) (s o : ByteArray) (hs : s.size ≤ 24) (n : Nat) (hn : n ≤ 3) (x1 : Int) (F : Nat → List Int × Int) (hF0 : F 0 = (nums s, x1))
    (hh : h < B) (hB : B ≤ w.heap.size) (x0 : Int) (hsd : Sd w h fo x0)
    (H0 : Hid (∀ w1 cap, Txt w1 w.heap.size cap (nums s) → Sd w1 h fo x0 → Calls Tryd.prog 42 #[.pointer (some ⟨h, fo, none⟩), .int .i64 4] w1 (Drw w1 B h fo w.heap.size cap (nums s) n x1)))
    (H1 : Hid (∀ i w1 g cap, Txt w1 g cap (F i).1 → Sd w1 h fo (F i).2 → B ≤ g → Calls Tryd.prog 43 #[.slice (some ⟨g, 0, none⟩) (F i).1.length cap, .string o, .pointer (some ⟨h, fo, none⟩)] w1 (WAns w1 B h fo (F (i + 1)).1 (F (i + 1)).2))) :
    Calls Tryd.prog 26 #[.string s, .string o, .pointer (some ⟨h, fo, none⟩)] w fun e w' => e = .returned (.string (strOfNums (F (1 + n)).1)) ∧ Sd w' h fo (F (1 + n)).2 ∧ SK B h fo w w' := by
  obtain ⟨w1, cap1, hconv, T1, B1, hsz1⟩ := conv_in w s (by omega)
  have HB1 : Hid (SK B h fo w w1) := SK.of_below B1 hB hh
  have HT1 : Hid (Txt w1 w.heap.size cap1 (nums s)) := T1
  have HS1 : Hid (Sd w1 h fo x0) := hsd.below B1 (by omega)
  have H0' : Hid (Calls Tryd.prog 42 #[.pointer (some ⟨h, fo, none⟩), .int .i64 4] w1 (Drw w1 B h fo w.heap.size cap1 (nums s) n x1)) := H0.out w1 cap1 T1 HS1.out
  have HF0 : Hid (F 0 = (nums s, x1)) := hF0
  generalize hLs : s.size = L at hconv
  clear T1 B1 hsd hF0
  go_enter Tryd.func26, Tryd.ntmps26
  go_wp2_with fail
  refine H0'.out.mono ?_
  rintro e w2 ⟨rfl, T2, s2, B2⟩
  have HW : Hid (WSt w B h fo (F 0).1 (F 0).2 (.slice (some ⟨w.heap.size, 0, none⟩) L cap1) w2) := by
    rw [HF0.out]
    exact ⟨_, cap1, hB, by rw [nums_len, hLs], T2, s2, HB1.out.trans B2⟩
  clear T2 s2 B2
  go_wp2_with fail
  go_loopw [7, 13] (fun v i wr => ∃ k : Nat, k ≤ 1 + n ∧ i = .int .i64 k ∧ WSt w B h fo (F k).1 (F k).2 v wr) (fun _ i _ => 1 + n - (intOf i).toNat)
  case atStart => exact ⟨0, by omega, rfl, HW.out⟩
  case round =>
    obtain ⟨k, hk, rfl, ⟨g, cap, hg, rfl, T, s', BB⟩⟩ := hrel
    by_cases hlt' : k < 1 + n
    · have hi1 : (k : Int) < 1 + (n : Int) := by omega
      have HC : Hid (Calls Tryd.prog 43 #[.slice (some ⟨g, 0, none⟩) (F k).1.length cap, .string o, .pointer (some ⟨h, fo, none⟩)] wr (WAns wr B h fo (F (k + 1)).1 (F (k + 1)).2)) := H1.out k wr g cap T s' hg
      generalize (F k).1.length = Lk at HC ⊢
      go_wp2_with fail
      refine HC.out.mono ?_
      rintro e w3 ⟨g3, cap3, hg3, rfl, T3, s3, B3⟩
      have HW3 : Hid (WSt w B h fo (F (k + 1)).1 (F (k + 1)).2 (.slice (some ⟨g3, 0, none⟩) (F (k + 1)).1.length cap3) w3) := ⟨g3, cap3, hg3, rfl, T3, s3, BB.trans B3⟩
      generalize (F (k + 1)).1.length = Lk1 at HW3 ⊢
      clear T3 s3 B3
      go_wp2_with fail
      go_roundw
      case rel => exact ⟨k + 1, by omega, by go_num, HW3.out⟩
      case measure => simp [intOf]; omega
    · have hi1 : ¬ (k : Int) < 1 + (n : Int) := by omega
      obtain rfl : k = 1 + n := by omega
      have cv := conv_back T
      obtain ⟨st, hst⟩ : ∃ st, strOfNums (F (1 + n)).1 = st := ⟨_, rfl⟩
      rw [hst] at cv
      have HST : Hid (strOfNums (F (1 + n)).1 = st) := hst
      clear hst
      generalize (F (1 + n)).1.length = Lk at cv ⊢
      go_wp2_with fail
      go_ret
      exact ⟨by rw [HST.out]; rfl, s', BB⟩

theorem times_len' {l o : List Int} (hl : l.length ≤ 24) (ho : o.length ≤ 24) (x : Int) (n : Nat) : (timesL l o x n).1.length ≤ 24 := (times_len hl ho x n).1
theorem wild_way (s o : ByteArray) (hs : s.size ≤ 24) (ho : o.size ≤ 24) (x : Int) : ∃ (n : Nat) (x1 : Int) (F : Nat → List Int × Int), n = dr x 4 ∧ x1 = sd x ∧ n ≤ 3 ∧ F 0 = (nums s, x1) ∧ (∀ i, F (i + 1) = onceL (F i).1 (nums o) (F i).2) ∧ (∀ i, (F i).1.length ≤ 24) ∧ F (1 + n) = wildL (nums s) (nums o) x := by
  refine ⟨dr x 4, sd x, fun i => timesL (nums s) (nums o) (sd x) i, rfl, rfl, ?_, rfl, fun i => rfl, fun i => times_len' (by rw [nums_len]; exact hs) (by rw [nums_len]; exact ho) _ _, by unfold wildL; rfl⟩
  have := dr_lt x 4 (by omega)
  omega
theorem cWild_any (w : World) (B h fo : Nat) (s o : ByteArray) (hs : s.size ≤ 24) (ho : o.size ≤ 24) (hh : h < B) (hB : B ≤ w.heap.size) (x : Int) (hsd : Sd w h fo x) :
    Calls Tryd.prog 26 #[.string s, .string o, .pointer (some ⟨h, fo, none⟩)] w fun e w' => e = .returned (.string (strOfNums (wildL (nums s) (nums o) x).1)) ∧ Sd w' h fo (wildL (nums s) (nums o) x).2 ∧ SK B h fo w w' := by
  obtain ⟨n, x1, F, hn, hx1, hn3, hF0, hFs, hFl, hFn⟩ := wild_way s o hs ho x
  rw [← hFn]
  refine cWild_core w B h fo s o hs n hn3 x1 F hF0 hh hB x hsd (fun w1 cap T1 s1 => ?_) (fun i w1 g cap T s' hg => ?_)
  · rw [hn, hx1]
    exact below_drw hB hh x 4 (by omega) (by omega) w1 T1 s1
  · rw [hFs i]
    exact once_any w1 B h fo g cap _ o _ T s' hg hh (hFl i) ho

/-- What Wild answers. -/
structure WildAns (w : World) (t : ByteArray) (y : Int) (e : Ending) (w' : World) : Prop where
  bel : Below w.heap.size w w'
  ans : e = .returned (.tuple #[.string t, .int .u64 y])

set_option maxRecDepth 100000 in
theorem xWild_core (w : World) (s o t : ByteArray) (hs : s.size ≤ 24) (ho : o.size ≤ 24) (x y : Int)
    (H : Hid (Calls Tryd.prog 26 #[.string s, .string o, .pointer (some ⟨w.heap.size, 0, none⟩)] (w.alloc (.cells #[.int .u64 x] 54)) fun e w' => e = .returned (.string t) ∧ Sd w' w.heap.size 0 y ∧ Below w.heap.size (w.alloc (.cells #[.int .u64 x] 54)) w')) :
    Calls Tryd.prog 17 #[.string s, .string o, .int .u64 x] w (WildAns w t y) := by
  generalize hL : s.size = L at hs
  generalize hO : o.size = O at ho
  have h1 : ¬ (24 : Int) < (L : Int) := by omega
  have h2 : ¬ (24 : Int) < (O : Int) := by omega
  go_enter Tryd.func17, Tryd.ntmps17
  go_wp2_with fail
  refine H.out.mono ?_
  rintro e w1 ⟨rfl, s1, B1⟩
  have hc := s1.cell
  have hlt := s1.lt
  have HB : Hid (Below w.heap.size w w1) := ((Below.refl _ _).alloc (Nat.le_refl _) _).trans B1
  clear s1 B1
  go_wp2_with fail
  go_quiet (fail)
  go_wp2_with fail
  go_ret2
  exact ⟨⟨HB.out.os, HB.out.tape, HB.out.output, HB.out.size, HB.out.block⟩, rfl⟩

theorem xWild_any (w : World) (s o : ByteArray) (hs : s.size ≤ 24) (ho : o.size ≤ 24) (x : Int) (h0 : 0 ≤ x) (h1 : x ≤ 18446744073709551615) :
    Calls Tryd.prog 17 #[.string s, .string o, .int .u64 x] w (WildAns w (strOfNums (wildL (nums s) (nums o) x).1) (wildL (nums s) (nums o) x).2) :=
  xWild_core w s o _ hs ho x _ ((cWild_any (w.alloc (.cells #[.int .u64 x] 54)) (w.heap.size + 1) w.heap.size 0 s o hs ho (by omega) (by simp) x ⟨by rw [World.cell?_alloc_new]; rfl, World.frozen?_alloc_at (w := w) _ _ w.heap.size 0 rfl, h0, h1⟩).mono fun _ _ ⟨a, b, c⟩ => ⟨a, b, c.below (by omega)⟩)

theorem xWild_long (w : World) (s o : ByteArray) (hsz : s.size ≤ 9223372036854775807) (hoz : o.size ≤ 9223372036854775807) (hl : 24 < s.size ∨ 24 < o.size) (x : Int) :
    Calls Tryd.prog 17 #[.string s, .string o, .int .u64 x] w (WildAns w ⟨#[]⟩ x) := by
  generalize hL : s.size = L at hsz hl
  generalize hO : o.size = O at hoz hl
  by_cases h1 : 24 < L
  · have h1' : (24 : Int) < (L : Int) := by omega
    go_enter Tryd.func17, Tryd.ntmps17
    go_wp2_with fail
    go_ret2
    exact ⟨Below.refl _ _, rfl⟩
  · have h1' : ¬ (24 : Int) < (L : Int) := by omega
    have h2' : (24 : Int) < (O : Int) := by omega
    go_enter Tryd.func17, Tryd.ntmps17
    go_wp2_with fail
    go_ret2
    exact ⟨Below.refl _ _, rfl⟩

/-- Mutant, of any text and number: what the document asks. -/
def mutS (s : ByteArray) (n : Int) : Option (List Int) := if 24 < s.size ∨ n < 0 then none else mutL (nums s) n.toNat
theorem xMutant_any (w : World) (hM : Mrk w) (s : ByteArray) (hsz : s.size ≤ 9223372036854775807) (n : Int) (h1 : -9223372036854775808 ≤ n) (h2 : n ≤ 9223372036854775807) :
    Calls Tryd.prog 15 #[.string s, .int .i64 n] w (MutAns w (mutS s n)) := by
  unfold mutS
  by_cases hl : 24 < s.size
  · rw [if_pos (Or.inl hl)]
    generalize hL : s.size = L at hsz hl
    have hl' : (24 : Int) < (L : Int) := by omega
    go_enter Tryd.func15, Tryd.ntmps15
    go_wp2_with fail
    go_ret2
    exact ⟨Below.refl _ _, rfl⟩
  · by_cases hn : n < 0
    · rw [if_pos (Or.inr hn)]
      have HC : Hid (Calls Tryd.prog 25 #[.string s, .int .i64 n] w (MutAns w none)) := by
        show Calls _ _ _ _ _
        go_enter Tryd.func25, Tryd.ntmps25
        go_wp2_with fail
        go_ret2
        exact ⟨Below.refl _ _, rfl⟩
      generalize hL : s.size = L at hsz hl
      have hl' : ¬ (24 : Int) < (L : Int) := by omega
      go_enter Tryd.func15, Tryd.ntmps15
      go_wp2_with fail
      refine HC.out.mono ?_
      rintro e w1 ⟨B1, rfl⟩
      go_wp2_with fail
      go_ret2
      exact ⟨B1, rfl⟩
    · rw [if_neg (by omega)]
      obtain ⟨m, rfl⟩ : ∃ m : Nat, n = m := ⟨n.toNat, by omega⟩
      have HC : Hid (Calls Tryd.prog 25 #[.string s, .int .i64 m] w (MutAns w (mutL (nums s) m))) := cMutant_any s (by omega) m (by omega) w hM
      rw [Int.toNat_natCast]
      generalize mutL (nums s) m = ot at HC ⊢
      generalize hL : s.size = L at hsz hl
      have hl' : ¬ (24 : Int) < (L : Int) := by omega
      go_enter Tryd.func15, Tryd.ntmps15
      go_wp2_with fail
      refine HC.out.mono ?_
      rintro e w1 ⟨B1, rfl⟩
      cases ot with
      | none =>
        go_wp2_with fail
        go_ret2
        exact ⟨B1, rfl⟩
      | some t =>
        go_wp2_with fail
        go_ret2
        exact ⟨B1, rfl⟩
end Go.Proofs.YtflenkppcclclaaDoor

