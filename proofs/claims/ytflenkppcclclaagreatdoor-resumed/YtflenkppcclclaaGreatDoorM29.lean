import Derived.Test.YtflenkppcclclaaGreatDoorM20
namespace Go.Proofs.YtflenkppcclclaaGreatDoor
open Go.RowKit

/-- What a wild change answers: a text, and the seed in its block; nothing ahead of the seed is touched. -/
def WAns (w : World) (B h fo : Nat) (l' : List Int) (x' : Int) (e : Ending) (w' : World) : Prop :=
  ∃ g' cap', B ≤ g' ∧ e = .returned (.slice (some ⟨g', 0, none⟩) l'.length cap') ∧ Txt w' g' cap' l' ∧ Sd w' h fo x' ∧ SK B h fo w w'
/-- What a draw answers. -/
structure Drawn (w : World) (B h fo g cap : Nat) (l : List Int) (x : Int) (n : Nat) (e : Ending) (w' : World) : Prop where
  ans : e = .returned (.int .i64 (dr x n : Nat))
  txt : Txt w' g cap l
  sd : Sd w' h fo (sd x)
  bel : SK B h fo w w'

/-- The same, of whatever number and seed. -/
structure Drw (w : World) (B h fo g cap : Nat) (l : List Int) (a : Nat) (y : Int) (e : Ending) (w' : World) : Prop where
  ans : e = .returned (.int .i64 (a : Nat))
  txt : Txt w' g cap l
  sd : Sd w' h fo y
  bel : SK B h fo w w'
theorem Drawn.drw {w : World} {B h fo g cap : Nat} {l : List Int} {x : Int} {n : Nat} {e : Ending} {w' : World} (d : Drawn w B h fo g cap l x n e w') : Drw w B h fo g cap l (dr x n) (Go.Proofs.YtflenkppcclclaaGreatDoor.sd x) e w' := ⟨d.ans, d.txt, d.sd, d.bel⟩

theorem below_step (w : World) (B h fo g cap : Nat) (l : List Int) (x : Int) (T : Txt w g cap l) (s : Sd w h fo x) (hg : B ≤ g) (hh : h < B) (n : Nat) (h1 : 1 ≤ n) (h2 : n ≤ 1000) :
    Calls Tryz.prog 140 #[.pointer (some ⟨h, fo, none⟩), .int .i64 n] w (Drawn w B h fo g cap l x n) := by
  refine (below_any w h fo x s n h1 h2).mono ?_
  rintro e w' ⟨rfl, rfl⟩
  exact ⟨rfl, T.other (by show g ≠ h; omega) _, s.set _ (sd_bd x).1 (sd_bd x).2, SK.self B h fo w _⟩

theorem putIn_full (w : World) (B h fo g cap : Nat) (l : List Int) (x : Int) (T : Txt w g cap l) (s : Sd w h fo x) (hg : B ≤ g) (hL : l.length = 24) :
    Calls Tryz.prog 211 #[.slice (some ⟨g, 0, none⟩) l.length cap, .pointer (some ⟨h, fo, none⟩)] w (WAns w B h fo l x) := by
  rw [hL]
  go_enter Tryz.func211, Tryz.ntmps211
  go_wp2_with fail
  go_ret
  exact ⟨g, cap, hg, by rw [hL]; rfl, T, s, SK.refl _ _ _ _⟩

set_option maxRecDepth 100000 in
theorem putIn_any (w : World) (B h fo g cap : Nat) (l : List Int) (x : Int) (T : Txt w g cap l) (s : Sd w h fo x) (hg : B ≤ g) (hh : h < B) (hL : l.length < 24) :
    Calls Tryz.prog 211 #[.slice (some ⟨g, 0, none⟩) l.length cap, .pointer (some ⟨h, fo, none⟩)] w (WAns w B h fo (l.take (dr x (l.length + 1)) ++ (dr (sd x) 256 : Int) :: l.drop (dr x (l.length + 1))) (sd (sd x))) := by
  have hd1 := dr_lt x (l.length + 1) (by omega)
  have hd2 := dr_lt (sd x) 256 (by omega)
  have H1 : Hid (Calls Tryz.prog 140 #[.pointer (some ⟨h, fo, none⟩), .int .i64 ((l.length : Int) + 1)] w (Drawn w B h fo g cap l x (l.length + 1))) := below_step w B h fo g cap l x T s hg hh (l.length + 1) (by omega) (by omega)
  generalize hLn : l.length = L at *
  go_enter Tryz.func211, Tryz.ntmps211
  go_wp2_with fail
  refine H1.out.mono ?_
  rintro e w1 ⟨rfl, T1, s1, B1⟩
  clear H1
  generalize dr x (L + 1) = a at *
  go_wp2_with fail
  refine (below_step w1 B h fo g cap l (sd x) T1 s1 hg hh 256 (by omega) (by omega)).mono ?_
  rintro e w2 ⟨rfl, T2, s2, B2⟩
  generalize dr (sd x) 256 = v at *
  have hg2 := T2.lt
  have HB : Hid (SK B h fo w w2) := B1.trans B2
  have H3 : Hid (Calls Tryz.prog 232 #[.slice (some ⟨g, 0, none⟩) l.length cap, .int .i64 a, .slice (some ⟨w2.heap.size, 0, none⟩) 1 1] (w2.alloc (.cells #[.int .u8 (v : Int)] 5)) (TxtAns (w2.alloc (.cells #[.int .u8 (v : Int)] 5)) g (l.take a ++ (v : Int) :: l.drop a))) :=
    insert_any _ g cap a w2.heap.size l _ (T2.alloc _) (by omega) (by omega) ⟨Array.getElem?_push_size⟩ (by omega) (by omega) (by omega)
  rw [hLn] at H3
  have HS : Hid (Sd w2 h fo (sd (sd x))) := s2
  clear T1 s1 B1 T2 s2 B2
  obtain ⟨lx, hlx⟩ : ∃ lx, l.take a ++ (v : Int) :: l.drop a = lx := ⟨_, rfl⟩
  rw [hlx] at H3
  have HLX : Hid (l.take a ++ (v : Int) :: l.drop a = lx) := hlx
  clear hlx
  go_wp2_with fail
  refine H3.out.mono ?_
  rintro e w3 ⟨g3, cap3, hg3, rfl, T3, B3⟩
  have B3' : Below g w2 w3 := ((Below.refl _ _).alloc (by omega) _).trans B3
  go_wp2_with fail
  go_ret
  rw [HLX.out]
  exact ⟨g3, cap3, by omega, rfl, T3, HS.out.below B3' (by omega), HB.out.trans (SK.of_below B3' hg hh)⟩

theorem byteCells_nums (s : ByteArray) : byteCells s = (nums s).map (Value.int .u8) := by simp [byteCells, nums]
/-- 'append(text[:a], other[b:]...)'. -/
theorem app_str (w : World) (g cap a b : Nat) (l : List Int) (o : ByteArray) (T : Txt w g cap l) (ha : a ≤ l.length) (hb : b ≤ o.size) (hL : l.length ≤ 24) (ho : o.size ≤ 24) :
    ∃ w' g' cap', (∀ ty, (Builtin.append_ #[25, 9] ty #[.slice (some ⟨g, 0, none⟩) a cap, .string (o.extract b o.size)]).run Tryz.prog w = .ok (.slice (some ⟨g', 0, none⟩) (a + (o.size - b)) cap') w') ∧ g ≤ g' ∧ Txt w' g' cap' (l.take a ++ (nums o).drop b) ∧ Below g w w' ∧ a + (o.size - b) ≤ cap' := by
  obtain ⟨i0, hi0, hz0, hzs, hzb⟩ := u8info
  have hle := T.le
  have hsz : (o.extract b o.size).size = o.size - b := by
    rw [← nums_len, nums_extract, List.length_take, List.length_drop, nums_len]
    omega
  have hn : nums (o.extract b o.size) = (nums o).drop b := by
    rw [nums_extract, List.take_of_length_le (by simp [nums_len])]
  have hdl : ((nums o).drop b).length = o.size - b := by rw [List.length_drop, nums_len]
  have hsrc : Src Tryz.prog i0.size 9 (.string (o.extract b o.size)) (o.size - b) (((nums o).drop b).map (Value.int .u8)) w := by
    have := Src.ofString (P := Tryz.prog) w (tx := 9) Tryz.underlying9 (o.extract b o.size)
    rw [hsz, byteCells_nums, hn] at this
    rw [hzs]
    exact this
  by_cases hr : a + (o.size - b) ≤ cap
  · refine ⟨_, g, cap, fun ty => run_append_room_src (w := w) 25 9 ty 5 i0 Tryz.underlying25 hi0 g 0 a cap _ (o.size - b) _ hsrc hr (fun j hj => ?_) (fun j hj => ?_), Nat.le_refl _, ?_, below_puts _ (Below.refl _ _), hr⟩
    · rw [hzs, Nat.mul_one, Nat.zero_add]
      exact T.room _ (by simp [nums_len] at hj; omega)
    · rw [hzs, Nat.mul_one, Nat.zero_add]
      exact T.warm _ (by simp [nums_len] at hj; omega)
    · rw [hzs, Nat.mul_one, Nat.zero_add]
      have T2 := (T.put a ((nums o).drop b) ha (by rw [hdl]; exact hr) ((nums_byt o).drop b)).take (a + (o.size - b))
      rw [List.take_append_of_le_length (by rw [List.length_append, hdl, List.length_take]; omega), List.take_of_length_le (by rw [List.length_append, hdl, List.length_take]; omega)] at T2
      exact T2
  · have hold : (Builtin.firstCells i0.size a (.slice (some ⟨g, 0, none⟩) a cap)).run Tryz.prog w.drew = .ok ((l.take a).map (Value.int .u8)).toArray w.drew := by
      rw [hzs]
      exact run_firstCells_some w.drew 1 a ⟨g, 0, none⟩ a cap ((l.take a).map (Value.int .u8)) (by simp; omega) (fun j u hj => by
        rw [Addr.add_lit]
        exact ((T.drew.take a).get 0 j u (by simpa using hj)))
    have hge : a + (o.size - b) ≤ grownCap w (a + (o.size - b)) cap 5 := grownCap_ge w _ _ _
    have hmx := grownCap_le_maxLen w (a + (o.size - b)) cap 5 (by unfold maxLen; omega)
    refine ⟨_, w.heap.size, _, fun ty => run_append_grow_src w 25 9 ty 5 i0 _ Tryz.underlying25 hi0 hz0 (some ⟨g, 0, none⟩) a cap ((l.take a).map (Value.int .u8)) hold _ (o.size - b) _ hsrc (by omega) (by omega) (by rw [hzb]; exact growslice_fits (by omega) (by omega)), Nat.le_of_lt T.lt, ?_, ((Below.refl _ _).drew.alloc (Nat.le_of_lt T.lt) _), hge⟩
    have e1 : (l.take a ++ (nums o).drop b).length = a + (o.size - b) := by rw [List.length_append, hdl, List.length_take]; omega
    have T2 := txt_new w.drew (l.take a ++ (nums o).drop b) (grownCap w (a + (o.size - b)) cap 5 - (a + (o.size - b))) ((T.byt.take a).app ((nums_byt o).drop b)) (by rw [e1]; unfold maxLen at hmx; omega)
    rw [e1, show a + (o.size - b) + (grownCap w (a + (o.size - b)) cap 5 - (a + (o.size - b))) = grownCap w (a + (o.size - b)) cap 5 by omega, List.map_append] at T2
    exact T2

theorem step_append_run' {ops : Array Oper} {o : Oper} {a : Act} {w : World} {K : Act → World → Prop} {Q : Exit → Act → World → Prop} {E : Prop}
    (hg : o.guard = none) (d x : Operand) (dT sT : TypeId) (hop : o.op = Op.call { callee := Callee.builtin Builtin.append, args := #[d, x], argTypes := #[dT, sT] })
    (v u : Value) (hd : a.eval d = v) (hx : a.eval x = u) {v' : Value} {w' : World} (hr : (Builtin.append_ #[dT, sT] o.type #[v, u]).run Tryz.prog w = .ok v' w') (hK : K (a.put o.dst v') w') :
    if Region.wanted o (yielded ops a.tmps) = true then Oper.wp Tryz.prog o a w K Q else E := by
  have hw : Region.wanted o (yielded ops a.tmps) = true := by simp [Region.wanted, hg]
  rw [if_pos hw]
  unfold Oper.wp
  simp [execOp, hop, resolve, invoke, builtin, hd, hx, hr, Result.andThen]
  exact hK

set_option maxRecDepth 100000 in
set_option maxHeartbeats 1000000 in
theorem cross_core (w : World) (B h fo g cap : Nat) (l : List Int) (o : ByteArray) (a b : Nat) (y1 y2 : Int) (ha : a ≤ l.length) (hb : b ≤ o.size) (hc : l.length ≤ cap)
    (H1 : Hid (Calls Tryz.prog 140 #[.pointer (some ⟨h, fo, none⟩), .int .i64 ((l.length : Int) + 1)] w (Drw w B h fo g cap l a y1)))
    (H2 : Hid (∀ w1, Txt w1 g cap l → Sd w1 h fo y1 → Calls Tryz.prog 140 #[.pointer (some ⟨h, fo, none⟩), .int .i64 ((o.size : Int) + 1)] w1 (Drw w1 B h fo g cap l b y2)))
    (hg : B ≤ g) (hh : h < B) (hL : l.length ≤ 24) (ho : o.size ≤ 24) :
    Calls Tryz.prog 212 #[.slice (some ⟨g, 0, none⟩) l.length cap, .string o, .pointer (some ⟨h, fo, none⟩)] w (WAns w B h fo ((l.take a ++ (nums o).drop b).take 24) y2) := by
  generalize hLn : l.length = L at *
  go_enter Tryz.func212, Tryz.ntmps212
  go_wp2_with fail
  refine H1.out.mono ?_
  rintro e w1 ⟨rfl, T1, s1, B1⟩
  have H2' : Hid (Calls Tryz.prog 140 #[.pointer (some ⟨h, fo, none⟩), .int .i64 ((o.size : Int) + 1)] w1 (Drw w1 B h fo g cap l b y2)) := H2.out w1 T1 s1
  go_wp2_with fail
  refine H2'.out.mono ?_
  rintro e w2 ⟨rfl, T2, s2, B2⟩
  have HB : Hid (SK B h fo w w2) := B1.trans B2
  obtain ⟨w3, g3, cap3, hrun, hg3, T3, B3, hc3⟩ := app_str w2.drew g cap a b l o T2.drew (by omega) (by omega) (by omega) (by omega)
  have hm3 := T3.most
  have HT : Hid (Txt w3 g3 cap3 (l.take a ++ (nums o).drop b)) := T3
  have HB3 : Hid (Below g w2 w3) := (Below.refl _ _).drew.trans B3
  have HS : Hid (Sd w2 h fo y2) := s2
  have hai : (a : Int) ≤ (cap : Int) := by omega
  have hbi : (b : Int) ≤ (o.size : Int) := by omega
  have ha0 : (0 : Int) ≤ (a : Int) := by omega
  have hb0 : (0 : Int) ≤ (b : Int) := by omega
  have HO : Hid (b ≤ o.size ∧ o.size ≤ 24 ∧ a ≤ L ∧ L ≤ 24) := ⟨by omega, by omega, by omega, by omega⟩
  have HC : Hid (a + (o.size - b) ≤ cap3 ∧ cap3 ≤ 9223372036854775807) := ⟨hc3, hm3⟩
  clear T1 s1 B1 T2 s2 B2 T3 B3 hc3 hm3 H1 H2 H2'
  go_wp2_with fail
  go_region_law (refine step_append_run' rfl (.tmp 22) (.tmp 25) 25 9 rfl (.slice (some ⟨g, 0, none⟩) a cap) (.string (o.extract b o.size)) (by simp [Act.eval, Act.put]) (by simp [Act.eval, Act.put]) (hrun _) ?_)
  clear hrun hai hbi ha0 hb0
  have hN : a + (o.size - b) ≤ 48 := by have := HO.out; omega
  have hNc := HC.out.1
  have hm3 := HC.out.2
  have HNE : Hid ((l.take a ++ (nums o).drop b).length = a + (o.size - b)) := by
    have := HO.out
    show _ = _
    rw [List.length_append, List.length_take, List.length_drop, nums_len, hLn]
    omega
  generalize hNN : a + (o.size - b) = N at hN hNc ⊢
  have HNN : Hid (a + (o.size - b) = N) := hNN
  clear hNN
  by_cases h24 : N ≤ 24
  · have hmin : min (N : Int) 24 = (N : Int) := by omega
    go_wp2_with fail
    go_ret
    have e : (l.take a ++ (nums o).drop b).take 24 = l.take a ++ (nums o).drop b := List.take_of_length_le (by rw [HNE.out, HNN.out]; exact h24)
    rw [e]
    exact ⟨g3, cap3, by omega, by rw [HNE.out, HNN.out]; rfl, HT.out, HS.out.below HB3.out (by omega), HB.out.trans (SK.of_below HB3.out hg hh)⟩
  · have hmin : min (N : Int) 24 = 24 := by omega
    have hNc' : (24 : Int) ≤ (cap3 : Int) := by omega
    go_wp2_with fail
    go_ret
    exact ⟨g3, cap3, by omega, by rw [List.length_take, HNE.out, HNN.out, Nat.min_eq_left (by omega)]; rfl, HT.out.take 24, HS.out.below HB3.out (by omega), HB.out.trans (SK.of_below HB3.out hg hh)⟩

theorem cross_any (w : World) (B h fo g cap : Nat) (l : List Int) (o : ByteArray) (x : Int) (T : Txt w g cap l) (s : Sd w h fo x) (hg : B ≤ g) (hh : h < B) (hL : l.length ≤ 24) (ho : o.size ≤ 24) :
    Calls Tryz.prog 212 #[.slice (some ⟨g, 0, none⟩) l.length cap, .string o, .pointer (some ⟨h, fo, none⟩)] w (WAns w B h fo ((l.take (dr x (l.length + 1)) ++ (nums o).drop (dr (sd x) (o.size + 1))).take 24) (sd (sd x))) :=
  cross_core w B h fo g cap l o (dr x (l.length + 1)) (dr (sd x) (o.size + 1)) (sd x) (sd (sd x)) (Nat.le_of_lt_succ (dr_lt _ _ (Nat.succ_pos _))) (Nat.le_of_lt_succ (dr_lt _ _ (Nat.succ_pos _))) T.le
    ((below_step w B h fo g cap l x T s hg hh (l.length + 1) (by omega) (by omega)).mono fun _ _ d => d.drw)
    (fun w1 T1 s1 => (below_step w1 B h fo g cap l (sd x) T1 s1 hg hh (o.size + 1) (by omega) (by omega)).mono fun _ _ d => d.drw) hg hh hL ho
end Go.Proofs.YtflenkppcclclaaGreatDoor

namespace Go.Proofs.YtflenkppcclclaaGreatDoor
open Go.RowKit

section
variable (w : World) (B h fo g cap : Nat) (l : List Int) (o : ByteArray) (hg : B ≤ g) (hh : h < B) (hL : l.length ≤ 24)
include hg hh hL

omit hL hh in
/-- A text without bytes stays. -/
theorem once_empty (k : Nat) (hk : k = 0 ∨ k = 1 ∨ k = 2 ∨ k = 5) (h0 : l.length = 0) (y1 : Int)
    (H0 : Hid (Calls Tryz.prog 140 #[.pointer (some ⟨h, fo, none⟩), .int .i64 6] w (Drw w B h fo g cap l k y1))) :
    Calls Tryz.prog 164 #[.slice (some ⟨g, 0, none⟩) l.length cap, .string o, .pointer (some ⟨h, fo, none⟩)] w (WAns w B h fo l y1) := by
  rw [h0]
  go_enter Tryz.func164, Tryz.ntmps164
  go_wp2_with fail
  refine H0.out.mono ?_
  rintro e w1 ⟨rfl, T1, s1, B1⟩
  rcases hk with rfl | rfl | rfl | rfl
  all_goals
    go_wp2_with fail
    go_ret
    exact ⟨g, cap, hg, by rw [h0]; rfl, T1, s1, B1⟩

theorem once_bit (a : Nat) (ha : a < 8 * l.length) (y1 y2 : Int)
    (H0 : Hid (Calls Tryz.prog 140 #[.pointer (some ⟨h, fo, none⟩), .int .i64 6] w (Drw w B h fo g cap l 0 y1)))
    (H1 : Hid (∀ w1, Txt w1 g cap l → Sd w1 h fo y1 → Calls Tryz.prog 140 #[.pointer (some ⟨h, fo, none⟩), .int .i64 ((8 : Int) * (l.length : Int))] w1 (Drw w1 B h fo g cap l a y2))) :
    Calls Tryz.prog 164 #[.slice (some ⟨g, 0, none⟩) l.length cap, .string o, .pointer (some ⟨h, fo, none⟩)] w (WAns w B h fo (flipL l a) y2) := by
  have hne : ¬ ((l.length : Int) = 0) := by omega
  generalize hLn : l.length = L at H1 hne ha hL ⊢
  go_enter Tryz.func164, Tryz.ntmps164
  go_wp2_with fail
  refine H0.out.mono ?_
  rintro e w1 ⟨rfl, T1, s1, B1⟩
  have H1' : Hid (Calls Tryz.prog 140 #[.pointer (some ⟨h, fo, none⟩), .int .i64 ((8 : Int) * (L : Int))] w1 (Drw w1 B h fo g cap l a y2)) := H1.out w1 T1 s1
  go_wp2_with fail
  refine H1'.out.mono ?_
  rintro e w2 ⟨rfl, T2, s2, B2⟩
  have H3 : Hid (Calls Tryz.prog 203 #[.slice (some ⟨g, 0, none⟩) l.length cap, .int .i64 a] w2 (TxtAns w2 g (flipL l a))) := invBit_any w2 g cap l T2 (by omega) a (by omega)
  rw [hLn] at H3
  go_wp2_with fail
  refine H3.out.mono ?_
  rintro e w3 ⟨g3, cap3, hg3, rfl, T3, B3⟩
  obtain ⟨n, hn⟩ : ∃ n, (flipL l a).length = n := ⟨_, rfl⟩
  rw [hn]
  go_wp2_with fail
  go_ret
  exact ⟨g3, cap3, by omega, by rw [hn]; rfl, T3, s2.below B3 (by omega), (B1.trans B2).trans (SK.of_below B3 hg hh)⟩

omit hL in
theorem once_byte (a b : Nat) (ha : a < l.length) (hb : b < 256) (y1 y2 y3 : Int)
    (H0 : Hid (Calls Tryz.prog 140 #[.pointer (some ⟨h, fo, none⟩), .int .i64 6] w (Drw w B h fo g cap l 1 y1)))
    (H1 : Hid (∀ w1, Txt w1 g cap l → Sd w1 h fo y1 → Calls Tryz.prog 140 #[.pointer (some ⟨h, fo, none⟩), .int .i64 (l.length : Int)] w1 (Drw w1 B h fo g cap l a y2)))
    (H2 : Hid (∀ w1, Txt w1 g cap l → Sd w1 h fo y2 → Calls Tryz.prog 140 #[.pointer (some ⟨h, fo, none⟩), .int .i64 256] w1 (Drw w1 B h fo g cap l b y3))) :
    Calls Tryz.prog 164 #[.slice (some ⟨g, 0, none⟩) l.length cap, .string o, .pointer (some ⟨h, fo, none⟩)] w (WAns w B h fo (l.set a (b : Int)) y3) := by
  have hne : ¬ ((l.length : Int) = 0) := by omega
  generalize hLn : l.length = L at H1 hne ha ⊢
  go_enter Tryz.func164, Tryz.ntmps164
  go_wp2_with fail
  refine H0.out.mono ?_
  rintro e w1 ⟨rfl, T1, s1, B1⟩
  have H1' : Hid (Calls Tryz.prog 140 #[.pointer (some ⟨h, fo, none⟩), .int .i64 (L : Int)] w1 (Drw w1 B h fo g cap l a y2)) := H1.out w1 T1 s1
  go_wp2_with fail
  refine H1'.out.mono ?_
  rintro e w2 ⟨rfl, T2, s2, B2⟩
  have H2' : Hid (Calls Tryz.prog 140 #[.pointer (some ⟨h, fo, none⟩), .int .i64 256] w2 (Drw w2 B h fo g cap l b y3)) := H2.out w2 T2 s2
  go_wp2_with fail
  refine H2'.out.mono ?_
  rintro e w3 ⟨rfl, T3, s3, B3⟩
  have hc := T3.at a (by omega)
  have hc1 := hc.1
  have hc2 := hc.2
  have hai : (a : Int) < (L : Int) := by omega
  have HT := T3.set a (b : Int) (by omega) (by omega) (by omega)
  have hg3 := T3.lt
  generalize l.getD a 0 = xa at hc1
  clear hc T1 T2 s1 s2 H1 H2 H1' H2' H0
  go_wp2_with fail
  go_ret
  exact ⟨g, cap, hg, by rw [List.length_set, hLn]; rfl, HT, s3.of_block (Below.heap_setCell _ _ _ _ (by show h ≠ g; omega)), ((B1.trans B2).trans B3).put hg hh a _⟩

theorem once_cut (a : Nat) (ha : a < l.length) (y1 y2 : Int)
    (H0 : Hid (Calls Tryz.prog 140 #[.pointer (some ⟨h, fo, none⟩), .int .i64 6] w (Drw w B h fo g cap l 2 y1)))
    (H1 : Hid (∀ w1, Txt w1 g cap l → Sd w1 h fo y1 → Calls Tryz.prog 140 #[.pointer (some ⟨h, fo, none⟩), .int .i64 (l.length : Int)] w1 (Drw w1 B h fo g cap l a y2))) :
    Calls Tryz.prog 164 #[.slice (some ⟨g, 0, none⟩) l.length cap, .string o, .pointer (some ⟨h, fo, none⟩)] w (WAns w B h fo (cutL l a) y2) := by
  have hne : ¬ ((l.length : Int) = 0) := by omega
  generalize hLn : l.length = L at H1 hne ha hL ⊢
  go_enter Tryz.func164, Tryz.ntmps164
  go_wp2_with fail
  refine H0.out.mono ?_
  rintro e w1 ⟨rfl, T1, s1, B1⟩
  have H1' : Hid (Calls Tryz.prog 140 #[.pointer (some ⟨h, fo, none⟩), .int .i64 (L : Int)] w1 (Drw w1 B h fo g cap l a y2)) := H1.out w1 T1 s1
  go_wp2_with fail
  refine H1'.out.mono ?_
  rintro e w2 ⟨rfl, T2, s2, B2⟩
  have H3 : Hid (Calls Tryz.prog 209 #[.slice (some ⟨g, 0, none⟩) l.length cap, .int .i64 a] w2 (TxtAns w2 g (cutL l a))) := takeOut_any w2 g cap l T2 (by omega) a (by omega)
  rw [hLn] at H3
  go_wp2_with fail
  refine H3.out.mono ?_
  rintro e w3 ⟨g3, cap3, hg3, rfl, T3, B3⟩
  obtain ⟨n, hn⟩ : ∃ n, (cutL l a).length = n := ⟨_, rfl⟩
  rw [hn]
  go_wp2_with fail
  go_ret
  exact ⟨g3, cap3, by omega, by rw [hn]; rfl, T3, s2.below B3 (by omega), (B1.trans B2).trans (SK.of_below B3 hg hh)⟩

omit hg hh hL in
theorem once_in (l' : List Int) (y1 y2 : Int)
    (H0 : Hid (Calls Tryz.prog 140 #[.pointer (some ⟨h, fo, none⟩), .int .i64 6] w (Drw w B h fo g cap l 3 y1)))
    (H1 : Hid (∀ w1, Txt w1 g cap l → Sd w1 h fo y1 → Calls Tryz.prog 211 #[.slice (some ⟨g, 0, none⟩) l.length cap, .pointer (some ⟨h, fo, none⟩)] w1 (WAns w1 B h fo l' y2))) :
    Calls Tryz.prog 164 #[.slice (some ⟨g, 0, none⟩) l.length cap, .string o, .pointer (some ⟨h, fo, none⟩)] w (WAns w B h fo l' y2) := by
  generalize hLn : l.length = L at H1 ⊢
  go_enter Tryz.func164, Tryz.ntmps164
  go_wp2_with fail
  refine H0.out.mono ?_
  rintro e w1 ⟨rfl, T1, s1, B1⟩
  have H1' : Hid (Calls Tryz.prog 211 #[.slice (some ⟨g, 0, none⟩) L cap, .pointer (some ⟨h, fo, none⟩)] w1 (WAns w1 B h fo l' y2)) := H1.out w1 T1 s1
  by_cases h0 : (L : Int) = 0
  all_goals
    go_wp2_with fail
    refine H1'.out.mono ?_
    rintro e w3 ⟨g3, cap3, hg3, rfl, T3, s3, B3⟩
    go_wp2_with fail
    go_ret
    exact ⟨g3, cap3, hg3, rfl, T3, s3, B1.trans B3⟩

omit hg hh hL in
theorem once_cross (l' : List Int) (y1 y2 : Int)
    (H0 : Hid (Calls Tryz.prog 140 #[.pointer (some ⟨h, fo, none⟩), .int .i64 6] w (Drw w B h fo g cap l 4 y1)))
    (H1 : Hid (∀ w1, Txt w1 g cap l → Sd w1 h fo y1 → Calls Tryz.prog 212 #[.slice (some ⟨g, 0, none⟩) l.length cap, .string o, .pointer (some ⟨h, fo, none⟩)] w1 (WAns w1 B h fo l' y2))) :
    Calls Tryz.prog 164 #[.slice (some ⟨g, 0, none⟩) l.length cap, .string o, .pointer (some ⟨h, fo, none⟩)] w (WAns w B h fo l' y2) := by
  generalize hLn : l.length = L at H1 ⊢
  go_enter Tryz.func164, Tryz.ntmps164
  go_wp2_with fail
  refine H0.out.mono ?_
  rintro e w1 ⟨rfl, T1, s1, B1⟩
  have H1' : Hid (Calls Tryz.prog 212 #[.slice (some ⟨g, 0, none⟩) L cap, .string o, .pointer (some ⟨h, fo, none⟩)] w1 (WAns w1 B h fo l' y2)) := H1.out w1 T1 s1
  by_cases h0 : (L : Int) = 0
  all_goals
    go_wp2_with fail
    refine H1'.out.mono ?_
    rintro e w3 ⟨g3, cap3, hg3, rfl, T3, s3, B3⟩
    go_wp2_with fail
    go_ret
    exact ⟨g3, cap3, hg3, rfl, T3, s3, B1.trans B3⟩

omit hL in
theorem once_copy (a b : Nat) (ha : a < l.length) (hb : b < l.length) (y1 y2 y3 : Int)
    (H0 : Hid (Calls Tryz.prog 140 #[.pointer (some ⟨h, fo, none⟩), .int .i64 6] w (Drw w B h fo g cap l 5 y1)))
    (H1 : Hid (∀ w1, Txt w1 g cap l → Sd w1 h fo y1 → Calls Tryz.prog 140 #[.pointer (some ⟨h, fo, none⟩), .int .i64 (l.length : Int)] w1 (Drw w1 B h fo g cap l a y2)))
    (H2 : Hid (∀ w1, Txt w1 g cap l → Sd w1 h fo y2 → Calls Tryz.prog 140 #[.pointer (some ⟨h, fo, none⟩), .int .i64 (l.length : Int)] w1 (Drw w1 B h fo g cap l b y3))) :
    Calls Tryz.prog 164 #[.slice (some ⟨g, 0, none⟩) l.length cap, .string o, .pointer (some ⟨h, fo, none⟩)] w (WAns w B h fo (l.set a (l.getD b 0)) y3) := by
  have hne : ¬ ((l.length : Int) = 0) := by omega
  generalize hLn : l.length = L at H1 H2 hne ha hb ⊢
  go_enter Tryz.func164, Tryz.ntmps164
  go_wp2_with fail
  refine H0.out.mono ?_
  rintro e w1 ⟨rfl, T1, s1, B1⟩
  have H1' : Hid (Calls Tryz.prog 140 #[.pointer (some ⟨h, fo, none⟩), .int .i64 (L : Int)] w1 (Drw w1 B h fo g cap l a y2)) := H1.out w1 T1 s1
  go_wp2_with fail
  refine H1'.out.mono ?_
  rintro e w2 ⟨rfl, T2, s2, B2⟩
  have H2' : Hid (Calls Tryz.prog 140 #[.pointer (some ⟨h, fo, none⟩), .int .i64 (L : Int)] w2 (Drw w2 B h fo g cap l b y3)) := H2.out w2 T2 s2
  go_wp2_with fail
  refine H2'.out.mono ?_
  rintro e w3 ⟨rfl, T3, s3, B3⟩
  have hc := T3.at a (by omega)
  have hc1 := hc.1
  have hc2 := hc.2
  have hd1 := (T3.at b (by omega)).1
  have hai : (a : Int) < (L : Int) := by omega
  have hbi : (b : Int) < (L : Int) := by omega
  have hby := T3.byt.at b
  have HT : Hid (Txt (w3.setCell ⟨g, a, none⟩ (.int .u8 (l.getD b 0))) g cap (l.set a (l.getD b 0))) := T3.set a (l.getD b 0) (by omega) hby.1 hby.2
  have hg3 := T3.lt
  clear hby
  obtain ⟨xb, hxb⟩ : ∃ xb, l.getD b 0 = xb := ⟨_, rfl⟩
  obtain ⟨xa, hxa⟩ : ∃ xa, l.getD a 0 = xa := ⟨_, rfl⟩
  rw [hxb] at hd1 HT
  rw [hxa] at hc1
  have HX : Hid (l.getD b 0 = xb) := hxb
  clear hc T1 T2 s1 s2 H1 H2 H1' H2' H0 hxb hxa T3
  go_wp2_with fail
  go_ret
  rw [HX.out]
  exact ⟨g, cap, hg, by rw [List.length_set, hLn]; rfl, HT.out, s3.of_block (Below.heap_setCell _ _ _ _ (by show h ≠ g; omega)), ((B1.trans B2).trans B3).put hg hh a _⟩
end
end Go.Proofs.YtflenkppcclclaaGreatDoor

