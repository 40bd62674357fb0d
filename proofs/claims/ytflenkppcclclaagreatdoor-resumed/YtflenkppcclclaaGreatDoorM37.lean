import Derived.Test.YtflenkppcclclaaGreatDoorM21
import Derived.Test.YtflenkppcclclaaGreatDoorM36
namespace Go.Proofs.YtflenkppcclclaaGreatDoor
open Go.RowKit

theorem tries_snoc (R : ByteArray → Sh) (s : ByteArray) : ∀ (l : List ByteArray) (h : HS), triesS R h (l ++ [s]) = (tryS R (triesS R h l) s).1
  | [], _ => rfl
  | t :: l, h => tries_snoc R s l (tryS R h t).1
theorem tries_take (R : ByteArray → Sh) (h : HS) (l : List ByteArray) (k : Nat) (hk : k < l.length) : triesS R h (l.take (k + 1)) = (tryS R (triesS R h (l.take k)) (l.getD k ⟨#[]⟩)).1 := by
  rw [List.take_succ_eq_append_getElem hk, tries_snoc, List.getD_eq_getElem?_getD, List.getElem?_eq_getElem hk, Option.getD_some]
/-! All is counted by the tries. -/
structure Hcnt (h : HS) : Prop where
  hangs : h.hangs ≤ h.tries
  kept : h.kept.length ≤ h.tries
  found : h.found.length ≤ h.tries
  hist : h.hist.length ≤ h.tries
theorem Hcnt.tried {R : ByteArray → Sh} {h : HS} (p : Hcnt h) (s : ByteArray) : Hcnt (tryS R h s).1 := by
  obtain ⟨_, _, _, _, e5, e6⟩ := try_rest R h s
  obtain ⟨h1, h2, h3, h4⟩ := p
  rcases try_cases R h s with ⟨a, _⟩ | ⟨_, _, a3, a4, a5, _⟩ | ⟨_, _, _, _, a5, a6, a7, _⟩
  · refine ⟨by omega, by rw [a.kept]; omega, by rw [a.found]; omega, by rw [a.hist]; omega⟩
  · refine ⟨by omega, by rw [a3]; omega, by rw [a4, List.length_append, List.length_singleton]; omega, by rw [a5, List.length_append, List.length_singleton]; omega⟩
  · refine ⟨by omega, by rw [a5, List.length_append, List.length_singleton]; omega, by rw [a6]; omega, by rw [a7, List.length_append, List.length_singleton]; omega⟩
theorem hcnt_zero (seed : Int) : Hcnt (HS.zero seed) := ⟨Nat.le_refl _, Nat.le_refl _, Nat.le_refl _, Nat.le_refl _⟩
theorem Hcnt.tries {R : ByteArray → Sh} : ∀ (l : List ByteArray) (h : HS), Hcnt h → Hcnt (triesS R h l) ∧ (triesS R h l).tries = h.tries + l.length
  | [], _, p => ⟨p, rfl⟩
  | s :: l, h, p => by
    obtain ⟨h1, h2⟩ := Hcnt.tries l _ (p.tried (R := R) s)
    refine ⟨h1, h2.trans ?_⟩
    rw [(try_rest R h s).2.2.2.2.1, List.length_cons]
    omega
theorem one_tries (R : ByteArray → Sh) (h : HS) : (h.one R).tries = h.tries + 1 := by
  have := (try_rest R { h with seed := h.chSeed } h.chText).2.2.2.2.1
  unfold HS.one
  dsimp only
  split
  · exact this
  · exact this
theorem Hcnt.one {R : ByteArray → Sh} {h : HS} (p : Hcnt h) : Hcnt (h.one R) := by
  have q : Hcnt (tryS R { h with seed := h.chSeed } h.chText).1 := Hcnt.tried (h := { h with seed := h.chSeed }) ⟨p.hangs, p.kept, p.found, p.hist⟩ _
  unfold HS.one
  dsimp only
  split
  · exact ⟨q.hangs, q.kept, q.found, q.hist⟩
  · exact ⟨q.hangs, q.kept, q.found, q.hist⟩
theorem Hcnt.go {R : ByteArray → Sh} {h : HS} (p : Hcnt h) : ∀ n, Hcnt (h.go R n) ∧ (h.go R n).tries = h.tries + n
  | 0 => ⟨p, rfl⟩
  | n + 1 => by
    obtain ⟨h1, h2⟩ := Hcnt.go p n
    refine ⟨h1.one, ?_⟩
    show (HS.one R (h.go R n)).tries = _
    rw [one_tries, h2]
    omega
end Go.Proofs.YtflenkppcclclaaGreatDoor

namespace Go.Proofs.YtflenkppcclclaaGreatDoor
open Go.RowKit

/-! A new prowl. -/
/-- Texts in memory. -/
structure SL (w : World) (v : Value) (l : List ByteArray) : Prop where
  form : (v = .slice none 0 0 ∧ l = []) ∨ ∃ b cap, v = .slice (some ⟨b, 0, none⟩) l.length cap ∧ b < w.heap.size ∧ l.length ≤ 9223372036854775807 ∧ ∀ j, j < l.length → w.cell? ⟨b, j, none⟩ = some (.string (l.getD j ⟨#[]⟩))
theorem SL.below {w w' : World} {v : Value} {l : List ByteArray} (h : SL w v l) (b : Below w.heap.size w w') : SL w' v l := by
  refine ⟨?_⟩
  rcases h.form with c | ⟨b', cap, h1, h2, h3, h4⟩
  · exact Or.inl c
  · exact Or.inr ⟨b', cap, h1, Nat.lt_of_lt_of_le h2 b.size, h3, fun j hj => (b.cell (p := ⟨b', j, none⟩) h2).trans (h4 j hj)⟩
theorem tooLong_tells (w : World) (l : List ByteArray) (hl : ∀ s ∈ l, s.size ≤ 9223372036854775807) : Tells 65 #[] l.length (fun j => .string (l.getD j ⟨#[]⟩)) (fun j => decide (24 < (l.getD j ⟨#[]⟩).size)) w := by
  intro W j hj hW
  have hs : (l.getD j ⟨#[]⟩).size ≤ 9223372036854775807 := by
    rw [List.getD_eq_getElem?_getD, List.getElem?_eq_getElem hj, Option.getD_some]
    exact hl _ (List.getElem_mem hj)
  dsimp only
  generalize l.getD j ⟨#[]⟩ = s at hs ⊢
  have HB : Hid (Below w.heap.size w W) := hW
  clear hW
  have e : decide ((24 : Int) < (s.size : Int)) = decide (24 < s.size) := by
    by_cases h : 24 < s.size
    · rw [decide_eq_true h, decide_eq_true (by omega)]
    · rw [decide_eq_false h, decide_eq_false (by omega)]
  go_enter Tryz.func65, Tryz.ntmps65
  go_wp2
  go_ret
  exact ⟨by rw [← e]; rfl, HB.out⟩
theorem tooLong_enters : ∀ args w, (callFunc 65 args).run Tryz.prog w = .ok (.enter 65 args) w := enters_of Tryz.func65 (by kernel_rfl) rfl
theorem anyLong (w : World) (v : Value) (l : List ByteArray) (S : SL w v l) (hl : ∀ s ∈ l, s.size ≤ 9223372036854775807) :
    Calls Tryz.prog 64 #[v, .func (.func 65) #[] #[]] w fun e w' => e = .returned (.bool (l.any fun s => decide (24 < s.size))) ∧ Below w.heap.size w w' := by
  rcases S.form with ⟨rfl, rfl⟩ | ⟨b, cap, rfl, hb, hn, hc⟩
  · exact (cfStr_none _ _ _ _).mono fun e w' ⟨x, y⟩ => ⟨x, by rw [y]; exact Below.refl _ _⟩
  · have := cfStr_any 65 #[] tooLong_enters b l.length cap _ _ w (tooLong_tells w l hl) hn hb hc
    rw [any_range l ⟨#[]⟩ (fun s => decide (24 < s.size))] at this
    exact this
theorem strClone_any (s : ByteArray) (hs : s.size ≤ 281474976710656) (w : World) : Calls Tryz.prog 67 #[.string s] w fun e w' => e = .returned (.string s) ∧ Below w.heap.size w w' := by
  go_enter Tryz.func67, Tryz.ntmps67
  go_wp2_with fail
  refine (Tryz.stringslite_Clone s w hs).mono ?_
  rintro e w1 ⟨rfl, B1⟩
  go_wp2_with fail
  go_ret
  exact ⟨rfl, B1⟩
/-- A hunt that has tried nothing. -/
theorem hg_new {w w1 : World} {g : PG} (ok : PGok g) (b' cap' : Nat) (seed : Int) (h0 : 0 ≤ seed) (h1 : seed ≤ 18446744073709551615) (B : Below w.heap.size w w1) (hb : w.heap.size ≤ b') (C : Laid w1 b' 0 g.L cap' g.c) (hT : Tab w) (hM : Mrk w) (h3 : 3 ≤ w.heap.size) :
    HG (w1.alloc (.cells (hcells (.slice (some ⟨b', 0, none⟩) g.L cap') seed g.fuel) 98)) (fun k => w.heap.size ≤ k ∧ k < w1.heap.size + 1) ⟨w1.heap.size, b', cap', .slice none 0 0, .slice none 0 0, .slice none 0 0, []⟩ g (HS.zero seed) := by
  have hbk : (w1.alloc (.cells (hcells (.slice (some ⟨b', 0, none⟩) g.L cap') seed g.fuel) 98)).heap[w1.heap.size]? = some (.cells (hcells (.slice (some ⟨b', 0, none⟩) g.L cap') seed g.fuel) 98 (0, 0)) := heap_alloc_new _ _
  have Ba : Below w1.heap.size w1 (w1.alloc (.cells (hcells (.slice (some ⟨b', 0, none⟩) g.L cap') seed g.fuel) 98)) := (Below.refl _ _).alloc (Nat.le_refl _) _
  have hbl := C.blk
  have hsz := B.size
  have B2 : Below w.heap.size w (w1.alloc (.cells (hcells (.slice (some ⟨b', 0, none⟩) g.L cap') seed g.fuel) 98)) := B.trans (Ba.mono hsz)
  refine ⟨?_, ok, hinv_zero _ _, hpos_zero seed h0 h1, hT.below B2, hM.below B2 hM.two⟩
  exact {
    cell := fun j hj => by
      rw [cell_of_row _ _ _ _ _ _ hbk]
      match j, hj with
      | 0, _ | 1, _ | 2, _ | 3, _ | 4, _ | 5, _ | 6, _ | 7, _ | 8, _ | 9, _ | 10, _ | 11, _ | 12, _ | 13, _ | 14, _ | 15, _ | 16, _ | 17, _ | 18, _ | 19, _ | 20, _ | 21, _ | 22, _ | 23, _ | 24, _ | 25, _ | 26, _ | 27, _ | 28, _ | 29, _ | 30, _ | 31, _ | 32, _ | 33, _ | 34, _ | 35, _ | 36, _ | 37, _ | 38, _ | 39, _ => rfl
      | j + 40, h => omega
    thaw := fun j => frozen_of_row _ _ _ _ _ hbk
    rk := World.ownsRow_nil _ _ _ _
    rf := World.ownsRow_nil _ _ _ _
    rc := World.ownsRow_nil _ _ _ _
    nk := fun b e => by cases e
    nf := fun b e => by cases e
    nc := fun b e => by cases e
    code := C.below Ba
    ncode := fun c => by
      rcases c with c | c | c | c
      · have : b' = w1.heap.size := c
        omega
      · cases c
      · cases c
      · cases c
    kept := fun i k hk => by simp [HS.zero] at hk
    inU := fun k hk => by
      rcases hk with c | c | c | c
      · have : k = w1.heap.size := c
        omega
      · cases c
      · cases c
      · cases c
    inC := ⟨hb, by show b' < w1.heap.size + 1; omega⟩
    lt := fun k hk => by simp; omega
    low := fun k hk => by omega }
theorem Hcnt.sz {h : HS} (p : Hcnt h) (ht : h.tries ≤ 1000000) : Hsz h := ⟨by omega, by have := p.hangs; omega, by have := p.kept; omega, by have := p.found; omega, by have := p.hist; omega⟩
theorem fuelFits_any (w : World) (fuel : Int) : Calls Tryz.prog 46 #[.int .i64 fuel] w fun e w' => e = .returned (.bool (decide (1 ≤ fuel) && decide (fuel ≤ 500))) ∧ w' = w := by
  by_cases h1 : 1 ≤ fuel
  · by_cases h2 : fuel ≤ 500
    · rw [decide_eq_true h1, decide_eq_true h2]
      go_enter Tryz.func46, Tryz.ntmps46
      go_wp2
      go_ret
      exact ⟨rfl, rfl⟩
    · rw [decide_eq_true h1, decide_eq_false h2]
      go_enter Tryz.func46, Tryz.ntmps46
      go_wp2
      go_ret
      exact ⟨rfl, rfl⟩
  · rw [decide_eq_false h1]
    go_enter Tryz.func46, Tryz.ntmps46
    go_wp2
    go_ret
    exact ⟨rfl, rfl⟩
/-- What New has made. -/
structure Made (w : World) (g : PG) (h : HS) (H : Nat) (w' : World) : Prop where
  ge : w.heap.size ≤ H
  bel : Below w.heap.size w w'
  hg : ∃ U d, d.H = H ∧ HG w' U d g h ∧ ∀ k, U k → w.heap.size ≤ k
theorem Made.tried {w wr : World} {g : PG} {h : HS} {H : Nat} (m : Made w g h H wr) (hz : Hsz h) (s : ByteArray) (hs : s.size ≤ 24) (W : World) (b : Below wr.heap.size wr W) : Calls Tryz.prog 66 #[.pointer (some ⟨H, 0, none⟩), .string s] W fun e w' => (∃ l, e = .returned (.int .u8 l)) ∧ Made w g (tryS g.R h s).1 H w' := by
  obtain ⟨U, d, rfl, G, hU⟩ := m.hg
  have G' := G.below b
  refine (try_any G'.hu G'.ok G'.tab (inv_cls g.rok G'.inv) hz s hs).mono ?_
  rintro e w' ⟨rfl, t⟩
  have q := t.ht G'
  obtain ⟨d', hd', p'⟩ := t.hu
  have hbs := b.size
  have hge : ∀ k, Gr (Gr U wr W) W w' k → w.heap.size ≤ k := fun k hk => by
    have hms := m.bel.size
    rcases hk with (c | c) | c
    · exact hU k c
    · omega
    · omega
  refine ⟨⟨_, rfl⟩, m.ge, ?_, _, d', hd', ⟨p', G.ok, G.inv.tried g.rok s hs, G.pos.tried s, q.tab, q.mrk⟩, hge⟩
  have f := t.fr
  have b1 : Below w.heap.size w W := m.bel.trans (b.mono m.bel.size)
  refine ⟨f.os.trans b1.os, f.tape.trans b1.tape, f.output.trans b1.output, Nat.le_trans b1.size f.size, fun k hk => (f.block k (Nat.lt_of_lt_of_le hk b1.size) (fun c => ?_)).trans (b1.block k hk)⟩
  rcases c with c | c
  · have := hU k c; omega
  · have := m.bel.size; omega
set_option maxHeartbeats 2000000 in
set_option maxRecDepth 100000 in
theorem xNew_any (w : World) (cb co cap : Nat) (g : PG) (ok : PGok g) (C : Laid w cb co g.L cap g.c) (v : Value) (l : List ByteArray) (S : SL w v l) (hl8 : l.length ≤ 8) (hl : ∀ s ∈ l, s.size ≤ 24) (seed : Int) (s0 : 0 ≤ seed) (s1 : seed ≤ 18446744073709551615) (hT : Tab w) (hM : Mrk w) (h3 : 3 ≤ w.heap.size) :
    Calls Tryz.prog 29 #[.slice (some ⟨cb, co, none⟩) g.L cap, v, .int .u64 seed, .int .i64 g.fuel] w fun e w' => ∃ H, e = .returned (.tuple #[.pointer (some ⟨H, 0, none⟩), .int .i64 0]) ∧ Made w g (triesS g.R (HS.zero seed) l) H w' := by
  have H1 : Hid (Calls Tryz.prog 45 #[.slice (some ⟨cb, co, none⟩) g.L cap] w fun e w' => e = .returned (.tuple #[.int .i64 (cntB (bgn g.c g.N) g.L), .bool true]) ∧ Below w.heap.size w w') := pCheck_any w cb co g.L cap g.N g.c ok.vp C hT
  have H2 : Hid (∀ W, Below w.heap.size w W → Calls Tryz.prog 64 #[v, .func (.func 65) #[] #[]] W fun e w' => e = .returned (.bool false) ∧ Below w.heap.size w w') := fun W b => by
    have := anyLong W v l (S.below b) (fun s hs => by have := hl s hs; omega)
    have hf : (l.any fun s => decide (24 < s.size)) = false := by
      rw [List.any_eq_false]
      intro s hs
      have := hl s hs
      simp; omega
    rw [hf] at this
    exact this.mono fun e w' ⟨x, y⟩ => ⟨x, b.trans (y.mono b.size)⟩
  have hf0 := ok.fuel0
  have hf1 := ok.fuel1
  have H3 : Hid (∀ W, Calls Tryz.prog 46 #[.int .i64 g.fuel] W fun e w' => e = .returned (.bool true) ∧ w' = W) := fun W => by
    have := fuelFits_any W g.fuel
    rw [decide_eq_true hf0, decide_eq_true hf1] at this
    exact this
  have H4 : Hid (∀ W, Below w.heap.size w W → Calls Tryz.prog 47 #[.slice (some ⟨cb, co, none⟩) g.L cap, .int .u64 seed, .int .i64 g.fuel] W fun e w' => (∃ b' cap', e = .returned (.agg (hcells (.slice (some ⟨b', 0, none⟩) g.L cap') seed g.fuel)) ∧ w.heap.size ≤ b' ∧ Laid w' b' 0 g.L cap' g.c) ∧ Below w.heap.size w w') := fun W b =>
    (hNew_any W cb co g.L cap g.c (C.below b) ok.vp.most seed g.fuel).mono fun e w' ⟨⟨b', c', x, y, z⟩, t⟩ => ⟨⟨b', c', x, Nat.le_trans b.size y, z⟩, b.trans (t.mono b.size)⟩
  have H5 : Hid (∀ w1 b' cap', Below w.heap.size w w1 → w.heap.size ≤ b' → Laid w1 b' 0 g.L cap' g.c → Made w g (HS.zero seed) w1.heap.size (w1.alloc (.cells (hcells (.slice (some ⟨b', 0, none⟩) g.L cap') seed g.fuel) 98))) := fun w1 b' cap' b hb Cb =>
    ⟨b.size, b.trans ((Below.refl _ _).alloc b.size _), _, _, rfl, hg_new ok b' cap' seed s0 s1 b hb Cb hT hM h3, fun k hk => hk.1⟩
  have HSL : Hid (∀ W, Below w.heap.size w W → SL W v l) := fun W b => S.below b
  have HL : Hid (∀ s ∈ l, s.size ≤ 24) := hl
  have HCN : Hid (∀ k, k ≤ l.length → Hsz (triesS g.R (HS.zero seed) (l.take k))) := fun k hk => by
    obtain ⟨c1, c2⟩ := (hcnt_zero seed).tries (R := g.R) (l.take k)
    exact c1.sz (by rw [c2, List.length_take]; show 0 + _ ≤ _; omega)
  have hvf : ∃ ao cp, v = .slice ao l.length cp := by
    rcases S.form with ⟨rfl, rfl⟩ | ⟨b, cp, rfl, _⟩
    · exact ⟨none, 0, rfl⟩
    · exact ⟨_, cp, rfl⟩
  obtain ⟨ao, cp, rfl⟩ := hvf
  clear S hl hT hM h3 ok C
  generalize hn : l.length = n at *
  generalize g.L = gL at *
  generalize g.fuel = gf at *
  go_enter Tryz.func29, Tryz.ntmps29
  go_wp2_with fail
  refine H1.out.mono ?_
  rintro e w1 ⟨rfl, B1⟩
  have HB1 : Hid (Below w.heap.size w w1) := B1
  clear B1
  have hi8 : ¬ (8 : Int) < (n : Int) := by omega
  go_wp2_with fail
  refine (H2.out w1 HB1.out).mono ?_
  rintro e w2 ⟨rfl, B2⟩
  have HB2 : Hid (Below w.heap.size w w2) := B2
  clear B2
  go_wp2_with fail
  refine (H3.out w2).mono ?_
  rintro e w3 ⟨rfl, hw3⟩
  obtain rfl := hw3.symm
  go_wp2_with fail
  refine (H4.out w2 HB2.out).mono ?_
  rintro e w4 ⟨⟨b4, c4, rfl, hb4, C4⟩, B4⟩
  have HMD : Hid (Made w g (HS.zero seed) w4.heap.size (w4.alloc (.cells (hcells (.slice (some ⟨b4, 0, none⟩) gL c4) seed gf) 98))) := H5.out w4 b4 c4 B4 hb4 C4
  clear B4 hb4 C4 H1 H2 H3 H4 H5
  go_wp2_with (first | refine wpList_build_c rfl 98 0 _ rfl (.agg (hcells (.slice (some ⟨b4, 0, none⟩) gL c4) seed gf)) rfl (hcells (.slice (some ⟨b4, 0, none⟩) gL c4) seed gf) (buildP b4 gL c4 seed gf) ?_)
  generalize hcells (.slice (some ⟨b4, 0, none⟩) gL c4) seed gf = cs at *
  have HST : Hid (∀ k, k < n → triesS g.R (HS.zero seed) (l.take (k + 1)) = (tryS g.R (triesS g.R (HS.zero seed) (l.take k)) (l.getD k ⟨#[]⟩)).1) := fun k hk => tries_take _ _ _ _ (by omega)
  have HS24 : Hid (∀ k, k < n → (l.getD k ⟨#[]⟩).size ≤ 24) := fun k hk => by
    have hk' : k < l.length := by omega
    rw [List.getD_eq_getElem?_getD, List.getElem?_eq_getElem hk', Option.getD_some]
    exact HL.out _ (List.getElem_mem hk')
  have HSF : Hid (∀ W k, k < n → Below w.heap.size w W → ∃ b, ao = some ⟨b, 0, none⟩ ∧ W.cell? ⟨b, k, none⟩ = some (.string (l.getD k ⟨#[]⟩))) := fun W k hk b => by
    rcases (HSL.out W b).form with ⟨hv, _⟩ | ⟨b', cp', hv, _, _, hc⟩
    · injection hv with _ h2 _
      omega
    · injection hv with h1 _ _
      exact ⟨b', h1, hc k (by omega)⟩
  have HNN : Hid (l.length = n) := hn
  clear hn
  go_loopw [14, 40] (fun _ i wr => ∃ k : Nat, k ≤ n ∧ i = .int .i64 k ∧ Made w g (triesS g.R (HS.zero seed) (l.take k)) w4.heap.size wr) (fun _ i _ => n - (intOf i).toNat)
  case atStart => exact ⟨0, by omega, rfl, HMD.out⟩
  case round =>
    obtain ⟨k, hkn, rfl, hMD⟩ := hrel
    by_cases hlt : k < n
    · have hi1 : (k : Int) < (n : Int) := by omega
      obtain ⟨b, rfl, ck⟩ := HSF.out wr k hlt hMD.bel
      have hst := HST.out k hlt
      have h24 := HS24.out k hlt
      have HTR : Hid (∀ W, Below wr.heap.size wr W → Calls Tryz.prog 66 #[.pointer (some ⟨w4.heap.size, 0, none⟩), .string (l.getD k ⟨#[]⟩)] W fun e w' => (∃ l, e = .returned (.int .u8 l)) ∧ Made w g (triesS g.R (HS.zero seed) (l.take (k + 1))) w4.heap.size w') := fun W b => by
        rw [hst]
        exact hMD.tried (HCN.out k (by have := HNN.out; omega)) _ h24 W b
      have HCL : Hid (Calls Tryz.prog 67 #[.string (l.getD k ⟨#[]⟩)] wr.drew fun e w' => e = .returned (.string (l.getD k ⟨#[]⟩)) ∧ Below wr.drew.heap.size wr.drew w') := strClone_any _ (by omega) wr.drew
      obtain ⟨hk1, hhk⟩ : ∃ hk1, triesS g.R (HS.zero seed) (l.take (k + 1)) = hk1 := ⟨_, rfl⟩
      have HGK : Hid (triesS g.R (HS.zero seed) (l.take (k + 1)) = hk1) := hhk
      rw [hhk] at HTR
      clear hhk
      clear hMD hst h24
      generalize l.getD k ⟨#[]⟩ = sk at *
      go_wp2_with fail
      go_region_with (first
        | (go_at_call 67; refine HCL.out.mono ?_; rintro e w5 ⟨rfl, B5⟩; have HB5 : Hid (Below wr.heap.size wr w5) := ⟨B5.os, B5.tape, B5.output, B5.size, B5.block⟩; clear B5)
        | (go_at_call 66; refine (HTR.out w5 HB5.out).mono ?_; rintro e w6 ⟨⟨l6, rfl⟩, m6⟩; have HM6 : Hid (Made w g hk1 w4.heap.size w6) := m6; clear m6))
      go_wp2_with fail
      go_roundw
      case rel => exact ⟨k + 1, by omega, by go_num, by rw [HGK.out]; exact HM6.out⟩
      case measure => simp [intOf]; omega
    · have hi1 : ¬ (k : Int) < (n : Int) := by omega
      have hk : k = n := by omega
      have HMF : Hid (Made w g (triesS g.R (HS.zero seed) l) w4.heap.size wr) := by
        have e : l.take k = l := List.take_of_length_le (by have := HNN.out; omega)
        rw [e] at hMD
        exact hMD
      clear hMD hk
      go_wp2_with fail
      go_ret2
      exact ⟨_, rfl, HMF.out⟩
end Go.Proofs.YtflenkppcclclaaGreatDoor

namespace Go.Proofs.YtflenkppcclclaaGreatDoor
open Go.RowKit

/-! The calls on a prowl. -/
theorem its_any (w : World) (H : Nat) : Calls Tryz.prog 33 #[.pointer (some ⟨H, 0, none⟩)] w fun e w' => e = .returned (.pointer (some ⟨H, 0, none⟩)) ∧ w' = w := by
  go_enter Tryz.func33, Tryz.ntmps33
  go_wp2
  go_ret
  exact ⟨rfl, rfl⟩
theorem canGo_any {w : World} {U : Nat → Prop} {d : HD} {g : PG} {h : HS} (p : HU w U d g h) : Calls Tryz.prog 41 #[.pointer (some ⟨d.H, 0, none⟩)] w fun e w' => e = .returned (.bool (decide (0 < h.kept.length))) ∧ w' = w := by
  obtain ⟨G, K⟩ := p.krow
  have H1 : Hid (Calls Tryz.prog 68 #[.pointer (some ⟨d.H, 7, none⟩)] w fun e w' => e = .returned (.int .i64 (h.kept.length : Nat)) ∧ w' = w) := liLen_any w d.H d.vk G h.kept (p.cell 7 (by omega)) K
  generalize h.kept.length = n at *
  clear p K
  have e : decide (0 < n) = decide ((0 : Int) < (n : Int)) := by
    by_cases h : 0 < n
    · rw [decide_eq_true h, decide_eq_true (by omega)]
    · rw [decide_eq_false h, decide_eq_false (by omega)]
  rw [e]
  clear e
  go_enter Tryz.func41, Tryz.ntmps41
  go_wp2_with fail
  refine H1.out.mono ?_
  rintro e w1 ⟨rfl, hw⟩
  obtain rfl := hw.symm
  go_wp2_with fail
  go_ret
  exact ⟨by simp, rfl⟩
/-- What Go answers and leaves. -/
noncomputable def HS.gone (g : PG) (h : HS) (n : Nat) : HS := if 0 < h.kept.length then h.go g.R n else h
set_option maxHeartbeats 1000000 in
theorem xGo_any {w : World} {U : Nat → Prop} {d : HD} {g : PG} {h : HS} (p : HG w U d g h) (n : Nat) (h1 : 1 ≤ n) (hn : n ≤ 2000) (hz : ∀ k, k ≤ n → Hsz (h.go g.R k)) :
    Calls Tryz.prog 21 #[.pointer (some ⟨d.H, 0, none⟩), .int .i64 (n : Nat)] w fun e w' => e = .returned (.int .i64 (if 0 < h.kept.length then 0 else 4)) ∧ HuntTo U d.H g (h.gone g n) w w' := by
  have hi1 : ¬ (n : Int) < 1 := by omega
  have hi2 : ¬ (2000 : Int) < (n : Int) := by omega
  have H0 : Hid (∀ W, Calls Tryz.prog 33 #[.pointer (some ⟨d.H, 0, none⟩)] W fun e w' => e = .returned (.pointer (some ⟨d.H, 0, none⟩)) ∧ w' = W) := fun W => its_any W d.H
  have H1 : Hid (Calls Tryz.prog 41 #[.pointer (some ⟨d.H, 0, none⟩)] w fun e w' => e = .returned (.bool (decide (0 < h.kept.length))) ∧ w' = w) := canGo_any p.hu
  unfold HS.gone
  by_cases hk : 0 < h.kept.length
  · rw [if_pos hk, if_pos hk]
    have H2 : Hid (Calls Tryz.prog 42 #[.pointer (some ⟨d.H, 0, none⟩), .int .i64 (n : Nat)] w fun e w' => e = .returned (.tuple #[]) ∧ HuntTo U d.H g (h.go g.R n) w w') := go_any p hk n hn hz
    rw [decide_eq_true hk] at H1
    clear p hz hk
    go_enter Tryz.func21, Tryz.ntmps21
    go_wp2_with fail
    refine (H0.out w).mono ?_
    rintro e w1 ⟨rfl, hw⟩
    obtain rfl := hw.symm
    go_wp2_with fail
    refine H1.out.mono ?_
    rintro e w1 ⟨rfl, hw⟩
    obtain rfl := hw.symm
    go_wp2_with fail
    refine (H0.out w).mono ?_
    rintro e w1 ⟨rfl, hw⟩
    obtain rfl := hw.symm
    go_wp2_with fail
    refine H2.out.mono ?_
    rintro e w2 ⟨rfl, t2⟩
    have HT2 : Hid (HuntTo U d.H g (h.go g.R n) w w2) := t2
    clear t2
    go_wp2_with fail
    go_ret
    exact ⟨rfl, HT2.out⟩
  · rw [if_neg hk, if_neg hk]
    rw [decide_eq_false hk] at H1
    have HP : Hid (HU w U d g h) := p.hu
    clear p hz hk
    go_enter Tryz.func21, Tryz.ntmps21
    go_wp2_with fail
    refine (H0.out w).mono ?_
    rintro e w1 ⟨rfl, hw⟩
    obtain rfl := hw.symm
    go_wp2_with fail
    refine H1.out.mono ?_
    rintro e w1 ⟨rfl, hw⟩
    obtain rfl := hw.symm
    go_wp2_with fail
    go_ret
    exact ⟨rfl, HuntTo.refl HP.out⟩
theorem hStatus_any {w : World} {U : Nat → Prop} {d : HD} {g : PG} {h : HS} (p : HU w U d g h) : Calls Tryz.prog 43 #[.pointer (some ⟨d.H, 0, none⟩)] w fun e w' => e = .returned (.agg #[.int .i64 h.tries, .int .i64 h.hangs, .int .i64 h.entry, .int .i64 h.changes]) ∧ Below w.heap.size w w' := by
  have c3 : w.cell? ⟨d.H, 3, none⟩ = some (.int .i64 h.tries) := p.cell 3 (by omega)
  have c4 : w.cell? ⟨d.H, 4, none⟩ = some (.int .i64 h.hangs) := p.cell 4 (by omega)
  have c5 : w.cell? ⟨d.H, 5, none⟩ = some (.int .i64 h.entry) := p.cell 5 (by omega)
  have c6 : w.cell? ⟨d.H, 6, none⟩ = some (.int .i64 h.changes) := p.cell 6 (by omega)
  have hH : d.H < w.heap.size := p.lt _ (p.inU _ (Or.inl rfl))
  clear p
  go_enter Tryz.func43, Tryz.ntmps43
  go_wp2
  refine bodyPost_ret (v := .agg #[.int .i64 h.tries, .int .i64 h.hangs, .int .i64 h.entry, .int .i64 h.changes]) ?_ rfl ⟨rfl, ?_⟩
  · simp [results, Tryz.results43, go_sem]
  · exact (Below.refl _ _).alloc (Nat.le_refl _) _
theorem xStatus_any {w : World} {U : Nat → Prop} {d : HD} {g : PG} {h : HS} (p : HU w U d g h) : Calls Tryz.prog 22 #[.pointer (some ⟨d.H, 0, none⟩)] w fun e w' => e = .returned (.agg #[.int .i64 h.tries, .int .i64 h.hangs, .int .i64 h.entry, .int .i64 h.changes]) ∧ Below w.heap.size w w' := by
  have B0 : Below w.heap.size w (w.alloc (.cells #[.int .i64 0, .int .i64 0, .int .i64 0, .int .i64 0] 49)) := (Below.refl _ _).alloc (Nat.le_refl _) _
  have p0 := p.below B0
  have H0 : Hid (∀ W, Calls Tryz.prog 33 #[.pointer (some ⟨d.H, 0, none⟩)] W fun e w' => e = .returned (.pointer (some ⟨d.H, 0, none⟩)) ∧ w' = W) := fun W => its_any W d.H
  have H1 : Hid (Calls Tryz.prog 43 #[.pointer (some ⟨d.H, 0, none⟩)] (w.alloc (.cells #[.int .i64 0, .int .i64 0, .int .i64 0, .int .i64 0] 49)) fun e w' => e = .returned (.agg #[.int .i64 h.tries, .int .i64 h.hangs, .int .i64 h.entry, .int .i64 h.changes]) ∧ Below (w.alloc (.cells #[.int .i64 0, .int .i64 0, .int .i64 0, .int .i64 0] 49)).heap.size (w.alloc (.cells #[.int .i64 0, .int .i64 0, .int .i64 0, .int .i64 0] 49)) w') := hStatus_any p0
  have hz0 : (w.alloc (.cells #[.int .i64 0, .int .i64 0, .int .i64 0, .int .i64 0] 49)).heap.size = w.heap.size + 1 := by simp
  clear p p0
  go_enter Tryz.func22, Tryz.ntmps22
  go_wp2_with fail
  refine (H0.out _).mono ?_
  rintro e w1 ⟨rfl, hw⟩
  obtain rfl := hw.symm
  go_wp2_with fail
  refine H1.out.mono ?_
  rintro e w2 ⟨rfl, B2⟩
  rw [hz0] at B2
  have hbk : w2.heap[w.heap.size]? = some (.cells #[.int .i64 0, .int .i64 0, .int .i64 0, .int .i64 0] 49 (0, 0)) := (B2.block _ (by omega)).trans (heap_alloc_new w _)
  have i0 : w2.cell? ⟨w.heap.size, 0, none⟩ = some (.int .i64 0) := cell_of_row _ _ _ _ _ _ hbk
  have i1 : w2.cell? ⟨w.heap.size, 1, none⟩ = some (.int .i64 0) := cell_of_row _ _ _ _ _ _ hbk
  have i2 : w2.cell? ⟨w.heap.size, 2, none⟩ = some (.int .i64 0) := cell_of_row _ _ _ _ _ _ hbk
  have i3 : w2.cell? ⟨w.heap.size, 3, none⟩ = some (.int .i64 0) := cell_of_row _ _ _ _ _ _ hbk
  have j0 := frozen_of_row w2 w.heap.size 0 _ _ hbk
  have j1 := frozen_of_row w2 w.heap.size 1 _ _ hbk
  have j2 := frozen_of_row w2 w.heap.size 2 _ _ hbk
  have j3 := frozen_of_row w2 w.heap.size 3 _ _ hbk
  have HB2 : Hid (Below w.heap.size w w2) := B0.trans (B2.mono (by omega))
  have hl2 : w.heap.size < w2.heap.size := by have := B2.size; omega
  clear B0 B2 hbk H1
  go_wp2
  refine bodyPost_ret (v := .agg #[.int .i64 h.tries, .int .i64 h.hangs, .int .i64 h.entry, .int .i64 h.changes]) ?_ rfl ⟨rfl, ?_⟩
  · simp [results, Tryz.results22, go_sem, i0, i1, i2, i3]
  · exact below_set (below_set (below_set (below_set HB2.out 0 _) 1 _) 2 _) 3 _
end Go.Proofs.YtflenkppcclclaaGreatDoor

