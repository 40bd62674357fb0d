import Derived.Test.YtflenkppcclclaaGreatDoorM35
namespace Go.Proofs.YtflenkppcclclaaGreatDoor
open Go.RowKit

theorem hval_low (d : HD) (g : PG) (h : HS) (f : Nat → Bool) (j : Nat) (hj : j < 10) : hval d g { h with worked := f } j = hval d g h j := by
  match j, hj with
  | 0, _ | 1, _ | 2, _ | 3, _ | 4, _ | 5, _ | 6, _ | 7, _ | 8, _ | 9, _ => rfl
  | j + 10, h => omega
theorem hval_high (d : HD) (g : PG) (h : HS) (j : Nat) : hval d g h (10 + j) = .bool (h.worked j) := by
  unfold hval
  rw [if_neg (by omega), if_neg (by omega), if_neg (by omega), if_neg (by omega), if_neg (by omega), if_neg (by omega), if_neg (by omega), if_neg (by omega), if_neg (by omega), if_neg (by omega), show 10 + j - 10 = j by omega]
theorem HU.work {w : World} {U : Nat → Prop} {d : HD} {g : PG} {h : HS} (p : HU w U d g h) : HU (w.setCell ⟨d.H, 10 + h.entry, none⟩ (.bool true)) U d g { h with worked := fun i => if i = h.entry then true else h.worked i } :=
  p.set (10 + h.entry) _ _ rfl rfl rfl (fun j hj => by
    by_cases e : j = 10 + h.entry
    · subst e
      rw [if_pos rfl, hval_high]
      dsimp only
      rw [if_pos rfl]
    · rw [if_neg e]
      by_cases hl : j < 10
      · exact hval_low d g h _ j hl
      · obtain ⟨k, rfl⟩ : ∃ k, j = 10 + k := ⟨j - 10, by omega⟩
        rw [hval_high, hval_high]
        dsimp only
        rw [if_neg (by omega)])
/-- The next is at work. -/
theorem move_fin {w W : World} {U : Nat → Prop} {d : HD} {g : PG} {h : HS} (p : HU w U d g h) (B : Below w.heap.size (w.setCell ⟨d.H, 10 + h.entry, none⟩ (.bool true)) W) :
    HuntTo U d.H g h.moveOn w ((W.setCell ⟨d.H, 5, none⟩ (.int .i64 (behindS h.entry (favS h.kept) : Nat))).setCell ⟨d.H, 6, none⟩ (.int .i64 0)) := by
  have p1 := p.work
  have B' : Below (w.setCell ⟨d.H, 10 + h.entry, none⟩ (.bool true)).heap.size (w.setCell ⟨d.H, 10 + h.entry, none⟩ (.bool true)) W := by rw [World.size_setCell]; exact B
  have p2 := p1.gr B'
  have p3 := p2.set 5 (.int .i64 (behindS h.entry (favS h.kept) : Nat)) { h with worked := fun i => if i = h.entry then true else h.worked i, entry := behindS h.entry (favS h.kept) } rfl rfl rfl (fun j hj => by
    by_cases e : j = 5
    · subst e; rfl
    · rw [if_neg e]; unfold hval; simp only [if_neg e])
  have p4 := p3.set 6 (.int .i64 0) h.moveOn rfl rfl rfl (fun j hj => by
    by_cases e : j = 6
    · subst e; rfl
    · rw [if_neg e]; unfold hval HS.moveOn; simp only [if_neg e])
  refine ⟨?_, d, rfl, ?_⟩
  · have f1 : Fr U w (w.setCell ⟨d.H, 10 + h.entry, none⟩ (.bool true)) := Fr.set (p.inU _ (Or.inl rfl)) _ _
    have f2 : Fr U (w.setCell ⟨d.H, 10 + h.entry, none⟩ (.bool true)) W := Fr.below B'
    exact ((f1.same f2).same (Fr.set (p.inU _ (Or.inl rfl)) _ _)).same (Fr.set (p.inU _ (Or.inl rfl)) _ _)
  · have e1 : Gr U (w.setCell ⟨d.H, 10 + h.entry, none⟩ (.bool true)) W = Gr U w ((W.setCell ⟨d.H, 5, none⟩ (.int .i64 (behindS h.entry (favS h.kept) : Nat))).setCell ⟨d.H, 6, none⟩ (.int .i64 0)) := by
      unfold Gr
      rw [World.size_setCell, World.size_setCell, World.size_setCell]
    rw [← e1]
    exact p4
set_option maxHeartbeats 2000000 in
set_option maxRecDepth 100000 in
theorem moveOn_any {w : World} {U : Nat → Prop} {d : HD} {g : PG} {h : HS} (p : HU w U d g h) (inv : Hinv g.R h) (he : h.entry < h.kept.length) (hk : 0 < h.kept.length) :
    Calls Tryz.prog 87 #[.pointer (some ⟨d.H, 0, none⟩)] w fun e w' => e = .returned (.tuple #[]) ∧ HuntTo U d.H g h.moveOn w w' := by
  have hm := inv.most
  have c5 : w.cell? ⟨d.H, 5, none⟩ = some (.int .i64 h.entry) := p.cell 5 (by omega)
  have c6 : w.cell? ⟨d.H, 6, none⟩ = some (.int .i64 h.changes) := p.cell 6 (by omega)
  have cw : w.cell? ⟨d.H, 10 + h.entry, none⟩ = some (hval d g h (10 + h.entry)) := p.cell (10 + h.entry) (by omega)
  have f5 := p.thaw 5
  have f6 := p.thaw 6
  have fw := p.thaw (10 + h.entry)
  have hH : d.H < w.heap.size := p.lt _ (p.inU _ (Or.inl rfl))
  have hi : (h.entry : Int) < 30 := by omega
  obtain ⟨vw, hvw⟩ : ∃ vw, hval d g h (10 + h.entry) = vw := ⟨_, rfl⟩
  rw [hvw] at cw
  have hvb : ∃ b, vw = .bool b := by
    rw [← hvw, hval_high]
    exact ⟨_, rfl⟩
  obtain ⟨bw, rfl⟩ := hvb
  have HFIN : Hid (∀ W, Below w.heap.size (w.setCell ⟨d.H, 10 + h.entry, none⟩ (.bool true)) W → HuntTo U d.H g h.moveOn w ((W.setCell ⟨d.H, 5, none⟩ (.int .i64 (behindS h.entry (favS h.kept) : Nat))).setCell ⟨d.H, 6, none⟩ (.int .i64 0))) := fun W B => move_fin p B
  have HFAV : Hid (∀ W, Below w.heap.size (w.setCell ⟨d.H, 10 + h.entry, none⟩ (.bool true)) W → Calls Tryz.prog 40 #[.pointer (some ⟨d.H, 0, none⟩)] W fun e w' => (∃ v', e = .returned v' ∧ w'.ownsRow W.heap.size 3 1 v' (favS h.kept).length ((favS h.kept).map fun n => .int .i64 ((n : Nat) : Int))) ∧ Below w.heap.size (w.setCell ⟨d.H, 10 + h.entry, none⟩ (.bool true)) w') := fun W B => by
    obtain ⟨G, K⟩ := p.work.kh (h := { h with worked := fun i => if i = h.entry then true else h.worked i }) (inv_cls (h := h) g.rok inv)
    have B' : Below (w.setCell ⟨d.H, 10 + h.entry, none⟩ (.bool true)).heap.size (w.setCell ⟨d.H, 10 + h.entry, none⟩ (.bool true)) W := by rw [World.size_setCell]; exact B
    exact (fav_any W d.H d.vk G h.kept (K.below B') (inv_size inv) (by omega)).mono fun e w' ⟨x, y⟩ => ⟨x, B.trans (y.mono (by have := B.size; rw [World.size_setCell] at this; exact this))⟩
  have HBH : Hid (∀ W base v', W.ownsRow base 3 1 v' (favS h.kept).length ((favS h.kept).map fun n => .int .i64 ((n : Nat) : Int)) → Calls Tryz.prog 141 #[.int .i64 (h.entry : Nat), v'] W fun e w' => e = .returned (.int .i64 (behindS h.entry (favS h.kept) : Nat)) ∧ w' = W) := fun W base v' hr =>
    behind_any W base v' (favS h.kept) hr (by have := fav_some inv g.rok hk; cases hf : favS h.kept with | nil => exact absurd hf this | cons a l => simp) h.entry
  have HC : Hid (∀ W, Below w.heap.size (w.setCell ⟨d.H, 10 + h.entry, none⟩ (.bool true)) W → (W.cell? ⟨d.H, 5, none⟩ = some (.int .i64 h.entry) ∧ W.cell? ⟨d.H, 6, none⟩ = some (.int .i64 h.changes) ∧ W.frozen? ⟨d.H, 5, none⟩ = false ∧ W.frozen? ⟨d.H, 6, none⟩ = false ∧ d.H < W.heap.size)) := fun W B => by
    have hb := B.block d.H hH
    have hsz := B.size
    rw [World.size_setCell] at hsz
    refine ⟨(World.cell?_of_block (w := w.setCell ⟨d.H, 10 + h.entry, none⟩ (.bool true)) (a := ⟨d.H, 5, none⟩) hb).trans ?_, (World.cell?_of_block (w := w.setCell ⟨d.H, 10 + h.entry, none⟩ (.bool true)) (a := ⟨d.H, 6, none⟩) hb).trans ?_, (World.frozen?_of_block (w := w.setCell ⟨d.H, 10 + h.entry, none⟩ (.bool true)) (a := ⟨d.H, 5, none⟩) hb).trans ?_, (World.frozen?_of_block (w := w.setCell ⟨d.H, 10 + h.entry, none⟩ (.bool true)) (a := ⟨d.H, 6, none⟩) hb).trans ?_, by omega⟩
    · rw [World.cell?_setCell_other _ _ _ _ (fun c => by injection c with _ c2 _; omega)]; exact c5
    · rw [World.cell?_setCell_other _ _ _ _ (fun c => by injection c with _ c2 _; omega)]; exact c6
    · rw [World.frozen?_setCell]; exact f5
    · rw [World.frozen?_setCell]; exact f6
  have c51 : (w.setCell ⟨d.H, 10 + h.entry, none⟩ (.bool true)).cell? ⟨d.H, 5, none⟩ = some (.int .i64 h.entry) := (HC.out _ (Below.refl _ _)).1
  generalize h.moveOn = hx at *
  generalize behindS h.entry (favS h.kept) = bh at *
  generalize h.changes = ch at *
  generalize h.entry = en at *
  clear p inv he hm hvw
  go_enter Tryz.func87, Tryz.ntmps87
  go_wp2_with fail
  go_region
  all_goals
    go_wp2_with fail
    go_region_with (first
      | (go_at_call 40; refine (HFAV.out _ (by exact ⟨rfl, rfl, rfl, Nat.le_refl _, fun _ _ => rfl⟩)).mono ?_; rintro e w2 ⟨⟨v2, rfl, hr2⟩, B2⟩; obtain ⟨z5, z6, y5, y6, hl2⟩ := HC.out w2 B2; have HR2 : Hid (Calls Tryz.prog 141 #[.int .i64 (en : Nat), v2] w2 fun e w' => e = .returned (.int .i64 (bh : Nat)) ∧ w' = w2) := HBH.out w2 _ v2 hr2; have HB2 : Hid (HuntTo U d.H g hx w ((w2.setCell ⟨d.H, 5, none⟩ (.int .i64 (bh : Nat))).setCell ⟨d.H, 6, none⟩ (.int .i64 0))) := HFIN.out w2 B2; clear hr2 B2)
      | (go_at_call 141; go_fit HR2.out; rintro e w3 ⟨rfl, hw3⟩; obtain rfl := hw3))
    all_goals
      go_wp2
      go_end0
      exact ⟨rfl, HB2.out⟩
end Go.Proofs.YtflenkppcclclaaGreatDoor

namespace Go.Proofs.YtflenkppcclclaaGreatDoor
open Go.RowKit

theorem HuntTo.refl {w : World} {U : Nat → Prop} {d : HD} {g : PG} {h : HS} (p : HU w U d g h) : HuntTo U d.H g h w w := HuntTo.of p (Below.refl _ _)
/-- One more change was tried. -/
theorem step_f {W : World} {U : Nat → Prop} {d : HD} {g : PG} {h : HS} (p : HU W U d g h) : HuntTo U d.H g { h with changes := h.changes + 1 } W (W.setCell ⟨d.H, 6, none⟩ (.int .i64 ((h.changes : Int) + 1))) := by
  refine ⟨Fr.set (p.inU _ (Or.inl rfl)) 6 _, d, rfl, ?_⟩
  rw [gr_self U W _ (World.size_setCell _ _ _)]
  exact p.set 6 _ _ rfl rfl rfl (fun j hj => by
    by_cases e : j = 6
    · subst e; rw [if_pos rfl]; show Value.int .i64 ((h.changes + 1 : Nat) : Int) = _; rfl
    · rw [if_neg e]; unfold hval; simp only [if_neg e])
/-- What is told of the hunt behind a call. -/
structure HT (w : World) (U : Nat → Prop) (H : Nat) (g : PG) (h : HS) (w' : World) : Prop where
  to : HuntTo U H g h w w'
  tab : Tab w'
  mrk : Mrk w'
theorem HuntTo.ht {w w' : World} {U : Nat → Prop} {d : HD} {g : PG} {h h' : HS} (t : HuntTo U d.H g h' w w') (p : HG w U d g h) : HT w U d.H g h' w' := ⟨t, t.fr.tab p.hu.low p.tab, t.fr.mrk p.hu.low p.mrk⟩
/-- One try of Go, but for moving on. -/
def HS.tried1 (R : ByteArray → Sh) (h : HS) : HS := { (tryS R { h with seed := h.chSeed } h.chText).1 with changes := (tryS R { h with seed := h.chSeed } h.chText).1.changes + 1 }
theorem one_is (R : ByteArray → Sh) (h : HS) : h.one R = if (h.tried1 R).changes = (h.tried1 R).small + 16 then (h.tried1 R).moveOn else h.tried1 R := rfl
theorem tried1_ok {R : ByteArray → Sh} {h : HS} (p : Hinv R h) (q : Hpos h) (hR : ROk R) (hk : 0 < h.kept.length) : Hinv R (h.tried1 R) ∧ 0 < (h.tried1 R).kept.length ∧ ((h.tried1 R).changes ≠ (h.tried1 R).small + 16 → Hpos (h.tried1 R)) ∧ (h.tried1 R).entry < (h.tried1 R).kept.length ∧ (h.tried1 R).changes ≤ 2000 ∧ 0 ≤ (h.tried1 R).seed ∧ (h.tried1 R).seed ≤ 18446744073709551615 := by
  have hs := change_seed q
  have p1 : Hpos { h with seed := h.chSeed } := ⟨q.entry, q.none, q.changes, hs.1, hs.2⟩
  have p2 : Hpos (tryS R { h with seed := h.chSeed } h.chText).1 := p1.tried _
  have q2 : Hinv R (tryS R { h with seed := h.chSeed } h.chText).1 := Hinv.tried (h := { h with seed := h.chSeed }) (p.alike ⟨rfl, rfl, rfl⟩) hR _ (change_size p)
  have hg : h.kept.length ≤ (tryS R { h with seed := h.chSeed } h.chText).1.kept.length := kept_grows_try R { h with seed := h.chSeed } _
  unfold HS.tried1
  generalize (tryS R { h with seed := h.chSeed } h.chText).1 = h1 at *
  have hk1 : 0 < h1.kept.length := by omega
  have hen := p2.entry hk1
  have hsm : h1.small ≤ 1000 := by
    unfold HS.small
    split
    · omega
    · rw [← sum_is]; exact sum_le _ (h1.text_size q2 _) 8 (by omega)
  have hch := p2.changes
  refine ⟨q2.alike ⟨rfl, rfl, rfl⟩, hk1, fun hne => ⟨p2.entry, fun hz => by have : h1.kept.length = 0 := hz; omega, ?_, p2.seed0, p2.seed1⟩, hen, by show h1.changes + 1 ≤ 2000; omega, p2.seed0, p2.seed1⟩
  have hne' : h1.changes + 1 ≠ h1.small + 16 := hne
  show h1.changes + 1 < h1.small + 16
  omega
theorem HuntTo.bel {w w1 w2 : World} {U : Nat → Prop} {H : Nat} {g : PG} {h : HS} (t : HuntTo U H g h w w1) (b : Below w1.heap.size w1 w2) : HuntTo U H g h w w2 := by
  obtain ⟨d, hd, p⟩ := t.hu
  have := HuntTo.of p b
  rw [hd] at this
  exact t.then this
/-- Behind the try. -/
structure TW (w : World) (U : Nat → Prop) (H : Nat) (g : PG) (h1 : HS) (w3 : World) : Prop where
  to : HuntTo U H g h1 w w3
  c6 : w3.cell? ⟨H, 6, none⟩ = some (.int .i64 h1.changes)
  f6 : w3.frozen? ⟨H, 6, none⟩ = false
  lt : H < w3.heap.size
theorem HuntTo.tw {w w3 : World} {U : Nat → Prop} {H : Nat} {g : PG} {h1 : HS} (t : HuntTo U H g h1 w w3) : TW w U H g h1 w3 := by
  obtain ⟨d, rfl, p⟩ := t.hu
  exact ⟨t, p.cell 6 (by omega), p.thaw 6, p.lt _ (p.inU _ (Or.inl rfl))⟩
/-- A change is made, and tried. -/
theorem go_try {w wr : World} {U : Nat → Prop} {H : Nat} {g : PG} {h0 h : HS} {d0 : HD} (hd0 : d0.H = H) (p0 : HG w U d0 g h0) (t : HuntTo U H g h w wr) (inv : Hinv g.R h) (pos : Hpos h) (hk : 0 < h.kept.length) (hz : Hsz h) :
    Calls Tryz.prog 85 #[.pointer (some ⟨H, 0, none⟩)] wr fun e w2 => e = .returned (.string h.chText) ∧ Hid (Calls Tryz.prog 66 #[.pointer (some ⟨H, 0, none⟩), .string h.chText] w2 fun e w3 => (∃ l, e = .returned (.int .u8 l)) ∧ TW w U H g (tryS g.R { h with seed := h.chSeed } h.chText).1 w3) := by
  subst hd0
  have q := t.ht p0
  obtain ⟨d1, hd1, p1⟩ := t.hu
  have G1 : HG wr (Gr U w wr) d1 g h := ⟨p1, p0.ok, inv, pos, q.tab, q.mrk⟩
  have c := change_any G1 hk
  rw [hd1] at c
  refine c.mono ?_
  rintro e w2 ⟨rfl, t2⟩
  refine ⟨rfl, ?_⟩
  have t02 : HuntTo U d0.H g { h with seed := h.chSeed } w w2 := t.then t2
  have q2 := t02.ht p0
  obtain ⟨d2, hd2, p2⟩ := t02.hu
  have c2 := try_any p2 p0.ok q2.tab (inv_cls (h := h) g.rok inv) ⟨hz.tries, hz.hangs, hz.kept, hz.found, hz.hist⟩ h.chText (change_size inv)
  rw [hd2] at c2
  refine c2.mono ?_
  rintro e w3 ⟨rfl, t3⟩
  exact ⟨⟨_, rfl⟩, (t02.then t3).tw⟩
def GRest (w : World) (U : Nat → Prop) (H : Nat) (g : PG) (h2 : HS) (W5 : World) : Prop :=
  ∀ W, Below W5.heap.size W5 W → HuntTo U H g h2 w W ∧ (W.cell? ⟨H, 6, none⟩ = some (.int .i64 (h2.changes : Nat))) ∧
      Calls Tryz.prog 86 #[.pointer (some ⟨H, 0, none⟩)] W (fun e w' => e = .returned (.int .i64 ((h2.small : Nat) + 16 : Int)) ∧ Below W5.heap.size W5 w') ∧
      Calls Tryz.prog 87 #[.pointer (some ⟨H, 0, none⟩)] W (fun e w' => e = .returned (.tuple #[]) ∧ HuntTo U H g h2.moveOn w w')
/-- What is left of the round. -/
theorem go_rest {w w3 : World} {U : Nat → Prop} {H : Nat} {g : PG} {h : HS} (t : TW w U H g (tryS g.R { h with seed := h.chSeed } h.chText).1 w3) (inv : Hinv g.R h) (pos : Hpos h) (hk : 0 < h.kept.length) :
    ∃ W5, W5 = w3.setCell ⟨H, 6, none⟩ (.int .i64 (((tryS g.R { h with seed := h.chSeed } h.chText).1.changes : Int) + 1)) ∧ W5.cell? ⟨H, 6, none⟩ = some (.int .i64 ((h.tried1 g.R).changes : Nat)) ∧
    GRest w U H g (h.tried1 g.R) W5 := by
  obtain ⟨i1, k1, _, e1, _⟩ := tried1_ok inv pos g.rok hk
  obtain ⟨d3, rfl, p3⟩ := t.to.hu
  have t5 : HuntTo U d3.H g (h.tried1 g.R) w (w3.setCell ⟨d3.H, 6, none⟩ (.int .i64 (((tryS g.R { h with seed := h.chSeed } h.chText).1.changes : Int) + 1))) := t.to.then (step_f p3)
  refine ⟨_, rfl, World.cell?_setCell_same _ _ _ t.c6, fun W b => ?_⟩
  have tW : HuntTo U d3.H g (h.tried1 g.R) w W := t5.bel b
  obtain ⟨d6, hd6, p6⟩ := tW.hu
  obtain ⟨G, K⟩ := p6.lk i1 e1 k1
  have cp := planned_any K
  have cm := moveOn_any p6 i1 e1 k1
  rw [hd6] at cp cm
  refine ⟨tW, by have := p6.cell 6 (by omega); rw [hd6] at this; exact this, cp.mono fun e w' ⟨x, y⟩ => ⟨x, b.trans (y.mono b.size)⟩, cm.mono fun e w' ⟨x, y⟩ => ⟨x, tW.then y⟩⟩
set_option maxHeartbeats 2000000 in
set_option maxRecDepth 100000 in
theorem go_any {w : World} {U : Nat → Prop} {d : HD} {g : PG} {h : HS} (p : HG w U d g h) (hk : 0 < h.kept.length) (n : Nat) (hn : n ≤ 2000) (hz : ∀ k, k ≤ n → Hsz (h.go g.R k)) :
    Calls Tryz.prog 42 #[.pointer (some ⟨d.H, 0, none⟩), .int .i64 (n : Nat)] w fun e w' => e = .returned (.tuple #[]) ∧ HuntTo U d.H g (h.go g.R n) w w' := by
  have HP : Hid (HG w U d g h) := p
  have HZ : Hid (∀ k, k ≤ n → Hsz (h.go g.R k)) := hz
  have HGO : Hid (∀ k, Hinv g.R (h.go g.R k) ∧ Hpos (h.go g.R k) ∧ 0 < (h.go g.R k).kept.length) := fun k => ⟨p.inv.go g.rok k, (Hpos.go p.pos p.inv g.rok hk k).1, (Hpos.go p.pos p.inv g.rok hk k).2⟩
  have H0 : Hid (HuntTo U d.H g (h.go g.R 0) w w) := HuntTo.refl p.hu
  clear p hz
  go_enter Tryz.func42, Tryz.ntmps42
  go_wp2_with fail
  go_loopw [5] (fun i wr => ∃ k : Nat, k ≤ n ∧ i = .int .i64 k ∧ HuntTo U d.H g (h.go g.R k) w wr) (fun i _ => n - (intOf i).toNat)
  case atStart => exact ⟨0, by omega, rfl, H0.out⟩
  case round =>
    obtain ⟨k, hkn, rfl, hT⟩ := hrel
    by_cases hlt : k < n
    · have hi1 : (k : Int) < (n : Int) := by omega
      obtain ⟨hinv, hpos, hkk⟩ := HGO.out k
      have hone : h.go g.R (k + 1) = if ((h.go g.R k).tried1 g.R).changes = ((h.go g.R k).tried1 g.R).small + 16 then ((h.go g.R k).tried1 g.R).moveOn else (h.go g.R k).tried1 g.R := one_is g.R (h.go g.R k)
      have H1 : Hid (Calls Tryz.prog 85 #[.pointer (some ⟨d.H, 0, none⟩)] wr fun e w2 => e = .returned (.string (h.go g.R k).chText) ∧ Hid (Calls Tryz.prog 66 #[.pointer (some ⟨d.H, 0, none⟩), .string (h.go g.R k).chText] w2 fun e w3 => (∃ l, e = .returned (.int .u8 l)) ∧ TW w U d.H g (tryS g.R { (h.go g.R k) with seed := (h.go g.R k).chSeed } (h.go g.R k).chText).1 w3)) := go_try rfl HP.out hT hinv hpos hkk (HZ.out k (by omega))
      have HRE : Hid (∀ w3, TW w U d.H g (tryS g.R { (h.go g.R k) with seed := (h.go g.R k).chSeed } (h.go g.R k).chText).1 w3 → ∃ W5, W5 = w3.setCell ⟨d.H, 6, none⟩ (.int .i64 (((tryS g.R { (h.go g.R k) with seed := (h.go g.R k).chSeed } (h.go g.R k).chText).1.changes : Int) + 1)) ∧ W5.cell? ⟨d.H, 6, none⟩ = some (.int .i64 (((h.go g.R k).tried1 g.R).changes : Nat)) ∧ GRest w U d.H g ((h.go g.R k).tried1 g.R) W5) := fun w3 t => go_rest t hinv hpos hkk
      have hc1 : (tryS g.R { (h.go g.R k) with seed := (h.go g.R k).chSeed } (h.go g.R k).chText).1.changes ≤ 2000 := by
        have := (tried1_ok hinv hpos g.rok hkk).2.2.2.2.1
        have h2 : (tryS g.R { (h.go g.R k) with seed := (h.go g.R k).chSeed } (h.go g.R k).chText).1.changes + 1 ≤ 2000 := this
        omega
      clear hT hinv hpos hkk
      generalize hgk : h.go g.R (k + 1) = hk1 at *
      have HGK : Hid (h.go g.R (k + 1) = hk1) := hgk
      clear hgk
      have HON : Hid (hk1 = if ((h.go g.R k).tried1 g.R).changes = ((h.go g.R k).tried1 g.R).small + 16 then ((h.go g.R k).tried1 g.R).moveOn else (h.go g.R k).tried1 g.R) := hone
      clear hone
      generalize (h.go g.R k).chText = ct at *
      generalize (tryS g.R { (h.go g.R k) with seed := (h.go g.R k).chSeed } ct).1 = h1 at *
      generalize (h.go g.R k).tried1 g.R = h2 at *
      go_wp2_with fail
      refine H1.out.mono ?_
      rintro e w2 ⟨rfl, H2⟩
      go_wp2_with fail
      refine H2.out.mono ?_
      rintro e w3 ⟨⟨l3, rfl⟩, t3⟩
      have c6 := t3.c6
      have f6 := t3.f6
      have hl3 := t3.lt
      obtain ⟨W5, hW5, hc5, hr5⟩ := HRE.out w3 t3
      clear t3 H1 H2
      generalize h1.changes = ch1 at *
      go_wp2_with fail
      rw [← hW5]
      clear hW5 c6 f6
      have HPL : Hid (∀ W, Below W5.heap.size W5 W → Calls Tryz.prog 86 #[.pointer (some ⟨d.H, 0, none⟩)] W fun e w' => e = .returned (.int .i64 ((h2.small : Nat) + 16 : Int)) ∧ Below W5.heap.size W5 w') := fun W b => (hr5 W b).2.2.1
      have HMV : Hid (∀ W, Below W5.heap.size W5 W → Calls Tryz.prog 87 #[.pointer (some ⟨d.H, 0, none⟩)] W fun e w' => e = .returned (.tuple #[]) ∧ HuntTo U d.H g h2.moveOn w w') := fun W b => (hr5 W b).2.2.2
      have HNO : Hid (∀ W, Below W5.heap.size W5 W → HuntTo U d.H g h2 w W) := fun W b => (hr5 W b).1
      have HC5 : Hid (∀ W, Below W5.heap.size W5 W → W.cell? ⟨d.H, 6, none⟩ = some (.int .i64 (h2.changes : Nat))) := fun W b => (hr5 W b).2.1
      clear hr5
      generalize h2.changes = ch2 at *
      generalize h2.small = sm at *
      go_region_held3 (fun W => W.cell? ⟨d.H, 6, none⟩ = some (.int .i64 (ch2 : Nat))) (go_keep) (first | (go_at_call 86; go_fit (HPL.out W5.drew (Below.refl _ _).drew); rintro e w6 ⟨rfl, B6⟩; have HB6 : Hid (Below W5.heap.size W5 w6) := B6; have c66 := HC5.out w6 B6; clear B6))
      all_goals
        by_cases hq : ch2 = sm + 16
        · have hq' : (ch2 : Int) = (sm : Int) + 16 := by omega
          have HN : Hid (hk1 = h2.moveOn) := by show _ = _; rw [HON.out, if_pos hq]
          clear hq
          go_wp2_with fail
          refine (HMV.out w6 HB6.out).mono ?_
          rintro e w7 ⟨rfl, t7⟩
          have HT7 : Hid (HuntTo U d.H g hk1 w w7) := by rw [HN.out]; exact t7
          clear t7
          go_wp2_with fail
          go_roundw
          case rel => exact ⟨k + 1, by omega, by go_num, by rw [HGK.out]; exact HT7.out⟩
          case measure => simp [intOf]; omega
        · have hq' : ¬ (ch2 : Int) = (sm : Int) + 16 := by omega
          have HT7 : Hid (HuntTo U d.H g hk1 w w6) := by rw [HON.out, if_neg hq]; exact HNO.out w6 HB6.out
          clear hq
          go_wp2_with fail
          go_roundw
          case rel => exact ⟨k + 1, by omega, by go_num, by rw [HGK.out]; exact HT7.out⟩
          case measure => simp [intOf]; omega
    · have hi1 : ¬ (k : Int) < (n : Int) := by omega
      have hkn' : k = n := by omega
      have HT' : Hid (HuntTo U d.H g (h.go g.R n) w wr) := hkn' ▸ hT
      clear hT hkn'
      go_wp2_with fail
      go_end0
      exact ⟨rfl, HT'.out⟩
end Go.Proofs.YtflenkppcclclaaGreatDoor

namespace Go.Proofs.YtflenkppcclclaaGreatDoor
open Go.RowKit

/-! A new hunt. -/
def hcells (v : Value) (seed fuel : Int) : Array Value := #[v, .int .i64 fuel, .int .u64 seed, .int .i64 0, .int .i64 0, .int .i64 0, .int .i64 0, .slice none 0 0, .slice none 0 0, .slice none 0 0, .bool false, .bool false, .bool false, .bool false, .bool false, .bool false, .bool false, .bool false, .bool false, .bool false, .bool false, .bool false, .bool false, .bool false, .bool false, .bool false, .bool false, .bool false, .bool false, .bool false, .bool false, .bool false, .bool false, .bool false, .bool false, .bool false, .bool false, .bool false, .bool false, .bool false]
theorem allocH (w : World) : (Instr.alloc 95 true (.tuple #[])).run Tryz.prog w = .ok (.pointer (some ⟨w.heap.size, 0, none⟩)) (w.alloc (.cells (hcells (.slice none 0 0) 0 0) 95)) := by kernel_rfl
theorem buildH (b L cap : Nat) (seed fuel : Int) (w : World) : (Instr.build 95 #[(0, .slice (some ⟨b, 0, none⟩) L cap), (2, .int .u64 seed), (1, .int .i64 fuel)]).run Tryz.prog w = .ok (.agg (hcells (.slice (some ⟨b, 0, none⟩) L cap) seed fuel)) w := by kernel_rfl
theorem buildP (b L cap : Nat) (seed fuel : Int) (w : World) : (Instr.build 98 #[(0, .agg (hcells (.slice (some ⟨b, 0, none⟩) L cap) seed fuel))]).run Tryz.prog w = .ok (.agg (hcells (.slice (some ⟨b, 0, none⟩) L cap) seed fuel)) w := by kernel_rfl
theorem infoH (v : Value) (seed fuel : Int) : (Tryz.prog.info? 95).map (·.size) = some (hcells v seed fuel).size := by kernel_rfl
section
variable {P : Program} {w : World} {ops : Array Oper} {rest : List Oper} {o : Oper} {a : Act} {Q : Exit → Act → World → Prop}
theorem wpList_build3 (hgd : o.guard = none) (t : TypeId) (i j k : Nat) (x y z : Operand) (ho : o.op = .build t #[(i, x), (j, y), (k, z)]) (u v s : Value) (hx : a.eval x = u) (hy : a.eval y = v) (hz : a.eval z = s) (cs : Array Value) (hrun : ∀ w, (Instr.build t #[(i, u), (j, v), (k, s)]).run P w = .ok (.agg cs) w)
    (h : wpList P ops Q rest (a.put o.dst (.agg cs)) w) : wpList P ops Q (o :: rest) a w := by
  refine wpList_plain hgd fun K hK => ?_
  unfold Oper.wp execOp
  simp only [ho, List.map_toArray, List.map_cons, List.map_nil, hx, hy, hz, hrun, Sem.run_bind, Sem.run_pure, Result.andThen_ok]
  exact hK _ _ h
end
theorem hcells_one (v : Value) (hv : v.oneCell' = true) (seed fuel : Int) : ∀ u ∈ (hcells v seed fuel).toList, u.oneCell' = true := by
  intro u hu
  simp only [hcells, List.mem_cons, List.not_mem_nil, or_false] at hu
  rcases hu with rfl | hu
  · exact hv
  · rcases hu with rfl | rfl | rfl | rfl | rfl | rfl | rfl | rfl | rfl | hu <;> first | rfl | (repeat' (rcases hu with rfl | hu)) <;> first | rfl | (subst hu; rfl)
theorem storeH (w : World) (B : Nat) (v v' : Value) (hv : v'.oneCell' = true) (seed fuel : Int) (e : w.heap[B]? = some (.cells (hcells v 0 0) 95 (0, 0))) : ∃ W1, Sem.run Tryz.prog (storeCells ⟨B, 0, none⟩ (hcells v' seed fuel).toList) w = .ok () W1 ∧ W1.heap[B]? = some (.cells (hcells v' seed fuel) 95 (0, 0)) ∧ Below B w W1 ∧ W1.heap.size = w.heap.size ∧ ∀ k, k ≠ B → W1.heap[k]? = w.heap[k]? := by
  have hr := run_storeCells_at Tryz.prog B 0 95 (hcells v' seed fuel).toList 0 _ _ e (by simp [hcells]) (hcells_one v' hv seed fuel)
  have e3 : ((hcells v 0 0).toList.take (0 + 0) ++ (hcells v' seed fuel).toList ++ (hcells v 0 0).toList.drop (0 + 0 + (hcells v' seed fuel).toList.length)).toArray = hcells v' seed fuel := by simp [hcells]
  rw [e3] at hr
  exact ⟨_, hr, setRow_heap _ _ _ _ _ _ e, ⟨rfl, rfl, rfl, by simp, fun k hk => setRow_other _ _ _ _ (by omega)⟩, by simp, fun k hk => setRow_other _ _ _ _ hk⟩
set_option maxHeartbeats 1000000 in
set_option maxRecDepth 100000 in
theorem hNew_any (w : World) (cb co L cap : Nat) (c : Nat → Int) (C : Laid w cb co L cap c) (hL : L ≤ 80) (seed fuel : Int) :
    Calls Tryz.prog 47 #[.slice (some ⟨cb, co, none⟩) L cap, .int .u64 seed, .int .i64 fuel] w fun e w' => (∃ b' cap', e = .returned (.agg (hcells (.slice (some ⟨b', 0, none⟩) L cap') seed fuel)) ∧ w.heap.size ≤ b' ∧ Laid w' b' 0 L cap' c) ∧ Below w.heap.size w w' := by
  have B0 : Below w.heap.size w (w.alloc (.cells (hcells (.slice none 0 0) 0 0) 95)) := (Below.refl _ _).alloc (Nat.le_refl _) _
  have hz0 : (w.alloc (.cells (hcells (.slice none 0 0) 0 0) 95)).heap.size = w.heap.size + 1 := by simp
  have C0 := C.below B0
  have H1 : Hid (Calls Tryz.prog 94 #[.slice (some ⟨cb, co, none⟩) L cap] (w.alloc (.cells (hcells (.slice none 0 0) 0 0) 95)) fun e w' => ∃ v', e = .returned v' ∧ w'.ownsRow (w.alloc (.cells (hcells (.slice none 0 0) 0 0) 95)).heap.size 5 1 v' L (((List.range L).map c).map (Value.int .u8)) ∧ v' ≠ .slice none 0 0 ∧ Below (w.alloc (.cells (hcells (.slice none 0 0) 0 0) 95)).heap.size (w.alloc (.cells (hcells (.slice none 0 0) 0 0) 95)) w') :=
    Tryz.bytes_Clone_at ⟨cb, co, none⟩ L cap ((List.range L).map c) _ (by simp) (by omega) (fun i hi => by
      rw [Addr.add_lit]
      have := C0.cell i hi
      rw [this]
      simp [List.getD, hi])
  go_enter Tryz.func47, Tryz.ntmps47
  go_wp2_with (first | refine wpList_alloc_c rfl 95 rfl (hcells (.slice none 0 0) 0 0) allocH ?_)
  refine H1.out.mono ?_
  rintro e w1 ⟨v1, rfl, hr1, hne, B1⟩
  rw [hz0] at hr1 B1
  rcases own_form0 hr1 with ⟨rfl, _⟩ | ⟨b', cap', rfl, hb1, hcap, hnc, hc1⟩
  · exact absurd rfl hne
  obtain ⟨W1, hst, hbk, BW, hsW, hoth⟩ := storeH w1 w.heap.size (.slice none 0 0) (.slice (some ⟨b', 0, none⟩) L cap') rfl seed fuel ((B1.block _ (by omega)).trans (heap_alloc_new w _))
  have HLD : Hid (Laid w1 b' 0 L cap' c) := ⟨fun i hi => by rw [Nat.zero_add]; exact hc1 i _ (by simp [hi]), hnc, by unfold maxLen at hcap; omega, C.some'⟩
  have HB1 : Hid (Below w.heap.size w w1) := B0.trans (B1.mono (by omega))
  have hb' : w.heap.size < b' := by
    rcases hr1.2 with ⟨h0, _⟩ | ⟨g0, _, _, h0, hg0, _⟩
    · cases h0
    · injection h0 with h0; injection h0 with h0; injection h0 with h0; omega
  clear hr1 hne hc1 B1 H1 C C0 B0
  go_wp2_with (first | refine wpList_build3 rfl 95 0 2 1 _ _ _ rfl (.slice (some ⟨b', 0, none⟩) L cap') (.int .u64 seed) (.int .i64 fuel) rfl rfl rfl (hcells (.slice (some ⟨b', 0, none⟩) L cap') seed fuel) (buildH b' L cap' seed fuel) ?_)
  refine bodyPost_ret (results_cell_row (P := Tryz.prog) rfl _ W1 w.heap.size 95 (hcells (.slice (some ⟨b', 0, none⟩) L cap') seed fuel) (0, 0) _ rfl hbk Tryz.underlying95 rfl (infoH _ _ _)) rfl ⟨⟨b', cap', rfl, by omega, HLD.out.of_block (hoth b' (by omega))⟩, HB1.out.trans BW⟩
end Go.Proofs.YtflenkppcclclaaGreatDoor

