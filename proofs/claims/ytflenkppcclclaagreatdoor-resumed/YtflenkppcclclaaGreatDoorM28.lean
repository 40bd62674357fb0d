import Derived.Test.YtflenkppcclclaaGreatDoorM27
import Derived.Deep.RegionHeld3
import Derived.Deep.DeepFit
namespace Go.Proofs.YtflenkppcclclaaGreatDoor
open Go.RowKit

structure PGok (g : PG) : Prop where
  vp : VP g.c g.L g.N
  fuel0 : 1 ≤ g.fuel
  fuel1 : g.fuel ≤ 500
noncomputable def PG.R (g : PG) : ByteArray → Sh := shows g.c (entAt (bgn g.c g.N) g.L) g.fuel
theorem PG.rok (g : PG) : ROk g.R := shows_ok _ _ _
theorem try_is (R : ByteArray → Sh) (h : HS) (s : ByteArray) : tryS R h s = if (R s).kind = 1 then findS { h with tries := h.tries + 1 } s (R s).fault (R s).place else if (R s).kind = 2 then ({ h with tries := h.tries + 1, hangs := h.hangs + 1 }, 0) else keepS { h with tries := h.tries + 1 } s (R s).cov := by
  unfold tryS findS keepS
  dsimp only
/-- What a run of the prowl's program answers. -/
structure RPost (g : PG) (s : ByteArray) (w : World) (e : Ending) (w' : World) : Prop where
  bel : Below w.heap.size w w'
  ans : ∃ (so : ByteArray) (st : Int) (gc : Nat), w.heap.size ≤ gc ∧ gc < w'.heap.size ∧ (∀ p, p < 64 → w'.cell? ⟨gc, p, none⟩ = some (.int .u8 ((g.R s).cov p))) ∧ e = .returned (.tuple #[.agg #[.int .i64 (g.R s).kind, .int .i64 (g.R s).fault, .int .i64 (g.R s).place, .string so, .int .i64 st], .slice (some ⟨gc, 0, none⟩) 64 64])
theorem covL_at (cnt : Nat → Int) (p : Nat) (hp : p < 64) : (covL cnt 64).toArray[p]? = some (.int .u8 (classS (cnt p))) := by
  rw [List.getElem?_toArray]
  unfold covL
  rw [List.getElem?_map, List.getElem?_range hp]
  simp [hp]
theorem run_pg (w : World) (cb L cap eb : Nat) (g : PG) (hg : PGok g) (hL : g.L = L) (s : ByteArray) (hs : s.size ≤ 24) (hT : Tab w) (C : Laid w cb 0 L cap g.c) (he : w.heap[eb]? = some (.cells (il L (entAt (bgn g.c g.N) g.L)).toArray 3 (0, 0))) :
    Calls Tryz.prog 36 #[.slice (some ⟨cb, 0, none⟩) L cap, .slice (some ⟨eb, 0, none⟩) L L, .string s, .int .i64 g.fuel] w (RPost g s w) := by
  subst hL
  have V := hg.vp
  refine (run_any w cb 0 g.L cap eb 0 g.L g.c (entAt (bgn g.c g.N) g.L) _ s g.fuel hg.vp.good (fun p hp => ent_bounds _ g.L p hp hg.vp.most) hs (by have := hg.fuel0; omega) hg.fuel1 hT C.cell (fun i hi => ?_) C.room).mono ?_
  · rw [Nat.zero_add, cell_of_row w eb _ _ _ _ he, List.getElem?_toArray]; exact il_get g.L _ _ hi
  rintro e w3 ⟨n, τ, h1, h2, h3, B3, gg, hgg, hcov, rfl⟩
  subst h1
  have hR : g.R s = shOf (after g.c (entAt (bgn g.c g.N) g.L) g.fuel (ρ0 s) n) := shows_at ⟨h2, h3⟩
  refine ⟨B3, _, _, gg, hgg, (Array.getElem?_eq_some_iff.1 hcov).1, fun p hp => ?_, by rw [hR]; rfl⟩
  rw [hR, cell_of_row w3 gg _ _ _ _ hcov]
  exact covL_at _ p hp
/-- The outcome's block, as it is laid. -/
abbrev oobj : Obj := .cells #[.int .i64 0, .int .i64 0, .int .i64 0, .string ⟨#[]⟩, .int .i64 0] 35
theorem oobj_at (w2 w3 : World) (B3 : Below (w2.alloc oobj).heap.size (w2.alloc oobj) w3) : w2.heap.size < w3.heap.size ∧ w3.cell? ⟨w2.heap.size, 0, none⟩ = some (.int .i64 0) ∧ w3.cell? ⟨w2.heap.size, 1, none⟩ = some (.int .i64 0) ∧ w3.cell? ⟨w2.heap.size, 2, none⟩ = some (.int .i64 0) ∧ w3.cell? ⟨w2.heap.size, 3, none⟩ = some (.string ⟨#[]⟩) ∧ w3.cell? ⟨w2.heap.size, 4, none⟩ = some (.int .i64 0) ∧
    w3.frozen? ⟨w2.heap.size, 0, none⟩ = false ∧ w3.frozen? ⟨w2.heap.size, 1, none⟩ = false ∧ w3.frozen? ⟨w2.heap.size, 2, none⟩ = false ∧ w3.frozen? ⟨w2.heap.size, 3, none⟩ = false ∧ w3.frozen? ⟨w2.heap.size, 4, none⟩ = false := by
  have hH : w3.heap[w2.heap.size]? = some (.cells #[.int .i64 0, .int .i64 0, .int .i64 0, .string ⟨#[]⟩, .int .i64 0] 35 (0, 0)) := (B3.block _ (by simp)).trans (heap_alloc_new w2 _)
  have hs := B3.size
  refine ⟨by simp at hs; omega, cell_of_row _ _ _ _ _ _ hH, cell_of_row _ _ _ _ _ _ hH, cell_of_row _ _ _ _ _ _ hH, cell_of_row _ _ _ _ _ _ hH, cell_of_row _ _ _ _ _ _ hH, frozen_of_row w3 _ 0 _ _ hH, frozen_of_row w3 _ 1 _ _ hH, frozen_of_row w3 _ 2 _ _ hH, frozen_of_row w3 _ 3 _ _ hH, frozen_of_row w3 _ 4 _ _ hH⟩
def RunsAt (w : World) (cb cc L : Nat) (E : Array Value) (s : ByteArray) (fu : Int) (g : PG) : Prop := ∀ W g2, Below w.heap.size w W → W.heap[g2]? = some (.cells E 3 (0, 0)) → Calls Tryz.prog 36 #[.slice (some ⟨cb, 0, none⟩) L cc, .slice (some ⟨g2, 0, none⟩) L L, .string s, .int .i64 fu] W (RPost g s W)
theorem try_a (w w2 : World) (H cb cc g2 L : Nat) (E : Array Value) (s : ByteArray) (fu : Int) (g : PG) (hH : H < w.heap.size) (c0 : w.cell? ⟨H, 0, none⟩ = some (.slice (some ⟨cb, 0, none⟩) L cc)) (c1 : w.cell? ⟨H, 1, none⟩ = some (.int .i64 fu)) (hge : w2.heap[g2]? = some (.cells E 3 (0, 0))) (B2 : Below w.heap.size w w2) (HR : Hid (RunsAt w cb cc L E s fu g)) :
    w2.cell? ⟨H, 0, none⟩ = some (.slice (some ⟨cb, 0, none⟩) L cc) ∧ w2.cell? ⟨H, 1, none⟩ = some (.int .i64 fu) ∧ Hid (Below w.heap.size w w2) ∧ Hid (Calls Tryz.prog 36 #[.slice (some ⟨cb, 0, none⟩) L cc, .slice (some ⟨g2, 0, none⟩) L L, .string s, .int .i64 fu] (w2.alloc oobj) (RPost g s (w2.alloc oobj))) ∧ Hid (Calls Tryz.prog 36 #[.slice (some ⟨cb, 0, none⟩) L cc, .slice (some ⟨g2, 0, none⟩) L L, .string s, .int .i64 fu] w2 (RPost g s w2)) ∧ H < w2.heap.size :=
  ⟨(B2.cell (p := ⟨H, 0, none⟩) hH).trans c0, (B2.cell (p := ⟨H, 1, none⟩) hH).trans c1, B2, HR.out (w2.alloc oobj) g2 (B2.alloc B2.size _) ((Below.heap_alloc w2 oobj g2 (Array.getElem?_eq_some_iff.1 hge).1).trans hge), HR.out w2 g2 B2 hge, Nat.lt_of_lt_of_le hH B2.size⟩
theorem try_b (w w2 : World) (H cb cc g2 L : Nat) (E : Array Value) (s : ByteArray) (fu : Int) (g : PG) (hH : H < w.heap.size) (c0 : w.cell? ⟨H, 0, none⟩ = some (.slice (some ⟨cb, 0, none⟩) L cc)) (c1 : w.cell? ⟨H, 1, none⟩ = some (.int .i64 fu)) (hge : w2.heap[g2]? = some (.cells E 3 (0, 0))) (B2 : Below (w.alloc oobj).heap.size (w.alloc oobj) w2) (HR : Hid (RunsAt w cb cc L E s fu g)) :
    w2.cell? ⟨H, 0, none⟩ = some (.slice (some ⟨cb, 0, none⟩) L cc) ∧ w2.cell? ⟨H, 1, none⟩ = some (.int .i64 fu) ∧ Hid (Below (w.alloc oobj).heap.size (w.alloc oobj) w2) ∧ Hid (Calls Tryz.prog 36 #[.slice (some ⟨cb, 0, none⟩) L cc, .slice (some ⟨g2, 0, none⟩) L L, .string s, .int .i64 fu] w2 (RPost g s w2)) ∧ H < w2.heap.size := by
  have B : Below w.heap.size w w2 := ((Below.refl _ _).alloc (Nat.le_refl _) _).trans (B2.mono (by simp))
  exact ⟨(B.cell (p := ⟨H, 0, none⟩) hH).trans c0, (B.cell (p := ⟨H, 1, none⟩) hH).trans c1, B2, HR.out w2 g2 B hge, Nat.lt_of_lt_of_le hH B.size⟩
theorem try_c (w w2 w3 : World) (B2 : Below (w.alloc oobj).heap.size (w.alloc oobj) w2) (B3 : Below w2.heap.size w2 w3) : Below w.heap.size w w3 :=
  (((Below.refl _ _).alloc (Nat.le_refl _) _).trans (B2.mono (by simp))).trans (B3.mono (by have := B2.size; simp at this; omega))
theorem try_d {w2 w3 : World} {H : Nat} {u v : Value} (B3 : Below w2.heap.size w2 w3) (hH2 : H < w2.heap.size) (h0 : w2.cell? ⟨H, 0, none⟩ = some u) (h1 : w2.cell? ⟨H, 1, none⟩ = some v) : w3.cell? ⟨H, 0, none⟩ = some u ∧ w3.cell? ⟨H, 1, none⟩ = some v ∧ H < w3.heap.size :=
  ⟨(B3.cell (p := ⟨H, 0, none⟩) hH2).trans h0, (B3.cell (p := ⟨H, 1, none⟩) hH2).trans h1, Nat.lt_of_lt_of_le hH2 B3.size⟩
theorem try_e {w2 w3 : World} (B3 : Below (w2.alloc oobj).heap.size (w2.alloc oobj) w3) : Below w2.heap.size w2 w3 := ((Below.refl _ _).alloc (Nat.le_refl _) _).trans (B3.mono (by simp))
theorem try_k {w3 : World} {H b : Nat} (hne : H ≠ b) {u v : Value} (h0 : w3.cell? ⟨H, 0, none⟩ = some u) (h1 : w3.cell? ⟨H, 1, none⟩ = some v) (x0 x1 x2 x3 x4 : Value) :
    (((((w3.setCell ⟨b, 0, none⟩ x0).setCell ⟨b, 1, none⟩ x1).setCell ⟨b, 2, none⟩ x2).setCell ⟨b, 3, none⟩ x3).setCell ⟨b, 4, none⟩ x4).cell? ⟨H, 0, none⟩ = some u ∧ (((((w3.setCell ⟨b, 0, none⟩ x0).setCell ⟨b, 1, none⟩ x1).setCell ⟨b, 2, none⟩ x2).setCell ⟨b, 3, none⟩ x3).setCell ⟨b, 4, none⟩ x4).cell? ⟨H, 1, none⟩ = some v := by
  have hk : ∀ (W : World) (i j : Nat) (x : Value), (W.setCell ⟨b, i, none⟩ x).cell? ⟨H, j, none⟩ = W.cell? ⟨H, j, none⟩ := fun W i j x => World.cell?_setCell_other _ _ _ _ (fun c => hne (by injection c with c1 _ _; exact c1.symm))
  rw [hk, hk, hk, hk, hk, hk, hk, hk, hk, hk]
  exact ⟨h0, h1⟩
/-- The world behind the run: the outcome lies in block ob, the cover in block gc. -/
structure FX (w W : World) (ob gc : Nat) (g : PG) (s : ByteArray) : Prop where
  bel : Below w.heap.size w W
  lt : ob < W.heap.size
  ge : w.heap.size ≤ ob
  o0 : W.cell? ⟨ob, 0, none⟩ = some (.int .i64 (g.R s).kind)
  o1 : W.cell? ⟨ob, 1, none⟩ = some (.int .i64 (g.R s).fault)
  o2 : W.cell? ⟨ob, 2, none⟩ = some (.int .i64 (g.R s).place)
  gc1 : w.heap.size ≤ gc
  gc2 : gc < W.heap.size
  cov : ∀ p, p < 64 → W.cell? ⟨gc, p, none⟩ = some (.int .u8 ((g.R s).cov p))
theorem fx_new {w w3 : World} {gc : Nat} {g : PG} {s so : ByteArray} {st : Int} (h : Below w.heap.size w w3 ∧ gc < w3.heap.size ∧ w.heap.size ≤ gc ∧ ∀ p, p < 64 → w3.cell? ⟨gc, p, none⟩ = some (.int .u8 ((g.R s).cov p))) :
    FX w (w3.alloc (.cells #[.int .i64 (g.R s).kind, .int .i64 (g.R s).fault, .int .i64 (g.R s).place, .string so, .int .i64 st] 35)) w3.heap.size gc g s := by
  obtain ⟨B, h1, h2, h3⟩ := h
  refine ⟨B.alloc B.size _, by simp, B.size, by rw [World.cell?_alloc_new]; rfl, by rw [World.cell?_alloc_new]; rfl, by rw [World.cell?_alloc_new]; rfl, h2, by simp; omega, fun p hp => ?_⟩
  rw [World.cell?_alloc_past _ _ _ h1]
  exact h3 p hp
theorem fx_old {w w3 : World} {ob gc : Nat} {g : PG} {s so : ByteArray} {st : Int} (B : Below w.heap.size w w3) (h1 : ob < gc) (h2 : gc < w3.heap.size) (h3 : w.heap.size ≤ ob) (hc : ∀ p, p < 64 → w3.cell? ⟨gc, p, none⟩ = some (.int .u8 ((g.R s).cov p))) {x0 x1 x2 : Value}
    (i0 : w3.cell? ⟨ob, 0, none⟩ = some x0) (i1 : w3.cell? ⟨ob, 1, none⟩ = some x1) (i2 : w3.cell? ⟨ob, 2, none⟩ = some x2) :
    FX w (((((w3.setCell ⟨ob, 0, none⟩ (.int .i64 (g.R s).kind)).setCell ⟨ob, 1, none⟩ (.int .i64 (g.R s).fault)).setCell ⟨ob, 2, none⟩ (.int .i64 (g.R s).place)).setCell ⟨ob, 3, none⟩ (.string so)).setCell ⟨ob, 4, none⟩ (.int .i64 st)) ob gc g s := by
  have hk : ∀ (W : World) (i b j : Nat) (x : Value), b ≠ ob ∨ j ≠ i → (W.setCell ⟨ob, i, none⟩ x).cell? ⟨b, j, none⟩ = W.cell? ⟨b, j, none⟩ := fun W i b j x hne => World.cell?_setCell_other _ _ _ _ (fun c => by injection c with c1 c2 _; rcases hne with e | e; (exact e c1.symm); (exact e c2.symm))
  have hset : ∀ (W : World) (j : Nat) (x : Value), Below w.heap.size w W → Below w.heap.size w (W.setCell ⟨ob, j, none⟩ x) := fun W j x b => b.setCell (p := ⟨ob, j, none⟩) h3 x
  refine ⟨hset _ _ _ (hset _ _ _ (hset _ _ _ (hset _ _ _ (hset _ _ _ B)))), by simp; omega, h3, ?_, ?_, ?_, by omega, by simp; omega, fun p hp => ?_⟩
  · rw [hk _ _ _ _ _ (by omega), hk _ _ _ _ _ (by omega), hk _ _ _ _ _ (by omega), hk _ _ _ _ _ (by omega)]
    exact World.cell?_setCell_same _ _ _ i0
  · rw [hk _ _ _ _ _ (by omega), hk _ _ _ _ _ (by omega), hk _ _ _ _ _ (by omega)]
    exact World.cell?_setCell_same _ _ _ (show (w3.setCell ⟨ob, 0, none⟩ _).cell? ⟨ob, 1, none⟩ = some x1 by rw [hk _ _ _ _ _ (by omega)]; exact i1)
  · rw [hk _ _ _ _ _ (by omega), hk _ _ _ _ _ (by omega)]
    exact World.cell?_setCell_same _ _ _ (show ((w3.setCell ⟨ob, 0, none⟩ _).setCell ⟨ob, 1, none⟩ _).cell? ⟨ob, 2, none⟩ = some x2 by rw [hk _ _ _ _ _ (by omega), hk _ _ _ _ _ (by omega)]; exact i2)
  · rw [hk _ _ _ _ _ (by omega), hk _ _ _ _ _ (by omega), hk _ _ _ _ _ (by omega), hk _ _ _ _ _ (by omega), hk _ _ _ _ _ (by omega)]
    exact hc p hp
/-- Numbers that do not run over. -/
structure Hsz (h : HS) : Prop where
  tries : h.tries ≤ 4611686018427387904
  hangs : h.hangs ≤ 4611686018427387904
  kept : h.kept.length ≤ 1000000
  found : h.found.length ≤ 1000000
  hist : h.hist.length ≤ 1000000
/-- The try is counted. -/
structure TF (w W W5 : World) (U : Nat → Prop) (d : HD) (g : PG) (h : HS) (s : ByteArray) (ob gc : Nat) : Prop where
  hu : HU W5 (Gr U w W5) d g { h with tries := h.tries + 1 }
  to : HuntTo U d.H g { h with tries := h.tries + 1 } w W5
  o0 : W5.cell? ⟨ob, 0, none⟩ = some (.int .i64 (g.R s).kind)
  o1 : W5.cell? ⟨ob, 1, none⟩ = some (.int .i64 (g.R s).fault)
  o2 : W5.cell? ⟨ob, 2, none⟩ = some (.int .i64 (g.R s).place)
  cov : ∀ p, p < 64 → W5.cell? ⟨gc, p, none⟩ = some (.int .u8 ((g.R s).cov p))
  gcu : Gr U w W5 gc
  gcw : ¬ d.Wr gc
  c3 : W.cell? ⟨d.H, 3, none⟩ = some (.int .i64 h.tries)
  f3 : W.frozen? ⟨d.H, 3, none⟩ = false
  lt : d.H < W.heap.size
  ne : d.H ≠ ob
theorem try_f {w W : World} {U : Nat → Prop} {d : HD} {g : PG} {h : HS} {s : ByteArray} {ob gc : Nat} (p : HU w U d g h) (fx : FX w W ob gc g s) : TF w W (W.setCell ⟨d.H, 3, none⟩ (.int .i64 ((h.tries : Int) + 1))) U d g h s ob gc := by
  have p4 := p.gr fx.bel
  have hHl : d.H < w.heap.size := p.lt _ (p.inU _ (Or.inl rfl))
  have hne : d.H ≠ ob := by have := fx.ge; omega
  have hng : d.H ≠ gc := by have := fx.gc1; omega
  have p5 : HU (W.setCell ⟨d.H, 3, none⟩ (.int .i64 ((h.tries : Int) + 1))) (Gr U w W) d g { h with tries := h.tries + 1 } := p4.set 3 _ _ rfl rfl rfl (fun j hj => by
    by_cases e : j = 3
    · subst e; rw [if_pos rfl]; show Value.int .i64 ((h.tries + 1 : Nat) : Int) = _; rfl
    · rw [if_neg e]; unfold hval; simp only [if_neg e])
  have hk : ∀ (b j : Nat) (x : Value), b ≠ d.H → (W.setCell ⟨d.H, 3, none⟩ x).cell? ⟨b, j, none⟩ = W.cell? ⟨b, j, none⟩ := fun b j x hb => World.cell?_setCell_other _ _ _ _ (fun c => hb (by injection c with c1 _ _; exact c1.symm))
  have hsz : (W.setCell ⟨d.H, 3, none⟩ (.int .i64 ((h.tries : Int) + 1))).heap.size = W.heap.size := World.size_setCell _ _ _
  rw [gr_size (U := U) (w := w) hsz.symm] at p5
  exact {
    hu := p5
    to := ⟨(Fr.below fx.bel).same (Fr.set (p.inU _ (Or.inl rfl)) 3 _), d, rfl, p5⟩
    o0 := (hk _ _ _ hne.symm).trans fx.o0
    o1 := (hk _ _ _ hne.symm).trans fx.o1
    o2 := (hk _ _ _ hne.symm).trans fx.o2
    cov := fun q hq => (hk _ _ _ hng.symm).trans (fx.cov q hq)
    gcu := Or.inr ⟨fx.gc1, by rw [hsz]; exact fx.gc2⟩
    gcw := fun c => by have h1 := p.lt _ (p.inU _ c); have h2 := fx.gc1; omega
    c3 := p4.cell 3 (by omega)
    f3 := p4.thaw 3
    lt := p4.lt _ (p4.inU _ (Or.inl rfl))
    ne := hne }
theorem hang_f {W : World} {U : Nat → Prop} {d : HD} {g : PG} {h : HS} (p : HU W U d g h) : HuntTo U d.H g { h with hangs := h.hangs + 1 } W (W.setCell ⟨d.H, 4, none⟩ (.int .i64 ((h.hangs : Int) + 1))) := by
  refine ⟨Fr.set (p.inU _ (Or.inl rfl)) 4 _, d, rfl, ?_⟩
  rw [gr_self U W _ (World.size_setCell _ _ _)]
  exact p.set 4 _ _ rfl rfl rfl (fun j hj => by
    by_cases e : j = 4
    · subst e; rw [if_pos rfl]; show Value.int .i64 ((h.hangs + 1 : Nat) : Int) = _; rfl
    · rw [if_neg e]; unfold hval; simp only [if_neg e])
set_option maxHeartbeats 4000000 in
set_option maxRecDepth 100000 in
theorem try_any {w : World} {U : Nat → Prop} {d : HD} {g : PG} {h : HS} (p : HU w U d g h) (hg : PGok g) (hT : Tab w) (hl : ∀ k ∈ h.kept, ∀ q, Cls (k.cov q)) (hz : Hsz h) (s : ByteArray) (hs : s.size ≤ 24) :
    Calls Tryz.prog 66 #[.pointer (some ⟨d.H, 0, none⟩), .string s] w fun e w' => e = .returned (.int .u8 (tryS g.R h s).2) ∧ HuntTo U d.H g (tryS g.R h s).1 w w' := by
  have htr := hz.tries
  have hha := hz.hangs
  have HZ : Hid (Hsz h ∧ ∀ k ∈ h.kept, ∀ q, Cls (k.cov q)) := ⟨hz, hl⟩
  obtain ⟨hx, hhx⟩ : ∃ hx, (tryS g.R h s).1 = hx := ⟨_, rfl⟩
  obtain ⟨lx, hlx⟩ : ∃ lx, (tryS g.R h s).2 = lx := ⟨_, rfl⟩
  rw [hhx, hlx]
  have HTRY : Hid ((tryS g.R h s).1 = hx ∧ (tryS g.R h s).2 = lx) := ⟨hhx, hlx⟩
  clear hz hl hhx hlx
  have c0 : w.cell? ⟨d.H, 0, none⟩ = some (.slice (some ⟨d.cb, 0, none⟩) g.L d.cc) := p.cell 0 (by omega)
  have c1 : w.cell? ⟨d.H, 1, none⟩ = some (.int .i64 g.fuel) := p.cell 1 (by omega)
  have hH : d.H < w.heap.size := p.lt _ (p.inU _ (Or.inl rfl))
  have HE : Hid (∀ W, Below w.heap.size w W → Calls Tryz.prog 37 #[.slice (some ⟨d.cb, 0, none⟩) g.L d.cc] W fun e w' => (∃ g2, e = .returned (.slice (some ⟨g2, 0, none⟩) g.L g.L) ∧ w'.heap[g2]? = some (.cells (il g.L (entAt (bgn g.c g.N) g.L)).toArray 3 (0, 0))) ∧ Below W.heap.size W w') := fun W B =>
    (entries_any W d.cb 0 g.L d.cc g.N g.c hg.vp (p.code.below B) (hT.below B)).mono fun e w' ⟨g2, _, h2, h3, B2⟩ => ⟨⟨g2, h2, h3⟩, B2⟩
  have HR : Hid (RunsAt w d.cb d.cc g.L (il g.L (entAt (bgn g.c g.N) g.L)).toArray s g.fuel g) := fun W g2 B h2 =>
    run_pg W d.cb g.L d.cc g2 g hg rfl s hs (hT.below B) (p.code.below B) h2
  have HP : Hid (HU w U d g h) := p
  have hneW : d.H ≠ w.heap.size := by omega
  generalize hfu : g.fuel = fu at *
  generalize hLL : g.L = L at *
  have HQ : Hid (g.fuel = fu ∧ g.L = L) := ⟨hfu, hLL⟩
  clear p hfu hLL
  go_enter Tryz.func66, Tryz.ntmps66
  go_wp2_with fail
  go_region_held3 (fun W => W.cell? ⟨d.H, 0, none⟩ = some (.slice (some ⟨d.cb, 0, none⟩) L d.cc) ∧ W.cell? ⟨d.H, 1, none⟩ = some (.int .i64 fu)) (first | go_keep | exact try_k hne2 hd0 hd1 _ _ _ _ _ | exact try_k hneW hd0 hd1 _ _ _ _ _) (first
    | (go_at_call 37; go_fit (HE.out w.drew (Below.refl _ _).drew); rintro e w2 ⟨⟨g2, rfl, hge⟩, B2⟩; obtain ⟨hc0, hc1, HB2, HR1, HR2, hH2⟩ := try_a w w2 d.H d.cb d.cc g2 L _ s fu g hH c0 c1 hge ⟨B2.os, B2.tape, B2.output, B2.size, B2.block⟩ HR; have hne2 : d.H ≠ w2.heap.size := Nat.ne_of_lt hH2; clear hge B2)
    | (go_at_call 37; go_fit (HE.out (w.alloc oobj).drew ((Below.refl _ _).alloc (Nat.le_refl _) _).drew); rintro e w2 ⟨⟨g2, rfl, hge⟩, B2⟩; obtain ⟨hc0, hc1, HBB, HR3, hH2⟩ := try_b w w2 d.H d.cb d.cc g2 L _ s fu g hH c0 c1 hge ⟨B2.os, B2.tape, B2.output, B2.size, B2.block⟩ HR; clear hge B2)
    | (go_at_call 36; go_fit HR1.out; rintro e w3 ⟨B3, so, st, gc, hgc, hgc2, hcov, rfl⟩; obtain ⟨hd0, hd1, hH3⟩ := try_d (try_e B3) hH2 hc0 hc1; obtain ⟨hlt3, i0, i1, i2, i3, i4, j0, j1, j2, j3, j4⟩ := oobj_at w2 w3 B3; have HF : Hid (Below w.heap.size w w3 ∧ w2.heap.size < gc ∧ gc < w3.heap.size ∧ w.heap.size ≤ w2.heap.size ∧ ∀ p, p < 64 → w3.cell? ⟨gc, p, none⟩ = some (.int .u8 ((g.R s).cov p))) := ⟨(HB2.out.alloc HB2.out.size _).trans (B3.mono (by have := HB2.out.size; simp; omega)), by simp at hgc; omega, hgc2, HB2.out.size, hcov⟩; clear hcov B3)
    | (go_at_call 36; go_fit HR2.out; rintro e w3 ⟨B3, so, st, gc, hgc, hgc2, hcov, rfl⟩; obtain ⟨hd0, hd1, hH3⟩ := try_d B3 hH2 hc0 hc1; have HF : Hid (Below w.heap.size w w3 ∧ gc < w3.heap.size ∧ w.heap.size ≤ gc ∧ ∀ p, p < 64 → w3.cell? ⟨gc, p, none⟩ = some (.int .u8 ((g.R s).cov p))) := ⟨HB2.out.trans (B3.mono HB2.out.size), hgc2, by have := HB2.out.size; omega, hcov⟩; clear hcov B3)
    | (go_at_call 36; go_fit HR3.out; rintro e w3 ⟨B3, so, st, gc, hgc, hgc2, hcov, rfl⟩; obtain ⟨hd0, hd1, hH3⟩ := try_d B3 hH2 hc0 hc1; obtain ⟨hlt3, i0, i1, i2, i3, i4, j0, j1, j2, j3, j4⟩ := oobj_at w w3 (HBB.out.trans (B3.mono HBB.out.size)); have HF : Hid (Below w.heap.size w w3 ∧ w.heap.size < gc ∧ gc < w3.heap.size ∧ ∀ p, p < 64 → w3.cell? ⟨gc, p, none⟩ = some (.int .u8 ((g.R s).cov p))) := ⟨try_c w w2 w3 HBB.out B3, by have := HBB.out.size; simp at this; omega, hgc2, hcov⟩; clear hcov B3))
  all_goals first
    | (have HFX : Hid (FX w (w3.alloc (.cells #[.int .i64 (g.R s).kind, .int .i64 (g.R s).fault, .int .i64 (g.R s).place, .string so, .int .i64 st] 35)) w3.heap.size gc g s) := fx_new HF.out
       generalize w3.alloc (.cells #[.int .i64 (g.R s).kind, .int .i64 (g.R s).fault, .int .i64 (g.R s).place, .string so, .int .i64 st] 35) = W4 at HFX ⊢
       generalize w3.heap.size = ob at HFX ⊢)
    | (have HFX : Hid (FX w (((((w3.setCell ⟨w2.heap.size, 0, none⟩ (.int .i64 (g.R s).kind)).setCell ⟨w2.heap.size, 1, none⟩ (.int .i64 (g.R s).fault)).setCell ⟨w2.heap.size, 2, none⟩ (.int .i64 (g.R s).place)).setCell ⟨w2.heap.size, 3, none⟩ (.string so)).setCell ⟨w2.heap.size, 4, none⟩ (.int .i64 st)) w2.heap.size gc g s) := fx_old HF.out.1 HF.out.2.1 HF.out.2.2.1 HF.out.2.2.2.1 HF.out.2.2.2.2 i0 i1 i2
       generalize ((((w3.setCell ⟨w2.heap.size, 0, none⟩ (.int .i64 (g.R s).kind)).setCell ⟨w2.heap.size, 1, none⟩ (.int .i64 (g.R s).fault)).setCell ⟨w2.heap.size, 2, none⟩ (.int .i64 (g.R s).place)).setCell ⟨w2.heap.size, 3, none⟩ (.string so)).setCell ⟨w2.heap.size, 4, none⟩ (.int .i64 st) = W4 at HFX ⊢
       generalize w2.heap.size = ob at HFX ⊢)
    | (have HFX : Hid (FX w (((((w3.setCell ⟨w.heap.size, 0, none⟩ (.int .i64 (g.R s).kind)).setCell ⟨w.heap.size, 1, none⟩ (.int .i64 (g.R s).fault)).setCell ⟨w.heap.size, 2, none⟩ (.int .i64 (g.R s).place)).setCell ⟨w.heap.size, 3, none⟩ (.string so)).setCell ⟨w.heap.size, 4, none⟩ (.int .i64 st)) w.heap.size gc g s) := fx_old HF.out.1 HF.out.2.1 HF.out.2.2.1 (Nat.le_refl _) HF.out.2.2.2 i0 i1 i2
       generalize ((((w3.setCell ⟨w.heap.size, 0, none⟩ (.int .i64 (g.R s).kind)).setCell ⟨w.heap.size, 1, none⟩ (.int .i64 (g.R s).fault)).setCell ⟨w.heap.size, 2, none⟩ (.int .i64 (g.R s).place)).setCell ⟨w.heap.size, 3, none⟩ (.string so)).setCell ⟨w.heap.size, 4, none⟩ (.int .i64 st) = W4 at HFX ⊢
       generalize hob : w.heap.size = ob at HFX ⊢)
  all_goals
    have tf := try_f HP.out HFX.out
    have HTF : Hid (TF w W4 (W4.setCell ⟨d.H, 3, none⟩ (.int .i64 ((h.tries : Int) + 1))) U d g h s ob gc) := tf
    have c3 := tf.c3
    have f3 := tf.f3
    have hne := tf.ne
    have hlt4 := tf.lt
    have hobl := HFX.out.lt
    have e0 := HFX.out.o0
    have e1 := HFX.out.o1
    have e2 := HFX.out.o2
    clear tf HF HE HR
    generalize hkk : (g.R s).kind = kk at e0 ⊢
    have HKK : Hid ((g.R s).kind = kk) := hkk
    clear hkk
    by_cases k1 : kk = 1
    · subst k1
      have HY : Hid ((findS { h with tries := h.tries + 1 } s (g.R s).fault (g.R s).place).1 = hx ∧ (findS { h with tries := h.tries + 1 } s (g.R s).fault (g.R s).place).2 = lx) := by
        have := HTRY.out
        rw [try_is, HKK.out, if_pos rfl] at this
        exact this
      have H1 : Hid (Calls Tryz.prog 123 #[.pointer (some ⟨d.H, 0, none⟩), .agg #[.string s, .int .i64 (g.R s).fault, .int .i64 (g.R s).place]] (W4.setCell ⟨d.H, 3, none⟩ (.int .i64 ((h.tries : Int) + 1))) fun e w' => e = .returned (.int .u8 (findS { h with tries := h.tries + 1 } s (g.R s).fault (g.R s).place).2) ∧ HuntTo (Gr U w (W4.setCell ⟨d.H, 3, none⟩ (.int .i64 ((h.tries : Int) + 1)))) d.H g (findS { h with tries := h.tries + 1 } s (g.R s).fault (g.R s).place).1 (W4.setCell ⟨d.H, 3, none⟩ (.int .i64 ((h.tries : Int) + 1))) w') :=
        find_any HTF.out.hu s _ _ HZ.out.1.found HZ.out.1.hist
      rw [HY.out.1, HY.out.2] at H1
      generalize (g.R s).fault = ff at e1 H1 ⊢
      generalize (g.R s).place = pp at e2 H1 ⊢
      go_wp2_with fail
      refine H1.out.mono ?_
      rintro e w5 ⟨rfl, hT5⟩
      have HT5 : Hid _ := HTF.out.to.then hT5
      clear hT5
      go_wp2_with fail
      go_ret
      exact ⟨rfl, HT5.out⟩
    · by_cases k2 : kk = 2
      · subst k2
        have HY : Hid (({ h with tries := h.tries + 1, hangs := h.hangs + 1 } : HS) = hx ∧ (0 : Int) = lx) := by
          have := HTRY.out
          rw [try_is, HKK.out, if_neg (by decide), if_pos rfl] at this
          exact this
        have hf := hang_f HTF.out.hu
        have HT5 : Hid _ := HTF.out.to.then hf
        have c4 : W4.cell? ⟨d.H, 4, none⟩ = some (.int .i64 h.hangs) := (HP.out.gr HFX.out.bel).cell 4 (by omega)
        have f4 := (HP.out.gr HFX.out.bel).thaw 4
        clear hf
        go_wp2
        go_ret
        exact ⟨by rw [← HY.out.2]; rfl, by rw [← HY.out.1]; exact HT5.out⟩
      · have HY : Hid ((keepS { h with tries := h.tries + 1 } s (g.R s).cov).1 = hx ∧ (keepS { h with tries := h.tries + 1 } s (g.R s).cov).2 = lx) := by
          have := HTRY.out
          rw [try_is, HKK.out, if_neg k1, if_neg k2] at this
          exact this
        have H1 : Hid (Calls Tryz.prog 124 #[.pointer (some ⟨d.H, 0, none⟩), .agg #[.string s, .slice (some ⟨gc, 0, none⟩) 64 64]] (W4.setCell ⟨d.H, 3, none⟩ (.int .i64 ((h.tries : Int) + 1))) fun e w' => e = .returned (.int .u8 (keepS { h with tries := h.tries + 1 } s (g.R s).cov).2) ∧ HuntTo (Gr U w (W4.setCell ⟨d.H, 3, none⟩ (.int .i64 ((h.tries : Int) + 1)))) d.H g (keepS { h with tries := h.tries + 1 } s (g.R s).cov).1 (W4.setCell ⟨d.H, 3, none⟩ (.int .i64 ((h.tries : Int) + 1))) w') :=
          keep_any HTF.out.hu HZ.out.2 s _ (g.rok.cov s hs) gc HTF.out.cov HTF.out.gcu HTF.out.gcw HZ.out.1.kept HZ.out.1.hist
        rw [HY.out.1, HY.out.2] at H1
        go_wp2_with fail
        refine H1.out.mono ?_
        rintro e w5 ⟨rfl, hT5⟩
        have HT5 : Hid _ := HTF.out.to.then hT5
        clear hT5
        go_wp2_with fail
        go_ret
        exact ⟨rfl, HT5.out⟩
end Go.Proofs.YtflenkppcclclaaGreatDoor

