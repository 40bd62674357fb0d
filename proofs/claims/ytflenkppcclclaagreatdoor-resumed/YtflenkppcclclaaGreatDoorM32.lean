import Derived.Test.YtflenkppcclclaaGreatDoorM28
import Derived.Test.YtflenkppcclclaaGreatDoorM31
import Derived.Sort.OwnSortedInts
namespace Go.Proofs.YtflenkppcclclaaGreatDoor
open Go.RowKit

/-! Which are favoured. -/
/-- The kept inputs of the hunt at H. -/
structure KH (w : World) (H : Nat) (v : Value) (G : Nat → Nat) (l : List Inp) : Prop where
  c7 : w.cell? ⟨H, 7, none⟩ = some v
  row : KRow w v G l
  cls : ∀ k ∈ l, ∀ q, Cls (k.cov q)
theorem KH.below {w w' : World} {H : Nat} {v : Value} {G : Nat → Nat} {l : List Inp} (h : KH w H v G l) (b : Below w.heap.size w w') : KH w' H v G l :=
  ⟨(b.cell (p := ⟨H, 7, none⟩) (World.block_lt_of_cell? w ⟨H, 7, none⟩ h.c7)).trans h.c7, h.row.below b, h.cls⟩
theorem KH.lt {w : World} {H : Nat} {v : Value} {G : Nat → Nat} {l : List Inp} (h : KH w H v G l) : H < w.heap.size := World.block_lt_of_cell? w ⟨H, 7, none⟩ h.c7
theorem KH.clsAt {w : World} {H : Nat} {v : Value} {G : Nat → Nat} {l : List Inp} (h : KH w H v G l) {n : Nat} (hn : n < l.length) (q : Nat) : Cls ((l.getD n in0).cov q) := by
  rw [List.getD_eq_getElem?_getD, List.getElem?_eq_getElem hn, Option.getD_some]
  exact h.cls _ (List.getElem_mem hn) q
theorem HU.kh {w : World} {U : Nat → Prop} {d : HD} {g : PG} {h : HS} (p : HU w U d g h) (hl : ∀ k ∈ h.kept, ∀ q, Cls (k.cov q)) : ∃ G, KH w d.H d.vk G h.kept := by
  obtain ⟨G, K⟩ := p.krow
  exact ⟨G, p.cell 7 (by omega), K, hl⟩
/-- The three boxes of the closure. -/
structure Bx (w : World) (B P Q H p : Nat) (b : Int) : Prop where
  h : w.cell? ⟨B, 0, none⟩ = some (.pointer (some ⟨H, 0, none⟩))
  p : w.cell? ⟨P, 0, none⟩ = some (.int .i64 (p : Nat))
  q : w.cell? ⟨Q, 0, none⟩ = some (.int .u8 b)
theorem Bx.below {w w' : World} {B P Q H p : Nat} {b : Int} (x : Bx w B P Q H p b) (hb : Below w.heap.size w w') : Bx w' B P Q H p b :=
  ⟨(hb.cell (p := ⟨B, 0, none⟩) (World.block_lt_of_cell? w ⟨B, 0, none⟩ x.h)).trans x.h, (hb.cell (p := ⟨P, 0, none⟩) (World.block_lt_of_cell? w ⟨P, 0, none⟩ x.p)).trans x.p, (hb.cell (p := ⟨Q, 0, none⟩) (World.block_lt_of_cell? w ⟨Q, 0, none⟩ x.q)).trans x.q⟩
def favLb (B P Q : Nat) : Array Value := #[.pointer (some ⟨B, 0, none⟩), .pointer (some ⟨P, 0, none⟩), .pointer (some ⟨Q, 0, none⟩)]
set_option maxHeartbeats 1000000 in
set_option maxRecDepth 100000 in
theorem fav1_any (w : World) (H : Nat) (v : Value) (G : Nat → Nat) (l : List Inp) (K : KH w H v G l) (B P Q p : Nat) (b : Int) (X : Bx w B P Q H p b) (hp : p < 64) (cb : Cls b) (n : Nat) (hn : n < l.length) :
    Calls Tryz.prog 78 #[.int .i64 (n : Nat), .pointer (some ⟨B, 0, none⟩), .pointer (some ⟨P, 0, none⟩), .pointer (some ⟨Q, 0, none⟩)] w fun e w' => e = .returned (.bool (hasB ((l.getD n in0).cov p) b)) ∧ Below w.heap.size w w' := by
  have H1 : Hid (∀ W, Below w.heap.size w W → Calls Tryz.prog 69 #[.pointer (some ⟨H, 7, none⟩), .int .i64 (n : Nat)] W fun e w' => e = .returned (.agg #[.string (l.getD n in0).text, .slice (some ⟨G n, 0, none⟩) 64 64]) ∧ Below w.heap.size w w') := fun W BW =>
    (liAt_any W H v G l (K.below BW).c7 (K.below BW).row n hn).mono fun _ _ ⟨a, b⟩ => ⟨a, BW.trans (b.mono BW.size)⟩
  have H2 : Hid (∀ W t, Below w.heap.size w W → Calls Tryz.prog 79 #[.agg #[.string t, .slice (some ⟨G n, 0, none⟩) 64 64], .int .i64 (p : Nat), .int .u8 b] W fun e w' => e = .returned (.bool (hasB ((l.getD n in0).cov p) b)) ∧ Below w.heap.size w w') := fun W t BW =>
    (has_any W t (G n) p b _ hp ((K.below BW).row.covs.cell n hn p hp) (K.clsAt hn p) cb).mono fun _ _ ⟨a, b⟩ => ⟨a, BW.trans (b.mono BW.size)⟩
  have HX : Hid (∀ W, Below w.heap.size w W → W.cell? ⟨B, 0, none⟩ = some (.pointer (some ⟨H, 0, none⟩)) ∧ W.cell? ⟨P, 0, none⟩ = some (.int .i64 (p : Nat)) ∧ W.cell? ⟨Q, 0, none⟩ = some (.int .u8 b)) := fun W BW => ⟨(X.below BW).h, (X.below BW).p, (X.below BW).q⟩
  have x1 := X.h
  have x2 := X.p
  have x3 := X.q
  generalize hasB ((l.getD n in0).cov p) b = r at H2 ⊢
  generalize (l.getD n in0).text = t at H1
  generalize G n = gn at H1 H2
  clear K X hn hp cb
  go_enter Tryz.func78, Tryz.ntmps78
  go_wp2_with fail
  go_region_held3 (fun W => W.cell? ⟨B, 0, none⟩ = some (.pointer (some ⟨H, 0, none⟩)) ∧ W.cell? ⟨P, 0, none⟩ = some (.int .i64 (p : Nat)) ∧ W.cell? ⟨Q, 0, none⟩ = some (.int .u8 b)) (go_keep) (first
    | (go_at_call 69; go_fit (H1.out w.drew (Below.refl _ _).drew); rintro e w2 ⟨rfl, B2⟩; have HB2 : Hid (Below w.heap.size w w2) := B2; obtain ⟨y1, y2, y3⟩ := HX.out w2 B2; clear B2)
    | (go_at_call 79; go_fit (H2.out w2 _ HB2.out); rintro e w3 ⟨rfl, B3⟩; have HB3 : Hid (Below w.heap.size w w3) := B3; obtain ⟨z1, z2, z3⟩ := HX.out w3 B3; clear B3))
  all_goals
    go_wp2
    go_ret
    exact ⟨rfl, HB3.out⟩
theorem fav1_enters : ∀ args w, (callFunc 78 args).run Tryz.prog w = .ok (.enter 78 args) w := enters_of Tryz.func78 (by kernel_rfl) rfl
theorem key_is (l : List Inp) (p : Nat) (b : Int) (n : Nat) : keyAt l p b n = hasB ((l.getD n in0).cov p) b := by
  unfold keyAt
  rw [List.getD_eq_getElem?_getD]
  cases l[n]? <;> rfl
theorem fav1_tells (w : World) (H : Nat) (v : Value) (G : Nat → Nat) (l : List Inp) (K : KH w H v G l) (B P Q p : Nat) (b : Int) (X : Bx w B P Q H p b) (hp : p < 64) (cb : Cls b) (L : List Nat) (hL : ∀ n ∈ L, n < l.length) :
    Tells 78 (favLb B P Q) L.length (fun j => .int .i64 ((L.getD j 0 : Nat) : Int)) (fun j => keyAt l p b (L.getD j 0)) w := by
  intro W j hj hW
  have hm : L.getD j 0 < l.length := by
    rw [List.getD_eq_getElem?_getD, List.getElem?_eq_getElem hj, Option.getD_some]
    exact hL _ (List.getElem_mem hj)
  dsimp only
  rw [key_is]
  exact (fav1_any W H v G l (K.below hW) B P Q p b (X.below hW) hp cb (L.getD j 0) hm).mono fun _ _ ⟨a, b⟩ => ⟨a, hW.trans (b.mono hW.size)⟩

/-! A list of numbers of one's own, at LB. -/
structure LN (w : World) (base LB : Nat) (v : Value) (L : List Nat) : Prop where
  cell : w.cell? ⟨LB, 0, none⟩ = some v
  thaw : w.frozen? ⟨LB, 0, none⟩ = false
  row : w.ownsRow base 3 1 v L.length (L.map fun n => .int .i64 ((n : Nat) : Int))
  ne : v.ownBlock ≠ some LB
set_option maxHeartbeats 1000000 in
theorem lnHas_any (w : World) (base LB : Nat) (vl : Value) (L : List Nat) (N : LN w base LB vl L) (gf : Nat) (lb : Array Value) (eg : ∀ args w, (callFunc gf args).run Tryz.prog w = .ok (.enter gf args) w) (P : Nat → Bool)
    (hp : Tells gf lb L.length (fun j => .int .i64 ((L.getD j 0 : Nat) : Int)) (fun j => P (L.getD j 0)) w) :
    Calls Tryz.prog 80 #[.pointer (some ⟨LB, 0, none⟩), .func (.func gf) #[] lb] w fun e w' => e = .returned (.bool (L.any P)) ∧ Below w.heap.size w w' := by
  have c := N.cell
  rcases own_form0 N.row with ⟨hv, hn⟩ | ⟨b, cap, hv, hb, hcap, hnc, hc⟩
  · rw [hv] at c
    have e : L = [] := List.eq_nil_of_length_eq_zero hn
    subst e
    clear N hp
    go_enter Tryz.func80, Tryz.ntmps80
    go_wp2_with fail
    refine (cfInt_none _ _ _ _).mono ?_
    rintro e w1 ⟨rfl, hw⟩
    obtain rfl := hw.symm
    go_wp2_with fail
    go_ret
    exact ⟨rfl, Below.refl _ _⟩
  · rw [hv] at c
    unfold maxLen at hcap
    have HC : Hid (Calls Tryz.prog 135 #[.slice (some ⟨b, 0, none⟩) L.length cap, .func (.func gf) #[] lb] w fun e w' => e = .returned (.bool ((List.range L.length).any fun j => P (L.getD j 0))) ∧ Below w.heap.size w w') :=
      cfInt_any gf lb eg b L.length cap _ _ w hp (by omega) hb (fun j hj => hc _ _ (by rw [List.getElem?_map, List.getElem?_eq_getElem hj, List.getD_eq_getElem?_getD, List.getElem?_eq_getElem hj]; rfl))
    rw [any_range] at HC
    generalize L.any P = r at HC ⊢
    clear N hp hc
    generalize L.length = n at *
    go_enter Tryz.func80, Tryz.ntmps80
    go_wp2_with fail
    refine HC.out.mono ?_
    rintro e w1 ⟨rfl, B1⟩
    go_wp2_with fail
    go_ret
    exact ⟨rfl, B1⟩
/-- What an addition leaves. -/
structure LNTo (w : World) (base LB : Nat) (v : Value) (L : List Nat) (n : Nat) (w' : World) : Prop where
  ln : ∃ v', LN w' base LB v' (L ++ [n]) ∧ (v'.ownBlock = v.ownBlock ∨ ∀ k, v'.ownBlock = some k → w.heap.size ≤ k)
  os : w'.os = w.os
  tape : w'.tape = w.tape
  output : w'.output = w.output
  size : w.heap.size ≤ w'.heap.size
  block : ∀ k, k < w.heap.size → k ≠ LB → v.ownBlock ≠ some k → w'.heap[k]? = w.heap[k]?
theorem infoInt : (Tryz.prog.info? 3).map (fun i => (i.zero, i.size, i.bytes)) = some (some (.int .i64 0), 1, 8) := by kernel_rfl
set_option maxHeartbeats 1000000 in
set_option maxRecDepth 100000 in
theorem lnAdd_any (w : World) (base LB : Nat) (vl : Value) (L : List Nat) (N : LN w base LB vl L) (hb : base ≤ w.heap.size) (hL : L.length ≤ 1000000) (n : Nat) :
    Calls Tryz.prog 82 #[.pointer (some ⟨LB, 0, none⟩), .int .i64 (n : Nat)] w fun e w' => e = .returned (.tuple #[]) ∧ LNTo w base LB vl L n w' := by
  obtain ⟨i, hi, hz0, hz1, hz2⟩ := info_of infoInt
  have c0 := N.cell
  have f0 := N.thaw
  have hlt : LB < w.heap.size := World.block_lt_of_cell? w ⟨LB, 0, none⟩ c0
  have hfin : Hid (∀ v' w6, w6.ownsRow base 3 1 v' (L.length + 1) ((L.map fun n => Value.int .i64 ((n : Nat) : Int)) ++ [.int .i64 (n : Int)]) → (w.alloc (.cells #[.int .i64 (n : Int)] 3)).grownBy w6 vl.ownBlock → (v'.ownBlock = vl.ownBlock ∨ v'.ownBlock = some (w.heap.size + 1)) →
      (w6.cell? ⟨LB, 0, none⟩ = some vl ∧ w6.frozen? ⟨LB, 0, none⟩ = false) ∧ LNTo w base LB vl L n (w6.setCell ⟨LB, 0, none⟩ v')) := by
    intro v' w6 ho hg hat
    have hne : some LB ≠ vl.ownBlock := fun c => N.ne c.symm
    have hbk : w6.heap[LB]? = w.heap[LB]? := (hg.block LB (by simp; omega) hne).trans (Below.heap_alloc _ _ _ hlt)
    have hc6 : w6.cell? ⟨LB, 0, none⟩ = some vl := (World.cell?_of_block (w := w) (a := ⟨LB, 0, none⟩) hbk).trans c0
    have hf6 : w6.frozen? ⟨LB, 0, none⟩ = false := (World.frozen?_of_block (w := w) (a := ⟨LB, 0, none⟩) hbk).trans f0
    have hvne : v'.ownBlock ≠ some LB := fun c => by
      rcases hat with a | a
      · exact N.ne (a ▸ c)
      · rw [a] at c; injection c with c; omega
    refine ⟨⟨hc6, hf6⟩, ⟨v', ⟨World.cell?_setCell_same _ _ _ hc6, by rw [World.frozen?_setCell]; exact hf6, ?_, hvne⟩, ?_⟩, hg.os, hg.tape, hg.output, ?_, ?_⟩
    · have := own_keep ho (w' := w6.setCell ⟨LB, 0, none⟩ v') (fun b e => heap_setCell_other w6 ⟨LB, 0, none⟩ b v' (fun c => hvne (by rw [e, c])))
      simpa using this
    · rcases hat with a | a
      · exact Or.inl a
      · exact Or.inr (fun k e => by rw [a] at e; injection e with e; omega)
    · have := hg.size; simp at this ⊢; omega
    · intro k hk h1 h2
      rw [heap_setCell_other w6 ⟨LB, 0, none⟩ k v' h1, hg.block k (by simp; omega) (fun c => h2 c.symm)]
      exact Below.heap_alloc _ _ _ hk
  have hrow := N.row
  clear N
  go_enter Tryz.func82, Tryz.ntmps82
  go_wp2_with (at_builtin; refine wpList_append_own_at _ rfl (.tmp 8) (.tmp 10) 45 rfl base 3 i (.int .i64 0) 1 8 Tryz.underlying45 hi hz0 hz1 hz2 rfl (by decide) _ L.length _ rfl (hrow.alloc _) ⟨w.heap.size, 0, none⟩ 1 1 [.int .i64 (n : Int)] rfl rfl (cell_one_new _ _ _) ?c2 (by unfold maxLen; omega) (by omega) (by simp; omega) ?_)
  case c2 => first | rfl | (intro u hu; simp at hu; subst hu; rfl)
  intro v6 w6 ho6 hg6 _ hat6
  obtain ⟨⟨c6, f6⟩, hf⟩ := hfin.out v6 w6 ho6 hg6 (by simpa using hat6)
  have HALL : Hid _ := hf
  obtain ⟨g6, k6, rfl⟩ := own_form ho6 (by omega)
  clear ho6 hg6 hat6 hf hrow c0 f0 hfin
  go_wp2
  go_end0
  exact ⟨rfl, HALL.out⟩
end Go.Proofs.YtflenkppcclclaaGreatDoor

