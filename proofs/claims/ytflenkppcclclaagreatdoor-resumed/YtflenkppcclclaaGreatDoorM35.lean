import Derived.Test.YtflenkppcclclaaGreatDoorM34
import Derived.Test.YtflenkppcclclaaGreatDoorM30
namespace Go.Proofs.YtflenkppcclclaaGreatDoor
open Go.RowKit

/-! How many small changes there are. -/
def sumL (L : Nat) : Nat → Nat
  | 0 => 0
  | j + 1 => sumL L j + manyL L j
theorem sum_is (L : Nat) : sumL L 8 = mutants L := by
  simp only [sumL, manyL, mutants]
  repeat' split
  all_goals omega
theorem sum_le (L : Nat) (hL : L ≤ 24) : ∀ j, j ≤ 8 → sumL L j ≤ 1000 := by
  intro j hj
  match j, hj with
  | 0, _ | 1, _ | 2, _ | 3, _ | 4, _ | 5, _ | 6, _ | 7, _ | 8, _ => simp only [sumL, manyL]; first | omega | (split <;> omega)
  | j + 9, h => omega
theorem kinds_cells (w : World) (L j : Nat) (hj : j < 8) : (w.alloc (kindsObj L)).cell? ⟨w.heap.size, j * 2, none⟩ = some (.int .i64 (manyL L j : Nat)) ∧ ∃ f, (w.alloc (kindsObj L)).cell? ⟨w.heap.size, j * 2 + 1, none⟩ = some (.func (.func f) #[] #[]) := by
  unfold kindsObj
  rw [World.cell?_alloc_new, World.cell?_alloc_new]
  match j, hj with
  | 0, _ | 1, _ | 2, _ | 3, _ | 4, _ | 5, _ | 6, _ | 7, _ => exact ⟨rfl, _, rfl⟩
  | j + 8, h => omega
set_option maxHeartbeats 1000000 in
set_option maxRecDepth 100000 in
theorem mutants_any (s : ByteArray) (hs : s.size ≤ 24) (w : World) : Calls Tryz.prog 188 #[.string s] w fun e w' => e = .returned (.int .i64 (mutants s.size : Nat)) ∧ Below w.heap.size w w' := by
  have hsum := sum_is s.size
  have HS : Hid (∀ j, j ≤ 8 → sumL s.size j ≤ 1000) := sum_le s.size hs
  have hk := kinds_any s.size hs w
  generalize hL : s.size = L at *
  rw [← hsum]
  have HC : Hid (∀ j, j < 8 → (w.alloc (kindsObj L)).cell? ⟨w.heap.size, j * 2, none⟩ = some (.int .i64 (manyL L j : Nat)) ∧ ∃ f, (w.alloc (kindsObj L)).cell? ⟨w.heap.size, j * 2 + 1, none⟩ = some (.func (.func f) #[] #[])) := kinds_cells w L
  go_enter Tryz.func188, Tryz.ntmps188
  go_wp2_with fail
  refine hk.mono ?_
  rintro e w1 ⟨rfl, hw1⟩
  have HB1 : Hid (Below w.heap.size w w1) := by rw [hw1]; exact (Below.refl _ _).alloc (Nat.le_refl _) _
  have hsz : w1.heap.size = w.heap.size + 1 := by rw [hw1]; simp
  rw [← hw1] at HC
  clear hw1 hk hsum
  go_wp2_with fail
  go_loopw [3, 5, 10] (fun m _ i wr => ∃ j : Nat, j ≤ 8 ∧ m = .int .i64 (sumL L j : Nat) ∧ i = .int .i64 j ∧ Below (w.heap.size + 1) w1 wr) (fun _ _ i _ => 8 - (intOf i).toNat)
  case atStart => exact ⟨0, by omega, rfl, rfl, Below.refl _ _⟩
  case round =>
    obtain ⟨j, hj, rfl, rfl, BB⟩ := hrel
    by_cases hlt : j < 8
    · have hi1 : (j : Int) < 8 := by omega
      obtain ⟨a0, f, b0⟩ := HC.out j hlt
      have a1 := (BB.cell (p := ⟨w.heap.size, j * 2, none⟩) (Nat.lt_succ_self _)).trans a0
      have b1 := (BB.cell (p := ⟨w.heap.size, j * 2 + 1, none⟩) (Nat.lt_succ_self _)).trans b0
      have HB : Hid (Below (w.heap.size + 1) w1 wr) := BB
      have s1 := HS.out j hj
      have s2 := HS.out (j + 1) hlt
      have hss : sumL L (j + 1) = sumL L j + manyL L j := rfl
      have hlw : w.heap.size < wr.heap.size := by have := BB.size; omega
      generalize hq2 : sumL L (j + 1) = q2 at *
      have HQ2 : Hid (sumL L (j + 1) = q2) := hq2
      clear hq2
      generalize sumL L j = q1 at *
      generalize manyL L j = m1 at *
      clear BB a0 b0
      go_wp2_with fail
      go_roundw
      case rel => exact ⟨j + 1, by omega, by rw [HQ2.out, show ((q1 : Int) + (m1 : Int)) = ((q2 : Nat) : Int) by omega], by go_num, HB.out.alloc (by have := HB.out.size; omega) _⟩
      case measure => simp [intOf]; omega
    · have hi1 : ¬ (j : Int) < 8 := by omega
      have hj8 : j = 8 := by omega
      have HB : Hid (Below w.heap.size w wr) := HB1.out.trans (BB.mono (by omega))
      have HJ : Hid (j = 8) := hj8
      clear hj8 BB
      go_wp2_with fail
      go_ret
      exact ⟨by rw [HJ.out]; rfl, HB.out⟩

/-! Where the hunt is at work. -/
/-- What the calls that only look need. -/
structure LK (w : World) (d : HD) (g : PG) (h : HS) (G : Nat → Nat) : Prop where
  cell : ∀ j, j < 40 → w.cell? ⟨d.H, j, none⟩ = some (hval d g h j)
  kh : KH w d.H d.vk G h.kept
  size : ∀ k ∈ h.kept, k.text.size ≤ 24
  ent : h.entry < h.kept.length
  most : h.kept.length ≤ 30
  kept1 : 0 < h.kept.length
theorem LK.below {w w' : World} {d : HD} {g : PG} {h : HS} {G : Nat → Nat} (p : LK w d g h G) (b : Below w.heap.size w w') : LK w' d g h G :=
  ⟨fun j hj => (b.cell (p := ⟨d.H, j, none⟩) p.kh.lt).trans (p.cell j hj), p.kh.below b, p.size, p.ent, p.most, p.kept1⟩
theorem text_is (h : HS) (n : Nat) : h.text n = (h.kept.getD n in0).text := by
  unfold HS.text
  rw [List.getD_eq_getElem?_getD]
  cases h.kept[n]? <;> rfl
theorem LK.text24 {w : World} {d : HD} {g : PG} {h : HS} {G : Nat → Nat} (p : LK w d g h G) (n : Nat) (hn : n < h.kept.length) : (h.text n).size ≤ 24 := by
  rw [text_is, List.getD_eq_getElem?_getD, List.getElem?_eq_getElem hn, Option.getD_some]
  exact p.size _ (List.getElem_mem hn)
theorem LK.at {w : World} {d : HD} {g : PG} {h : HS} {G : Nat → Nat} (p : LK w d g h G) (n : Nat) (hn : n < h.kept.length) :
    Calls Tryz.prog 69 #[.pointer (some ⟨d.H, 7, none⟩), .int .i64 (n : Nat)] w fun e w' => e = .returned (.agg #[.string (h.text n), .slice (some ⟨G n, 0, none⟩) 64 64]) ∧ Below w.heap.size w w' := by
  rw [text_is]
  exact liAt_any w d.H d.vk G h.kept p.kh.c7 p.kh.row n hn
set_option maxHeartbeats 1000000 in
set_option maxRecDepth 100000 in
theorem small_any {w : World} {d : HD} {g : PG} {h : HS} {G : Nat → Nat} (p : LK w d g h G) : Calls Tryz.prog 139 #[.pointer (some ⟨d.H, 0, none⟩)] w fun e w' => e = .returned (.int .i64 (h.small : Nat)) ∧ Below w.heap.size w w' := by
  have he := p.ent
  have c5 : w.cell? ⟨d.H, 5, none⟩ = some (.int .i64 h.entry) := p.cell 5 (by omega)
  have hm := p.most
  have cw : w.cell? ⟨d.H, 10 + h.entry, none⟩ = some (.bool (h.worked h.entry)) := by
    rw [p.cell (10 + h.entry) (by omega)]
    unfold hval
    rw [if_neg (by omega), if_neg (by omega), if_neg (by omega), if_neg (by omega), if_neg (by omega), if_neg (by omega), if_neg (by omega), if_neg (by omega), if_neg (by omega), if_neg (by omega), show 10 + h.entry - 10 = h.entry by omega]
  have hi : (h.entry : Int) < 30 := by omega
  have hft := field_text
  have H1 : Hid (∀ W, Below w.heap.size w W → Calls Tryz.prog 69 #[.pointer (some ⟨d.H, 7, none⟩), .int .i64 (h.entry : Nat)] W fun e w' => e = .returned (.agg #[.string (h.text h.entry), .slice (some ⟨G h.entry, 0, none⟩) 64 64]) ∧ Below w.heap.size w w') := fun W b => ((p.below b).at h.entry he).mono fun _ _ ⟨x, y⟩ => ⟨x, b.trans (y.mono b.size)⟩
  have H2 : Hid (∀ W, Below w.heap.size w W → Calls Tryz.prog 188 #[.string (h.text h.entry)] W fun e w' => e = .returned (.int .i64 (mutants (h.text h.entry).size : Nat)) ∧ Below w.heap.size w w') := fun W b => (mutants_any _ (p.text24 _ he) W).mono fun _ _ ⟨x, y⟩ => ⟨x, b.trans (y.mono b.size)⟩
  have hH := p.kh.lt
  unfold HS.small
  clear p he hm
  generalize h.entry = en at *
  cases hw : h.worked en with
  | true =>
    rw [hw] at cw
    rw [if_pos rfl]
    go_enter Tryz.func139, Tryz.ntmps139
    go_wp2_with fail
    go_quiet (fail)
    go_wp2_with fail
    go_ret
    exact ⟨rfl, ⟨rfl, rfl, rfl, Nat.le_refl _, fun _ _ => rfl⟩⟩
  | false =>
    rw [hw] at cw
    rw [if_neg (by decide)]
    generalize h.text en = tx at *
    generalize G en = ge at *
    go_enter Tryz.func139, Tryz.ntmps139
    go_wp2_with fail
    go_quiet (fail)
    go_wp2_with fail
    go_region_with (first
      | (go_at_call 69; refine (H1.out _ (by exact ⟨rfl, rfl, rfl, Nat.le_refl _, fun _ _ => rfl⟩)).mono ?_; rintro e w2 ⟨rfl, B2⟩; have HB2 : Hid (Below w.heap.size w w2) := B2; clear B2)
      | (go_at_call 188; refine (H2.out w2 HB2.out).mono ?_; rintro e w3 ⟨rfl, B3⟩; have HB3 : Hid (Below w.heap.size w w3) := B3; clear B3))
    all_goals
      go_wp2_with fail
      go_ret
      exact ⟨rfl, HB3.out⟩
end Go.Proofs.YtflenkppcclclaaGreatDoor

namespace Go.Proofs.YtflenkppcclclaaGreatDoor
open Go.RowKit

theorem inv_cls {R : ByteArray → Sh} (hR : ROk R) {h : HS} (p : Hinv R h) : ∀ k ∈ h.kept, ∀ q, Cls (k.cov q) := fun k hk q => by
  obtain ⟨i, hi⟩ := List.getElem?_of_mem hk
  obtain ⟨h1, _, h3, _⟩ := p.kept i k hi
  rw [h3]
  exact hR.cov _ h1 q
theorem inv_size {R : ByteArray → Sh} {h : HS} (p : Hinv R h) : ∀ k ∈ h.kept, k.text.size ≤ 24 := fun k hk => by
  obtain ⟨i, hi⟩ := List.getElem?_of_mem hk
  exact (p.kept i k hi).1
theorem HU.lk {w : World} {U : Nat → Prop} {d : HD} {g : PG} {h : HS} (p : HU w U d g h) (inv : Hinv g.R h) (he : h.entry < h.kept.length) (hk : 0 < h.kept.length) : ∃ G, LK w d g h G := by
  obtain ⟨G, K⟩ := p.kh (inv_cls g.rok inv)
  exact ⟨G, p.cell, K, inv_size inv, he, inv.most, hk⟩
theorem planned_any {w : World} {d : HD} {g : PG} {h : HS} {G : Nat → Nat} (p : LK w d g h G) : Calls Tryz.prog 86 #[.pointer (some ⟨d.H, 0, none⟩)] w fun e w' => e = .returned (.int .i64 ((h.small : Nat) + 16 : Int)) ∧ Below w.heap.size w w' := by
  have hs : h.small ≤ 1000 := by
    unfold HS.small
    split
    · omega
    · rw [← sum_is]; exact sum_le _ (p.text24 _ p.ent) 8 (by omega)
  have H1 : Hid (Calls Tryz.prog 139 #[.pointer (some ⟨d.H, 0, none⟩)] w fun e w' => e = .returned (.int .i64 (h.small : Nat)) ∧ Below w.heap.size w w') := small_any p
  generalize h.small = sm at *
  clear p
  go_enter Tryz.func86, Tryz.ntmps86
  go_wp2_with fail
  refine H1.out.mono ?_
  rintro e w1 ⟨rfl, B1⟩
  go_wp2_with fail
  go_ret
  exact ⟨rfl, B1⟩

/-! Which is next. -/
theorem behind_step (n : Nat) (l : List Nat) (k : Nat) (hk : k < l.length) (h : ∀ j, j < k → ¬ n < l.getD j 0) (hn : n < l.getD k 0) : behindS n l = l.getD k 0 := by
  have e : l.find? (fun m => decide (n < m)) = some (l.getD k 0) := by
    rw [List.find?_eq_some_iff_getElem]
    refine ⟨by simpa using hn, k, hk, ?_, fun j hj => ?_⟩
    · rw [List.getD_eq_getElem?_getD, List.getElem?_eq_getElem hk, Option.getD_some]
    · have := h j hj
      rw [List.getD_eq_getElem?_getD, List.getElem?_eq_getElem (by omega), Option.getD_some] at this
      simpa using this
  unfold behindS
  rw [e]
  rfl
theorem behind_none (n : Nat) (l : List Nat) (h : ∀ j, j < l.length → ¬ n < l.getD j 0) : behindS n l = l.getD 0 0 := by
  have e : l.find? (fun m => decide (n < m)) = none := by
    rw [List.find?_eq_none]
    intro x hx
    obtain ⟨j, hj⟩ := List.getElem?_of_mem hx
    have hlt := (List.getElem?_eq_some_iff.1 hj).1
    have := h j hlt
    rw [List.getD_eq_getElem?_getD, hj, Option.getD_some] at this
    simpa using this
  unfold behindS
  rw [e]
  cases l <;> rfl
set_option maxHeartbeats 1000000 in
set_option maxRecDepth 100000 in
theorem behind_any (w : World) (base : Nat) (v : Value) (l : List Nat) (hrow : w.ownsRow base 3 1 v l.length (l.map fun n => .int .i64 ((n : Nat) : Int))) (h0 : 0 < l.length) (n : Nat) :
    Calls Tryz.prog 141 #[.int .i64 (n : Nat), v] w fun e w' => e = .returned (.int .i64 (behindS n l : Nat)) ∧ w' = w := by
  rcases own_form0 hrow with ⟨hv, hn⟩ | ⟨b, cap, rfl, hb, hcap, hnc, hc⟩
  · omega
  · have HC : Hid (∀ j, j < l.length → w.cell? ⟨b, j, none⟩ = some (.int .i64 ((l.getD j 0 : Nat) : Int))) := fun j hj => hc j _ (by rw [List.getElem?_map, List.getElem?_eq_getElem hj, List.getD_eq_getElem?_getD, List.getElem?_eq_getElem hj]; rfl)
    have HS : Hid (∀ k, k < l.length → (∀ j, j < k → ¬ n < l.getD j 0) → n < l.getD k 0 → behindS n l = l.getD k 0) := fun k => behind_step n l k
    have HN : Hid ((∀ j, j < l.length → ¬ n < l.getD j 0) → behindS n l = l.getD 0 0) := behind_none n l
    unfold maxLen at hcap
    clear hrow hc
    generalize behindS n l = r at *
    generalize hL : l.length = L at *
    clear hL
    go_enter Tryz.func141, Tryz.ntmps141
    go_wp2_with fail
    go_loopw [6, 9] (fun _ i wr => ∃ k : Nat, k ≤ L ∧ i = .int .i64 k ∧ wr = w ∧ Hid (∀ j, j < k → ¬ n < l.getD j 0)) (fun _ i _ => L - (intOf i).toNat)
    case atStart => exact ⟨0, by omega, rfl, rfl, fun j hj => by omega⟩
    case round =>
      obtain ⟨k, hk, rfl, rfl, hall⟩ := hrel
      by_cases hlt : k < L
      · have hi1 : (k : Int) < (L : Int) := by omega
        have ck := HC.out k hlt
        have hst := HS.out k hlt hall.out
        obtain ⟨x, hx⟩ : ∃ x, l.getD k 0 = x := ⟨_, rfl⟩
        rw [hx] at ck hst
        have HX : Hid (l.getD k 0 = x) := hx
        clear hx
        by_cases hnx : n < x
        · have hnx' : (n : Int) < (x : Int) := by omega
          have HR : Hid (r = x) := hst hnx
          clear hst
          go_wp2_with fail
          go_ret
          exact ⟨by rw [HR.out]; rfl, rfl⟩
        · have hnx' : ¬ (n : Int) < (x : Int) := by omega
          clear hst
          go_wp2_with fail
          go_roundw
          case rel => exact ⟨k + 1, by omega, by go_num, by trivial, fun j hj => if e : j = k then by rw [e, HX.out]; exact hnx else hall.out j (by omega)⟩
          case measure => simp [intOf]; omega
      · have hi1 : ¬ (k : Int) < (L : Int) := by omega
        have hkL : k = L := by omega
        have HR : Hid (r = l.getD 0 0) := HN.out (fun j hj => hall.out j (by omega))
        have c0 := HC.out 0 h0
        obtain ⟨x, hx⟩ : ∃ x, l.getD 0 0 = x := ⟨_, rfl⟩
        rw [hx] at c0 HR
        have hL0 : (0 : Int) < (L : Int) := by omega
        clear hkL hx
        go_wp2_with fail
        go_ret
        exact ⟨by rw [HR.out]; rfl, rfl⟩

/-! The next change. -/
theorem HU.sk {w w' : World} {U : Nat → Prop} {d : HD} {g : PG} {h : HS} (p : HU w U d g h) {x : Int} (k : SK w.heap.size d.H 2 w w') (s : Sd w' d.H 2 x) : HuntTo U d.H g { h with seed := x } w w' := by
  have hH : U d.H := p.inU _ (Or.inl rfl)
  have hb : ∀ b, U b → b ≠ d.H → w'.heap[b]? = w.heap[b]? := fun b hu hn => k.block b (p.lt b hu) hn
  refine ⟨⟨k.os, k.tape, k.output, k.size, fun b hl hn => k.block b hl (fun c => hn (c ▸ hH))⟩, d, rfl, ?_⟩
  exact {
    cell := fun j hj => by
      by_cases e : j = 2
      · subst e; exact s.cell
      · rw [k.cell j e, p.cell j hj]; unfold hval; simp only [if_neg e]
    thaw := fun j => (k.warm j).trans (p.thaw j)
    rk := own_keep p.rk (fun b e => hb b (p.inU b (Or.inr (Or.inl e))) (p.nk b e).1)
    rf := own_keep p.rf (fun b e => hb b (p.inU b (Or.inr (Or.inr (Or.inl e)))) (p.nf b e).1)
    rc := own_keep p.rc (fun b e => hb b (p.inU b (Or.inr (Or.inr (Or.inr e)))) (p.nc b e))
    nk := p.nk
    nf := p.nf
    nc := p.nc
    code := p.code.of_block (hb _ p.inC (fun c => p.ncode (Or.inl c)))
    ncode := p.ncode
    kept := fun i q hq => (p.kept i q hq).keep (fun b hu hw => hb b hu (fun c => hw (Or.inl c))) (fun _ h => Or.inl h)
    inU := fun b hb' => Or.inl (p.inU b hb')
    inC := Or.inl p.inC
    lt := fun b hb' => hb'.elim (fun c => Nat.lt_of_lt_of_le (p.lt b c) k.size) (fun c => c.2)
    low := fun b hb' => hb'.elim (p.low b) (fun c => by have := p.two; omega) }
end Go.Proofs.YtflenkppcclclaaGreatDoor

namespace Go.Proofs.YtflenkppcclclaaGreatDoor
open Go.RowKit

/-- A hunt in good order. -/
structure HG (w : World) (U : Nat → Prop) (d : HD) (g : PG) (h : HS) : Prop where
  hu : HU w U d g h
  ok : PGok g
  inv : Hinv g.R h
  pos : Hpos h
  tab : Tab w
  mrk : Mrk w
theorem HG.below {w w' : World} {U : Nat → Prop} {d : HD} {g : PG} {h : HS} (p : HG w U d g h) (b : Below w.heap.size w w') : HG w' (Gr U w w') d g h :=
  ⟨p.hu.gr b, p.ok, p.inv, p.pos, p.tab.below b, p.mrk.below b p.mrk.two⟩
/-- The seed's cell as 'Below' wants it. -/
theorem HU.sd {w : World} {U : Nat → Prop} {d : HD} {g : PG} {h : HS} (p : HU w U d g h) (pos : Hpos h) : Sd w d.H 2 h.seed := ⟨p.cell 2 (by omega), p.thaw 2, pos.seed0, pos.seed1⟩
set_option maxHeartbeats 2000000 in
set_option maxRecDepth 100000 in
theorem change_any {w : World} {U : Nat → Prop} {d : HD} {g : PG} {h : HS} (p : HG w U d g h) (hk : 0 < h.kept.length) :
    Calls Tryz.prog 85 #[.pointer (some ⟨d.H, 0, none⟩)] w fun e w' => e = .returned (.string h.chText) ∧ HuntTo U d.H g { h with seed := h.chSeed } w w' := by
  obtain ⟨G, K⟩ := p.hu.lk p.inv (p.pos.entry hk) hk
  have he := p.pos.entry hk
  have hft := field_text
  have hH := K.kh.lt
  have hm := p.inv.most
  have hch : h.changes < h.small + 16 := p.pos.changes
  have hsm : h.small ≤ 1000 := by
    unfold HS.small
    split
    · omega
    · rw [← sum_is]; exact sum_le _ (K.text24 _ he) 8 (by omega)
  have c5 : w.cell? ⟨d.H, 5, none⟩ = some (.int .i64 h.entry) := K.cell 5 (by omega)
  have c6 : w.cell? ⟨d.H, 6, none⟩ = some (.int .i64 h.changes) := K.cell 6 (by omega)
  have HC6 : Hid (∀ W, Below w.heap.size w W → W.cell? ⟨d.H, 6, none⟩ = some (.int .i64 h.changes)) := fun W b => (K.below b).cell 6 (by omega)
  have HA : Hid (∀ W, Below w.heap.size w W → Calls Tryz.prog 69 #[.pointer (some ⟨d.H, 7, none⟩), .int .i64 (h.entry : Nat)] W fun e w' => e = .returned (.agg #[.string (h.text h.entry), .slice (some ⟨G h.entry, 0, none⟩) 64 64]) ∧ Below w.heap.size w w') := fun W b => ((K.below b).at h.entry he).mono fun _ _ ⟨x, y⟩ => ⟨x, b.trans (y.mono b.size)⟩
  have HSM : Hid (∀ W, Below w.heap.size w W → Calls Tryz.prog 139 #[.pointer (some ⟨d.H, 0, none⟩)] W fun e w' => e = .returned (.int .i64 (h.small : Nat)) ∧ Below w.heap.size w w') := fun W b => (small_any (K.below b)).mono fun _ _ ⟨x, y⟩ => ⟨x, b.trans (y.mono b.size)⟩
  by_cases hlt : h.changes < h.small
  · have e1 : h.chText = strOfNums ((mutL (nums (h.text h.entry)) h.changes).getD []) := if_pos hlt
    have e2 : h.chSeed = h.seed := if_pos hlt
    have HM : Hid (∀ W, Below w.heap.size w W → Calls Tryz.prog 120 #[.string (h.text h.entry), .int .i64 (h.changes : Nat)] W fun e w' => (∃ b, e = .returned (.tuple #[.string h.chText, .bool b])) ∧ Below w.heap.size w w') := fun W b => by
      refine (cMutant_any _ (K.text24 _ he) h.changes (by omega) W (p.mrk.below b p.mrk.two)).mono ?_
      rintro e w' ⟨bb, rfl⟩
      refine ⟨⟨(mutL (nums (h.text h.entry)) h.changes).isSome, ?_⟩, b.trans (bb.mono b.size)⟩
      rw [e1]
      cases mutL (nums (h.text h.entry)) h.changes <;> rfl
    have hlt' : (h.changes : Int) < (h.small : Int) := by omega
    have HU' : Hid (HU w U d g h) := p.hu
    have hx : ({ h with seed := h.chSeed } : HS) = h := by rw [e2]
    rw [hx]
    clear e1 e2 hx p K he hlt
    generalize h.chText = ct at *
    generalize h.small = sm at *
    generalize h.entry = en at *
    generalize h.text en = tx at *
    generalize G en = ge at *
    generalize h.changes = ch at *
    go_enter Tryz.func85, Tryz.ntmps85
    go_wp2_with fail
    go_region_with (first | (go_at_call 69; refine (HA.out w.drew (Below.refl _ _).drew).mono ?_; rintro e w2 ⟨rfl, B2⟩; have HB2 : Hid (Below w.heap.size w w2) := B2; clear B2))
    have c62 := HC6.out w2 HB2.out
    go_wp2_with fail
    go_region_held3 (fun W => W.cell? ⟨d.H, 6, none⟩ = some (.int .i64 ch)) (go_keep) (first | (go_at_call 139; go_fit (HSM.out w2.drew HB2.out.drew); rintro e w3 ⟨rfl, B3⟩; have HB3 : Hid (Below w.heap.size w w3) := B3; have c63 := HC6.out w3 B3; clear B3))
    all_goals
      go_wp2_with fail
      refine (HM.out _ (by exact HB3.out)).mono ?_
      rintro e w4 ⟨⟨b4, rfl⟩, B4⟩
      have HB4 : Hid (Below w.heap.size w w4) := B4
      clear B4
      go_wp2_with fail
      go_ret
      exact ⟨rfl, HuntTo.of HU'.out HB4.out⟩
  · have e1 : h.chText = strOfNums h.wildly.1 := if_neg hlt
    have e2 : h.chSeed = h.wildly.2 := if_neg hlt
    have hdr := dr_lt h.seed h.kept.length hk
    have HLEN : Hid (∀ W, Below w.heap.size w W → Calls Tryz.prog 68 #[.pointer (some ⟨d.H, 7, none⟩)] W fun e w' => e = .returned (.int .i64 (h.kept.length : Nat)) ∧ w' = W) := fun W b => liLen_any W d.H d.vk G h.kept (K.below b).kh.c7 (K.below b).kh.row
    have HBE : Hid (∀ W, Below w.heap.size w W → Calls Tryz.prog 140 #[.pointer (some ⟨d.H, 2, none⟩), .int .i64 (h.kept.length : Nat)] W fun e w' => e = .returned (.int .i64 (dr h.seed h.kept.length : Nat)) ∧ w' = W.setCell ⟨d.H, 2, none⟩ (.int .u64 (sd h.seed))) := fun W b => below_any W d.H 2 h.seed ((p.hu.gr b).sd p.pos) h.kept.length hk (by omega)
    have HAT : Hid (∀ W, Below w.heap.size w W → Calls Tryz.prog 69 #[.pointer (some ⟨d.H, 7, none⟩), .int .i64 (dr h.seed h.kept.length : Nat)] (W.setCell ⟨d.H, 2, none⟩ (.int .u64 (sd h.seed))) fun e w' => (∃ ge, e = .returned (.agg #[.string (h.text (dr h.seed h.kept.length)), .slice (some ⟨ge, 0, none⟩) 64 64])) ∧ Below W.heap.size (W.setCell ⟨d.H, 2, none⟩ (.int .u64 (sd h.seed))) w') := fun W b => by
      have pW := p.hu.gr b
      obtain ⟨_, d', hd', q⟩ := pW.sk (SK.self W.heap.size d.H 2 W (.int .u64 (sd h.seed))) ((pW.sd p.pos).set (sd h.seed) (sd_bd _).1 (sd_bd _).2)
      obtain ⟨G', K'⟩ := HU.lk (h := { h with seed := sd h.seed }) q (p.inv.alike ⟨rfl, rfl, rfl⟩) (p.pos.entry hk) hk
      have := K'.at (dr h.seed h.kept.length) hdr
      rw [hd'] at this
      refine this.mono fun e w' ⟨x, y⟩ => ⟨⟨_, x⟩, ?_⟩
      rw [World.size_setCell] at y
      exact y
    have HWI : Hid (∀ W W', Below w.heap.size w W → Below W.heap.size (W.setCell ⟨d.H, 2, none⟩ (.int .u64 (sd h.seed))) W' → Calls Tryz.prog 121 #[.string (h.text h.entry), .string (h.text (dr h.seed h.kept.length)), .pointer (some ⟨d.H, 2, none⟩)] W' fun e w' => e = .returned (.string h.chText) ∧ HuntTo U d.H g { h with seed := h.chSeed } w w') := fun W W' b b' => by
      have pW := p.hu.gr b
      have hHW : d.H < W.heap.size := pW.lt _ (pW.inU _ (Or.inl rfl))
      have k1 : SK W.heap.size d.H 2 W W' := (SK.self W.heap.size d.H 2 W _).trans (SK.of_below b' (Nat.le_refl _) hHW)
      have s1 : Sd W' d.H 2 (sd h.seed) := ((pW.sd p.pos).set (sd h.seed) (sd_bd _).1 (sd_bd _).2).below b' hHW
      refine (cWild_any W' W.heap.size d.H 2 _ _ (K.text24 _ he) (K.text24 _ hdr) hHW (by have := b'.size; rw [World.size_setCell] at this; exact this) _ s1).mono ?_
      rintro e w' ⟨rfl, s2, k2⟩
      refine ⟨by rw [e1]; rfl, ?_⟩
      rw [e2]
      exact (HuntTo.of p.hu b).then (pW.sk (k1.trans k2) s2)
    have hlt' : ¬ (h.changes : Int) < (h.small : Int) := by omega
    generalize hsx : ({ h with seed := h.chSeed } : HS) = hz at HWI ⊢
    clear e1 e2 p K he hlt hsx
    generalize h.chText = ct at *
    generalize h.small = sm at *
    generalize h.text (dr h.seed h.kept.length) = to at *
    generalize dr h.seed h.kept.length = dn at *
    generalize h.kept.length = kl at *
    generalize sd h.seed = sx at *
    generalize h.entry = en at *
    generalize h.text en = tx at *
    generalize G en = ge at *
    generalize h.changes = ch at *
    go_enter Tryz.func85, Tryz.ntmps85
    go_wp2_with fail
    go_region_with (first | (go_at_call 69; refine (HA.out w.drew (Below.refl _ _).drew).mono ?_; rintro e w2 ⟨rfl, B2⟩; have HB2 : Hid (Below w.heap.size w w2) := B2; clear B2))
    have c62 := HC6.out w2 HB2.out
    go_wp2_with fail
    go_region_held3 (fun W => W.cell? ⟨d.H, 6, none⟩ = some (.int .i64 ch)) (go_keep) (first | (go_at_call 139; go_fit (HSM.out w2.drew HB2.out.drew); rintro e w3 ⟨rfl, B3⟩; have HB3 : Hid (Below w.heap.size w w3) := B3; have c63 := HC6.out w3 B3; clear B3))
    all_goals
      go_wp2_with fail
      go_region_with (first
        | (go_at_call 68; refine (HLEN.out w3.drew HB3.out.drew).mono ?_; rintro e w4 ⟨rfl, hw4⟩; obtain rfl := hw4)
        | (go_at_call 140; refine (HBE.out w3.drew HB3.out.drew).mono ?_; rintro e w5 ⟨rfl, hw5⟩; obtain rfl := hw5)
        | (go_at_call 69; refine (HAT.out w3.drew HB3.out.drew).mono ?_; rintro e w6 ⟨⟨g6, rfl⟩, B6⟩; have HB6 : Hid (Below w3.drew.heap.size (w3.drew.setCell ⟨d.H, 2, none⟩ (.int .u64 sx)) w6) := B6; clear B6))
      go_wp2_with fail
      refine (HWI.out w3.drew w6 HB3.out.drew HB6.out).mono ?_
      rintro e w7 ⟨rfl, hT7⟩
      have HT7 : Hid (HuntTo U d.H g hz w w7) := hT7
      clear hT7
      go_wp2_with fail
      go_ret
      exact ⟨rfl, HT7.out⟩
end Go.Proofs.YtflenkppcclclaaGreatDoor

