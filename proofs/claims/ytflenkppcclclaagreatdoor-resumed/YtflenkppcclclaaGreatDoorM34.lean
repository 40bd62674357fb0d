import Derived.Test.YtflenkppcclclaaGreatDoorM33
namespace Go.Proofs.YtflenkppcclclaaGreatDoor
open Go.RowKit

theorem LN.below {w w' : World} {base LB : Nat} {v : Value} {L : List Nat} (h : LN w base LB v L) (b : Below w.heap.size w w') : LN w' base LB v L := by
  have hl : LB < w.heap.size := World.block_lt_of_cell? w ⟨LB, 0, none⟩ h.cell
  exact ⟨(b.cell (p := ⟨LB, 0, none⟩) hl).trans h.cell, (World.frozen?_of_block (w := w) (a := ⟨LB, 0, none⟩) (b.block LB hl)).trans h.thaw, own_keep h.row (fun k e => b.block k (own_blk h.row e)), h.ne⟩
/-- Favoured, on its way: the list lies behind the box of h. -/
structure FS (w wr : World) (H : Nat) (L : List Nat) : Prop where
  bel : Below w.heap.size w wr
  box : wr.cell? ⟨w.heap.size, 0, none⟩ = some (.pointer (some ⟨H, 0, none⟩))
  ln : ∃ v, LN wr w.heap.size (w.heap.size + 1) v L ∧ v.ownBlock ≠ some w.heap.size
/-- The same, and boxes at P and at Q besides. -/
structure FP (w wr : World) (H : Nat) (L : List Nat) (P p Q : Nat) (b : Int) : Prop where
  bel : Below w.heap.size w wr
  bx : Bx wr w.heap.size P Q H p b
  ln : ∃ v, LN wr w.heap.size (w.heap.size + 1) v L ∧ v.ownBlock ≠ some w.heap.size ∧ v.ownBlock ≠ some P ∧ v.ownBlock ≠ some Q
  thaw : wr.frozen? ⟨Q, 0, none⟩ = false
  pne : P ≠ w.heap.size + 1
  qne : Q ≠ w.heap.size + 1
theorem FP.below {w wr w' : World} {H : Nat} {L : List Nat} {P p Q : Nat} {b : Int} (h : FP w wr H L P p Q b) (bb : Below wr.heap.size wr w') : FP w w' H L P p Q b := by
  obtain ⟨v, h1, h2⟩ := h.ln
  have hq : Q < wr.heap.size := World.block_lt_of_cell? wr ⟨Q, 0, none⟩ h.bx.q
  exact ⟨h.bel.trans (bb.mono h.bel.size), h.bx.below bb, ⟨v, h1.below bb, h2⟩, (World.frozen?_of_block (w := wr) (a := ⟨Q, 0, none⟩) (bb.block Q hq)).trans h.thaw, h.pne, h.qne⟩
theorem FP.added {w wr w' : World} {H : Nat} {L : List Nat} {P p Q n : Nat} {b : Int} {v : Value} (h : FP w wr H L P p Q b) (hv : v.ownBlock ≠ some w.heap.size ∧ v.ownBlock ≠ some P ∧ v.ownBlock ≠ some Q) (t : LNTo wr w.heap.size (w.heap.size + 1) v L n w') (hbl : ∀ k, v.ownBlock = some k → w.heap.size ≤ k) : FP w w' H (L ++ [n]) P p Q b := by
  have hB : w.heap.size < wr.heap.size := World.block_lt_of_cell? wr ⟨w.heap.size, 0, none⟩ h.bx.h
  have hP : P < wr.heap.size := World.block_lt_of_cell? wr ⟨P, 0, none⟩ h.bx.p
  have hQ : Q < wr.heap.size := World.block_lt_of_cell? wr ⟨Q, 0, none⟩ h.bx.q
  obtain ⟨v', h1, h2⟩ := t.ln
  have hne : ∀ k, k < wr.heap.size → v.ownBlock ≠ some k → v'.ownBlock ≠ some k := fun k hk hn c => by
    rcases h2 with e | e
    · exact hn (e ▸ c)
    · have := e k c; omega
  refine ⟨⟨t.os.trans h.bel.os, t.tape.trans h.bel.tape, t.output.trans h.bel.output, Nat.le_trans h.bel.size t.size, fun k hk => (t.block k (Nat.lt_of_lt_of_le hk h.bel.size) (by omega) (fun c => by have := hbl k c; omega)).trans (h.bel.block k hk)⟩,
    ⟨(World.cell?_of_block (w := wr) (a := ⟨w.heap.size, 0, none⟩) (t.block _ hB (by show w.heap.size ≠ w.heap.size + 1; omega) hv.1)).trans h.bx.h, (World.cell?_of_block (w := wr) (a := ⟨P, 0, none⟩) (t.block _ hP h.pne hv.2.1)).trans h.bx.p, (World.cell?_of_block (w := wr) (a := ⟨Q, 0, none⟩) (t.block _ hQ h.qne hv.2.2)).trans h.bx.q⟩,
    ⟨v', h1, hne _ hB hv.1, hne _ hP hv.2.1, hne _ hQ hv.2.2⟩, (World.frozen?_of_block (w := wr) (a := ⟨Q, 0, none⟩) (t.block _ hQ h.qne hv.2.2)).trans h.thaw, h.pne, h.qne⟩
/-- The next bit, in a box of its own. -/
theorem FP.next {w wr : World} {H : Nat} {L : List Nat} {P p Q : Nat} {b : Int} (h : FP w wr H L P p Q b) (b' : Int) : FP w (wr.alloc (.cells #[.int .u8 b'] 5)) H L P p wr.heap.size b' := by
  have hb : Below wr.heap.size wr (wr.alloc (.cells #[.int .u8 b'] 5)) := (Below.refl _ _).alloc (Nat.le_refl _) _
  have h' := h.below hb
  obtain ⟨v, h1, h2, h3, _⟩ := h.ln
  have hl : w.heap.size + 1 < wr.heap.size := World.block_lt_of_cell? wr ⟨w.heap.size + 1, 0, none⟩ h1.cell
  exact ⟨h'.bel, ⟨h'.bx.h, h'.bx.p, cell_new1 _ _ _ _ rfl⟩, ⟨v, h1.below hb, h2, h3, fun c => by have := own_blk h1.row c; omega⟩, World.frozen?_alloc_at (w := wr) _ _ wr.heap.size 0 rfl, h.pne, by omega⟩
theorem FP.fs {w wr : World} {H : Nat} {L : List Nat} {P p Q : Nat} {b : Int} (h : FP w wr H L P p Q b) : FS w wr H L := by
  obtain ⟨v, h1, h2, _⟩ := h.ln
  exact ⟨h.bel, h.bx.h, v, h1, h2⟩
theorem FS.fp {w wr : World} {H : Nat} {L : List Nat} (h : FS w wr H L) (p : Nat) : FP w ((wr.alloc (.cells #[.int .i64 (p : Int)] 3)).alloc (.cells #[.int .u8 1] 5)) H L wr.heap.size p (wr.heap.size + 1) 1 := by
  have hb : Below wr.heap.size wr ((wr.alloc (.cells #[.int .i64 (p : Int)] 3)).alloc (.cells #[.int .u8 1] 5)) := ((Below.refl _ _).alloc (Nat.le_refl _) _).alloc (by simp) _
  obtain ⟨v, h1, h2⟩ := h.ln
  have hl : w.heap.size + 1 < wr.heap.size := World.block_lt_of_cell? wr ⟨w.heap.size + 1, 0, none⟩ h1.cell
  have hB : w.heap.size < wr.heap.size := by omega
  refine ⟨h.bel.trans (hb.mono h.bel.size), ⟨(hb.cell (p := ⟨w.heap.size, 0, none⟩) hB).trans h.box, ?_, cell_new1 _ _ _ _ (by simp)⟩, ⟨v, h1.below hb, h2, fun c => by have := own_blk h1.row c; omega, fun c => by have := own_blk h1.row c; omega⟩, ?_, by omega, by omega⟩
  · rw [World.cell?_alloc_past _ _ _ (by simp)]; exact cell_new1 _ _ _ _ rfl
  · exact World.frozen?_alloc_at (w := wr.alloc (.cells #[.int .i64 (p : Int)] 3)) _ _ (wr.heap.size + 1) 0 (by simp)
theorem fs_begin (w : World) (H : Nat) : FS w ((w.alloc (.cells #[.pointer (some ⟨H, 0, none⟩)] 77)).alloc (.cells #[.slice none 0 0] 135)) H [] := by
  refine ⟨((Below.refl _ _).alloc (Nat.le_refl _) _).alloc (by simp) _, ?_, .slice none 0 0, ⟨cell_new1 _ _ _ _ (by simp), ?_, World.ownsRow_nil _ _ _ _, fun c => by cases c⟩, fun c => by cases c⟩
  · rw [World.cell?_alloc_past _ _ _ (by simp)]; exact cell_new1 _ _ _ _ rfl
  · exact World.frozen?_alloc_at (w := w.alloc (.cells #[.pointer (some ⟨H, 0, none⟩)] 77)) _ _ (w.heap.size + 1) 0 (by simp)
/-- A bit, in a byte. -/
def byteN (k : Nat) : Int := if k < 8 then bitN k else 0
theorem byte_at {k : Nat} (h : k < 8) : byteN k = bitN k := if_pos h
theorem byte_ne {k : Nat} (h : k < 8) : byteN k ≠ 0 := by
  match k, h with
  | 0, _ | 1, _ | 2, _ | 3, _ | 4, _ | 5, _ | 6, _ | 7, _ => decide
  | k + 8, h => omega
theorem byte_bd (k : Nat) (h : k < 8) : 0 ≤ byteN k ∧ byteN k ≤ 128 ∧ IntKind.u8.wrap (byteN k * 2) = byteN (k + 1) := by
  match k, h with
  | 0, _ | 1, _ | 2, _ | 3, _ | 4, _ | 5, _ | 6, _ | 7, _ => decide
  | k + 8, h => omega
theorem LN.lo {w : World} {base LB : Nat} {v : Value} {L : List Nat} (h : LN w base LB v L) : ∀ k, v.ownBlock = some k → base ≤ k := fun k e => by
  rcases h.row.2 with ⟨hn, _⟩ | ⟨b, cap, cur, hv, hg, _⟩
  · rw [hn] at e; cases e
  · rw [hv] at e
    have : b = k := by simpa [Value.ownBlock] using e
    omega
/-- Numbers, sorted, are those that rise. -/
theorem sort_fav (l : List Inp) : (((chosenS l).map fun n => ((n : Nat) : Int)).mergeSort fun x y => decide (x ≤ y)) = (favS l).map fun n => ((n : Nat) : Int) := by
  have h1 : (((chosenS l).map fun n => ((n : Nat) : Int)).mergeSort fun x y => decide (x ≤ y)).Pairwise (fun x y => decide (x ≤ y) = true) := List.pairwise_mergeSort (fun a b c h1 h2 => by simp at *; omega) (fun a b => by simp; omega) _
  have h2 : ((favS l).map fun n => ((n : Nat) : Int)).Pairwise (fun x y => decide (x ≤ y) = true) := by
    rw [List.pairwise_map]
    exact (fav_rising l).imp (fun h => by simp; omega)
  have h3 : (((chosenS l).map fun n => ((n : Nat) : Int)).mergeSort fun x y => decide (x ≤ y)).Perm ((favS l).map fun n => ((n : Nat) : Int)) := (List.mergeSort_perm _ _).trans ((fav_perm l).symm.map _)
  exact h3.eq_of_pairwise (fun a b _ _ h4 h5 => by simp at h4 h5; omega) h1 h2
theorem lnAll_any (w : World) (base LB : Nat) (vl : Value) (L : List Nat) (N : LN w base LB vl L) (hL : L.length ≤ 1000000) :
    Calls Tryz.prog 83 #[.pointer (some ⟨LB, 0, none⟩)] w fun e w' => (∃ v', e = .returned v' ∧ w'.ownsRow w.heap.size 3 1 v' L.length (L.map fun n => .int .i64 ((n : Nat) : Int))) ∧ Below w.heap.size w w' := by
  have c := N.cell
  rcases own_form0 N.row with ⟨hv, hn⟩ | ⟨b, cap, hv, hb, hcap, hnc, hc⟩
  · rw [hv] at c
    have e : L = [] := List.eq_nil_of_length_eq_zero hn
    subst e
    clear N
    go_enter Tryz.func83, Tryz.ntmps83
    go_wp2_with fail
    refine (Tryz.slices_Clone_int_nil 0 0 w).mono ?_
    rintro e w1 ⟨rfl, hw⟩
    obtain rfl := hw.symm
    go_wp2_with fail
    go_ret
    exact ⟨⟨_, rfl, World.ownsRow_nil _ _ _ _⟩, Below.refl _ _⟩
  · rw [hv] at c
    have HC : Hid (Calls Tryz.prog 136 #[.slice (some ⟨b, 0, none⟩) L.length cap] w fun e w' => ∃ v', e = .returned v' ∧ w'.ownsRow w.heap.size 3 1 v' L.length (((L.map fun n => ((n : Nat) : Int)).take L.length).map (Value.int .i64)) ∧ v' ≠ .slice none 0 0 ∧ Below w.heap.size w w') :=
      Tryz.slices_Clone_int b 0 L.length cap (L.map fun n => ((n : Nat) : Int)) w (by simp) (by omega) (fun j hj => by
        rw [List.length_map] at hj
        rw [Nat.zero_add]
        exact hc j _ (by rw [List.getElem?_map, List.getElem?_eq_getElem hj, List.getD_eq_getElem?_getD, List.getElem?_map, List.getElem?_eq_getElem hj]; rfl))
    have e : (((L.map fun n => ((n : Nat) : Int)).take L.length).map (Value.int .i64)) = L.map fun n => Value.int .i64 ((n : Nat) : Int) := by
      rw [List.take_of_length_le (by simp), List.map_map]; rfl
    rw [e] at HC
    clear N hc e
    have hmx : L.length ≤ 9223372036854775807 := by omega
    obtain ⟨XX, hXX⟩ : ∃ XX, (L.map fun n => Value.int .i64 ((n : Nat) : Int)) = XX := ⟨_, rfl⟩
    rw [hXX] at HC ⊢
    clear hXX
    generalize L.length = n at *
    go_enter Tryz.func83, Tryz.ntmps83
    go_wp2_with fail
    refine HC.out.mono ?_
    rintro e w1 ⟨v', rfl, hrow, _, B1⟩
    have hform := own_form0 hrow
    have HR : Hid (w1.ownsRow w.heap.size 3 1 v' n XX) := hrow
    clear hrow
    rcases hform with ⟨rfl, h0⟩ | ⟨b', cap', rfl, _⟩
    · go_wp2_with fail
      go_ret
      exact ⟨⟨_, rfl, HR.out⟩, B1⟩
    · go_wp2_with fail
      go_ret
      exact ⟨⟨_, rfl, HR.out⟩, B1⟩
theorem sort_own (w : World) (base : Nat) (v : Value) (L : List Int) (hrow : w.ownsRow base 3 1 v L.length (L.map (Value.int .i64))) (hL : L.length ≤ 1000000) :
    Calls Tryz.prog 84 #[v] w fun e w' => e = .returned (.tuple #[]) ∧ w'.ownsRow base 3 1 v L.length ((L.mergeSort fun x y => decide (x ≤ y)).map (Value.int .i64)) ∧ Below base w w' := by
  rcases hrow.2 with ⟨hv, hn⟩ | ⟨g, cap, cur, hv, hg, hh, hnc, hcap, hcs, htake⟩
  · have e : L = [] := List.eq_nil_of_length_eq_zero hn
    subst e hv
    refine (Tryz.slices_Sort_int_none none 0 w).mono ?_
    rintro e w1 ⟨rfl, rfl⟩
    exact ⟨rfl, by simpa using hrow, Below.refl _ _⟩
  · subst hv
    rw [Nat.mul_one] at htake
    refine (Tryz.slices_Sort_int g 0 cap L w (holds_of_blockI hh htake) (Array.getElem?_eq_some_iff.1 hh).1 (by omega)).mono ?_
    rintro e w1 ⟨rfl, n, os, rfl⟩
    have hgr := grownBy_sortedI (w := w) (g := g) (n := n) (os := os) (L.mergeSort fun x y => decide (x ≤ y)).toArray
    refine ⟨rfl, ownsRow_sortedI (List.length_mergeSort _) hg hh hnc hcap hcs, ⟨hgr.os, hgr.tape, hgr.output, hgr.size, fun k hk => hgr.block k ?_ (fun c => by injection c with c; omega)⟩⟩
    have := (Array.getElem?_eq_some_iff.1 hh).1
    omega
theorem own_base {w : World} {base base' : Nat} {e : TypeId} {size : Nat} {v : Value} {n : Nat} {xs : List Value} (h : w.ownsRow base e size v n xs) (hb : base' ≤ base) : w.ownsRow base' e size v n xs := by
  refine ⟨h.1, ?_⟩
  rcases h.2 with hn | ⟨b, cap, cur, hv, hg, r⟩
  · exact .inl hn
  · exact .inr ⟨b, cap, cur, hv, Nat.le_trans hb hg, r⟩
set_option maxHeartbeats 4000000 in
set_option maxRecDepth 100000 in
theorem fav_any (w : World) (H : Nat) (v : Value) (G : Nat → Nat) (l : List Inp) (K : KH w H v G l) (hsz : ∀ k ∈ l, k.text.size ≤ 24) (hlen : l.length ≤ 1000000) :
    Calls Tryz.prog 40 #[.pointer (some ⟨H, 0, none⟩)] w fun e w' => (∃ v', e = .returned v' ∧ w'.ownsRow w.heap.size 3 1 v' (favS l).length ((favS l).map fun n => .int .i64 ((n : Nat) : Int))) ∧ Below w.heap.size w w' := by
  have HK : Hid (KH w H v G l) := K
  have HZ : Hid (∀ k ∈ l, k.text.size ≤ 24) := hsz
  have HF0 : Hid (FS w ((w.alloc (.cells #[.pointer (some ⟨H, 0, none⟩)] 77)).alloc (.cells #[.slice none 0 0] 135)) H []) := fs_begin w H
  clear K hsz
  go_enter Tryz.func40, Tryz.ntmps40
  go_wp2_with fail
  go_loopw [4, 10] (fun _ i wr => ∃ k : Nat, k ≤ 64 ∧ i = .int .i64 k ∧ FS w wr H (favPlaces l k)) (fun _ i _ => 64 - (intOf i).toNat)
  case atStart => exact ⟨0, by omega, rfl, HF0.out⟩
  case round =>
    obtain ⟨k, hk, rfl, hF⟩ := hrel
    by_cases hlt : k < 64
    · have hi1 : (k : Int) < 64 := by omega
      have HF : Hid (FP w ((wr.alloc (.cells #[.int .i64 (k : Int)] 3)).alloc (.cells #[.int .u8 1] 5)) H (favPlaces l k) wr.heap.size k (wr.heap.size + 1) 1) := hF.fp k
      clear hF
      go_wp2_with fail
      generalize hP : wr.heap.size = P at HF ⊢
      have HOK : Hid (∀ kk, FavOk l (favBits l k kk (favPlaces l k))) := fun kk => (favBits_ok k kk _ (favPlaces_ok l k).1).1
      go_loopg [5, 6, 7, 8] 8 (fun gg q _ _ _ wx => ∃ kk Q : Nat, kk ≤ 8 ∧ 8 - kk ≤ gg ∧ q = .pointer (some ⟨Q, 0, none⟩) ∧ FP w wx H (favBits l k kk (favPlaces l k)) P k Q (byteN kk))
      case atStart => exact ⟨0, P + 1, by omega, by omega, rfl, HF.out⟩
      case round =>
        obtain ⟨kk, Q, hkk, hgg, rfl, hFP⟩ := hrel
        by_cases hlt8 : kk < 8
        · have hq := hFP.bx.q
          have hbn := byte_ne hlt8
          obtain ⟨hb0, hb1, hb2⟩ := byte_bd kk hlt8
          have cb : Cls (byteN kk) := by rw [byte_at hlt8]; exact bit_cls hlt8
          have HFP : Hid (FP w wr H (favBits l k kk (favPlaces l k)) P k Q (byteN kk)) := hFP
          obtain ⟨vl, hLN, hv⟩ := hFP.ln
          have KW := HK.out.below hFP.bel
          have H1 : Hid (Calls Tryz.prog 80 #[.pointer (some ⟨w.heap.size + 1, 0, none⟩), .func (.func 78) #[] #[.pointer (some ⟨w.heap.size, 0, none⟩), .pointer (some ⟨P, 0, none⟩), .pointer (some ⟨Q, 0, none⟩)]] wr fun e w' => e = .returned (.bool ((favBits l k kk (favPlaces l k)).any (keyAt l k (byteN kk)))) ∧ Below wr.heap.size wr w') :=
            lnHas_any wr _ _ vl _ hLN 78 (favLb w.heap.size P Q) fav1_enters (keyAt l k (byteN kk)) (fav1_tells wr H v G l KW _ _ _ k _ hFP.bx hlt cb _ (HOK.out kk).lt)
          have hstep : favBits l k (kk + 1) (favPlaces l k) = favOne l k (byteN kk) (favBits l k kk (favPlaces l k)) := by rw [byte_at hlt8]; rfl
          have HOKK := (HOK.out kk).lt
          have HNK : Hid ((favBits l k kk (favPlaces l k)).length ≤ 1000000) := by
            have := (HOK.out kk)
            have h2 : (favBits l k kk (favPlaces l k)).length ≤ l.length := by
              have h3 := this.nodup.length_le_of_subset (l₂ := List.range l.length) (fun x hx => List.mem_range.2 (this.lt x hx))
              simpa using h3
            show _ ≤ _
            omega
          have HL : Hid (LN wr w.heap.size (w.heap.size + 1) vl (favBits l k kk (favPlaces l k)) ∧ (vl.ownBlock ≠ some w.heap.size ∧ vl.ownBlock ≠ some P ∧ vl.ownBlock ≠ some Q)) := ⟨hLN, hv⟩
          have hl1 : w.heap.size + 1 < wr.heap.size := World.block_lt_of_cell? wr ⟨w.heap.size + 1, 0, none⟩ hLN.cell
          have HNX : Hid (∀ W L, FP w W H L P k Q (byteN kk) → FP w (W.alloc (.cells #[.int .u8 (byteN (kk + 1))] 5)) H L P k W.heap.size (byteN (kk + 1))) := fun W L f => f.next _
          have HQ' : Hid (∀ W, Below wr.heap.size wr W → W.cell? ⟨Q, 0, none⟩ = some (.int .u8 (byteN kk))) := fun W bb => (HFP.out.below bb).bx.q
          have HSC : Hid (∀ W, Below wr.heap.size wr W → Calls Tryz.prog 81 #[.pointer (some ⟨H, 0, none⟩), .func (.func 78) #[] #[.pointer (some ⟨w.heap.size, 0, none⟩), .pointer (some ⟨P, 0, none⟩), .pointer (some ⟨Q, 0, none⟩)]] W fun e w' => (∃ best ok, ShIs (shortest l (keyAt l k (byteN kk)) l.length) best ok ∧ e = .returned (.tuple #[best, ok])) ∧ Below W.heap.size W w') := fun W bb =>
            shorts_any W H v G l (HK.out.below (HFP.out.below bb).bel) _ _ _ k _ (HFP.out.below bb).bx hlt cb HZ.out
          have HPB : Hid (∀ W, Below wr.heap.size wr W → W.cell? ⟨w.heap.size, 0, none⟩ = some (.pointer (some ⟨H, 0, none⟩))) := fun W bb => (HFP.out.below bb).bx.h
          unfold favOne at hstep
          clear hLN hv hFP KW HOKK
          generalize hbk : byteN kk = bk at *
          have HBK : Hid (byteN kk = bk) := hbk
          generalize hbk1 : byteN (kk + 1) = bk1 at hb2 HNX
          have HBK1 : Hid (byteN (kk + 1) = bk1) := hbk1
          clear hbk hbk1
          cases hany : (favBits l k kk (favPlaces l k)).any (keyAt l k bk) with
          | true =>
            rw [hany] at H1
            rw [hany, if_pos rfl] at hstep
            have HST : Hid (favBits l k (kk + 1) (favPlaces l k) = favBits l k kk (favPlaces l k)) := hstep
            clear hstep
            go_wp2_with fail
            refine H1.out.mono ?_
            rintro e w1 ⟨rfl, B1⟩
            have HB1 : Hid (Below wr.heap.size wr w1) := B1
            have hq1 := HQ'.out w1 B1
            clear B1
            go_wp2_with fail
            go_roundg (8 - (kk + 1))
            case measure => omega
            case rel => exact ⟨kk + 1, w1.heap.size, by omega, by omega, rfl, by rw [HST.out, HBK1.out]; exact HNX.out w1 _ (HFP.out.below HB1.out)⟩
          | false =>
            rw [hany] at H1
            rw [hany, if_neg (by decide)] at hstep
            have HST : Hid (favBits l k (kk + 1) (favPlaces l k) = match shortest l (keyAt l k bk) l.length with | none => favBits l k kk (favPlaces l k) | some n => favBits l k kk (favPlaces l k) ++ [n]) := hstep
            clear hstep
            go_wp2_with fail
            refine H1.out.mono ?_
            rintro e w1 ⟨rfl, B1⟩
            have HB1 : Hid (Below wr.heap.size wr w1) := B1
            have hq1 := HQ'.out w1 B1
            have hb1' := HPB.out w1 B1
            have H2 : Hid (Calls Tryz.prog 81 #[.pointer (some ⟨H, 0, none⟩), .func (.func 78) #[] #[.pointer (some ⟨w.heap.size, 0, none⟩), .pointer (some ⟨P, 0, none⟩), .pointer (some ⟨Q, 0, none⟩)]] w1 fun e w' => (∃ best ok, ShIs (shortest l (keyAt l k bk) l.length) best ok ∧ e = .returned (.tuple #[best, ok])) ∧ Below w1.heap.size w1 w') := HSC.out w1 B1
            clear B1 H1
            go_wp2_with fail
            refine H2.out.mono ?_
            rintro e w2 ⟨⟨best, ok, hsh, rfl⟩, B2⟩
            have HB2 : Hid (Below wr.heap.size wr w2) := HB1.out.trans (B2.mono HB1.out.size)
            have hq2 := HQ'.out w2 HB2.out
            clear B2 H2
            rcases hsh with ⟨ho, rfl, rfl⟩ | ⟨n, ho, rfl, rfl⟩
            · rw [ho] at HST
              go_wp2_with fail
              go_roundg (8 - (kk + 1))
              case measure => omega
              case rel => exact ⟨kk + 1, w2.heap.size, by omega, by omega, rfl, by rw [HST.out, HBK1.out]; exact HNX.out w2 _ (HFP.out.below HB2.out)⟩
            · rw [ho] at HST
              have hlow := HL.out.1.lo
              have H3 : Hid (Calls Tryz.prog 82 #[.pointer (some ⟨w.heap.size + 1, 0, none⟩), .int .i64 (n : Nat)] w2 fun e w' => e = .returned (.tuple #[]) ∧ LNTo w2 w.heap.size (w.heap.size + 1) vl (favBits l k kk (favPlaces l k)) n w') :=
                lnAdd_any w2 _ _ vl _ (HL.out.1.below HB2.out) (by have := HB2.out.size; omega) HNK.out n
              go_wp2_with fail
              refine H3.out.mono ?_
              rintro e w3 ⟨rfl, t3⟩
              have f3 := (HFP.out.below HB2.out).added HL.out.2 t3 hlow
              have HF3 : Hid (FP w w3 H (favBits l k kk (favPlaces l k) ++ [n]) P k Q bk) := f3
              have hq3 := f3.bx.q
              clear t3 f3 H3
              go_wp2_with fail
              go_roundg (8 - (kk + 1))
              case measure => omega
              case rel => exact ⟨kk + 1, w3.heap.size, by omega, by omega, rfl, by rw [HST.out, HBK1.out]; exact HNX.out w3 _ HF3.out⟩
        · obtain rfl : kk = 8 := by omega
          have hq : wr.cell? ⟨Q, 0, none⟩ = some (.int .u8 0) := hFP.bx.q
          have HFS : Hid (FS w wr H (favPlaces l (k + 1))) := hFP.fs
          clear hFP
          go_wp2_with fail
          go_roundw
          case rel => exact ⟨k + 1, by omega, by go_num, HFS.out⟩
          case measure => simp [intOf]; omega
    · have hi1 : ¬ (k : Int) < 64 := by omega
      have hk64 : k = 64 := by omega
      have hF' : FS w wr H (chosenS l) := by rw [hk64] at hF; exact hF
      obtain ⟨vl, hLN, _⟩ := hF'.ln
      have hok := chosen_ok l
      have hcl : (chosenS l).length ≤ l.length := by
        have h3 := hok.nodup.length_le_of_subset (l₂ := List.range l.length) (fun x hx => List.mem_range.2 (hok.lt x hx))
        simpa using h3
      have H1 : Hid (Calls Tryz.prog 83 #[.pointer (some ⟨w.heap.size + 1, 0, none⟩)] wr fun e w' => (∃ v', e = .returned v' ∧ w'.ownsRow wr.heap.size 3 1 v' (chosenS l).length ((chosenS l).map fun n => .int .i64 ((n : Nat) : Int))) ∧ Below wr.heap.size wr w') := lnAll_any wr _ _ vl _ hLN (by omega)
      have HB : Hid (Below w.heap.size w wr) := hF'.bel
      have HLE : Hid ((chosenS l).length ≤ 1000000) := by show _ ≤ _; omega
      have HSF : Hid (∀ v1 w1, w1.ownsRow wr.heap.size 3 1 v1 (chosenS l).length ((chosenS l).map fun n => .int .i64 ((n : Nat) : Int)) → Calls Tryz.prog 84 #[v1] w1 fun e w' => e = .returned (.tuple #[]) ∧ w'.ownsRow wr.heap.size 3 1 v1 (favS l).length ((favS l).map fun n => .int .i64 ((n : Nat) : Int)) ∧ Below wr.heap.size w1 w') := fun v1 w1 hr => by
        have := sort_own w1 wr.heap.size v1 ((chosenS l).map fun n => ((n : Nat) : Int)) (by rw [List.length_map, List.map_map]; exact hr) (by rw [List.length_map]; exact HLE.out)
        rw [sort_fav, List.length_map, List.map_map, ← (fav_perm l).length_eq] at this
        exact this
      clear hF hF' hLN hok hcl hk64
      go_wp2_with fail
      refine H1.out.mono ?_
      rintro e w1 ⟨⟨v1, rfl, hr1⟩, B1⟩
      have hf1 := own_form0 hr1
      have HS : Hid (Calls Tryz.prog 84 #[v1] w1 fun e w' => e = .returned (.tuple #[]) ∧ w'.ownsRow wr.heap.size 3 1 v1 (favS l).length ((favS l).map fun n => .int .i64 ((n : Nat) : Int)) ∧ Below wr.heap.size w1 w') := HSF.out v1 w1 hr1
      have HB1 : Hid (Below wr.heap.size wr w1) := B1
      clear hr1 B1 H1
      have HS' : Hid (Calls Tryz.prog 84 #[v1] w1 fun e w' => e = .returned (.tuple #[]) ∧ Hid (w'.ownsRow w.heap.size 3 1 v1 (favS l).length ((favS l).map fun n => .int .i64 ((n : Nat) : Int)) ∧ Below w.heap.size w w')) := HS.out.mono fun e w' ⟨a, b, c⟩ => ⟨a, own_base b HB.out.size, HB.out.trans ((HB1.out.trans c).mono HB.out.size)⟩
      clear HS
      rcases hf1 with ⟨rfl, h0⟩ | ⟨b', cap', rfl, _⟩
      all_goals
        go_wp2_with fail
        refine HS'.out.mono ?_
        rintro e w2 ⟨rfl, HR⟩
        go_wp2_with fail
        go_ret
        exact ⟨⟨_, rfl, HR.out.1⟩, HR.out.2⟩
end Go.Proofs.YtflenkppcclclaaGreatDoor

