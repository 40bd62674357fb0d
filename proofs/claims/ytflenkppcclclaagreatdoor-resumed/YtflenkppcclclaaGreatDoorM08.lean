import Derived.Test.YtflenkppcclclaaGreatDoorM07
import Derived.Test.YtflenkppcclclaaGreatDoorM00
namespace Go.Proofs.YtflenkppcclclaaGreatDoor
open Go.RowKit

/-- How many of the first k are true. -/
def cntB (f : Nat → Bool) : Nat → Nat
  | 0 => 0
  | k + 1 => cntB f k + if f k then 1 else 0
theorem cntB_le (f : Nat → Bool) : ∀ k, cntB f k ≤ k
  | 0 => Nat.le_refl _
  | k + 1 => by have := cntB_le f k; unfold cntB; split <;> omega

set_option maxHeartbeats 400000 in
theorem number_any (w : World) (G L : Nat) (f : Nat → Bool) (hh : w.heap[G]? = some (.cells (bl L f).toArray 4 (0, 0))) (hL : L ≤ 1000) :
    Calls Tryz.prog 92 #[.slice (some ⟨G, 0, none⟩) L L] w fun e w' => e = .returned (.int .i64 (cntB f L)) ∧ w' = w := by
  have hc : ∀ k, k < L → w.cell? ⟨G, k, none⟩ = some (.bool (f k)) := fun k hk => by
    rw [cell_of_row w G _ _ _ _ hh, List.getElem?_toArray]; exact bl_get L _ _ hk
  clear hh
  go_enter Tryz.func92, Tryz.ntmps92
  go_wp2
  go_loop [3, 8] (fun n i => ∃ k : Nat, k ≤ L ∧ i = .int .i64 k ∧ n = .int .i64 (cntB f k)) (fun _ i => L - (intOf i).toNat)
  case atStart => exact ⟨0, by omega, rfl, rfl⟩
  case round =>
    obtain ⟨k, hk, rfl, rfl⟩ := hrel
    have hle := cntB_le f k
    by_cases hlt : k < L
    · have hck := hc k hlt
      have hi1 : (k : Int) < (L : Int) := by omega
      have HC : Hid (cntB f (k + 1) = cntB f k + if f k then 1 else 0) := rfl
      cases hf : f k
      all_goals
        rw [hf] at HC hck
        go_wp2
        go_round
        case rel => exact ⟨k + 1, by omega, by go_num, by rw [HC.out]; simp⟩
        case measure => simp [intOf]; omega
    · have e : k = L := by omega
      subst e
      go_wp2
      go_ret
      exact ⟨rfl, rfl⟩

def entB (f : Nat → Bool) (i : Nat) : Int := if f i then cntB f i else -1
def il (L : Nat) (f : Nat → Int) : List Value := (List.range L).map fun i => .int .i64 (f i)
theorem il_get (L : Nat) (f : Nat → Int) (i : Nat) (hi : i < L) : (il L f)[i]? = some (.int .i64 (f i)) := by simp [il, List.getElem?_range hi]
theorem il_len (L : Nat) (f : Nat → Int) : (il L f).length = L := by simp [il]
theorem il_set (L : Nat) (f g : Nat → Int) (p : Nat) (b : Int) (hg : ∀ i, i < L → g i = if i = p then b else f i) : (il L f).set p (.int .i64 b) = il L g := by
  apply List.ext_getElem?
  intro j
  by_cases hj : j < L
  · rw [List.getElem?_set, il_get L g j hj, hg j hj]
    by_cases e : p = j
    · subst e; rw [if_pos rfl, if_pos (by rw [il_len]; exact hj), if_pos rfl]
    · rw [if_neg e, il_get L f j hj, if_neg (fun c => e c.symm)]
  · rw [List.getElem?_eq_none (by simp [il_len]; omega), List.getElem?_eq_none (by rw [il_len]; omega)]
theorem il_none (L : Nat) : List.replicate L (Value.int .i64 0) = il L (fun _ => 0) := by
  apply List.ext_getElem?
  intro j
  by_cases hj : j < L
  · rw [il_get L _ j hj, List.getElem?_replicate, if_pos hj]
  · rw [List.getElem?_eq_none (by simp; omega), List.getElem?_eq_none (by rw [il_len]; omega)]
def entAt (f : Nat → Bool) (k i : Nat) : Int := if i < k then entB f i else 0

set_option maxHeartbeats 1000000 in
theorem blockEntries_any (w : World) (cb co L cap N : Nat) (c : Nat → Int) (V : VP c L N) (C : Laid w cb co L cap c) (hT : Tab w) :
    Calls Tryz.prog 76 #[.slice (some ⟨cb, co, none⟩) L cap] w fun e w' => e = .returned (.slice (some ⟨w.heap.size, 0, none⟩) L L) ∧ w'.heap[w.heap.size]? = some (.cells (il L (entAt (bgn c N) L)).toArray 3 (0, 0)) ∧ Below w.heap.size w w' := by
  have hmost := V.most
  obtain ⟨w1, hmk, hh1, hB1⟩ := made w 45 3 (.int .i64 0) 8 L Tryz.underlying45 Tryz.infoInt rfl (by omega) (by omega)
  rw [il_none] at hh1
  have hs1 : w.heap.size < w1.heap.size := (Array.getElem?_eq_some_iff.1 hh1).1
  have HH1 : Hid (w1.heap[w.heap.size]? = some (.cells (il L (fun _ => 0)).toArray 3 (0, 0))) := hh1
  clear hh1
  go_enter Tryz.func76, Tryz.ntmps76
  go_wp2_with fail
  refine (beginnings_any w1 cb co L cap N c V (C.below hB1) (hT.below hB1)).mono ?_
  rintro e w2 ⟨rfl, hg2, hB2⟩
  clear hmk
  go_wp2_with fail
  go_loopw [4, 13] (fun n i wr => ∃ k : Nat, k ≤ L ∧ i = .int .i64 k ∧ n = .int .i64 (cntB (bgn c N) k) ∧ wr.heap[w.heap.size]? = some (.cells (il L (entAt (bgn c N) k)).toArray 3 (0, 0)) ∧ wr.heap[w1.heap.size]? = some (.cells (bl L (bgn c N)).toArray 4 (0, 0)) ∧ Below w.heap.size w wr) (fun _ i _ => L - (intOf i).toNat)
  case atStart =>
    refine ⟨0, by omega, rfl, rfl, ?_, hg2, hB1.trans (hB2.mono hB1.size)⟩
    rw [hB2.block _ hs1, HH1.out]
    have : entAt (bgn c N) 0 = fun _ => 0 := by funext i; unfold entAt; rw [if_neg (by omega)]
    rw [this]
  case round =>
    obtain ⟨k, hk, rfl, rfl, hh, hg, hB⟩ := hrel
    have hle := cntB_le (bgn c N) k
    by_cases hlt : k < L
    · have hi1 : (k : Int) < (L : Int) := by omega
      have cg : wr.cell? ⟨w1.heap.size, k, none⟩ = some (.bool (bgn c N k)) := by
        rw [cell_of_row wr w1.heap.size _ _ _ _ hg, List.getElem?_toArray]; exact bl_get L _ _ hlt
      have ch : wr.cell? ⟨w.heap.size, k, none⟩ = some (.int .i64 (entAt (bgn c N) k k)) := by
        rw [cell_of_row wr w.heap.size _ _ _ _ hh, List.getElem?_toArray]; exact il_get L _ _ hlt
      have fh := frozen_of_row wr w.heap.size k _ _ hh
      have HC : Hid (cntB (bgn c N) (k + 1) = cntB (bgn c N) k + if bgn c N k then 1 else 0) := rfl
      have hha := row_set hh k (.int .i64 (-1)) (il_set L (entAt (bgn c N) k) (fun i => if i = k then -1 else entAt (bgn c N) k i) k (-1) (fun i _ => rfl))
      have hBa := hB.setCell (p := ⟨w.heap.size, k, none⟩) (Nat.le_refl _) (.int .i64 (-1))
      have hne : ¬ w1.heap.size = w.heap.size := by omega
      cases hf : bgn c N k with
      | false =>
        rw [hf] at HC cg
        have HR : Hid ((wr.setCell ⟨w.heap.size, k, none⟩ (.int .i64 (-1))).heap[w.heap.size]? = some (.cells (il L (entAt (bgn c N) (k + 1))).toArray 3 (0, 0)) ∧ (wr.setCell ⟨w.heap.size, k, none⟩ (.int .i64 (-1))).heap[w1.heap.size]? = some (.cells (bl L (bgn c N)).toArray 4 (0, 0))) := by
          refine ⟨?_, (heap_setCell_other _ ⟨w.heap.size, k, none⟩ _ _ hne).trans hg⟩
          refine row_set hh k _ (il_set L _ _ k (-1) (fun i _ => ?_))
          unfold entAt entB
          by_cases e : i = k
          · subst e; rw [if_pos (by omega), if_pos rfl, hf]; rfl
          · rw [if_neg e]
            by_cases e2 : i < k
            · rw [if_pos e2, if_pos (by omega)]
            · rw [if_neg e2, if_neg (by omega)]
        clear hh hg hha
        go_wp2
        go_roundw
        case rel => exact ⟨k + 1, by omega, by go_num, by rw [HC.out]; simp, HR.out.1, HR.out.2, hBa⟩
        case measure => simp [intOf]; omega
      | true =>
        rw [hf] at HC cg
        have hBb := hBa.setCell (p := ⟨w.heap.size, k, none⟩) (Nat.le_refl _) (.int .i64 (cntB (bgn c N) k))
        have HR : Hid (((wr.setCell ⟨w.heap.size, k, none⟩ (.int .i64 (-1))).setCell ⟨w.heap.size, k, none⟩ (.int .i64 (cntB (bgn c N) k))).heap[w.heap.size]? = some (.cells (il L (entAt (bgn c N) (k + 1))).toArray 3 (0, 0)) ∧ ((wr.setCell ⟨w.heap.size, k, none⟩ (.int .i64 (-1))).setCell ⟨w.heap.size, k, none⟩ (.int .i64 (cntB (bgn c N) k))).heap[w1.heap.size]? = some (.cells (bl L (bgn c N)).toArray 4 (0, 0))) := by
          refine ⟨?_, (heap_setCell_other _ ⟨w.heap.size, k, none⟩ _ _ hne).trans ((heap_setCell_other _ ⟨w.heap.size, k, none⟩ _ _ hne).trans hg)⟩
          refine row_set hha k _ (il_set L _ _ k _ (fun i _ => ?_))
          unfold entAt entB
          by_cases e : i = k
          · subst e; rw [if_pos (by omega), if_pos rfl, hf]; rfl
          · rw [if_neg e]
            show _ = if i = k then _ else _
            rw [if_neg e]
            by_cases e2 : i < k
            · rw [if_pos e2, if_pos (by omega)]
            · rw [if_neg e2, if_neg (by omega)]
        clear hh hg hha
        go_wp2
        go_roundw
        case rel => exact ⟨k + 1, by omega, by go_num, by rw [HC.out]; simp, HR.out.1, HR.out.2, hBb⟩
        case measure => simp [intOf]; omega
    · have e : k = L := by omega
      subst e
      go_wp2
      go_ret
      exact ⟨rfl, hh, hB⟩

theorem entries_any (w : World) (cb co L cap N : Nat) (c : Nat → Int) (V : VP c L N) (C : Laid w cb co L cap c) (hT : Tab w) :
    Calls Tryz.prog 37 #[.slice (some ⟨cb, co, none⟩) L cap] w fun e w' => ∃ g, w.heap.size ≤ g ∧ e = .returned (.slice (some ⟨g, 0, none⟩) L L) ∧ w'.heap[g]? = some (.cells (il L (entAt (bgn c N) L)).toArray 3 (0, 0)) ∧ Below w.heap.size w w' := by
  go_enter Tryz.func37, Tryz.ntmps37
  go_wp2_with fail
  refine (hasProbe_no w cb co L cap N c V C hT).mono ?_
  rintro e w1 ⟨rfl, hB1⟩
  go_wp2_with fail
  refine (blockEntries_any w1 cb co L cap N c V (C.below hB1) (hT.below hB1)).mono ?_
  rintro e w2 ⟨rfl, hg2, hB2⟩
  go_wp2
  go_ret
  exact ⟨_, hB1.size, rfl, hg2, hB1.trans (hB2.mono hB1.size)⟩
end Go.Proofs.YtflenkppcclclaaGreatDoor

namespace Go.Proofs.YtflenkppcclclaaGreatDoor
open Go.RowKit

/-- A writer lies in block W: what it has written, and from where; both rows are its own. -/
structure WR (base W : Nat) (w : World) (vc vf : Value) (cs fs : List Int) : Prop where
  c0 : w.cell? ⟨W, 0, none⟩ = some vc
  c1 : w.cell? ⟨W, 1, none⟩ = some vf
  thaw : ∀ j, w.frozen? ⟨W, j, none⟩ = false
  own1 : w.ownsRow base 5 1 vc cs.length (cs.map (Value.int .u8))
  own2 : w.ownsRow base 3 1 vf fs.length (fs.map (Value.int .i64))
  apart : vc.ownBlock = none ∨ vc.ownBlock ≠ vf.ownBlock
  lt : W < base
  le : base ≤ w.heap.size

theorem WR.alloc {base W : Nat} {w : World} {vc vf : Value} {cs fs : List Int} (h : WR base W w vc vf cs fs) (o : Obj) : WR base W (w.alloc o) vc vf cs fs where
  c0 := (World.cell?_alloc_past _ _ _ (Nat.lt_of_lt_of_le h.lt h.le)).trans h.c0
  c1 := (World.cell?_alloc_past _ _ _ (Nat.lt_of_lt_of_le h.lt h.le)).trans h.c1
  thaw := fun j => by rw [World.frozen?_of_block (w := w) (a := ⟨W, j, none⟩) (Below.heap_alloc w o W (Nat.lt_of_lt_of_le h.lt h.le))]; exact h.thaw j
  own1 := h.own1.alloc o
  own2 := h.own2.alloc o
  apart := h.apart
  lt := h.lt
  le := by have := h.le; simp; omega

theorem WR.pushC {base W : Nat} {w w1 : World} {vc vf v' : Value} {cs fs : List Int} (h : WR base W w vc vf cs fs) (ns : List Int) (hg : w.grownBy w1 vc.ownBlock)
    (ho : w1.ownsRow base 5 1 v' (cs.length + ns.length) (cs.map (Value.int .u8) ++ ns.map (Value.int .u8))) (hat : v'.ownBlock = vc.ownBlock ∨ v'.ownBlock = some w.heap.size) :
    WR base W (w1.setCell ⟨W, 0, none⟩ v') v' vf (cs ++ ns) fs where
  c0 := World.cell?_setCell_same _ _ _ (hg.cell (a := ⟨W, 0, none⟩) h.c0 (own_ne h.own1 h.lt))
  c1 := by
    rw [World.cell?_setCell_other _ _ _ _ (fun c => by injection c with _ c2 _; omega)]
    exact hg.cell (a := ⟨W, 1, none⟩) h.c1 (own_ne h.own1 h.lt)
  thaw := fun j => by rw [World.frozen?_setCell, World.frozen?_of_block (w := w) (a := ⟨W, j, none⟩) (hg.block W (Nat.lt_of_lt_of_le h.lt h.le) (own_ne h.own1 h.lt))]; exact h.thaw j
  own1 := by
    have := own_set_below ho W 0 h.lt v'
    simpa using this
  own2 := own_set_below (own_kept h.own2 hg h.apart) W 0 h.lt v'
  apart := by
    rcases hat with e | e
    · rw [e]; exact h.apart
    · right; rw [e]; intro c; have := (h.own2.lt _ c.symm).2; omega
  lt := h.lt
  le := by have := hg.size; have := h.le; simp; omega

theorem WR.pushF {base W : Nat} {w w1 : World} {vc vf v' : Value} {cs fs : List Int} (h : WR base W w vc vf cs fs) (ns : List Int) (hg : w.grownBy w1 vf.ownBlock)
    (ho : w1.ownsRow base 3 1 v' (fs.length + ns.length) (fs.map (Value.int .i64) ++ ns.map (Value.int .i64))) (hat : v'.ownBlock = vf.ownBlock ∨ v'.ownBlock = some w.heap.size) :
    WR base W (w1.setCell ⟨W, 1, none⟩ v') vc v' cs (fs ++ ns) where
  c0 := by
    rw [World.cell?_setCell_other _ _ _ _ (fun c => by injection c with _ c2 _; omega)]
    exact hg.cell (a := ⟨W, 0, none⟩) h.c0 (own_ne h.own2 h.lt)
  c1 := World.cell?_setCell_same _ _ _ (hg.cell (a := ⟨W, 1, none⟩) h.c1 (own_ne h.own2 h.lt))
  thaw := fun j => by rw [World.frozen?_setCell, World.frozen?_of_block (w := w) (a := ⟨W, j, none⟩) (hg.block W (Nat.lt_of_lt_of_le h.lt h.le) (own_ne h.own2 h.lt))]; exact h.thaw j
  own1 := by
    refine own_set_below (h.own1.kept hg ?_) W 1 h.lt v'
    rcases h.apart with ha | ha
    · exact .inl ha
    · exact .inr ha
  own2 := by
    have := own_set_below ho W 1 h.lt v'
    simpa using this
  apart := by
    rcases hat with e | e
    · rw [e]; exact h.apart
    · cases hv : vc.ownBlock with
      | none => exact .inl rfl
      | some k => right; rw [e]; intro c; have := (h.own1.lt k hv).2; injection c with c; omega
  lt := h.lt
  le := by have := hg.size; have := h.le; simp; omega

/-- What is to be written lies in memory, apart from the writer's own. -/
structure Given (w : World) (W : Nat) (vc vf : Value) (ab ao : Nat) (xs : List Int) : Prop where
  cell : ∀ (j : Nat) (x : Int), xs[j]? = some x → w.cell? ⟨ab, ao + j, none⟩ = some (.int .u8 x)
  lt : ab < w.heap.size
  n1 : some ab ≠ vc.ownBlock
  n2 : some ab ≠ vf.ownBlock
  n3 : ab ≠ W

/-- Two appends of one element each: what the loops of 'add' and 'bring' do in a round. -/
theorem own_len {w : World} {base : Nat} {e : TypeId} {size : Nat} {v : Value} {n : Nat} {xs : List Value} (h : w.ownsRow base e size v n xs) : ∃ ao cap, v = .slice ao n cap := by
  rcases h.2 with ⟨e, h0⟩ | ⟨g, cap, cur, hv, _⟩
  · exact ⟨none, 0, by rw [h0]; exact e⟩
  · exact ⟨_, _, hv⟩
theorem Given.alloc {w : World} {W : Nat} {vc vf : Value} {ab ao : Nat} {xs : List Int} (h : Given w W vc vf ab ao xs) (o : Obj) : Given (w.alloc o) W vc vf ab ao xs :=
  ⟨fun j x hx => (World.cell?_alloc_past _ _ _ h.lt).trans (h.cell j x hx), by have := h.lt; simp; omega, h.n1, h.n2, h.n3⟩
theorem Given.pushC {w w1 : World} {W : Nat} {vc vf v' : Value} {ab ao : Nat} {xs : List Int} (h : Given w W vc vf ab ao xs) (hg : w.grownBy w1 vc.ownBlock) (hat : v'.ownBlock = vc.ownBlock ∨ v'.ownBlock = some w.heap.size) (i : Nat) (u : Value) : Given (w1.setCell ⟨W, i, none⟩ u) W v' vf ab ao xs where
  cell := fun j x hx => by
    rw [World.cell?_setCell_other _ _ _ _ (fun c => h.n3 (by injection c with c1 _ _; exact c1.symm))]
    exact hg.cell (a := ⟨ab, ao + j, none⟩) (h.cell j x hx) (by exact h.n1)
  lt := by have := h.lt; have := hg.size; simp; omega
  n1 := by
    rcases hat with e | e
    · rw [e]; exact h.n1
    · rw [e]; intro c; injection c with c; have := h.lt; omega
  n2 := h.n2
  n3 := h.n3
theorem Given.pushF {w w1 : World} {W : Nat} {vc vf v' : Value} {ab ao : Nat} {xs : List Int} (h : Given w W vc vf ab ao xs) (hg : w.grownBy w1 vf.ownBlock) (hat : v'.ownBlock = vf.ownBlock ∨ v'.ownBlock = some w.heap.size) (i : Nat) (u : Value) : Given (w1.setCell ⟨W, i, none⟩ u) W vc v' ab ao xs where
  cell := fun j x hx => by
    rw [World.cell?_setCell_other _ _ _ _ (fun c => h.n3 (by injection c with c1 _ _; exact c1.symm))]
    exact hg.cell (a := ⟨ab, ao + j, none⟩) (h.cell j x hx) (by exact h.n2)
  lt := by have := h.lt; have := hg.size; simp; omega
  n1 := h.n1
  n2 := by
    rcases hat with e | e
    · rw [e]; exact h.n2
    · rw [e]; intro c; injection c with c; have := h.lt; omega
  n3 := h.n3

theorem cell_one_set (w : World) (p : Addr) (u x : Value) (t : TypeId) : ∀ (j : Nat) (v : Value), [x][j]? = some v → ((w.setCell p u).alloc (.cells #[x] t)).cell? (Addr.add ⟨w.heap.size, 0, none⟩ j) = some v := by
  intro j v h
  have h2 := cell_one_new (w.setCell p u) x t j v h
  have e : (w.setCell p u).heap.size = w.heap.size := by simp
  rw [e] at h2
  exact h2

theorem take_succ {xs : List Int} {k : Nat} (h : k < xs.length) : xs.take (k + 1) = xs.take k ++ [xs[k]] := by rw [List.take_add_one, List.getElem?_eq_getElem h]; rfl

set_option maxHeartbeats 1000000 in
theorem add_any (base W : Nat) (w : World) (vc vf : Value) (cs fs : List Int) (ab ao n cap : Nat) (xs : List Int) (h : WR base W w vc vf cs fs) (hn : xs.length = n) (G : Given w W vc vf ab ao xs) (hb : cs.length + n ≤ 1000) (hb2 : fs.length + n ≤ 1000) (hcap : n ≤ cap) :
    Calls Tryz.prog 198 #[.pointer (some ⟨W, 0, none⟩), .slice (some ⟨ab, ao, none⟩) n cap] w fun e w' => e = .returned (.tuple #[]) ∧ (∃ vc' vf', WR base W w' vc' vf' (cs ++ xs) (fs ++ List.replicate n (-1 : Int))) ∧ Kept base W w w' := by
  obtain ⟨i, hi, hz0, hz1, hz2⟩ := info_parts Tryz.infoU8
  obtain ⟨i', hi', hz0', hz1', hz2'⟩ := info_parts Tryz.infoInt
  go_enter Tryz.func198, Tryz.ntmps198
  go_wp2
  go_loopw [8] (fun ii wr => ∃ k : Nat, k ≤ n ∧ ii = .int .i64 k ∧ Kept base W w wr ∧ ∃ vc' vf', WR base W wr vc' vf' (cs ++ xs.take k) (fs ++ List.replicate k (-1 : Int)) ∧ Given wr W vc' vf' ab ao xs) (fun ii _ => n - (intOf ii).toNat)
  case atStart => exact ⟨0, by omega, rfl, Kept.refl _ _ _, vc, vf, by rw [List.take_zero, List.append_nil, show List.replicate 0 (-1 : Int) = [] from rfl, List.append_nil]; exact h, G⟩
  case round =>
    obtain ⟨k, hk, rfl, hK, vc', vf', hR, hG⟩ := hrel
    by_cases hlt : k < n
    · have hkl : k < xs.length := by omega
      obtain ⟨x, hx⟩ : ∃ x, xs[k] = x := ⟨_, rfl⟩
      have hck := hG.cell k x (by rw [List.getElem?_eq_getElem hkl, hx])
      have hi1 : (k : Int) < (n : Int) := by omega
      have hlc : (cs ++ xs.take k).length = cs.length + k := by simp; omega
      have hlf : (fs ++ List.replicate k (-1 : Int)).length = fs.length + k := by simp
      have HTK : Hid (cs ++ xs.take (k + 1) = (cs ++ xs.take k) ++ [x]) := by show cs ++ xs.take (k + 1) = _; rw [take_succ hkl, hx, List.append_assoc]
      have HFK : Hid (fs ++ List.replicate (k + 1) (-1 : Int) = (fs ++ List.replicate k (-1 : Int)) ++ [(-1)]) := by show fs ++ _ = _; rw [List.replicate_succ', List.append_assoc]
      obtain ⟨ck, hck0⟩ : ∃ l, cs ++ xs.take k = l := ⟨_, rfl⟩
      obtain ⟨fk, hfk0⟩ : ∃ l, fs ++ List.replicate k (-1 : Int) = l := ⟨_, rfl⟩
      rw [hck0] at hlc HTK hR
      rw [hfk0] at hlf HFK hR
      clear hck0 hfk0
      have hlc2 : ck.length + 1 ≤ 1000 := by omega
      have hlf2 : fk.length + 1 ≤ 1000 := by omega
      clear hlc hlf
      have HK : Hid (Kept base W w wr) := hK
      have HR : Hid (WR base W wr vc' vf' ck fk) := hR
      have HG : Hid (Given wr W vc' vf' ab ao xs) := hG
      have c0 := hR.c0
      have f0 := hR.thaw 0
      clear hK hR hG hx
      go_wp2_with (at_builtin; refine wpList_append_own_at _ rfl (.tmp 16) (.tmp 18) 25 rfl base 5 i (.int .u8 0) 1 1 Tryz.underlying25 hi hz0 hz1 hz2 rfl (by decide) _ _ _ rfl (HR.out.own1.alloc _) ⟨_, 0, none⟩ 1 1 [.int .u8 x] rfl rfl (cell_one_new _ _ _) ?c2 (by unfold maxLen; omega) (by omega) (by have := HR.out.le; simp; omega) ?_)
      case c2 => intro u hu; simp at hu; subst hu; rfl
      intro v1 w1 hown1 hgrow1 _ hat1
      have R0 := HR.out.alloc (.cells #[.int .u8 x] 5)
      have R1 := R0.pushC [x] hgrow1 hown1 (by simpa using hat1)
      have G1 := (HG.out.alloc (.cells #[.int .u8 x] 5)).pushC hgrow1 (by simpa using hat1) 0 v1
      have K1 := (HK.out.trans (Kept.alloc (M := W) wr HR.out.le (.cells #[.int .u8 x] 5))).trans ((kept_grown (M := W) R0.own1 R0.le hgrow1).trans (Kept.set base W w1 0 v1))
      have hne1 : some W ≠ vc'.ownBlock := own_ne R0.own1 R0.lt
      have hv1 : w1.cell? ⟨W, 0, none⟩ = some vc' := hgrow1.cell (a := ⟨W, 0, none⟩) R0.c0 hne1
      have hf1 : w1.frozen? ⟨W, 0, none⟩ = false := by
        rw [World.frozen?_of_block (w := wr.alloc (.cells #[.int .u8 x] 5)) (a := ⟨W, 0, none⟩) (hgrow1.block W (Nat.lt_of_lt_of_le R0.lt R0.le) hne1)]
        exact R0.thaw 0
      obtain ⟨g', cap', hv'⟩ := own_form hown1 (by omega)
      rw [hv'] at R1 K1 G1 ⊢
      have HR1 : Hid _ := R1
      have HG1 : Hid _ := G1
      have HK1 : Hid _ := K1
      have c1 := R1.c1
      have f1 := R1.thaw 1
      clear hown1 hgrow1 hat1 R1 G1 K1 HR HG HK R0
      go_wp2_with (at_builtin; refine wpList_append_own_at _ rfl (.tmp 26) (.tmp 27) 45 rfl base 3 i' (.int .i64 0) 1 8 Tryz.underlying45 hi' hz0' hz1' hz2' rfl (by decide) _ _ _ rfl (HR1.out.own2.alloc _) ⟨_, 0, none⟩ 1 1 [.int .i64 (-1)] rfl rfl (cell_one_set _ _ _ _ _) ?c2 (by unfold maxLen; omega) (by omega) (by have := HR1.out.le; simp at this ⊢; omega) ?_)
      case c2 => intro u hu; simp at hu; subst hu; rfl
      intro v2 w2 hown2 hgrow2 _ hat2
      have R0 := HR1.out.alloc (.cells #[.int .i64 (-1)] 3)
      have R2 := R0.pushF [(-1)] hgrow2 hown2 (by simpa using hat2)
      have G2 := (HG1.out.alloc (.cells #[.int .i64 (-1)] 3)).pushF hgrow2 (by simpa using hat2) 1 v2
      have K2 := (HK1.out.trans (Kept.alloc (M := W) _ HR1.out.le (.cells #[.int .i64 (-1)] 3))).trans ((kept_grown (M := W) R0.own2 R0.le hgrow2).trans (Kept.set base W w2 1 v2))
      have hne2 : some W ≠ vf'.ownBlock := own_ne R0.own2 R0.lt
      have hv2 : w2.cell? ⟨W, 1, none⟩ = some vf' := hgrow2.cell (a := ⟨W, 1, none⟩) R0.c1 hne2
      have hf2 : w2.frozen? ⟨W, 1, none⟩ = false := by
        rw [World.frozen?_of_block (w := World.alloc _ (.cells #[.int .i64 (-1)] 3)) (a := ⟨W, 1, none⟩) (hgrow2.block W (Nat.lt_of_lt_of_le R0.lt R0.le) hne2)]
        exact R0.thaw 1
      obtain ⟨g'', cap'', hv''⟩ := own_form hown2 (by omega)
      rw [hv''] at R2 K2 G2 ⊢
      have HR2 : Hid _ := R2
      have HG2 : Hid _ := G2
      have HK2 : Hid _ := K2
      clear hown2 hgrow2 hat2 R2 G2 K2 HR1 HG1 HK1 R0
      go_wp2
      go_roundw
      case rel =>
        refine ⟨k + 1, by omega, by go_num, HK2.out, _, _, ?_, HG2.out⟩
        rw [HTK.out, HFK.out]
        exact HR2.out
      case measure => simp [intOf]; omega
    · have e : k = n := by omega
      subst e
      have HT : Hid (xs.take k = xs) := by show xs.take k = xs; rw [← hn]; exact List.take_length
      go_wp2
      go_end0
      exact ⟨rfl, ⟨_, _, by rw [HT.out] at hR; exact hR⟩, hK⟩

def froms (p n : Nat) : List Int := (List.range n).map fun (j : Nat) => (p : Int) + (j : Int)
theorem froms_succ {p n : Nat} : froms p (n + 1) = froms p n ++ [(p : Int) + (n : Int)] := by unfold froms; rw [List.range_succ, List.map_append]; rfl
theorem froms_len (p n : Nat) : (froms p n).length = n := by unfold froms; simp

set_option maxHeartbeats 1000000 in
theorem bring_any (base W : Nat) (w : World) (vc vf : Value) (cs fs : List Int) (ab ao n cap : Nat) (xs : List Int) (p : Nat) (hp : p ≤ 1000) (h : WR base W w vc vf cs fs) (hn : xs.length = n) (G : Given w W vc vf ab ao xs) (hb : cs.length + n ≤ 1000) (hb2 : fs.length + n ≤ 1000) (hcap : n ≤ cap) :
    Calls Tryz.prog 199 #[.pointer (some ⟨W, 0, none⟩), .int .i64 (p : Int), .slice (some ⟨ab, ao, none⟩) n cap] w fun e w' => e = .returned (.tuple #[]) ∧ (∃ vc' vf', WR base W w' vc' vf' (cs ++ xs) (fs ++ froms p n)) ∧ Kept base W w w' := by
  obtain ⟨i, hi, hz0, hz1, hz2⟩ := info_parts Tryz.infoU8
  obtain ⟨i', hi', hz0', hz1', hz2'⟩ := info_parts Tryz.infoInt
  go_enter Tryz.func199, Tryz.ntmps199
  go_wp2
  go_loopw [10] (fun ii wr => ∃ k : Nat, k ≤ n ∧ ii = .int .i64 k ∧ Kept base W w wr ∧ ∃ vc' vf', WR base W wr vc' vf' (cs ++ xs.take k) (fs ++ froms p k) ∧ Given wr W vc' vf' ab ao xs) (fun ii _ => n - (intOf ii).toNat)
  case atStart => exact ⟨0, by omega, rfl, Kept.refl _ _ _, vc, vf, by rw [List.take_zero, List.append_nil, show froms p 0 = [] from rfl, List.append_nil]; exact h, G⟩
  case round =>
    obtain ⟨k, hk, rfl, hK, vc', vf', hR, hG⟩ := hrel
    by_cases hlt : k < n
    · have hkl : k < xs.length := by omega
      obtain ⟨x, hx⟩ : ∃ x, xs[k] = x := ⟨_, rfl⟩
      have hck := hG.cell k x (by rw [List.getElem?_eq_getElem hkl, hx])
      have hi1 : (k : Int) < (n : Int) := by omega
      have hlc : (cs ++ xs.take k).length = cs.length + k := by simp; omega
      have hlf : (fs ++ froms p k).length = fs.length + k := by rw [List.length_append, froms_len]
      have HTK : Hid (cs ++ xs.take (k + 1) = (cs ++ xs.take k) ++ [x]) := by show cs ++ xs.take (k + 1) = _; rw [take_succ hkl, hx, List.append_assoc]
      have HFK : Hid (fs ++ froms p (k + 1) = (fs ++ froms p k) ++ [((p : Int) + (k : Int))]) := by show fs ++ _ = _; rw [froms_succ, List.append_assoc]
      obtain ⟨ck, hck0⟩ : ∃ l, cs ++ xs.take k = l := ⟨_, rfl⟩
      obtain ⟨fk, hfk0⟩ : ∃ l, fs ++ froms p k = l := ⟨_, rfl⟩
      rw [hck0] at hlc HTK hR
      rw [hfk0] at hlf HFK hR
      clear hck0 hfk0
      have hlc2 : ck.length + 1 ≤ 1000 := by omega
      have hlf2 : fk.length + 1 ≤ 1000 := by omega
      clear hlc hlf
      have HK : Hid (Kept base W w wr) := hK
      have HR : Hid (WR base W wr vc' vf' ck fk) := hR
      have HG : Hid (Given wr W vc' vf' ab ao xs) := hG
      have c0 := hR.c0
      have f0 := hR.thaw 0
      clear hK hR hG hx
      go_wp2_with (at_builtin; refine wpList_append_own_at _ rfl (.tmp 19) (.tmp 21) 25 rfl base 5 i (.int .u8 0) 1 1 Tryz.underlying25 hi hz0 hz1 hz2 rfl (by decide) _ _ _ rfl (HR.out.own1.alloc _) ⟨_, 0, none⟩ 1 1 [.int .u8 x] rfl rfl (cell_one_new _ _ _) ?c2 (by unfold maxLen; omega) (by omega) (by have := HR.out.le; simp; omega) ?_)
      case c2 => intro u hu; simp at hu; subst hu; rfl
      intro v1 w1 hown1 hgrow1 _ hat1
      have R0 := HR.out.alloc (.cells #[.int .u8 x] 5)
      have R1 := R0.pushC [x] hgrow1 hown1 (by simpa using hat1)
      have G1 := (HG.out.alloc (.cells #[.int .u8 x] 5)).pushC hgrow1 (by simpa using hat1) 0 v1
      have K1 := (HK.out.trans (Kept.alloc (M := W) wr HR.out.le (.cells #[.int .u8 x] 5))).trans ((kept_grown (M := W) R0.own1 R0.le hgrow1).trans (Kept.set base W w1 0 v1))
      have hne1 : some W ≠ vc'.ownBlock := own_ne R0.own1 R0.lt
      have hv1 : w1.cell? ⟨W, 0, none⟩ = some vc' := hgrow1.cell (a := ⟨W, 0, none⟩) R0.c0 hne1
      have hf1 : w1.frozen? ⟨W, 0, none⟩ = false := by
        rw [World.frozen?_of_block (w := wr.alloc (.cells #[.int .u8 x] 5)) (a := ⟨W, 0, none⟩) (hgrow1.block W (Nat.lt_of_lt_of_le R0.lt R0.le) hne1)]
        exact R0.thaw 0
      obtain ⟨g', cap', hv'⟩ := own_form hown1 (by omega)
      rw [hv'] at R1 K1 G1 ⊢
      have HR1 : Hid _ := R1
      have HG1 : Hid _ := G1
      have HK1 : Hid _ := K1
      have c1 := R1.c1
      have f1 := R1.thaw 1
      clear hown1 hgrow1 hat1 R1 G1 K1 HR HG HK R0
      go_wp2_with (at_builtin; refine wpList_append_own_at _ rfl (.tmp 29) (.tmp 33) 45 rfl base 3 i' (.int .i64 0) 1 8 Tryz.underlying45 hi' hz0' hz1' hz2' rfl (by decide) _ _ _ rfl (HR1.out.own2.alloc _) ⟨_, 0, none⟩ 1 1 [.int .i64 ((p : Int) + (k : Int))] rfl rfl (cell_one_set _ _ _ _ _) ?c2 (by unfold maxLen; omega) (by omega) (by have := HR1.out.le; simp at this ⊢; omega) ?_)
      case c2 => intro u hu; simp at hu; subst hu; rfl
      intro v2 w2 hown2 hgrow2 _ hat2
      have R0 := HR1.out.alloc (.cells #[.int .i64 ((p : Int) + (k : Int))] 3)
      have R2 := R0.pushF [((p : Int) + (k : Int))] hgrow2 hown2 (by simpa using hat2)
      have G2 := (HG1.out.alloc (.cells #[.int .i64 ((p : Int) + (k : Int))] 3)).pushF hgrow2 (by simpa using hat2) 1 v2
      have K2 := (HK1.out.trans (Kept.alloc (M := W) _ HR1.out.le (.cells #[.int .i64 ((p : Int) + (k : Int))] 3))).trans ((kept_grown (M := W) R0.own2 R0.le hgrow2).trans (Kept.set base W w2 1 v2))
      have hne2 : some W ≠ vf'.ownBlock := own_ne R0.own2 R0.lt
      have hv2 : w2.cell? ⟨W, 1, none⟩ = some vf' := hgrow2.cell (a := ⟨W, 1, none⟩) R0.c1 hne2
      have hf2 : w2.frozen? ⟨W, 1, none⟩ = false := by
        rw [World.frozen?_of_block (w := World.alloc _ (.cells #[.int .i64 ((p : Int) + (k : Int))] 3)) (a := ⟨W, 1, none⟩) (hgrow2.block W (Nat.lt_of_lt_of_le R0.lt R0.le) hne2)]
        exact R0.thaw 1
      obtain ⟨g'', cap'', hv''⟩ := own_form hown2 (by omega)
      rw [hv''] at R2 K2 G2 ⊢
      have HR2 : Hid _ := R2
      have HG2 : Hid _ := G2
      have HK2 : Hid _ := K2
      clear hown2 hgrow2 hat2 R2 G2 K2 HR1 HG1 HK1 R0
      go_wp2
      go_roundw
      case rel =>
        refine ⟨k + 1, by omega, by go_num, HK2.out, _, _, ?_, HG2.out⟩
        rw [HTK.out, HFK.out]
        exact HR2.out
      case measure => simp [intOf]; omega
    · have e : k = n := by omega
      subst e
      have HT : Hid (xs.take k = xs) := by show xs.take k = xs; rw [← hn]; exact List.take_length
      go_wp2
      go_end0
      exact ⟨rfl, ⟨_, _, by rw [HT.out] at hR; exact hR⟩, hK⟩
end Go.Proofs.YtflenkppcclclaaGreatDoor

