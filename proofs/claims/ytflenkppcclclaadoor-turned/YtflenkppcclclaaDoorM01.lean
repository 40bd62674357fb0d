import Derived.Test.YtflenkppcclclaaDoorM00
import Derived.Lib.Overlaps
import Derived.Lib.AppendZerosOnto
import Derived.Lib.JoinLaws
import Derived.Laws.Externs
import Derived.Lib.Walk
namespace Go.Proofs.YtflenkppcclclaaDoor
open Go.RowKit

theorem wp_copy_run' (w : World) {o : Oper} {a : Act} {K : Act → World → Prop} {Q : Exit → Act → World → Prop} (d s : Operand) (t t' : TypeId)
    (ho : o.op = .call { callee := .builtin .copy, args := #[d, s], argTypes := #[t, t'] }) (v u : Value) (hd : a.eval d = v) (hs : a.eval s = u) {v' : Value} {w' : World}
    (hr : (Builtin.copy_ #[t, t'] o.type #[v, u]).run Tryd.prog w = .ok v' w') (h : K (a.put o.dst v') w') : o.wp Tryd.prog a w K Q := by
  unfold Oper.wp execOp
  simp only [ho, resolve, invoke, builtin, Sem.run_bind, Sem.run_pure, Result.andThen_ok, List.map_toArray, List.map_cons, List.map_nil, hd, hs, hr]
  exact h
theorem wpList_copy_run' (w : World) {ops : Array Oper} {rest : List Oper} {o : Oper} {a : Act} {Q : Exit → Act → World → Prop} (hgd : o.guard = none) (d s : Operand) (t t' : TypeId)
    (ho : o.op = .call { callee := .builtin .copy, args := #[d, s], argTypes := #[t, t'] }) (v u : Value) (hd : a.eval d = v) (hs : a.eval s = u) {v' : Value} {w' : World}
    (hr : (Builtin.copy_ #[t, t'] o.type #[v, u]).run Tryd.prog w = .ok v' w') (h : wpList Tryd.prog ops Q rest (a.put o.dst v') w') : wpList Tryd.prog ops Q (o :: rest) a w :=
  wpList_plain hgd fun _ hK => wp_copy_run' w d s t t' ho v u hd hs hr (hK _ _ h)
theorem step_copy_run' {ops : Array Oper} {o : Oper} {a : Act} {w : World} {K : Act → World → Prop} {Q : Exit → Act → World → Prop} {E : Prop}
    (hg : o.guard = none) (d x : Operand) (dT sT : TypeId) (hop : o.op = Op.call { callee := Callee.builtin Builtin.copy, args := #[d, x], argTypes := #[dT, sT] })
    (v u : Value) (hd : a.eval d = v) (hx : a.eval x = u) {v' : Value} {w' : World} (hr : (Builtin.copy_ #[dT, sT] o.type #[v, u]).run Tryd.prog w = .ok v' w') (hK : K (a.put o.dst v') w') :
    if Region.wanted o (yielded ops a.tmps) = true then Oper.wp Tryd.prog o a w K Q else E := by
  have hw : Region.wanted o (yielded ops a.tmps) = true := by simp [Region.wanted, hg]
  rw [if_pos hw]
  unfold Oper.wp
  simp [execOp, hop, resolve, invoke, builtin, hd, hx, hr, Result.andThen]
  exact hK

/-- The byte that is put in, in a block of its own. -/
structure One (w : World) (b : Nat) (v : Int) : Prop where
  blk : w.heap[b]? = some (.cells #[.int .u8 v] 5 (0, 0))
theorem One.cell {w : World} {b : Nat} {v : Int} (h : One w b v) : w.cell? ⟨b, 0, none⟩ = some (.int .u8 v) := by simp [World.cell?, h.blk]
theorem One.lt {w : World} {b : Nat} {v : Int} (h : One w b v) : b < w.heap.size := (Array.getElem?_eq_some_iff.1 h.blk).1
theorem One.get {w : World} {b : Nat} {v : Int} (h : One w b v) (j : Nat) (u : Value) (hj : [Value.int .u8 v][j]? = some u) : w.cell? ⟨b, 0 + j, none⟩ = some u := by
  cases j with
  | zero => simp at hj; subst hj; exact h.cell
  | succ j => simp at hj

theorem Txt.get {w : World} {g cap : Nat} {l : List Int} (h : Txt w g cap l) (o j : Nat) (v : Value) (hj : ((l.drop o).map (Value.int .u8))[j]? = some v) : w.cell? ⟨g, o + j, none⟩ = some v := by
  rw [List.getElem?_map, List.getElem?_drop, Option.map_eq_some_iff] at hj
  obtain ⟨x, hx, rfl⟩ := hj
  have hlt := (List.getElem?_eq_some_iff.1 hx).1
  rw [h.cell (o + j) hlt, List.getD_eq_getElem?_getD, hx]
  rfl
theorem u8size : (Tryd.prog.info? 5).map (·.size) = some 1 := by kernel_rfl

set_option maxHeartbeats 4000000 in
set_option maxRecDepth 100000 in
theorem insert_shift (w : World) (g cap i vb : Nat) (l : List Int) (v : Int) (h : Txt w g cap l) (hi : i < l.length) (hroom : l.length + 1 ≤ cap) (H1 : One w vb v) (hvb : vb ≠ g) (h0 : 0 ≤ v) (h1 : v ≤ 255) :
    Calls Tryd.prog 70 #[.slice (some ⟨g, 0, none⟩) l.length cap, .int .i64 i, .slice (some ⟨vb, 0, none⟩) 1 1] w (TxtAns w g (l.take i ++ v :: l.drop i)) := by
  have hm := h.most
  obtain ⟨tB, kB, hsb, hkB⟩ : ∃ tB kB, w.shape? g = some (tB, kB) ∧ kB ≠ 0 := by
    have := h.room 0 (by omega)
    unfold World.cell? at this
    unfold World.shape?
    split at this <;> rename_i hh
    · rename_i c t fz
      refine ⟨t, c.size, by simp only [hh], fun h0 => ?_⟩
      simp [Array.getElem?_eq_none (show c.size ≤ 0 by omega)] at this
    · simp at this
  have hov : ∀ lb cb, (callFunc 72 #[.slice (some ⟨vb, 0, none⟩) 1 1, .slice (some ⟨g, i + 1, none⟩) lb cb]).run Tryd.prog w = .ok (.value (.bool false)) w := fun lb cb => by
    rw [run_callFunc_extern Tryd.func72 (by kernel_rfl) (by kernel_rfl) (by kernel_rfl) (e := Extern.SlicesOverlaps.overlaps #[25, 25] #[4]) (by kernel_rfl),
      Lib.run_overlaps_apart w 25 4 5 Tryd.underlying25 1 Tryd.sizeOf5 ⟨vb, 0, none⟩ ⟨g, i + 1, none⟩ 1 1 lb cb hvb 5 tB 1 kB (by simp [World.shape?, H1.blk]) hsb hkB (by simp [World.frozen?, H1.blk]) (by simp [World.frozen?, H1.blk])]
    rfl
  obtain ⟨cs, hcs⟩ : ∃ cs, cs = (l.drop i).map (Value.int .u8) := ⟨_, rfl⟩
  have hdl : cs.length = l.length - i := by rw [hcs]; simp
  have hcp1 : ∀ ty dc sc, (Builtin.copy_ #[25, 25] ty #[.slice (some ⟨g, i + 1, none⟩) (l.length - i) dc, .slice (some ⟨g, i, none⟩) (l.length + 1 - i) sc]).run Tryd.prog w.drew = .ok (goInt cs.length) (w.drew.setCells g (i + 1) cs) := fun ty dc sc =>
    run_copy_cells w.drew _ _ ty 5 g (i + 1) (l.length - i) dc ⟨g, i, none⟩ (l.length + 1 - i) sc cs Tryd.underlying25 u8size (by rw [hdl]; simp only [Nat.min_def]; split <;> omega)
      (fun j u hj => by rw [Addr.add_lit]; rw [hcs] at hj; exact h.drew.get i j u hj)
      (fun j hj => h.drew.room _ (by omega)) (fun j hj => h.drew.warm _ (by omega)) (by rw [hcs]; exact nums_one _)
  obtain ⟨W1, hW1⟩ : ∃ W1, W1 = w.drew.setCells g (i + 1) cs := ⟨_, rfl⟩
  have T1 : Txt W1 g cap (l.take (i + 1) ++ l.drop i ++ l.drop (i + 1 + (l.drop i).length)) := by
    rw [hW1, hcs]
    exact h.drew.put (i + 1) _ (by omega) (by simp; omega) (h.byt.drop _)
  have B1 : Below g w W1 := by rw [hW1]; exact below_puts _ (Below.refl _ _).drew
  have O1 : W1.cell? ⟨vb, 0, none⟩ = some (.int .u8 v) := by
    rw [hW1, World.cell?_setCells_out g _ _ _ _ (fun hh _ => absurd hh hvb)]
    exact H1.cell
  have hcp2 : ∀ (W : World), (∀ x, W.cell? x = W1.cell? x) → (∀ x, W.frozen? x = W1.frozen? x) → ∀ ty dc, (Builtin.copy_ #[25, 25] ty #[.slice (some ⟨g, i, none⟩) (l.length + 1 - i) dc, .slice (some ⟨vb, 0, none⟩) 1 1]).run Tryd.prog W = .ok (goInt 1) (W.setCells g i [.int .u8 v]) := fun W hWc hWf ty dc =>
    run_copy_cells W _ _ ty 5 g i (l.length + 1 - i) dc ⟨vb, 0, none⟩ 1 1 [.int .u8 v] Tryd.underlying25 u8size (by simp only [Nat.min_def, List.length_cons, List.length_nil]; split <;> omega)
      (fun j u hj => by
        cases j with
        | zero => simp at hj; subst hj; rw [Addr.add_lit, hWc]; exact O1
        | succ j => simp at hj)
      (fun j hj => by rw [hWc]; simp at hj; exact T1.room _ (by omega)) (fun j hj => by rw [hWf]; simp at hj; exact T1.warm _ (by omega)) (by intro u hu; simp at hu; subst hu; rfl)
  have HT : Hid (Txt W1 g cap (l.take (i + 1) ++ l.drop i ++ l.drop (i + 1 + (l.drop i).length))) := T1
  have HB : Hid (Below g w W1) := B1
  rw [← hW1] at hcp1
  have hz2 : ¬ ((i : Int) = (l.length : Int)) := by omega
  have hin : i ≤ l.length := by omega
  have hb2 : ¬ (cap = i + 1) := by omega
  have hb3 : (i : Int) ≤ (l.length : Int) + 1 := by omega
  have hb4 : ¬ (cap = i) := by omega
  have hb1 : (0 : Int) ≤ (i : Int) + 1 := by omega
  have hw1 : IntKind.i64.wrap ((i : Int) + 1) = (i : Int) + 1 := by rw [IntKind.wrap_i64]; omega
  have htn : ((i : Int) + 1).toNat = i + 1 := by omega
  have hb5 : (i : Int) + 1 ≤ (l.length : Int) + 1 := by omega
  have HI : Hid (i < l.length) := hi
  generalize hLn : l.length = L at *
  clear T1 B1 O1 h hdl hcs hsb H1 hW1
  go_enter Tryd.func70, Tryd.ntmps70
  go_wp2_with (simp only [hov])
  go_region_law (refine step_copy_run' rfl _ _ 25 25 rfl _ _ (by simp [Act.eval, Act.put]) (by simp [Act.eval, Act.put]) (hcp1 _ _ _) ?_)
  go_wp2_with (at_builtin; refine wpList_copy_run' _ rfl _ _ 25 25 rfl _ _ rfl rfl (hcp2 _ (fun _ => rfl) (fun _ => rfl) _ _) ?_)
  go_ret
  have hi := HI.out
  refine ⟨g, cap, Nat.le_refl _, by rw [put_len _ _ _ (by omega), hLn]; rfl, ?_, below_puts _ HB.out⟩
  have T2 := HT.out.put i [v] (by simp; omega) (by simp; omega) (byt_one h0 h1)
  have e : List.take i (List.take (i + 1) l ++ List.drop i l ++ List.drop (i + 1 + (List.drop i l).length) l) ++ [v] ++ List.drop (i + [v].length) (List.take (i + 1) l ++ List.drop i l ++ List.drop (i + 1 + (List.drop i l).length) l) = l.take i ++ v :: l.drop i := by
    have e1 : List.drop (i + 1 + (List.drop i l).length) l = [] := List.drop_of_length_le (by simp; omega)
    rw [e1, List.append_nil, List.take_append_of_le_length (by simp; omega), List.take_take, Nat.min_eq_left (by omega)]
    simp only [List.length_cons, List.length_nil, Nat.zero_add]
    have e2 : List.drop (i + 1) (List.take (i + 1) l) = [] := List.drop_of_length_le (by simp; omega)
    rw [List.drop_append_of_le_length (by simp; omega), e2]
    simp
  rw [e] at T2
  exact T2

theorem one_src (w : World) (vb : Nat) (v : Int) (H1 : One w vb v) : Src Tryd.prog 1 25 (.slice (some ⟨vb, 0, none⟩) 1 1) 1 [.int .u8 v] w :=
  Src.ofSlice w Tryd.underlying25 ⟨vb, 0, none⟩ 1 1 [.int .u8 v] rfl (fun j u hj => by rw [Addr.add_lit]; exact H1.get j u hj) (by intro u hu; simp at hu; subst hu; rfl)

set_option maxHeartbeats 4000000 in
set_option maxRecDepth 100000 in
theorem insert_end_room (w : World) (g cap vb : Nat) (l : List Int) (v : Int) (h : Txt w g cap l) (hroom : l.length + 1 ≤ cap) (H1 : One w vb v) (h0 : 0 ≤ v) (h1 : v ≤ 255) :
    Calls Tryd.prog 70 #[.slice (some ⟨g, 0, none⟩) l.length cap, .int .i64 (l.length : Nat), .slice (some ⟨vb, 0, none⟩) 1 1] w (TxtAns w g (l ++ [v])) := by
  have hm := h.most
  obtain ⟨i0, hi0, hz0, hzs, hzb⟩ := u8info
  have hsrc : Src Tryd.prog i0.size 25 (.slice (some ⟨vb, 0, none⟩) 1 1) 1 [Value.int .u8 v] w := by rw [hzs]; exact one_src w vb v H1
  have hsp : ∀ j, j < [Value.int .u8 v].length → (w.cell? ⟨g, 0 + l.length + j, none⟩).isSome = true := fun j hj => by simp at hj; exact h.room _ (by omega)
  have hfz : ∀ j, j < [Value.int .u8 v].length → w.frozen? ⟨g, 0 + l.length + j, none⟩ = false := fun j hj => by simp at hj; exact h.warm _ (by omega)
  have T2 := h.put l.length [v] (Nat.le_refl _) (by simpa using hroom) (byt_one h0 h1)
  have e : List.take l.length l ++ [v] ++ List.drop (l.length + [v].length) l = l ++ [v] := by
    rw [List.take_length, List.drop_of_length_le (by simp), List.append_nil]
  rw [e] at T2
  have HT : Hid (Txt (w.setCells g l.length [.int .u8 v]) g cap (l ++ [v])) := T2
  have hrun : ∀ ty, (Builtin.append_ #[25, 25] ty #[.slice (some ⟨g, 0, none⟩) l.length cap, .slice (some ⟨vb, 0, none⟩) 1 1]).run Tryd.prog w = .ok (.slice (some ⟨g, 0, none⟩) (l.length + 1) cap) (w.setCells g l.length [.int .u8 v]) := fun ty => by
    have := run_append_room_src (w := w) 25 25 ty 5 i0 Tryd.underlying25 hi0 g 0 l.length cap _ 1 [.int .u8 v] hsrc hroom (by rw [hzs, Nat.mul_one]; exact hsp) (by rw [hzs, Nat.mul_one]; exact hfz)
    rw [hzs, Nat.mul_one, Nat.zero_add] at this
    exact this
  generalize hLn : l.length = L at *
  clear T2 h hsrc hsp hfz
  go_enter Tryd.func70, Tryd.ntmps70
  go_wp2_with (at_builtin; refine Lib.wpList_append_run _ rfl _ _ _ _ rfl _ _ rfl rfl _ _ (hrun _) ?_)
  all_goals
    go_ret
    refine ⟨g, cap, Nat.le_refl _, by rw [List.length_append, hLn]; rfl, ?_, below_puts _ (Below.refl _ _)⟩
    exact HT.out

set_option maxHeartbeats 4000000 in
set_option maxRecDepth 100000 in
theorem insert_end_grow (w : World) (g cap vb : Nat) (l : List Int) (v : Int) (h : Txt w g cap l) (hL : l.length ≤ 1000) (hroom : cap < l.length + 1) (H1 : One w vb v) (h0 : 0 ≤ v) (h1 : v ≤ 255) :
    Calls Tryd.prog 70 #[.slice (some ⟨g, 0, none⟩) l.length cap, .int .i64 (l.length : Nat), .slice (some ⟨vb, 0, none⟩) 1 1] w (TxtAns w g (l ++ [v])) := by
  obtain ⟨i0, hi0, hz0, hzs, hzb⟩ := u8info
  have hm := h.most
  have hle := h.le
  have hsrc : Src Tryd.prog i0.size 25 (.slice (some ⟨vb, 0, none⟩) 1 1) 1 [.int .u8 v] w := by rw [hzs]; exact one_src w vb v H1
  have hold : (Builtin.firstCells i0.size l.length (.slice (some ⟨g, 0, none⟩) l.length cap)).run Tryd.prog w.drew = .ok (l.map (Value.int .u8)).toArray w.drew := by
    rw [hzs]
    exact run_firstCells_some w.drew 1 l.length ⟨g, 0, none⟩ l.length cap (l.map (Value.int .u8)) (by simp) (fun j u hj => by rw [Addr.add_lit]; exact h.drew.get 0 j u (by simpa using hj))
  have hrun : ∀ ty, (Builtin.append_ #[25, 25] ty #[.slice (some ⟨g, 0, none⟩) l.length cap, .slice (some ⟨vb, 0, none⟩) 1 1]).run Tryd.prog w = _ := fun ty =>
    run_append_grow_src w 25 25 ty 5 i0 _ Tryd.underlying25 hi0 hz0 (some ⟨g, 0, none⟩) l.length cap (l.map (Value.int .u8)) hold _ 1 [.int .u8 v] hsrc hroom (by omega) (by rw [hzb]; exact growslice_fits hroom (by omega))
  have hge : l.length + 1 ≤ grownCap w (l.length + 1) cap 5 := grownCap_ge w _ _ _
  have hmx := grownCap_le_maxLen w (l.length + 1) cap 5 (by unfold maxLen; omega)
  have T2 := txt_new w.drew (l ++ [v]) (grownCap w (l.length + 1) cap 5 - (l.length + 1)) (h.byt.app (byt_one h0 h1)) (by unfold maxLen at hmx; simp; omega)
  have hg : g < w.heap.size := h.lt
  generalize hG : grownCap w (l.length + 1) cap 5 = G at *
  have HT : Hid (Txt (w.drew.alloc (.cells ((l.map (Value.int .u8) ++ [Value.int .u8 v]).toArray ++ Builtin.zeroCells (Value.int .u8 0).cells (G - (l.length + 1))) 5)) w.heap.size G (l ++ [v])) := by
    have e1 : (l ++ [v]).length + (G - (l.length + 1)) = G := by simp; omega
    rw [e1, List.map_append] at T2
    exact T2
  generalize hLn : l.length = L at *
  clear T2 h hsrc hold
  go_enter Tryd.func70, Tryd.ntmps70
  go_wp2_with (at_builtin; refine Lib.wpList_append_run _ rfl _ _ _ _ rfl _ _ rfl rfl _ _ (hrun _) ?_)
  all_goals
    go_ret
    refine ⟨w.heap.size, G, by omega, by rw [List.length_append, hLn]; rfl, HT.out, (Below.refl _ _).drew.alloc (by simp; omega) _⟩
end Go.Proofs.YtflenkppcclclaaDoor

namespace Go.Proofs.YtflenkppcclclaaDoor
open Go.RowKit

/-- A new row, of which a part is zero so far. -/
theorem txt_zeros (w : World) (l : List Int) (k n : Nat) (hl : Byt l) (hm : l.length + k + n ≤ 9223372036854775807) :
    Txt (w.alloc (.cells ((l.map (Value.int .u8)).toArray ++ Builtin.zeroCells (Value.int .u8 0).cells k ++ Builtin.zeroCells (Value.int .u8 0).cells n) 5)) w.heap.size (l.length + k + n) l where
  cell := fun i hi => by
    rw [World.cell?_alloc_new, Array.append_assoc, Array.getElem?_append_left (by simp; exact hi)]
    simp [List.getD_eq_getElem?_getD, List.getElem?_eq_getElem hi]
  room := fun i hi => by
    rw [World.cell?_alloc_new, Array.getElem?_eq_getElem (by simp [Builtin.zeroCells, Value.cells]; omega)]
    rfl
  warm := fun i _ => World.frozen?_alloc_at (w := w) _ _ w.heap.size i rfl
  le := by omega
  most := hm
  lt := by simp
  byt := hl

theorem setCell_heap {w w' : World} (h : w.heap = w'.heap) (a : Addr) (v : Value) : (w.setCell a v).heap = (w'.setCell a v).heap := by
  unfold World.setCell
  dsimp only
  rw [h]
theorem setCells_heap (b : Nat) : ∀ (vs : List Value) (o : Nat) {w w' : World}, w.heap = w'.heap → (w.setCells b o vs).heap = (w'.setCells b o vs).heap
  | [], _, _, _, h => h
  | v :: r, o, _, _, h => setCells_heap b r (o + 1) (setCell_heap h _ v)

set_option maxHeartbeats 4000000 in
set_option maxRecDepth 100000 in
theorem insert_grow (w : World) (g cap i vb : Nat) (l : List Int) (v : Int) (h : Txt w g cap l) (hL : l.length ≤ 1000) (hi : i < l.length) (hroom : cap < l.length + 1) (H1 : One w vb v) (h0 : 0 ≤ v) (h1 : v ≤ 255) :
    Calls Tryd.prog 70 #[.slice (some ⟨g, 0, none⟩) l.length cap, .int .i64 i, .slice (some ⟨vb, 0, none⟩) 1 1] w (TxtAns w g (l.take i ++ v :: l.drop i)) := by
  obtain ⟨i0, hi0, hz0, hzs, hzb⟩ := u8info
  have hm := h.most
  have hle := h.le
  have hbw : g < w.heap.size := h.lt
  have hvw : vb < w.heap.size := H1.lt
  have hkk : (l.length : Int) + 1 - (i : Int) = ((l.length + 1 - i : Nat) : Int) := by omega
  have hik : i + (l.length + 1 - i) = l.length + 1 := by omega
  have hold : (Builtin.firstCells i0.size i (.slice (some ⟨g, 0, none⟩) i cap)).run Tryd.prog w.drew = .ok ((l.take i).map (Value.int .u8)).toArray w.drew := by
    rw [hzs]
    exact run_firstCells_some w.drew 1 i ⟨g, 0, none⟩ i cap ((l.take i).map (Value.int .u8)) (by simp; omega) (fun j u hj => by
      rw [Addr.add_lit]
      exact ((h.drew.take i).get 0 j u (by simpa using hj)))
  have hrz : ∀ ty, (Builtin.append_ #[25, 3] ty #[.slice (some ⟨g, 0, none⟩) i cap, .int .i64 ((l.length : Int) + 1 - (i : Int))]).run Tryd.prog w =
      .ok (.slice (some ⟨w.heap.size, 0, none⟩) (l.length + 1) (grownCap w (l.length + 1) cap 5)) (w.drew.alloc (.cells (((l.take i).map (Value.int .u8)).toArray ++ Builtin.zeroCells (Value.int .u8 0).cells (l.length + 1 - i) ++ Builtin.zeroCells (Value.int .u8 0).cells (grownCap w (l.length + 1) cap 5 - (l.length + 1))) 5)) := fun ty => by
    have h' := Lib.run_append_grow_zeros w 25 3 ty 5 i0 _ .i64 .i64 Tryd.underlying25 Tryd.underlying3 hi0 hz0 (some ⟨g, 0, none⟩) i cap ((l.take i).map (Value.int .u8)) hold (l.length + 1 - i) (by omega) (by omega) (by omega) (by omega) (by rw [hzb]; omega) (by rw [hzb, hik]; exact growslice_fits hroom (by omega))
    rw [hik] at h'
    rw [hkk]
    exact h'
  have hGn : l.length + 1 ≤ grownCap w (l.length + 1) cap 5 := grownCap_ge w _ _ _
  have hmx := grownCap_le_maxLen w (l.length + 1) cap 5 (by unfold maxLen; omega)
  obtain ⟨G, hG⟩ : ∃ G, G = grownCap w (l.length + 1) cap 5 := ⟨_, rfl⟩
  rw [← hG] at hrz hGn hmx
  have hG63 : G ≤ 9223372036854775807 := by unfold maxLen at hmx; omega
  have hlt : (l.take i).length = i := by simp; omega
  have TZ := txt_zeros w.drew (l.take i) (l.length + 1 - i) (G - (l.length + 1)) (h.byt.take i) (by rw [hlt]; omega)
  rw [hlt, show i + (l.length + 1 - i) + (G - (l.length + 1)) = G by omega] at TZ
  obtain ⟨ROW, hROW⟩ : ∃ ROW : Array Value, ROW = ((l.take i).map (Value.int .u8)).toArray ++ Builtin.zeroCells (Value.int .u8 0).cells (l.length + 1 - i) ++ Builtin.zeroCells (Value.int .u8 0).cells (G - (l.length + 1)) := ⟨_, rfl⟩
  rw [← hROW] at hrz TZ
  have T0 : Txt (w.drew.alloc (.cells ROW 5)) w.heap.size G (l.take i) := TZ
  obtain ⟨W1, hW1⟩ : ∃ W1, W1 = w.drew.alloc (.cells ROW 5) := ⟨_, rfl⟩
  rw [← hW1] at hrz T0
  have hOb : ∀ j u, w.cell? ⟨g, j, none⟩ = some u → W1.cell? ⟨g, j, none⟩ = some u := fun j u hu => by rw [hW1, World.cell?_alloc_past (w := w.drew) _ g j hbw]; exact hu
  have hOv : W1.cell? ⟨vb, 0, none⟩ = some (.int .u8 v) := by rw [hW1, World.cell?_alloc_past (w := w.drew) _ vb 0 hvw]; exact H1.cell
  have hcpA : ∀ (W : World), (∀ x, W.cell? x = W1.cell? x) → (∀ x, W.frozen? x = W1.frozen? x) → ∀ ty dc, (Builtin.copy_ #[25, 25] ty #[.slice (some ⟨w.heap.size, i, none⟩) (l.length + 1 - i) dc, .slice (some ⟨vb, 0, none⟩) 1 1]).run Tryd.prog W = .ok (goInt 1) (W.setCells w.heap.size i [.int .u8 v]) := fun W hWc hWf ty dc =>
    run_copy_cells W _ _ ty 5 w.heap.size i (l.length + 1 - i) dc ⟨vb, 0, none⟩ 1 1 [.int .u8 v] Tryd.underlying25 u8size (by simp only [Nat.min_def, List.length_cons, List.length_nil]; split <;> omega)
      (fun j u hj => by
        cases j with
        | zero => simp at hj; subst hj; rw [Addr.add_lit, hWc]; exact hOv
        | succ j => simp at hj)
      (fun j hj => by rw [hWc]; simp at hj; exact T0.room _ (by omega)) (fun j hj => by rw [hWf]; simp at hj; exact T0.warm _ (by omega)) (by intro u hu; simp at hu; subst hu; rfl)
  have hbN : g ≠ w.heap.size := by omega
  obtain ⟨cs, hcs⟩ : ∃ cs, cs = (l.drop i).map (Value.int .u8) := ⟨_, rfl⟩
  have hdl : cs.length = l.length - i := by rw [hcs]; simp
  have T1 := T0.put i [v] (by rw [hlt]; omega) (by simp; omega) (byt_one h0 h1)
  have hcpB : ∀ (W : World), (∀ x, W.cell? x = (W1.setCells w.heap.size i [.int .u8 v]).cell? x) → (∀ x, W.frozen? x = (W1.setCells w.heap.size i [.int .u8 v]).frozen? x) → ∀ ty dc sc, (Builtin.copy_ #[25, 25] ty #[.slice (some ⟨w.heap.size, i + 1, none⟩) (l.length - i) dc, .slice (some ⟨g, i, none⟩) (l.length - i) sc]).run Tryd.prog W = .ok (goInt cs.length) (W.setCells w.heap.size (i + 1) cs) := fun W hWc hWf ty dc sc =>
    run_copy_cells W _ _ ty 5 w.heap.size (i + 1) (l.length - i) dc ⟨g, i, none⟩ (l.length - i) sc cs Tryd.underlying25 u8size (by rw [hdl]; simp)
      (fun j u hj => by
        rw [Addr.add_lit, hWc, World.cell?_setCells_out _ _ _ _ _ (fun hh _ => absurd hh hbN)]
        rw [hcs] at hj
        exact hOb _ u (h.get i j u hj))
      (fun j hj => by rw [hWc]; exact T1.room _ (by omega))
      (fun j hj => by rw [hWf]; exact T1.warm _ (by omega)) (by rw [hcs]; exact nums_one _)
  have T2 := T1.put (i + 1) (l.drop i) (by simp; omega) (by simp; omega) (h.byt.drop i)
  have eT : List.take (i + 1) (List.take i (List.take i l) ++ [v] ++ List.drop (i + [v].length) (List.take i l)) ++ List.drop i l ++ List.drop (i + 1 + (List.drop i l).length) (List.take i (List.take i l) ++ [v] ++ List.drop (i + [v].length) (List.take i l)) = l.take i ++ v :: l.drop i := by
    have e1 : List.drop (i + [v].length) (List.take i l) = [] := List.drop_of_length_le (by simp; omega)
    have e2 : List.drop (i + 1 + (List.drop i l).length) (List.take i l ++ [v]) = [] := List.drop_of_length_le (by simp; omega)
    have e3 : List.take (i + 1) (List.take i l ++ [v]) = List.take i l ++ [v] := List.take_of_length_le (by simp; omega)
    rw [e1, List.append_nil, List.take_take, Nat.min_self, e2, List.append_nil, e3]
    simp
  rw [eT] at T2
  have HT : Hid (Txt ((W1.setCells w.heap.size i [.int .u8 v]).setCells w.heap.size (i + 1) cs) w.heap.size G (l.take i ++ v :: l.drop i)) := by rw [hcs]; exact T2
  subst hW1
  have hE1 : ∀ x, ((w.alloc (.cells ROW 5)).drew).cell? x = (w.drew.alloc (.cells ROW 5)).cell? x := fun x => rfl
  have hE2 : ∀ x, ((w.alloc (.cells ROW 5)).drew).frozen? x = (w.drew.alloc (.cells ROW 5)).frozen? x := fun x => rfl
  have hF1 : ∀ x, (((w.alloc (.cells ROW 5)).drew.setCells w.heap.size i [.int .u8 v]).drew).cell? x = ((w.drew.alloc (.cells ROW 5)).setCells w.heap.size i [.int .u8 v]).cell? x := fun x => rfl
  have hF2 : ∀ x, (((w.alloc (.cells ROW 5)).drew.setCells w.heap.size i [.int .u8 v]).drew).frozen? x = ((w.drew.alloc (.cells ROW 5)).setCells w.heap.size i [.int .u8 v]).frozen? x := fun x => rfl
  have hz2 : ¬ ((i : Int) = (l.length : Int)) := by omega
  have hz3 : (cap : Int) < (l.length : Int) + 1 := by omega
  have hin : i ≤ l.length := by omega
  have hw1 : IntKind.i64.wrap ((i : Int) + 1) = (i : Int) + 1 := by rw [IntKind.wrap_i64]; omega
  have htn : ((i : Int) + 1).toNat = i + 1 := by omega
  have hb1 : (0 : Int) ≤ (i : Int) + 1 := by omega
  have hb3 : (i : Int) ≤ (l.length : Int) := by omega
  have hb5 : (i : Int) + 1 ≤ (l.length : Int) + 1 := by omega
  have hb6 : (i : Int) ≤ (l.length : Int) + 1 := by omega
  have hGi : ¬ (G = i) := by omega
  have hGim : ¬ (G = i + 1) := by omega
  have hci : ¬ (cap = i) := by omega
  have HI : Hid (i < l.length) := hi
  generalize hLn : l.length = L at *
  clear T0 T1 T2 TZ h hdl hcs hROW hold hkk hik hG H1 hOb hOv hlt
  go_enter Tryd.func70, Tryd.ntmps70
  go_wp2_with (first
    | (at_builtin; refine Lib.wpList_append_run _ rfl _ _ _ _ rfl _ _ rfl rfl _ _ (hrz _) ?_)
    | (at_builtin; refine wpList_copy_run' _ rfl _ _ 25 25 rfl _ _ rfl rfl (hcpA _ hE1 hE2 _ _) ?_))
  go_region_law (refine step_copy_run' rfl _ _ 25 25 rfl (.slice (some ⟨w.heap.size, i + 1, none⟩) (L - i) (G - (i + 1))) (.slice (some ⟨g, i, none⟩) (L - i) (cap - i)) (by simp [Act.eval, Act.put]) (by simp [Act.eval, Act.put]) (hcpB _ hF1 hF2 3 (G - (i + 1)) (cap - i)) ?_)
  go_wp2
  go_ret
  have hi := HI.out
  refine ⟨w.heap.size, G, by omega, by rw [put_len _ _ _ (by omega), hLn]; rfl, ?_, ?_⟩
  · have e : (((w.alloc (.cells ROW 5)).drew.setCells w.heap.size i [.int .u8 v]).drew.setCells w.heap.size (i + 1) cs).heap = (((w.drew.alloc (.cells ROW 5)).setCells w.heap.size i [.int .u8 v]).setCells w.heap.size (i + 1) cs).heap := setCells_heap _ _ _ (setCells_heap _ _ _ rfl)
    exact HT.out.of_block (by rw [e]) (by rw [e]; exact Nat.le_refl _)
  refine Below.mono (B := w.heap.size) ?_ (by omega)
  exact below_puts _ (below_puts _ ((Below.refl _ _).alloc (Nat.le_refl _) _).drew).drew

theorem insert_any (w : World) (g cap i vb : Nat) (l : List Int) (v : Int) (h : Txt w g cap l) (hL : l.length ≤ 1000) (hi : i ≤ l.length) (H1 : One w vb v) (hvb : vb ≠ g) (h0 : 0 ≤ v) (h1 : v ≤ 255) :
    Calls Tryd.prog 70 #[.slice (some ⟨g, 0, none⟩) l.length cap, .int .i64 i, .slice (some ⟨vb, 0, none⟩) 1 1] w (TxtAns w g (l.take i ++ v :: l.drop i)) := by
  by_cases hr : l.length + 1 ≤ cap
  · by_cases e : i < l.length
    · exact insert_shift w g cap i vb l v h e hr H1 hvb h0 h1
    · obtain rfl : i = l.length := by omega
      rw [List.take_length, List.drop_length]
      exact insert_end_room w g cap vb l v h hr H1 h0 h1
  · by_cases e : i < l.length
    · exact insert_grow w g cap i vb l v h hL e (by omega) H1 h0 h1
    · obtain rfl : i = l.length := by omega
      rw [List.take_length, List.drop_length]
      exact insert_end_grow w g cap vb l v h hL (by omega) H1 h0 h1
end Go.Proofs.YtflenkppcclclaaDoor

