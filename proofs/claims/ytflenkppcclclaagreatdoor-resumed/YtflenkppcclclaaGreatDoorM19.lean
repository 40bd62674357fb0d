import Derived.Test.YtflenkppcclclaaGreatDoorM16
import Derived.Laws.IdiomCopy
import Derived.Laws.NewBlocks
import Derived.Lib.ConvBytes
import Derived.Lib.LazyBuf
import Derived.Deep.RegionLaw
import Derived.Lib.SliceRun
import Derived.Lib.Overlaps
import Derived.Lib.AppendZerosOnto
import Derived.Lib.JoinLaws
import Derived.Laws.Externs
import Derived.Lib.Walk
namespace Go.Proofs.YtflenkppcclclaaGreatDoor
open Go.RowKit

/-! A text that may be written to: the first cells of the block g hold l; there is room for cap in all. -/
structure Txt (w : World) (g cap : Nat) (l : List Int) : Prop where
  cell : ∀ i, i < l.length → w.cell? ⟨g, i, none⟩ = some (.int .u8 (l.getD i 0))
  room : ∀ i, i < cap → (w.cell? ⟨g, i, none⟩).isSome = true
  warm : ∀ i, i < cap → w.frozen? ⟨g, i, none⟩ = false
  le : l.length ≤ cap
  most : cap ≤ 9223372036854775807
  lt : g < w.heap.size
  byt : Byt l

theorem Txt.of_block {w w' : World} {g cap : Nat} {l : List Int} (h : Txt w g cap l) (hb : w'.heap[g]? = w.heap[g]?) (hs : w.heap.size ≤ w'.heap.size) : Txt w' g cap l where
  cell := fun i hi => (World.cell?_of_block (w := w) hb).trans (h.cell i hi)
  room := fun i hi => by rw [World.cell?_of_block (w := w) (w' := w') (a := ⟨g, i, none⟩) hb]; exact h.room i hi
  warm := fun i hi => (World.frozen?_of_block (w := w) (w' := w') (a := ⟨g, i, none⟩) hb).trans (h.warm i hi)
  le := h.le
  most := h.most
  lt := Nat.lt_of_lt_of_le h.lt hs
  byt := h.byt
theorem Txt.below {w w' : World} {g cap B : Nat} {l : List Int} (h : Txt w g cap l) (b : Below B w w') (hg : g < B) : Txt w' g cap l := h.of_block (b.block g hg) b.size
theorem Txt.drew {w : World} {g cap : Nat} {l : List Int} (h : Txt w g cap l) : Txt w.drew g cap l := h.of_block rfl (Nat.le_refl _)
theorem Txt.drewN {w : World} {g cap : Nat} {l : List Int} (h : Txt w g cap l) (n : Nat) : Txt (w.drewN n) g cap l := h.of_block rfl (Nat.le_refl _)
theorem Txt.alloc {w : World} {g cap : Nat} {l : List Int} (h : Txt w g cap l) (o : Obj) : Txt (w.alloc o) g cap l := h.of_block (Below.heap_alloc w o g h.lt) (by simp)
theorem Txt.other {w : World} {g cap : Nat} {l : List Int} (h : Txt w g cap l) {a : Addr} (ha : g ≠ a.block) (v : Value) : Txt (w.setCell a v) g cap l := h.of_block (Below.heap_setCell w a v g ha) (by simp)
theorem Txt.take {w : World} {g cap : Nat} {l : List Int} (h : Txt w g cap l) (n : Nat) : Txt w g cap (l.take n) where
  cell := fun i hi => by
    rw [List.length_take] at hi
    rw [h.cell i (by omega), List.getD_eq_getElem?_getD, List.getD_eq_getElem?_getD, List.getElem?_take, if_pos (by omega)]
  room := h.room
  warm := h.warm
  le := by rw [List.length_take]; have := h.le; omega
  most := h.most
  lt := h.lt
  byt := h.byt.take n
theorem setCells_size (b : Nat) : ∀ (vs : List Value) (o : Nat) (w : World), (w.setCells b o vs).heap.size = w.heap.size
  | [], _, _ => rfl
  | v :: r, o, w => by rw [World.setCells, setCells_size b r]; simp
theorem setCells_some (b : Nat) : ∀ (vs : List Value) (o : Nat) (w : World) (x : Addr), (w.cell? x).isSome = true → ((w.setCells b o vs).cell? x).isSome = true
  | [], _, _, _, h => h
  | v :: r, o, w, x, h => by
    rw [World.setCells]
    apply setCells_some b r
    by_cases e : x = ⟨b, o, none⟩
    · subst e
      obtain ⟨u, hu⟩ := Option.isSome_iff_exists.1 h
      rw [World.cell?_setCell_same w ⟨b, o, none⟩ v hu]
      rfl
    · rw [World.cell?_setCell_other _ _ _ _ (fun h => e h.symm)]; exact h
/-- Cells written into it. -/
theorem Txt.put {w : World} {g cap : Nat} {l : List Int} (h : Txt w g cap l) (o : Nat) (vs : List Int) (ho : o ≤ l.length) (hv : o + vs.length ≤ cap) (hb : Byt vs) :
    Txt (w.setCells g o (vs.map (Value.int .u8))) g cap (l.take o ++ vs ++ l.drop (o + vs.length)) where
  cell := fun i hi => by
    have hin := World.cell?_setCells_in g (vs.map (Value.int .u8)) o w (fun j hj => h.room _ (by simp at hj; omega))
    rw [List.getD_eq_getElem?_getD]
    by_cases h1 : i < o
    · rw [World.cell?_setCells_out _ _ _ _ _ (fun _ _ => Or.inl h1), h.cell i (by omega), List.append_assoc, List.getElem?_append_left (by simp; omega), List.getElem?_take, if_pos h1, List.getD_eq_getElem?_getD]
    · by_cases h2 : i < o + vs.length
      · have := hin (i - o) (by simp; omega)
        rw [show o + (i - o) = i by omega] at this
        have e1 : (List.take o l ++ vs)[i]? = some (vs[i - o]'(by omega)) := by
          rw [List.getElem?_append_right (by simp; omega)]
          simp only [List.length_take, Nat.min_eq_left ho]
          exact List.getElem?_eq_getElem (by omega)
        rw [this, List.getElem?_append_left (by simp; omega), e1]
        simp
      · have hi' : i < l.length := by simp at hi; omega
        rw [World.cell?_setCells_out _ _ _ _ _ (fun _ _ => Or.inr (by simp; omega)), h.cell i hi', List.getElem?_append_right (by simp; omega), List.getElem?_drop, List.getD_eq_getElem?_getD]
        simp only [List.length_append, List.length_take, Nat.min_eq_left ho]
        rw [show o + vs.length + (i - (o + vs.length)) = i by omega]
  room := fun i hi => setCells_some _ _ _ _ _ (h.room i hi)
  warm := fun i hi => by rw [World.frozen?_setCells]; exact h.warm i hi
  le := by have := h.le; simp; omega
  most := h.most
  lt := by rw [setCells_size]; exact h.lt
  byt := ((h.byt.take o).app hb).app (h.byt.drop _)
/-- One byte written. -/
theorem Txt.set {w : World} {g cap : Nat} {l : List Int} (h : Txt w g cap l) (i : Nat) (v : Int) (hi : i < l.length) (h0 : 0 ≤ v) (h1 : v ≤ 255) : Txt (w.setCell ⟨g, i, none⟩ (.int .u8 v)) g cap (l.set i v) := by
  have hle := h.le
  have := h.put i [v] (by omega) (by simp; omega) (byt_one h0 h1)
  have e : l.take i ++ [v] ++ l.drop (i + [v].length) = l.set i v := by
    rw [List.set_eq_take_append_cons_drop, if_pos hi]
    simp
  rw [e] at this
  exact this
theorem Txt.at {w : World} {g cap : Nat} {l : List Int} (h : Txt w g cap l) (i : Nat) (hi : i < l.length) : w.cell? ⟨g, i, none⟩ = some (.int .u8 (l.getD i 0)) ∧ w.frozen? ⟨g, i, none⟩ = false := ⟨h.cell i hi, h.warm i (by have := h.le; omega)⟩
/-- A new row. -/
theorem txt_new (w : World) (l : List Int) (n : Nat) (hl : Byt l) (hm : l.length + n ≤ 9223372036854775807) :
    Txt (w.alloc (.cells ((l.map (Value.int .u8)).toArray ++ Builtin.zeroCells (Value.int .u8 0).cells n) 5)) w.heap.size (l.length + n) l where
  cell := fun i hi => by
    rw [World.cell?_alloc_new, Array.getElem?_append_left (by simp; exact hi)]
    simp [List.getD_eq_getElem?_getD, List.getElem?_eq_getElem hi]
  room := fun i hi => by
    rw [World.cell?_alloc_new, Array.getElem?_eq_getElem (by simp [Builtin.zeroCells, Value.cells]; exact hi)]
    rfl
  warm := fun i _ => World.frozen?_alloc_at (w := w) _ _ w.heap.size i rfl
  le := by omega
  most := hm
  lt := by simp
  byt := hl

/-- '[]byte(s)'. -/
theorem conv_in (w : World) (s : ByteArray) (hs : s.size ≤ 1000) : ∃ w' cap, (convert 9 25 (.string s)).run Tryz.prog w = .ok (.slice (some ⟨w.heap.size, 0, none⟩) s.size cap) w' ∧ Txt w' w.heap.size cap (nums s) ∧ Below w.heap.size w w' ∧ w'.heap.size = w.heap.size + 1 := by
  refine ⟨_, _, Lib.run_convert_string_bytes w 9 25 5 s Tryz.underlying9 Tryz.underlying25 Tryz.underlying5, ?_, ?_, Lib.bytesWorld_size _ _ _⟩
  · have hge : s.size ≤ grownCap w s.size 0 5 := grownCap_ge w _ _ _
    have hle := grownCap_le_maxLen w s.size 0 5 (by unfold maxLen; omega)
    have hn := Lib.bytesWorld_at_new w 5 s
    have hsz : (Lib.bytesCells w 5 s).size = grownCap w s.size 0 5 := by
      unfold Lib.bytesCells
      simp
      have : s.data.size = s.size := rfl
      omega
    refine ⟨fun i hi => ?_, fun i hi => ?_, fun i hi => ?_, by rw [nums_len]; exact hge, by unfold maxLen at hle; omega, by rw [Lib.bytesWorld_size]; omega, nums_byt s⟩
    · rw [nums_len] at hi
      rw [Lib.bytesWorld_cell w 5 s i hi, nums_data s i hi]
    · simp only [World.cell?, hn]
      rw [Array.getElem?_eq_getElem (by rw [hsz]; exact hi)]
      rfl
    · simp only [World.frozen?, hn]
      rw [hsz]
      simp
      omega
  · refine ⟨rfl, rfl, rfl, by rw [Lib.bytesWorld_size]; omega, fun k hk => Lib.bytesWorld_at_old w 5 s k hk⟩
/-- 'string(b)'. -/
theorem conv_back {w : World} {g cap : Nat} {l : List Int} (h : Txt w g cap l) : (convert 25 9 (.slice (some ⟨g, 0, none⟩) l.length cap)).run Tryz.prog w = .ok (.string (strOfNums l)) w :=
  run_convert_bytes_arg w 25 5 Tryz.underlying25 Tryz.underlying5 g 0 l.length cap l rfl (fun i hi => by rw [Nat.zero_add]; exact h.cell i hi) 9 Tryz.underlying9
end Go.Proofs.YtflenkppcclclaaGreatDoor

namespace Go.Proofs.YtflenkppcclclaaGreatDoor
open Go.RowKit

/-- What a change answers: a text, in the same block or in a later one; nothing ahead of the block is touched. -/
def TxtAns (w : World) (g : Nat) (l' : List Int) (e : Ending) (w' : World) : Prop :=
  ∃ g' cap', g ≤ g' ∧ e = .returned (.slice (some ⟨g', 0, none⟩) l'.length cap') ∧ Txt w' g' cap' l' ∧ Below g w w'

theorem u8map : (Tryz.prog.info? 5).map (fun i => (i.zero, i.size, i.bytes)) = some (some (.int .u8 0), 1, 1) := by kernel_rfl
theorem u8info : ∃ i0, Tryz.prog.info? 5 = some i0 ∧ i0.zero = some (.int .u8 0) ∧ i0.size = 1 ∧ i0.bytes = 1 := by
  obtain ⟨i, hi, h⟩ := Option.map_eq_some_iff.1 u8map
  simp only [Prod.mk.injEq] at h
  exact ⟨i, hi, h.1, h.2.1, h.2.2⟩
theorem nums_one (l : List Int) : ∀ u ∈ l.map (Value.int .u8), u.oneCell' = true := by
  intro u hu
  obtain ⟨x, _, rfl⟩ := List.mem_map.1 hu
  rfl
theorem below_puts {g o : Nat} (vs : List Value) {w w' : World} (h : Below g w w') : Below g w (w'.setCells g o vs) := by
  induction vs generalizing o w' with
  | nil => exact h
  | cons v r ih => exact ih (h.setCell (Nat.le_refl _) v)

set_option maxHeartbeats 4000000 in
set_option maxRecDepth 1000000 in
theorem delete_any (w : World) (g cap i : Nat) (l : List Int) (h : Txt w g cap l) (hi : i < l.length) :
    Calls Tryz.prog 231 #[.slice (some ⟨g, 0, none⟩) l.length cap, .int .i64 i, .int .i64 (i + 1 : Nat)] w (TxtAns w g (cutL l i)) := by
  obtain ⟨i0, hi0, _, hz1, _⟩ := u8info
  have hle := h.le
  have hm := h.most
  obtain ⟨news, hnews⟩ : ∃ news, news = (l.drop (i + 1)).map (Value.int .u8) := ⟨_, rfl⟩
  have hlen : news.length = l.length - (i + 1) := by rw [hnews]; simp
  have hget : ∀ t, t < l.length - (i + 1) → news[t]? = some (.int .u8 (l.getD (i + 1 + t) 0)) := by
    intro t ht
    rw [hnews, List.getElem?_map, List.getElem?_drop, List.getElem?_eq_getElem (by omega), List.getD_eq_getElem?_getD, List.getElem?_eq_getElem (by omega)]
    rfl
  obtain ⟨A, hA, hsrc⟩ : ∃ A : Addr, (if cap = i + 1 then some (⟨g, 0, none⟩ : Addr) else some ⟨g, i + 1, none⟩) = some A ∧ Hid (∀ t u, news[t]? = some u → w.drew.cell? (A.add t) = some u) := by
    by_cases hc : cap = i + 1
    · refine ⟨⟨g, 0, none⟩, by simp [hc], fun t u hu => ?_⟩
      have h0 : news.length = 0 := by rw [hlen]; omega
      rw [List.length_eq_zero_iff.1 h0] at hu
      simp at hu
    · refine ⟨⟨g, i + 1, none⟩, by simp [hc], fun t u hu => ?_⟩
      have ht : t < l.length - (i + 1) := by
        have := (List.getElem?_eq_some_iff.1 hu).1
        rwa [hlen] at this
      rw [hget t ht] at hu
      rw [Addr.add_lit]
      exact (h.cell (i + 1 + t) (by omega)).trans hu
  have s1 : Hid (news.length = (l.length - (i + 1)) * 1) := by rw [Nat.mul_one]; exact hlen
  have s2 : Hid (∀ u ∈ news, u.oneCell' = true) := by rw [hnews]; exact nums_one _
  have s3 : Hid (∀ t, t < news.length → (w.drew.cell? ⟨g, 0 + i * 1 + t, none⟩).isSome = true ∧ w.drew.frozen? ⟨g, 0 + i * 1 + t, none⟩ = false) := by
    intro t ht
    rw [hlen] at ht
    rw [Nat.mul_one, Nat.zero_add]
    exact ⟨h.room (i + t) (by omega), h.warm (i + t) (by omega)⟩
  obtain ⟨W1, hW1⟩ : ∃ W1, W1 = w.drew.setCells g (0 + i * 1) news := ⟨_, rfl⟩
  have T1 : Txt W1 g cap (l.take i ++ l.drop (i + 1) ++ l.drop (i + (l.drop (i + 1)).length)) := by
    rw [hW1, hnews, Nat.mul_one, Nat.zero_add]
    exact h.drew.put i _ (by omega) (by simp; omega) (h.byt.drop _)
  have B1 : Below g w W1 := by rw [hW1]; exact below_puts _ (Below.refl _ _).drew
  have hcl : ∀ ty, (Builtin.clear_ #[25] ty #[.slice (some ⟨g, i + (l.length - (i + 1)), none⟩) (l.length - (i + (l.length - (i + 1)))) (cap - (i + (l.length - (i + 1))))]).run Tryz.prog W1 = .ok (.tuple #[]) (W1.setCells g (i + (l.length - (i + 1))) (List.replicate (l.length - (i + (l.length - (i + 1)))) (.int .u8 0))) :=
    fun ty => Lib.run_clear_slice W1 _ _ ty _ Tryz.underlying25 Tryz.zeroValue5 rfl rfl g (i + (l.length - (i + 1))) _ _ (by omega) (fun t ht => T1.room _ (by omega)) (fun t ht => T1.warm _ (by omega))
  have X : Hid (Txt W1 g cap (l.take i ++ l.drop (i + 1) ++ l.drop (i + (l.drop (i + 1)).length))) := T1
  have hW : Hid (W1 = w.drew.setCells g (0 + i * 1) news) := hW1
  have hic : i ≤ cap := by omega
  have hjc : i + 1 ≤ cap := by omega
  have HLL : Hid (i < l.length) := hi
  have hx1 : (0 : Int) ≤ (i : Int) + 1 := by omega
  have hx2 : (i : Int) + 1 ≤ (l.length : Int) := by omega
  generalize hLn : l.length = L at *
  clear hW1 T1 h hget hnews hlen
  go_enter Tryz.func231, Tryz.ntmps231
  go_wp2_with fail
  go_region_law (refine step_append_room rfl (.tmp 22) (.tmp 25) 25 rfl 5 i0 1 Tryz.underlying25 hi0 hz1 g 0 i cap (by simp [Act.eval, Act.put]) A (L - (i + 1)) (cap - (i + 1)) news (by simp [Act.eval, Act.put]) s1.out hsrc.out s2.out (by omega) s3.out ?_; rw [← hW.out])
  go_wp2
  go_ret
  have hi := HLL.out
  have hcut : (cutL l i).length = L - 1 := by rw [cut_len _ _ (by omega), hLn]
  refine ⟨g, cap, Nat.le_refl _, by rw [hcut, show L - 1 = i + (L - (i + 1)) by omega]; rfl, ?_, below_puts _ B1⟩
  have T2 := (X.out.put (i + (L - (i + 1))) (List.replicate (L - (i + (L - (i + 1)))) 0) (by simp; omega) (by simp; omega) (fun x hx => by rw [List.eq_of_mem_replicate hx]; omega)).take (L - 1)
  rw [List.map_replicate] at T2
  have e : (List.take (i + (L - (i + 1))) (List.take i l ++ List.drop (i + 1) l ++ List.drop (i + (List.drop (i + 1) l).length) l) ++ List.replicate (L - (i + (L - (i + 1)))) 0 ++ List.drop (i + (L - (i + 1)) + (List.replicate (L - (i + (L - (i + 1)))) (0 : Int)).length) (List.take i l ++ List.drop (i + 1) l ++ List.drop (i + (List.drop (i + 1) l).length) l)).take (L - 1) = cutL l i := by
    rw [List.append_assoc, List.take_append_of_le_length (by simp; omega), List.take_take, Nat.min_eq_left (by omega), List.take_append_of_le_length (by simp; omega), List.take_of_length_le (by simp; omega)]
    rfl
  rw [e] at T2
  exact T2
end Go.Proofs.YtflenkppcclclaaGreatDoor

namespace Go.Proofs.YtflenkppcclclaaGreatDoor
open Go.RowKit

theorem wp_copy_run' (w : World) {o : Oper} {a : Act} {K : Act → World → Prop} {Q : Exit → Act → World → Prop} (d s : Operand) (t t' : TypeId)
    (ho : o.op = .call { callee := .builtin .copy, args := #[d, s], argTypes := #[t, t'] }) (v u : Value) (hd : a.eval d = v) (hs : a.eval s = u) {v' : Value} {w' : World}
    (hr : (Builtin.copy_ #[t, t'] o.type #[v, u]).run Tryz.prog w = .ok v' w') (h : K (a.put o.dst v') w') : o.wp Tryz.prog a w K Q := by
  unfold Oper.wp execOp
  simp only [ho, resolve, invoke, builtin, Sem.run_bind, Sem.run_pure, Result.andThen_ok, List.map_toArray, List.map_cons, List.map_nil, hd, hs, hr]
  exact h
theorem wpList_copy_run' (w : World) {ops : Array Oper} {rest : List Oper} {o : Oper} {a : Act} {Q : Exit → Act → World → Prop} (hgd : o.guard = none) (d s : Operand) (t t' : TypeId)
    (ho : o.op = .call { callee := .builtin .copy, args := #[d, s], argTypes := #[t, t'] }) (v u : Value) (hd : a.eval d = v) (hs : a.eval s = u) {v' : Value} {w' : World}
    (hr : (Builtin.copy_ #[t, t'] o.type #[v, u]).run Tryz.prog w = .ok v' w') (h : wpList Tryz.prog ops Q rest (a.put o.dst v') w') : wpList Tryz.prog ops Q (o :: rest) a w :=
  wpList_plain hgd fun _ hK => wp_copy_run' w d s t t' ho v u hd hs hr (hK _ _ h)
theorem step_copy_run' {ops : Array Oper} {o : Oper} {a : Act} {w : World} {K : Act → World → Prop} {Q : Exit → Act → World → Prop} {E : Prop}
    (hg : o.guard = none) (d x : Operand) (dT sT : TypeId) (hop : o.op = Op.call { callee := Callee.builtin Builtin.copy, args := #[d, x], argTypes := #[dT, sT] })
    (v u : Value) (hd : a.eval d = v) (hx : a.eval x = u) {v' : Value} {w' : World} (hr : (Builtin.copy_ #[dT, sT] o.type #[v, u]).run Tryz.prog w = .ok v' w') (hK : K (a.put o.dst v') w') :
    if Region.wanted o (yielded ops a.tmps) = true then Oper.wp Tryz.prog o a w K Q else E := by
  have hw : Region.wanted o (yielded ops a.tmps) = true := by simp [Region.wanted, hg]
  rw [if_pos hw]
  unfold Oper.wp
  simp [execOp, hop, resolve, invoke, builtin, hd, hx, hr, Result.andThen]
  exact hK

/-- The byte that is put in, in a block of its own. -/
structure One (w : World) (b : Nat) (v : Int) : Prop where
  blk : w.heap[b]? = some (.cells #[.int .u8 v] 5 (0, 0))
theorem One.cell {w : World} {b : Nat} {v : Int} (h : One w b v) : w.cell? ⟨b, 0, none⟩ = some (.int .u8 v) := by simp [World.cell?, h.blk]
theorem One.lt {w : World} {b : Nat} {v : Int} (h : One w b v) : b < w.heap.size := (Array.getElem?_eq_some_iff.1 h.blk).1
theorem One.get {w : World} {b : Nat} {v : Int} (h : One w b v) (j : Nat) (u : Value) (hj : [Value.int .u8 v][j]? = some u) : w.cell? ⟨b, 0 + j, none⟩ = some u := by
  cases j with
  | zero => simp at hj; subst hj; exact h.cell
  | succ j => simp at hj

theorem Txt.get {w : World} {g cap : Nat} {l : List Int} (h : Txt w g cap l) (o j : Nat) (v : Value) (hj : ((l.drop o).map (Value.int .u8))[j]? = some v) : w.cell? ⟨g, o + j, none⟩ = some v := by
  rw [List.getElem?_map, List.getElem?_drop, Option.map_eq_some_iff] at hj
  obtain ⟨x, hx, rfl⟩ := hj
  have hlt := (List.getElem?_eq_some_iff.1 hx).1
  rw [h.cell (o + j) hlt, List.getD_eq_getElem?_getD, hx]
  rfl
theorem u8size : (Tryz.prog.info? 5).map (·.size) = some 1 := by kernel_rfl

set_option maxHeartbeats 4000000 in
set_option maxRecDepth 100000 in
theorem insert_shift (w : World) (g cap i vb : Nat) (l : List Int) (v : Int) (h : Txt w g cap l) (hi : i < l.length) (hroom : l.length + 1 ≤ cap) (H1 : One w vb v) (hvb : vb ≠ g) (h0 : 0 ≤ v) (h1 : v ≤ 255) :
    Calls Tryz.prog 232 #[.slice (some ⟨g, 0, none⟩) l.length cap, .int .i64 i, .slice (some ⟨vb, 0, none⟩) 1 1] w (TxtAns w g (l.take i ++ v :: l.drop i)) := by
  have hm := h.most
  obtain ⟨tB, kB, hsb, hkB⟩ : ∃ tB kB, w.shape? g = some (tB, kB) ∧ kB ≠ 0 := by
    have := h.room 0 (by omega)
    unfold World.cell? at this
    unfold World.shape?
    split at this <;> rename_i hh
    · rename_i c t fz
      refine ⟨t, c.size, by simp only [hh], fun h0 => ?_⟩
      simp [Array.getElem?_eq_none (show c.size ≤ 0 by omega)] at this
    · simp at this
  have hov : ∀ lb cb, (callFunc 240 #[.slice (some ⟨vb, 0, none⟩) 1 1, .slice (some ⟨g, i + 1, none⟩) lb cb]).run Tryz.prog w = .ok (.value (.bool false)) w := fun lb cb => by
    rw [run_callFunc_extern Tryz.func240 (by kernel_rfl) (by kernel_rfl) (by kernel_rfl) (e := Extern.SlicesOverlaps.overlaps #[25, 25] #[4]) (by kernel_rfl),
      Lib.run_overlaps_apart w 25 4 5 Tryz.underlying25 1 Tryz.sizeOf5 ⟨vb, 0, none⟩ ⟨g, i + 1, none⟩ 1 1 lb cb hvb 5 tB 1 kB (by simp [World.shape?, H1.blk]) hsb hkB (by simp [World.frozen?, H1.blk]) (by simp [World.frozen?, H1.blk])]
    rfl
  obtain ⟨cs, hcs⟩ : ∃ cs, cs = (l.drop i).map (Value.int .u8) := ⟨_, rfl⟩
  have hdl : cs.length = l.length - i := by rw [hcs]; simp
  have hcp1 : ∀ ty dc sc, (Builtin.copy_ #[25, 25] ty #[.slice (some ⟨g, i + 1, none⟩) (l.length - i) dc, .slice (some ⟨g, i, none⟩) (l.length + 1 - i) sc]).run Tryz.prog w.drew = .ok (goInt cs.length) (w.drew.setCells g (i + 1) cs) := fun ty dc sc =>
    run_copy_cells w.drew _ _ ty 5 g (i + 1) (l.length - i) dc ⟨g, i, none⟩ (l.length + 1 - i) sc cs Tryz.underlying25 u8size (by rw [hdl]; simp only [Nat.min_def]; split <;> omega)
      (fun j u hj => by rw [Addr.add_lit]; rw [hcs] at hj; exact h.drew.get i j u hj)
      (fun j hj => h.drew.room _ (by omega)) (fun j hj => h.drew.warm _ (by omega)) (by rw [hcs]; exact nums_one _)
  obtain ⟨W1, hW1⟩ : ∃ W1, W1 = w.drew.setCells g (i + 1) cs := ⟨_, rfl⟩
  have T1 : Txt W1 g cap (l.take (i + 1) ++ l.drop i ++ l.drop (i + 1 + (l.drop i).length)) := by
    rw [hW1, hcs]
    exact h.drew.put (i + 1) _ (by omega) (by simp; omega) (h.byt.drop _)
  have B1 : Below g w W1 := by rw [hW1]; exact below_puts _ (Below.refl _ _).drew
  have O1 : W1.cell? ⟨vb, 0, none⟩ = some (.int .u8 v) := by
    rw [hW1, World.cell?_setCells_out g _ _ _ _ (fun hh _ => absurd hh hvb)]
    exact H1.cell
  have hcp2 : ∀ (W : World), (∀ x, W.cell? x = W1.cell? x) → (∀ x, W.frozen? x = W1.frozen? x) → ∀ ty dc, (Builtin.copy_ #[25, 25] ty #[.slice (some ⟨g, i, none⟩) (l.length + 1 - i) dc, .slice (some ⟨vb, 0, none⟩) 1 1]).run Tryz.prog W = .ok (goInt 1) (W.setCells g i [.int .u8 v]) := fun W hWc hWf ty dc =>
    run_copy_cells W _ _ ty 5 g i (l.length + 1 - i) dc ⟨vb, 0, none⟩ 1 1 [.int .u8 v] Tryz.underlying25 u8size (by simp only [Nat.min_def, List.length_cons, List.length_nil]; split <;> omega)
      (fun j u hj => by
        cases j with
        | zero => simp at hj; subst hj; rw [Addr.add_lit, hWc]; exact O1
        | succ j => simp at hj)
      (fun j hj => by rw [hWc]; simp at hj; exact T1.room _ (by omega)) (fun j hj => by rw [hWf]; simp at hj; exact T1.warm _ (by omega)) (by intro u hu; simp at hu; subst hu; rfl)
  have HT : Hid (Txt W1 g cap (l.take (i + 1) ++ l.drop i ++ l.drop (i + 1 + (l.drop i).length))) := T1
  have HB : Hid (Below g w W1) := B1
  rw [← hW1] at hcp1
  have hz2 : ¬ ((i : Int) = (l.length : Int)) := by omega
  have hin : i ≤ l.length := by omega
  have hb2 : ¬ (cap = i + 1) := by omega
  have hb3 : (i : Int) ≤ (l.length : Int) + 1 := by omega
  have hb4 : ¬ (cap = i) := by omega
  have hb1 : (0 : Int) ≤ (i : Int) + 1 := by omega
  have hw1 : IntKind.i64.wrap ((i : Int) + 1) = (i : Int) + 1 := by rw [IntKind.wrap_i64]; omega
  have htn : ((i : Int) + 1).toNat = i + 1 := by omega
  have hb5 : (i : Int) + 1 ≤ (l.length : Int) + 1 := by omega
  have HI : Hid (i < l.length) := hi
  generalize hLn : l.length = L at *
  clear T1 B1 O1 h hdl hcs hsb H1 hW1
  go_enter Tryz.func232, Tryz.ntmps232
  go_wp2_with (simp only [hov])
  go_region_law (refine step_copy_run' rfl _ _ 25 25 rfl _ _ (by simp [Act.eval, Act.put]) (by simp [Act.eval, Act.put]) (hcp1 _ _ _) ?_)
  go_wp2_with (at_builtin; refine wpList_copy_run' _ rfl _ _ 25 25 rfl _ _ rfl rfl (hcp2 _ (fun _ => rfl) (fun _ => rfl) _ _) ?_)
  go_ret
  have hi := HI.out
  refine ⟨g, cap, Nat.le_refl _, by rw [put_len _ _ _ (by omega), hLn]; rfl, ?_, below_puts _ HB.out⟩
  have T2 := HT.out.put i [v] (by simp; omega) (by simp; omega) (byt_one h0 h1)
  have e : List.take i (List.take (i + 1) l ++ List.drop i l ++ List.drop (i + 1 + (List.drop i l).length) l) ++ [v] ++ List.drop (i + [v].length) (List.take (i + 1) l ++ List.drop i l ++ List.drop (i + 1 + (List.drop i l).length) l) = l.take i ++ v :: l.drop i := by
    have e1 : List.drop (i + 1 + (List.drop i l).length) l = [] := List.drop_of_length_le (by simp; omega)
    rw [e1, List.append_nil, List.take_append_of_le_length (by simp; omega), List.take_take, Nat.min_eq_left (by omega)]
    simp only [List.length_cons, List.length_nil, Nat.zero_add]
    have e2 : List.drop (i + 1) (List.take (i + 1) l) = [] := List.drop_of_length_le (by simp; omega)
    rw [List.drop_append_of_le_length (by simp; omega), e2]
    simp
  rw [e] at T2
  exact T2

theorem one_src (w : World) (vb : Nat) (v : Int) (H1 : One w vb v) : Src Tryz.prog 1 25 (.slice (some ⟨vb, 0, none⟩) 1 1) 1 [.int .u8 v] w :=
  Src.ofSlice w Tryz.underlying25 ⟨vb, 0, none⟩ 1 1 [.int .u8 v] rfl (fun j u hj => by rw [Addr.add_lit]; exact H1.get j u hj) (by intro u hu; simp at hu; subst hu; rfl)

set_option maxHeartbeats 4000000 in
set_option maxRecDepth 100000 in
theorem insert_end_room (w : World) (g cap vb : Nat) (l : List Int) (v : Int) (h : Txt w g cap l) (hroom : l.length + 1 ≤ cap) (H1 : One w vb v) (h0 : 0 ≤ v) (h1 : v ≤ 255) :
    Calls Tryz.prog 232 #[.slice (some ⟨g, 0, none⟩) l.length cap, .int .i64 (l.length : Nat), .slice (some ⟨vb, 0, none⟩) 1 1] w (TxtAns w g (l ++ [v])) := by
  have hm := h.most
  obtain ⟨i0, hi0, hz0, hzs, hzb⟩ := u8info
  have hsrc : Src Tryz.prog i0.size 25 (.slice (some ⟨vb, 0, none⟩) 1 1) 1 [Value.int .u8 v] w := by rw [hzs]; exact one_src w vb v H1
  have hsp : ∀ j, j < [Value.int .u8 v].length → (w.cell? ⟨g, 0 + l.length + j, none⟩).isSome = true := fun j hj => by simp at hj; exact h.room _ (by omega)
  have hfz : ∀ j, j < [Value.int .u8 v].length → w.frozen? ⟨g, 0 + l.length + j, none⟩ = false := fun j hj => by simp at hj; exact h.warm _ (by omega)
  have T2 := h.put l.length [v] (Nat.le_refl _) (by simpa using hroom) (byt_one h0 h1)
  have e : List.take l.length l ++ [v] ++ List.drop (l.length + [v].length) l = l ++ [v] := by
    rw [List.take_length, List.drop_of_length_le (by simp), List.append_nil]
  rw [e] at T2
  have HT : Hid (Txt (w.setCells g l.length [.int .u8 v]) g cap (l ++ [v])) := T2
  have hrun : ∀ ty, (Builtin.append_ #[25, 25] ty #[.slice (some ⟨g, 0, none⟩) l.length cap, .slice (some ⟨vb, 0, none⟩) 1 1]).run Tryz.prog w = .ok (.slice (some ⟨g, 0, none⟩) (l.length + 1) cap) (w.setCells g l.length [.int .u8 v]) := fun ty => by
    have := run_append_room_src (w := w) 25 25 ty 5 i0 Tryz.underlying25 hi0 g 0 l.length cap _ 1 [.int .u8 v] hsrc hroom (by rw [hzs, Nat.mul_one]; exact hsp) (by rw [hzs, Nat.mul_one]; exact hfz)
    rw [hzs, Nat.mul_one, Nat.zero_add] at this
    exact this
  generalize hLn : l.length = L at *
  clear T2 h hsrc hsp hfz
  go_enter Tryz.func232, Tryz.ntmps232
  go_wp2_with (at_builtin; refine Lib.wpList_append_run _ rfl _ _ _ _ rfl _ _ rfl rfl _ _ (hrun _) ?_)
  all_goals
    go_ret
    refine ⟨g, cap, Nat.le_refl _, by rw [List.length_append, hLn]; rfl, ?_, below_puts _ (Below.refl _ _)⟩
    exact HT.out

set_option maxHeartbeats 4000000 in
set_option maxRecDepth 100000 in
theorem insert_end_grow (w : World) (g cap vb : Nat) (l : List Int) (v : Int) (h : Txt w g cap l) (hL : l.length ≤ 1000) (hroom : cap < l.length + 1) (H1 : One w vb v) (h0 : 0 ≤ v) (h1 : v ≤ 255) :
    Calls Tryz.prog 232 #[.slice (some ⟨g, 0, none⟩) l.length cap, .int .i64 (l.length : Nat), .slice (some ⟨vb, 0, none⟩) 1 1] w (TxtAns w g (l ++ [v])) := by
  obtain ⟨i0, hi0, hz0, hzs, hzb⟩ := u8info
  have hm := h.most
  have hle := h.le
  have hsrc : Src Tryz.prog i0.size 25 (.slice (some ⟨vb, 0, none⟩) 1 1) 1 [.int .u8 v] w := by rw [hzs]; exact one_src w vb v H1
  have hold : (Builtin.firstCells i0.size l.length (.slice (some ⟨g, 0, none⟩) l.length cap)).run Tryz.prog w.drew = .ok (l.map (Value.int .u8)).toArray w.drew := by
    rw [hzs]
    exact run_firstCells_some w.drew 1 l.length ⟨g, 0, none⟩ l.length cap (l.map (Value.int .u8)) (by simp) (fun j u hj => by rw [Addr.add_lit]; exact h.drew.get 0 j u (by simpa using hj))
  have hrun : ∀ ty, (Builtin.append_ #[25, 25] ty #[.slice (some ⟨g, 0, none⟩) l.length cap, .slice (some ⟨vb, 0, none⟩) 1 1]).run Tryz.prog w = _ := fun ty =>
    run_append_grow_src w 25 25 ty 5 i0 _ Tryz.underlying25 hi0 hz0 (some ⟨g, 0, none⟩) l.length cap (l.map (Value.int .u8)) hold _ 1 [.int .u8 v] hsrc hroom (by omega) (by rw [hzb]; exact growslice_fits hroom (by omega))
  have hge : l.length + 1 ≤ grownCap w (l.length + 1) cap 5 := grownCap_ge w _ _ _
  have hmx := grownCap_le_maxLen w (l.length + 1) cap 5 (by unfold maxLen; omega)
  have T2 := txt_new w.drew (l ++ [v]) (grownCap w (l.length + 1) cap 5 - (l.length + 1)) (h.byt.app (byt_one h0 h1)) (by unfold maxLen at hmx; simp; omega)
  have hg : g < w.heap.size := h.lt
  generalize hG : grownCap w (l.length + 1) cap 5 = G at *
  have HT : Hid (Txt (w.drew.alloc (.cells ((l.map (Value.int .u8) ++ [Value.int .u8 v]).toArray ++ Builtin.zeroCells (Value.int .u8 0).cells (G - (l.length + 1))) 5)) w.heap.size G (l ++ [v])) := by
    have e1 : (l ++ [v]).length + (G - (l.length + 1)) = G := by simp; omega
    rw [e1, List.map_append] at T2
    exact T2
  generalize hLn : l.length = L at *
  clear T2 h hsrc hold
  go_enter Tryz.func232, Tryz.ntmps232
  go_wp2_with (at_builtin; refine Lib.wpList_append_run _ rfl _ _ _ _ rfl _ _ rfl rfl _ _ (hrun _) ?_)
  all_goals
    go_ret
    refine ⟨w.heap.size, G, by omega, by rw [List.length_append, hLn]; rfl, HT.out, (Below.refl _ _).drew.alloc (by simp; omega) _⟩
end Go.Proofs.YtflenkppcclclaaGreatDoor

