import Derived.Test.YtflenkppcclclaaDoorRows
import Derived.WalkKit
import Derived.WalkSpells
import Derived.WalkLawsBesides
import Derived.BigQuiet
import Derived.Deep.QuietTactic
import Derived.Outline
import Derived.Laws.BytesArg
import Derived.OpenShut
import Derived.Laws.IdiomCopy
import Derived.Laws.NewBlocks
import Derived.Lib.ConvBytes
import Derived.Lib.LazyBuf
import Derived.Deep.RegionLaw
import Derived.Lib.SliceRun
namespace Go.Proofs.YtflenkppcclclaaDoor
open Go.RowKit

/-- The table 'shapes', cell by cell. -/
def shapeCells : List Int := [1,0,0, 2,0,1, 1,0,1, 1,1,2, 1,1,0, 1,2,2, 1,2,1, 1,2,1, 1,2,1, 1,2,1, 1,2,1, 1,2,1, 1,2,1, 1,2,1, 2,0,0, 2,1,0, 2,0,1, 2,1,0, 1,1,0, 2,0,0, 2,0,0]
def shp (k : Nat) : Int := shapeCells.getD k 0
def Tab (w : World) : Prop := ∀ k : Nat, k < 63 → w.cell? ⟨0, k, none⟩ = some (.int .i64 (shp k))

theorem Tab.pos {w : World} (hT : Tab w) : 0 < w.heap.size := World.block_lt_of_cell? w ⟨0, 0, none⟩ (hT 0 (by omega))

theorem shapeOf_any (k : Nat) (hk : k ≤ 20) (w : World) (hT : Tab w) :
    Calls Tryd.prog 37 #[.int .u8 (k : Int)] w fun e w' => e = .returned (.agg #[.int .i64 (shp (k * 3)), .int .i64 (shp (k * 3 + 1)), .int .i64 (shp (k * 3 + 2))]) ∧ ∃ c, w' = w.alloc (.cells c 75) := by
  have h0 := hT (k * 3) (by omega)
  have h1 := hT (k * 3 + 1) (by omega)
  have h2 := hT (k * 3 + 2) (by omega)
  have hz := hT.pos
  clear hT
  go_enter Tryd.func37, Tryd.ntmps37
  go_wp2
  refine bodyPost_ret (v := .agg #[.int .i64 (shp (k * 3)), .int .i64 (shp (k * 3 + 1)), .int .i64 (shp (k * 3 + 2))]) (by simp [results, Tryd.results37, go_sem]) rfl ⟨rfl, _, rfl⟩
end Go.Proofs.YtflenkppcclclaaDoor

namespace Go.Proofs.YtflenkppcclclaaDoor
open Go.RowKit

/-! Texts as lists of numbers. -/
def nums (s : ByteArray) : List Int := s.data.toList.map fun b => (b.toNat : Int)
theorem nums_len (s : ByteArray) : (nums s).length = s.size := by
  simp only [nums, List.length_map]
  exact Array.length_toList
def Byt (l : List Int) : Prop := ∀ x ∈ l, 0 ≤ x ∧ x ≤ 255
theorem nums_byt (s : ByteArray) : Byt (nums s) := by
  intro x hx
  simp only [nums, List.mem_map] at hx
  obtain ⟨b, _, rfl⟩ := hx
  have := b.toNat_lt
  omega
theorem ofNat_toNat (b : UInt8) : UInt8.ofNat ((b.toNat : Int)).toNat = b := by simp
theorem str_nums (s : ByteArray) : strOfNums (nums s) = s := by
  cases s with
  | mk d =>
    cases d with
    | mk l =>
      simp only [strOfNums, nums, List.map_map]
      congr 1
      have : ((fun n : Int => UInt8.ofNat n.toNat) ∘ fun b : UInt8 => (b.toNat : Int)) = id := funext fun b => ofNat_toNat b
      rw [this, List.map_id]
theorem nums_inj {a b : ByteArray} (h : nums a = nums b) : a = b := by rw [← str_nums a, ← str_nums b, h]
theorem nums_str {l : List Int} (h : Byt l) : nums (strOfNums l) = l := by
  simp only [strOfNums, nums, List.map_map]
  conv => rhs; rw [← List.map_id l]
  apply List.map_congr_left
  intro x hx
  have := h x hx
  simp only [Function.comp, UInt8.toNat_ofNat', id]
  have e : x.toNat % 256 = x.toNat := Nat.mod_eq_of_lt (by omega)
  rw [show (2 : Nat) ^ 8 = 256 from rfl, e]
  omega
theorem is_str {s : ByteArray} {l : List Int} (h : nums s = l) : s = strOfNums l := by rw [← h, str_nums]
theorem nums_append (a b : ByteArray) : nums (a ++ b) = nums a ++ nums b := by simp [nums]
theorem nums_extract (s : ByteArray) (i j : Nat) : nums (s.extract i j) = ((nums s).drop i).take (j - i) := by
  simp [nums, List.map_take, List.map_drop]
theorem nums_get (s : ByteArray) (i : Nat) (h : i < s.size) : ((s[i]'h).toNat : Int) = (nums s).getD i 0 := by
  have h' : i < s.data.toList.length := by simpa using h
  simp [nums, List.getD, h, ByteArray.getElem_eq_getElem_data]
theorem nums_data (s : ByteArray) (i : Nat) (h : i < s.size) : ((s.data.toList.getD i 0).toNat : Int) = (nums s).getD i 0 := by
  have h' : i < s.data.size := h
  simp [nums, List.getD, Array.getElem?_eq_getElem h']
theorem Byt.at {l : List Int} (h : Byt l) (i : Nat) : 0 ≤ l.getD i 0 ∧ l.getD i 0 ≤ 255 := by
  rw [List.getD_eq_getElem?_getD]
  cases e : l[i]? with
  | none => simp
  | some x => exact h x (List.mem_of_getElem? e)
theorem Byt.set {l : List Int} (h : Byt l) (i : Nat) {v : Int} (h0 : 0 ≤ v) (h1 : v ≤ 255) : Byt (l.set i v) := fun x hx => by
  rcases List.mem_or_eq_of_mem_set hx with hx | rfl
  · exact h x hx
  · exact ⟨h0, h1⟩
theorem Byt.app {a b : List Int} (ha : Byt a) (hb : Byt b) : Byt (a ++ b) := fun x hx => by
  rcases List.mem_append.1 hx with h | h
  · exact ha x h
  · exact hb x h
theorem Byt.take {a : List Int} (ha : Byt a) (n : Nat) : Byt (a.take n) := fun x hx => ha x (List.mem_of_mem_take hx)
theorem Byt.drop {a : List Int} (ha : Byt a) (n : Nat) : Byt (a.drop n) := fun x hx => ha x (List.mem_of_mem_drop hx)
theorem byt_one {v : Int} (h0 : 0 ≤ v) (h1 : v ≤ 255) : Byt [v] := fun x hx => by simp at hx; subst hx; exact ⟨h0, h1⟩
theorem bits_u8 (op : BinOp) (x y : Int) : 0 ≤ bits op .u8 x y ∧ bits op .u8 x y ≤ 255 := by
  have := wf_bits op .u8 x y
  simp [Lit.wf, IntKind.min, IntKind.max, IntKind.signed, IntKind.bits] at this
  omega

/-! P6: the changes in their order. -/
def flipL (l : List Int) (k : Nat) : List Int := l.set (k / 8) (bits .xor .u8 (l.getD (k / 8) 0) (2 ^ (7 - k % 8)))
def markL (k : Nat) : Int := [0, 1, 127, 128, 255].getD k 0
def cutL (l : List Int) (n : Nat) : List Int := l.take n ++ l.drop (n + 1)
def twiceL (l : List Int) (n : Nat) : List Int := l.take n ++ l.getD n 0 :: l.drop n
def mutL (l : List Int) (n : Nat) : Option (List Int) :=
  let L := l.length
  if n < 8 * L then some (flipL l n)
  else if n - 8 * L < 8 * L - 1 then some (flipL (flipL l (n - 8 * L)) (n - 8 * L + 1))
  else if n - 8 * L - (8 * L - 1) < L then some (l.set (n - 8 * L - (8 * L - 1)) (bits .xor .u8 (l.getD (n - 8 * L - (8 * L - 1)) 0) 255))
  else if n - 8 * L - (8 * L - 1) - L < 4 * L then some (l.set ((n - 8 * L - (8 * L - 1) - L) / 4) ((l.getD ((n - 8 * L - (8 * L - 1) - L) / 4) 0 + ((n - 8 * L - (8 * L - 1) - L) % 4 + 1 : Nat)) % 256))
  else if n - 8 * L - (8 * L - 1) - L - 4 * L < 4 * L then some (l.set ((n - 8 * L - (8 * L - 1) - L - 4 * L) / 4) ((l.getD ((n - 8 * L - (8 * L - 1) - L - 4 * L) / 4) 0 - ((n - 8 * L - (8 * L - 1) - L - 4 * L) % 4 + 1 : Nat)) % 256))
  else if n - 8 * L - (8 * L - 1) - L - 4 * L - 4 * L < 5 * L then some (l.set ((n - 8 * L - (8 * L - 1) - L - 4 * L - 4 * L) / 5) (markL ((n - 8 * L - (8 * L - 1) - L - 4 * L - 4 * L) % 5)))
  else if n - 8 * L - (8 * L - 1) - L - 4 * L - 4 * L - 5 * L < L then some (cutL l (n - 8 * L - (8 * L - 1) - L - 4 * L - 4 * L - 5 * L))
  else if n - 8 * L - (8 * L - 1) - L - 4 * L - 4 * L - 5 * L - L < L ∧ L < 24 then some (twiceL l (n - 8 * L - (8 * L - 1) - L - 4 * L - 4 * L - 5 * L - L))
  else none

/-! P7: chance. -/
/-- The seed behind a draw. -/
def nextI (x : Int) : Int :=
  bits .xor .u64 (bits .xor .u64 (bits .xor .u64 x (x / 4096)) (IntKind.u64.wrap (bits .xor .u64 x (x / 4096) * 33554432))) (bits .xor .u64 (bits .xor .u64 x (x / 4096)) (IntKind.u64.wrap (bits .xor .u64 x (x / 4096) * 33554432)) / 134217728)
def sd (x : Int) : Int := nextI (if x = 0 then 88172645463325252 else x)
/-- What is drawn from it, below n. -/
def dr (x : Int) (n : Nat) : Nat := (IntKind.u64.wrap (sd x * 2685821657736338717) / 8589934592).toNat % n
def onceL (l o : List Int) (x : Int) : List Int × Int :=
  let L := l.length
  let w := dr x 6
  let y := sd x
  if L = 0 ∧ w ≠ 3 ∧ w ≠ 4 then (l, y)
  else if w = 0 then (flipL l (dr y (8 * L)), sd y)
  else if w = 1 then (l.set (dr y L) (dr (sd y) 256 : Int), sd (sd y))
  else if w = 2 then (cutL l (dr y L), sd y)
  else if w = 3 then (if 24 ≤ L then (l, y) else (l.take (dr y (L + 1)) ++ (dr (sd y) 256 : Int) :: l.drop (dr y (L + 1)), sd (sd y)))
  else if w = 4 then ((l.take (dr y (L + 1)) ++ o.drop (dr (sd y) (o.length + 1))).take 24, sd (sd y))
  else (l.set (dr y L) (l.getD (dr (sd y) L) 0), sd (sd y))
def timesL (l o : List Int) (x : Int) : Nat → List Int × Int
  | 0 => (l, x)
  | n + 1 => onceL (timesL l o x n).1 o (timesL l o x n).2
def wildL (l o : List Int) (x : Int) : List Int × Int := timesL l o (sd x) (1 + dr x 4)

theorem flip_len (l : List Int) (k : Nat) : (flipL l k).length = l.length := by simp [flipL]
theorem flip_byt {l : List Int} (h : Byt l) (k : Nat) : Byt (flipL l k) := h.set _ (bits_u8 _ _ _).1 (bits_u8 _ _ _).2
theorem cut_len (l : List Int) (k : Nat) (h : k < l.length) : (cutL l k).length = l.length - 1 := by simp [cutL]; omega
theorem cut_byt {l : List Int} (h : Byt l) (k : Nat) : Byt (cutL l k) := (h.take _).app (h.drop _)
theorem put_byt {l : List Int} (h : Byt l) (k : Nat) {v : Int} (h0 : 0 ≤ v) (h1 : v ≤ 255) : Byt (l.take k ++ v :: l.drop k) := (h.take _).app (fun x hx => by
  rcases List.mem_cons.1 hx with rfl | hx
  · exact ⟨h0, h1⟩
  · exact h.drop _ x hx)
theorem put_len (l : List Int) (k : Nat) (v : Int) (h : k ≤ l.length) : (l.take k ++ v :: l.drop k).length = l.length + 1 := by simp; omega
theorem dr_lt (x : Int) (n : Nat) (h : 0 < n) : dr x n < n := Nat.mod_lt _ h
theorem once_byt {l o : List Int} (hl : Byt l) (ho : Byt o) (x : Int) : Byt (onceL l o x).1 := by
  unfold onceL
  dsimp only
  have hd := dr_lt (sd (sd x)) 256 (by omega)
  split
  · exact hl
  split
  · exact flip_byt hl _
  split
  · exact hl.set _ (by omega) (by omega)
  split
  · exact cut_byt hl _
  split
  · split
    · exact hl
    · exact put_byt hl _ (by omega) (by omega)
  split
  · exact ((hl.take _).app (ho.drop _)).take _
  · exact hl.set _ (hl.at _).1 (hl.at _).2
theorem once_len {l o : List Int} (hl : l.length ≤ 24) (ho : o.length ≤ 24) (x : Int) : (onceL l o x).1.length ≤ 24 ∧ (onceL l o x).1.length ≤ l.length + o.length + 1 := by
  unfold onceL
  dsimp only
  split
  · exact ⟨hl, by dsimp only; omega⟩
  split
  · rw [flip_len]; exact ⟨hl, by omega⟩
  split
  · simp; omega
  split
  · simp [cutL]; omega
  split
  · split
    · exact ⟨hl, by dsimp only; omega⟩
    · have := dr_lt (sd x) (l.length + 1) (by omega)
      rw [put_len _ _ _ (by omega)]; omega
  split
  · simp; omega
  · simp; omega
theorem times_byt {l o : List Int} (hl : Byt l) (ho : Byt o) (x : Int) : ∀ n, Byt (timesL l o x n).1
  | 0 => hl
  | n + 1 => once_byt (times_byt hl ho x n) ho _
theorem times_len {l o : List Int} (hl : l.length ≤ 24) (ho : o.length ≤ 24) (x : Int) : ∀ n, (timesL l o x n).1.length ≤ 24 ∧ (timesL l o x n).1.length ≤ l.length + n * (o.length + 1)
  | 0 => ⟨hl, by simp [timesL]⟩
  | n + 1 => by
    have ih := times_len hl ho x n
    have := once_len ih.1 ho (timesL l o x n).2
    refine ⟨this.1, ?_⟩
    rw [Nat.succ_mul]
    have := this.2
    show (onceL _ o _).1.length ≤ _
    omega
end Go.Proofs.YtflenkppcclclaaDoor

namespace Go.Proofs.YtflenkppcclclaaDoor
open Go.RowKit

/-! A text that may be written to: the first cells of the block g hold l; there is room for cap in all. -/
structure Txt (w : World) (g cap : Nat) (l : List Int) : Prop where
  cell : ∀ i, i < l.length → w.cell? ⟨g, i, none⟩ = some (.int .u8 (l.getD i 0))
  room : ∀ i, i < cap → (w.cell? ⟨g, i, none⟩).isSome = true
  warm : ∀ i, i < cap → w.frozen? ⟨g, i, none⟩ = false
  le : l.length ≤ cap
  most : cap ≤ 9223372036854775807
  lt : g < w.heap.size
  byt : Byt l

theorem Txt.of_block {w w' : World} {g cap : Nat} {l : List Int} (h : Txt w g cap l) (hb : w'.heap[g]? = w.heap[g]?) (hs : w.heap.size ≤ w'.heap.size) : Txt w' g cap l where
  cell := fun i hi => (World.cell?_of_block (w := w) hb).trans (h.cell i hi)
  room := fun i hi => by rw [World.cell?_of_block (w := w) (w' := w') (a := ⟨g, i, none⟩) hb]; exact h.room i hi
  warm := fun i hi => (World.frozen?_of_block (w := w) (w' := w') (a := ⟨g, i, none⟩) hb).trans (h.warm i hi)
  le := h.le
  most := h.most
  lt := Nat.lt_of_lt_of_le h.lt hs
  byt := h.byt
theorem Txt.below {w w' : World} {g cap B : Nat} {l : List Int} (h : Txt w g cap l) (b : Below B w w') (hg : g < B) : Txt w' g cap l := h.of_block (b.block g hg) b.size
theorem Txt.drew {w : World} {g cap : Nat} {l : List Int} (h : Txt w g cap l) : Txt w.drew g cap l := h.of_block rfl (Nat.le_refl _)
theorem Txt.drewN {w : World} {g cap : Nat} {l : List Int} (h : Txt w g cap l) (n : Nat) : Txt (w.drewN n) g cap l := h.of_block rfl (Nat.le_refl _)
theorem Txt.alloc {w : World} {g cap : Nat} {l : List Int} (h : Txt w g cap l) (o : Obj) : Txt (w.alloc o) g cap l := h.of_block (Below.heap_alloc w o g h.lt) (by simp)
theorem Txt.other {w : World} {g cap : Nat} {l : List Int} (h : Txt w g cap l) {a : Addr} (ha : g ≠ a.block) (v : Value) : Txt (w.setCell a v) g cap l := h.of_block (Below.heap_setCell w a v g ha) (by simp)
theorem Txt.take {w : World} {g cap : Nat} {l : List Int} (h : Txt w g cap l) (n : Nat) : Txt w g cap (l.take n) where
  cell := fun i hi => by
    rw [List.length_take] at hi
    rw [h.cell i (by omega), List.getD_eq_getElem?_getD, List.getD_eq_getElem?_getD, List.getElem?_take, if_pos (by omega)]
  room := h.room
  warm := h.warm
  le := by rw [List.length_take]; have := h.le; omega
  most := h.most
  lt := h.lt
  byt := h.byt.take n
theorem setCells_size (b : Nat) : ∀ (vs : List Value) (o : Nat) (w : World), (w.setCells b o vs).heap.size = w.heap.size
  | [], _, _ => rfl
  | v :: r, o, w => by rw [World.setCells, setCells_size b r]; simp
theorem setCells_some (b : Nat) : ∀ (vs : List Value) (o : Nat) (w : World) (x : Addr), (w.cell? x).isSome = true → ((w.setCells b o vs).cell? x).isSome = true
  | [], _, _, _, h => h
  | v :: r, o, w, x, h => by
    rw [World.setCells]
    apply setCells_some b r
    by_cases e : x = ⟨b, o, none⟩
    · subst e
      obtain ⟨u, hu⟩ := Option.isSome_iff_exists.1 h
      rw [World.cell?_setCell_same w ⟨b, o, none⟩ v hu]
      rfl
    · rw [World.cell?_setCell_other _ _ _ _ (fun h => e h.symm)]; exact h
/-- Cells written into it. -/
theorem Txt.put {w : World} {g cap : Nat} {l : List Int} (h : Txt w g cap l) (o : Nat) (vs : List Int) (ho : o ≤ l.length) (hv : o + vs.length ≤ cap) (hb : Byt vs) :
    Txt (w.setCells g o (vs.map (Value.int .u8))) g cap (l.take o ++ vs ++ l.drop (o + vs.length)) where
  cell := fun i hi => by
    have hin := World.cell?_setCells_in g (vs.map (Value.int .u8)) o w (fun j hj => h.room _ (by simp at hj; omega))
    rw [List.getD_eq_getElem?_getD]
    by_cases h1 : i < o
    · rw [World.cell?_setCells_out _ _ _ _ _ (fun _ _ => Or.inl h1), h.cell i (by omega), List.append_assoc, List.getElem?_append_left (by simp; omega), List.getElem?_take, if_pos h1, List.getD_eq_getElem?_getD]
    · by_cases h2 : i < o + vs.length
      · have := hin (i - o) (by simp; omega)
        rw [show o + (i - o) = i by omega] at this
        have e1 : (List.take o l ++ vs)[i]? = some (vs[i - o]'(by omega)) := by
          rw [List.getElem?_append_right (by simp; omega)]
          simp only [List.length_take, Nat.min_eq_left ho]
          exact List.getElem?_eq_getElem (by omega)
        rw [this, List.getElem?_append_left (by simp; omega), e1]
        simp
      · have hi' : i < l.length := by simp at hi; omega
        rw [World.cell?_setCells_out _ _ _ _ _ (fun _ _ => Or.inr (by simp; omega)), h.cell i hi', List.getElem?_append_right (by simp; omega), List.getElem?_drop, List.getD_eq_getElem?_getD]
        simp only [List.length_append, List.length_take, Nat.min_eq_left ho]
        rw [show o + vs.length + (i - (o + vs.length)) = i by omega]
  room := fun i hi => setCells_some _ _ _ _ _ (h.room i hi)
  warm := fun i hi => by rw [World.frozen?_setCells]; exact h.warm i hi
  le := by have := h.le; simp; omega
  most := h.most
  lt := by rw [setCells_size]; exact h.lt
  byt := ((h.byt.take o).app hb).app (h.byt.drop _)
/-- One byte written. -/
theorem Txt.set {w : World} {g cap : Nat} {l : List Int} (h : Txt w g cap l) (i : Nat) (v : Int) (hi : i < l.length) (h0 : 0 ≤ v) (h1 : v ≤ 255) : Txt (w.setCell ⟨g, i, none⟩ (.int .u8 v)) g cap (l.set i v) := by
  have hle := h.le
  have := h.put i [v] (by omega) (by simp; omega) (byt_one h0 h1)
  have e : l.take i ++ [v] ++ l.drop (i + [v].length) = l.set i v := by
    rw [List.set_eq_take_append_cons_drop, if_pos hi]
    simp
  rw [e] at this
  exact this
theorem Txt.at {w : World} {g cap : Nat} {l : List Int} (h : Txt w g cap l) (i : Nat) (hi : i < l.length) : w.cell? ⟨g, i, none⟩ = some (.int .u8 (l.getD i 0)) ∧ w.frozen? ⟨g, i, none⟩ = false := ⟨h.cell i hi, h.warm i (by have := h.le; omega)⟩
/-- A new row. -/
theorem txt_new (w : World) (l : List Int) (n : Nat) (hl : Byt l) (hm : l.length + n ≤ 9223372036854775807) :
    Txt (w.alloc (.cells ((l.map (Value.int .u8)).toArray ++ Builtin.zeroCells (Value.int .u8 0).cells n) 5)) w.heap.size (l.length + n) l where
  cell := fun i hi => by
    rw [World.cell?_alloc_new, Array.getElem?_append_left (by simp; exact hi)]
    simp [List.getD_eq_getElem?_getD, List.getElem?_eq_getElem hi]
  room := fun i hi => by
    rw [World.cell?_alloc_new, Array.getElem?_eq_getElem (by simp [Builtin.zeroCells, Value.cells]; exact hi)]
    rfl
  warm := fun i _ => World.frozen?_alloc_at (w := w) _ _ w.heap.size i rfl
  le := by omega
  most := hm
  lt := by simp
  byt := hl

/-- '[]byte(s)'. -/
theorem conv_in (w : World) (s : ByteArray) (hs : s.size ≤ 1000) : ∃ w' cap, (convert 9 25 (.string s)).run Tryd.prog w = .ok (.slice (some ⟨w.heap.size, 0, none⟩) s.size cap) w' ∧ Txt w' w.heap.size cap (nums s) ∧ Below w.heap.size w w' ∧ w'.heap.size = w.heap.size + 1 := by
  refine ⟨_, _, Lib.run_convert_string_bytes w 9 25 5 s Tryd.underlying9 Tryd.underlying25 Tryd.underlying5, ?_, ?_, Lib.bytesWorld_size _ _ _⟩
  · have hge : s.size ≤ grownCap w s.size 0 5 := grownCap_ge w _ _ _
    have hle := grownCap_le_maxLen w s.size 0 5 (by unfold maxLen; omega)
    have hn := Lib.bytesWorld_at_new w 5 s
    have hsz : (Lib.bytesCells w 5 s).size = grownCap w s.size 0 5 := by
      unfold Lib.bytesCells
      simp
      have : s.data.size = s.size := rfl
      omega
    refine ⟨fun i hi => ?_, fun i hi => ?_, fun i hi => ?_, by rw [nums_len]; exact hge, by unfold maxLen at hle; omega, by rw [Lib.bytesWorld_size]; omega, nums_byt s⟩
    · rw [nums_len] at hi
      rw [Lib.bytesWorld_cell w 5 s i hi, nums_data s i hi]
    · simp only [World.cell?, hn]
      rw [Array.getElem?_eq_getElem (by rw [hsz]; exact hi)]
      rfl
    · simp only [World.frozen?, hn]
      rw [hsz]
      simp
      omega
  · refine ⟨rfl, rfl, rfl, by rw [Lib.bytesWorld_size]; omega, fun k hk => Lib.bytesWorld_at_old w 5 s k hk⟩
/-- 'string(b)'. -/
theorem conv_back {w : World} {g cap : Nat} {l : List Int} (h : Txt w g cap l) : (convert 25 9 (.slice (some ⟨g, 0, none⟩) l.length cap)).run Tryd.prog w = .ok (.string (strOfNums l)) w :=
  run_convert_bytes_arg w 25 5 Tryd.underlying25 Tryd.underlying5 g 0 l.length cap l rfl (fun i hi => by rw [Nat.zero_add]; exact h.cell i hi) 9 Tryd.underlying9
end Go.Proofs.YtflenkppcclclaaDoor

namespace Go.Proofs.YtflenkppcclclaaDoor
open Go.RowKit

/-- What a change answers: a text, in the same block or in a later one; nothing ahead of the block is touched. -/
def TxtAns (w : World) (g : Nat) (l' : List Int) (e : Ending) (w' : World) : Prop :=
  ∃ g' cap', g ≤ g' ∧ e = .returned (.slice (some ⟨g', 0, none⟩) l'.length cap') ∧ Txt w' g' cap' l' ∧ Below g w w'

theorem u8map : (Tryd.prog.info? 5).map (fun i => (i.zero, i.size, i.bytes)) = some (some (.int .u8 0), 1, 1) := by kernel_rfl
theorem u8info : ∃ i0, Tryd.prog.info? 5 = some i0 ∧ i0.zero = some (.int .u8 0) ∧ i0.size = 1 ∧ i0.bytes = 1 := by
  obtain ⟨i, hi, h⟩ := Option.map_eq_some_iff.1 u8map
  simp only [Prod.mk.injEq] at h
  exact ⟨i, hi, h.1, h.2.1, h.2.2⟩
theorem nums_one (l : List Int) : ∀ u ∈ l.map (Value.int .u8), u.oneCell' = true := by
  intro u hu
  obtain ⟨x, _, rfl⟩ := List.mem_map.1 hu
  rfl
theorem below_puts {g o : Nat} (vs : List Value) {w w' : World} (h : Below g w w') : Below g w (w'.setCells g o vs) := by
  induction vs generalizing o w' with
  | nil => exact h
  | cons v r ih => exact ih (h.setCell (Nat.le_refl _) v)

set_option maxHeartbeats 4000000 in
set_option maxRecDepth 1000000 in
theorem delete_any (w : World) (g cap i : Nat) (l : List Int) (h : Txt w g cap l) (hi : i < l.length) :
    Calls Tryd.prog 69 #[.slice (some ⟨g, 0, none⟩) l.length cap, .int .i64 i, .int .i64 (i + 1 : Nat)] w (TxtAns w g (cutL l i)) := by
  obtain ⟨i0, hi0, _, hz1, _⟩ := u8info
  have hle := h.le
  have hm := h.most
  obtain ⟨news, hnews⟩ : ∃ news, news = (l.drop (i + 1)).map (Value.int .u8) := ⟨_, rfl⟩
  have hlen : news.length = l.length - (i + 1) := by rw [hnews]; simp
  have hget : ∀ t, t < l.length - (i + 1) → news[t]? = some (.int .u8 (l.getD (i + 1 + t) 0)) := by
    intro t ht
    rw [hnews, List.getElem?_map, List.getElem?_drop, List.getElem?_eq_getElem (by omega), List.getD_eq_getElem?_getD, List.getElem?_eq_getElem (by omega)]
    rfl
  obtain ⟨A, hA, hsrc⟩ : ∃ A : Addr, (if cap = i + 1 then some (⟨g, 0, none⟩ : Addr) else some ⟨g, i + 1, none⟩) = some A ∧ Hid (∀ t u, news[t]? = some u → w.drew.cell? (A.add t) = some u) := by
    by_cases hc : cap = i + 1
    · refine ⟨⟨g, 0, none⟩, by simp [hc], fun t u hu => ?_⟩
      have h0 : news.length = 0 := by rw [hlen]; omega
      rw [List.length_eq_zero_iff.1 h0] at hu
      simp at hu
    · refine ⟨⟨g, i + 1, none⟩, by simp [hc], fun t u hu => ?_⟩
      have ht : t < l.length - (i + 1) := by
        have := (List.getElem?_eq_some_iff.1 hu).1
        rwa [hlen] at this
      rw [hget t ht] at hu
      rw [Addr.add_lit]
      exact (h.cell (i + 1 + t) (by omega)).trans hu
  have s1 : Hid (news.length = (l.length - (i + 1)) * 1) := by rw [Nat.mul_one]; exact hlen
  have s2 : Hid (∀ u ∈ news, u.oneCell' = true) := by rw [hnews]; exact nums_one _
  have s3 : Hid (∀ t, t < news.length → (w.drew.cell? ⟨g, 0 + i * 1 + t, none⟩).isSome = true ∧ w.drew.frozen? ⟨g, 0 + i * 1 + t, none⟩ = false) := by
    intro t ht
    rw [hlen] at ht
    rw [Nat.mul_one, Nat.zero_add]
    exact ⟨h.room (i + t) (by omega), h.warm (i + t) (by omega)⟩
  obtain ⟨W1, hW1⟩ : ∃ W1, W1 = w.drew.setCells g (0 + i * 1) news := ⟨_, rfl⟩
  have T1 : Txt W1 g cap (l.take i ++ l.drop (i + 1) ++ l.drop (i + (l.drop (i + 1)).length)) := by
    rw [hW1, hnews, Nat.mul_one, Nat.zero_add]
    exact h.drew.put i _ (by omega) (by simp; omega) (h.byt.drop _)
  have B1 : Below g w W1 := by rw [hW1]; exact below_puts _ (Below.refl _ _).drew
  have hcl : ∀ ty, (Builtin.clear_ #[25] ty #[.slice (some ⟨g, i + (l.length - (i + 1)), none⟩) (l.length - (i + (l.length - (i + 1)))) (cap - (i + (l.length - (i + 1))))]).run Tryd.prog W1 = .ok (.tuple #[]) (W1.setCells g (i + (l.length - (i + 1))) (List.replicate (l.length - (i + (l.length - (i + 1)))) (.int .u8 0))) :=
    fun ty => Lib.run_clear_slice W1 _ _ ty _ Tryd.underlying25 Tryd.zeroValue5 rfl rfl g (i + (l.length - (i + 1))) _ _ (by omega) (fun t ht => T1.room _ (by omega)) (fun t ht => T1.warm _ (by omega))
  have X : Hid (Txt W1 g cap (l.take i ++ l.drop (i + 1) ++ l.drop (i + (l.drop (i + 1)).length))) := T1
  have hW : Hid (W1 = w.drew.setCells g (0 + i * 1) news) := hW1
  have hic : i ≤ cap := by omega
  have hjc : i + 1 ≤ cap := by omega
  have HLL : Hid (i < l.length) := hi
  have hx1 : (0 : Int) ≤ (i : Int) + 1 := by omega
  have hx2 : (i : Int) + 1 ≤ (l.length : Int) := by omega
  generalize hLn : l.length = L at *
  clear hW1 T1 h hget hnews hlen
  go_enter Tryd.func69, Tryd.ntmps69
  go_wp2_with fail
  go_region_law (refine step_append_room rfl (.tmp 22) (.tmp 25) 25 rfl 5 i0 1 Tryd.underlying25 hi0 hz1 g 0 i cap (by simp [Act.eval, Act.put]) A (L - (i + 1)) (cap - (i + 1)) news (by simp [Act.eval, Act.put]) s1.out hsrc.out s2.out (by omega) s3.out ?_; rw [← hW.out])
  go_wp2
  go_ret
  have hi := HLL.out
  have hcut : (cutL l i).length = L - 1 := by rw [cut_len _ _ (by omega), hLn]
  refine ⟨g, cap, Nat.le_refl _, by rw [hcut, show L - 1 = i + (L - (i + 1)) by omega]; rfl, ?_, below_puts _ B1⟩
  have T2 := (X.out.put (i + (L - (i + 1))) (List.replicate (L - (i + (L - (i + 1)))) 0) (by simp; omega) (by simp; omega) (fun x hx => by rw [List.eq_of_mem_replicate hx]; omega)).take (L - 1)
  rw [List.map_replicate] at T2
  have e : (List.take (i + (L - (i + 1))) (List.take i l ++ List.drop (i + 1) l ++ List.drop (i + (List.drop (i + 1) l).length) l) ++ List.replicate (L - (i + (L - (i + 1)))) 0 ++ List.drop (i + (L - (i + 1)) + (List.replicate (L - (i + (L - (i + 1)))) (0 : Int)).length) (List.take i l ++ List.drop (i + 1) l ++ List.drop (i + (List.drop (i + 1) l).length) l)).take (L - 1) = cutL l i := by
    rw [List.append_assoc, List.take_append_of_le_length (by simp; omega), List.take_take, Nat.min_eq_left (by omega), List.take_append_of_le_length (by simp; omega), List.take_of_length_le (by simp; omega)]
    rfl
  rw [e] at T2
  exact T2
end Go.Proofs.YtflenkppcclclaaDoor

