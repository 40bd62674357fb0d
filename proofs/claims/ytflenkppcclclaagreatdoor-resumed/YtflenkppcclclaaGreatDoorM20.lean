import Derived.Test.YtflenkppcclclaaGreatDoorM19
namespace Go.Proofs.YtflenkppcclclaaGreatDoor
open Go.RowKit

/-- A new row, of which a part is zero so far. -/
theorem txt_zeros (w : World) (l : List Int) (k n : Nat) (hl : Byt l) (hm : l.length + k + n ≤ 9223372036854775807) :
    Txt (w.alloc (.cells ((l.map (Value.int .u8)).toArray ++ Builtin.zeroCells (Value.int .u8 0).cells k ++ Builtin.zeroCells (Value.int .u8 0).cells n) 5)) w.heap.size (l.length + k + n) l where
  cell := fun i hi => by
    rw [World.cell?_alloc_new, Array.append_assoc, Array.getElem?_append_left (by simp; exact hi)]
    simp [List.getD_eq_getElem?_getD, List.getElem?_eq_getElem hi]
  room := fun i hi => by
    rw [World.cell?_alloc_new, Array.getElem?_eq_getElem (by simp [Builtin.zeroCells, Value.cells]; omega)]
    rfl
  warm := fun i _ => World.frozen?_alloc_at (w := w) _ _ w.heap.size i rfl
  le := by omega
  most := hm
  lt := by simp
  byt := hl

theorem setCell_heap {w w' : World} (h : w.heap = w'.heap) (a : Addr) (v : Value) : (w.setCell a v).heap = (w'.setCell a v).heap := by
  unfold World.setCell
  dsimp only
  rw [h]
theorem setCells_heap (b : Nat) : ∀ (vs : List Value) (o : Nat) {w w' : World}, w.heap = w'.heap → (w.setCells b o vs).heap = (w'.setCells b o vs).heap
  | [], _, _, _, h => h
  | v :: r, o, _, _, h => setCells_heap b r (o + 1) (setCell_heap h _ v)

set_option maxHeartbeats 4000000 in
set_option maxRecDepth 100000 in
theorem insert_grow (w : World) (g cap i vb : Nat) (l : List Int) (v : Int) (h : Txt w g cap l) (hL : l.length ≤ 1000) (hi : i < l.length) (hroom : cap < l.length + 1) (H1 : One w vb v) (h0 : 0 ≤ v) (h1 : v ≤ 255) :
    Calls Tryz.prog 232 #[.slice (some ⟨g, 0, none⟩) l.length cap, .int .i64 i, .slice (some ⟨vb, 0, none⟩) 1 1] w (TxtAns w g (l.take i ++ v :: l.drop i)) := by
  obtain ⟨i0, hi0, hz0, hzs, hzb⟩ := u8info
  have hm := h.most
  have hle := h.le
  have hbw : g < w.heap.size := h.lt
  have hvw : vb < w.heap.size := H1.lt
  have hkk : (l.length : Int) + 1 - (i : Int) = ((l.length + 1 - i : Nat) : Int) := by omega
  have hik : i + (l.length + 1 - i) = l.length + 1 := by omega
  have hold : (Builtin.firstCells i0.size i (.slice (some ⟨g, 0, none⟩) i cap)).run Tryz.prog w.drew = .ok ((l.take i).map (Value.int .u8)).toArray w.drew := by
    rw [hzs]
    exact run_firstCells_some w.drew 1 i ⟨g, 0, none⟩ i cap ((l.take i).map (Value.int .u8)) (by simp; omega) (fun j u hj => by
      rw [Addr.add_lit]
      exact ((h.drew.take i).get 0 j u (by simpa using hj)))
  have hrz : ∀ ty, (Builtin.append_ #[25, 3] ty #[.slice (some ⟨g, 0, none⟩) i cap, .int .i64 ((l.length : Int) + 1 - (i : Int))]).run Tryz.prog w =
      .ok (.slice (some ⟨w.heap.size, 0, none⟩) (l.length + 1) (grownCap w (l.length + 1) cap 5)) (w.drew.alloc (.cells (((l.take i).map (Value.int .u8)).toArray ++ Builtin.zeroCells (Value.int .u8 0).cells (l.length + 1 - i) ++ Builtin.zeroCells (Value.int .u8 0).cells (grownCap w (l.length + 1) cap 5 - (l.length + 1))) 5)) := fun ty => by
    have h' := Lib.run_append_grow_zeros w 25 3 ty 5 i0 _ .i64 .i64 Tryz.underlying25 Tryz.underlying3 hi0 hz0 (some ⟨g, 0, none⟩) i cap ((l.take i).map (Value.int .u8)) hold (l.length + 1 - i) (by omega) (by omega) (by omega) (by omega) (by rw [hzb]; omega) (by rw [hzb, hik]; exact growslice_fits hroom (by omega))
    rw [hik] at h'
    rw [hkk]
    exact h'
  have hGn : l.length + 1 ≤ grownCap w (l.length + 1) cap 5 := grownCap_ge w _ _ _
  have hmx := grownCap_le_maxLen w (l.length + 1) cap 5 (by unfold maxLen; omega)
  obtain ⟨G, hG⟩ : ∃ G, G = grownCap w (l.length + 1) cap 5 := ⟨_, rfl⟩
  rw [← hG] at hrz hGn hmx
  have hG63 : G ≤ 9223372036854775807 := by unfold maxLen at hmx; omega
  have hlt : (l.take i).length = i := by simp; omega
  have TZ := txt_zeros w.drew (l.take i) (l.length + 1 - i) (G - (l.length + 1)) (h.byt.take i) (by rw [hlt]; omega)
  rw [hlt, show i + (l.length + 1 - i) + (G - (l.length + 1)) = G by omega] at TZ
  obtain ⟨ROW, hROW⟩ : ∃ ROW : Array Value, ROW = ((l.take i).map (Value.int .u8)).toArray ++ Builtin.zeroCells (Value.int .u8 0).cells (l.length + 1 - i) ++ Builtin.zeroCells (Value.int .u8 0).cells (G - (l.length + 1)) := ⟨_, rfl⟩
  rw [← hROW] at hrz TZ
  have T0 : Txt (w.drew.alloc (.cells ROW 5)) w.heap.size G (l.take i) := TZ
  obtain ⟨W1, hW1⟩ : ∃ W1, W1 = w.drew.alloc (.cells ROW 5) := ⟨_, rfl⟩
  rw [← hW1] at hrz T0
  have hOb : ∀ j u, w.cell? ⟨g, j, none⟩ = some u → W1.cell? ⟨g, j, none⟩ = some u := fun j u hu => by rw [hW1, World.cell?_alloc_past (w := w.drew) _ g j hbw]; exact hu
  have hOv : W1.cell? ⟨vb, 0, none⟩ = some (.int .u8 v) := by rw [hW1, World.cell?_alloc_past (w := w.drew) _ vb 0 hvw]; exact H1.cell
  have hcpA : ∀ (W : World), (∀ x, W.cell? x = W1.cell? x) → (∀ x, W.frozen? x = W1.frozen? x) → ∀ ty dc, (Builtin.copy_ #[25, 25] ty #[.slice (some ⟨w.heap.size, i, none⟩) (l.length + 1 - i) dc, .slice (some ⟨vb, 0, none⟩) 1 1]).run Tryz.prog W = .ok (goInt 1) (W.setCells w.heap.size i [.int .u8 v]) := fun W hWc hWf ty dc =>
    run_copy_cells W _ _ ty 5 w.heap.size i (l.length + 1 - i) dc ⟨vb, 0, none⟩ 1 1 [.int .u8 v] Tryz.underlying25 u8size (by simp only [Nat.min_def, List.length_cons, List.length_nil]; split <;> omega)
      (fun j u hj => by
        cases j with
        | zero => simp at hj; subst hj; rw [Addr.add_lit, hWc]; exact hOv
        | succ j => simp at hj)
      (fun j hj => by rw [hWc]; simp at hj; exact T0.room _ (by omega)) (fun j hj => by rw [hWf]; simp at hj; exact T0.warm _ (by omega)) (by intro u hu; simp at hu; subst hu; rfl)
  have hbN : g ≠ w.heap.size := by omega
  obtain ⟨cs, hcs⟩ : ∃ cs, cs = (l.drop i).map (Value.int .u8) := ⟨_, rfl⟩
  have hdl : cs.length = l.length - i := by rw [hcs]; simp
  have T1 := T0.put i [v] (by rw [hlt]; omega) (by simp; omega) (byt_one h0 h1)
  have hcpB : ∀ (W : World), (∀ x, W.cell? x = (W1.setCells w.heap.size i [.int .u8 v]).cell? x) → (∀ x, W.frozen? x = (W1.setCells w.heap.size i [.int .u8 v]).frozen? x) → ∀ ty dc sc, (Builtin.copy_ #[25, 25] ty #[.slice (some ⟨w.heap.size, i + 1, none⟩) (l.length - i) dc, .slice (some ⟨g, i, none⟩) (l.length - i) sc]).run Tryz.prog W = .ok (goInt cs.length) (W.setCells w.heap.size (i + 1) cs) := fun W hWc hWf ty dc sc =>
    run_copy_cells W _ _ ty 5 w.heap.size (i + 1) (l.length - i) dc ⟨g, i, none⟩ (l.length - i) sc cs Tryz.underlying25 u8size (by rw [hdl]; simp)
      (fun j u hj => by
        rw [Addr.add_lit, hWc, World.cell?_setCells_out _ _ _ _ _ (fun hh _ => absurd hh hbN)]
        rw [hcs] at hj
        exact hOb _ u (h.get i j u hj))
      (fun j hj => by rw [hWc]; exact T1.room _ (by omega))
      (fun j hj => by rw [hWf]; exact T1.warm _ (by omega)) (by rw [hcs]; exact nums_one _)
  have T2 := T1.put (i + 1) (l.drop i) (by simp; omega) (by simp; omega) (h.byt.drop i)
  have eT : List.take (i + 1) (List.take i (List.take i l) ++ [v] ++ List.drop (i + [v].length) (List.take i l)) ++ List.drop i l ++ List.drop (i + 1 + (List.drop i l).length) (List.take i (List.take i l) ++ [v] ++ List.drop (i + [v].length) (List.take i l)) = l.take i ++ v :: l.drop i := by
    have e1 : List.drop (i + [v].length) (List.take i l) = [] := List.drop_of_length_le (by simp; omega)
    have e2 : List.drop (i + 1 + (List.drop i l).length) (List.take i l ++ [v]) = [] := List.drop_of_length_le (by simp; omega)
    have e3 : List.take (i + 1) (List.take i l ++ [v]) = List.take i l ++ [v] := List.take_of_length_le (by simp; omega)
    rw [e1, List.append_nil, List.take_take, Nat.min_self, e2, List.append_nil, e3]
    simp
  rw [eT] at T2
  have HT : Hid (Txt ((W1.setCells w.heap.size i [.int .u8 v]).setCells w.heap.size (i + 1) cs) w.heap.size G (l.take i ++ v :: l.drop i)) := by rw [hcs]; exact T2
  subst hW1
  have hE1 : ∀ x, ((w.alloc (.cells ROW 5)).drew).cell? x = (w.drew.alloc (.cells ROW 5)).cell? x := fun x => rfl
  have hE2 : ∀ x, ((w.alloc (.cells ROW 5)).drew).frozen? x = (w.drew.alloc (.cells ROW 5)).frozen? x := fun x => rfl
  have hF1 : ∀ x, (((w.alloc (.cells ROW 5)).drew.setCells w.heap.size i [.int .u8 v]).drew).cell? x = ((w.drew.alloc (.cells ROW 5)).setCells w.heap.size i [.int .u8 v]).cell? x := fun x => rfl
  have hF2 : ∀ x, (((w.alloc (.cells ROW 5)).drew.setCells w.heap.size i [.int .u8 v]).drew).frozen? x = ((w.drew.alloc (.cells ROW 5)).setCells w.heap.size i [.int .u8 v]).frozen? x := fun x => rfl
  have hz2 : ¬ ((i : Int) = (l.length : Int)) := by omega
  have hz3 : (cap : Int) < (l.length : Int) + 1 := by omega
  have hin : i ≤ l.length := by omega
  have hw1 : IntKind.i64.wrap ((i : Int) + 1) = (i : Int) + 1 := by rw [IntKind.wrap_i64]; omega
  have htn : ((i : Int) + 1).toNat = i + 1 := by omega
  have hb1 : (0 : Int) ≤ (i : Int) + 1 := by omega
  have hb3 : (i : Int) ≤ (l.length : Int) := by omega
  have hb5 : (i : Int) + 1 ≤ (l.length : Int) + 1 := by omega
  have hb6 : (i : Int) ≤ (l.length : Int) + 1 := by omega
  have hGi : ¬ (G = i) := by omega
  have hGim : ¬ (G = i + 1) := by omega
  have hci : ¬ (cap = i) := by omega
  have HI : Hid (i < l.length) := hi
  generalize hLn : l.length = L at *
  clear T0 T1 T2 TZ h hdl hcs hROW hold hkk hik hG H1 hOb hOv hlt
  go_enter Tryz.func232, Tryz.ntmps232
  go_wp2_with (first
    | (at_builtin; refine Lib.wpList_append_run _ rfl _ _ _ _ rfl _ _ rfl rfl _ _ (hrz _) ?_)
    | (at_builtin; refine wpList_copy_run' _ rfl _ _ 25 25 rfl _ _ rfl rfl (hcpA _ hE1 hE2 _ _) ?_))
  go_region_law (refine step_copy_run' rfl _ _ 25 25 rfl (.slice (some ⟨w.heap.size, i + 1, none⟩) (L - i) (G - (i + 1))) (.slice (some ⟨g, i, none⟩) (L - i) (cap - i)) (by simp [Act.eval, Act.put]) (by simp [Act.eval, Act.put]) (hcpB _ hF1 hF2 3 (G - (i + 1)) (cap - i)) ?_)
  go_wp2
  go_ret
  have hi := HI.out
  refine ⟨w.heap.size, G, by omega, by rw [put_len _ _ _ (by omega), hLn]; rfl, ?_, ?_⟩
  · have e : (((w.alloc (.cells ROW 5)).drew.setCells w.heap.size i [.int .u8 v]).drew.setCells w.heap.size (i + 1) cs).heap = (((w.drew.alloc (.cells ROW 5)).setCells w.heap.size i [.int .u8 v]).setCells w.heap.size (i + 1) cs).heap := setCells_heap _ _ _ (setCells_heap _ _ _ rfl)
    exact HT.out.of_block (by rw [e]) (by rw [e]; exact Nat.le_refl _)
  refine Below.mono (B := w.heap.size) ?_ (by omega)
  exact below_puts _ (below_puts _ ((Below.refl _ _).alloc (Nat.le_refl _) _).drew).drew

theorem insert_any (w : World) (g cap i vb : Nat) (l : List Int) (v : Int) (h : Txt w g cap l) (hL : l.length ≤ 1000) (hi : i ≤ l.length) (H1 : One w vb v) (hvb : vb ≠ g) (h0 : 0 ≤ v) (h1 : v ≤ 255) :
    Calls Tryz.prog 232 #[.slice (some ⟨g, 0, none⟩) l.length cap, .int .i64 i, .slice (some ⟨vb, 0, none⟩) 1 1] w (TxtAns w g (l.take i ++ v :: l.drop i)) := by
  by_cases hr : l.length + 1 ≤ cap
  · by_cases e : i < l.length
    · exact insert_shift w g cap i vb l v h e hr H1 hvb h0 h1
    · obtain rfl : i = l.length := by omega
      rw [List.take_length, List.drop_length]
      exact insert_end_room w g cap vb l v h hr H1 h0 h1
  · by_cases e : i < l.length
    · exact insert_grow w g cap i vb l v h hL e (by omega) H1 h0 h1
    · obtain rfl : i = l.length := by omega
      rw [List.take_length, List.drop_length]
      exact insert_end_grow w g cap vb l v h hL (by omega) H1 h0 h1
end Go.Proofs.YtflenkppcclclaaGreatDoor

namespace Go.Proofs.YtflenkppcclclaaGreatDoor
open Go.RowKit

theorem set_ans {w w' : World} {g cap : Nat} {l : List Int} (h : Txt w g cap l) (q : Nat) (v : Int) (hq : q < l.length) (h0 : 0 ≤ v) (h1 : v ≤ 255) {e : Ending}
    (H : e = .returned (.slice (some ⟨g, 0, none⟩) l.length cap) ∧ ∃ n, w' = (w.drewN n).setCell ⟨g, q, none⟩ (.int .u8 v)) : TxtAns w g (l.set q v) e w' := by
  obtain ⟨rfl, n, rfl⟩ := H
  exact ⟨g, cap, Nat.le_refl _, by rw [List.length_set], (h.drewN n).set q v hq h0 h1, (Below.mk rfl rfl rfl (Nat.le_refl _) (fun _ _ => rfl) : Below g w (w.drewN n)).setCell (Nat.le_refl _) _⟩

section
variable (w : World) (g cap L q : Nat) (x : Int) (hc : w.cell? ⟨g, q, none⟩ = some (.int .u8 x)) (hf : w.frozen? ⟨g, q, none⟩ = false) (hq : q < L) (hL : L ≤ 1000)
include hc hf hq

include hL in
set_option maxHeartbeats 4000000 in
set_option maxRecDepth 100000 in
theorem invBit_at (k r : Nat) (hk : k = 8 * q + r) (hr : r < 8) :
    Calls Tryz.prog 203 #[.slice (some ⟨g, 0, none⟩) L cap, .int .i64 k] w fun e w' => e = .returned (.slice (some ⟨g, 0, none⟩) L cap) ∧ ∃ n, w' = (w.drewN n).setCell ⟨g, q, none⟩ (.int .u8 (bits .xor .u8 x (2 ^ (7 - r)))) := by
  have h1 : (k : Int) / 8 = (q : Int) := by omega
  have h2 : (k : Int) % 8 = (r : Int) := by omega
  have h3 : (q : Int) < (L : Int) := by omega
  have h4 : (0 : Int) ≤ (k : Int) := by omega
  generalize (k : Int) = K at *
  clear hk
  match r, hr with
  | 0, _ | 1, _ | 2, _ | 3, _ | 4, _ | 5, _ | 6, _ | 7, _ =>
    simp at h2
    go_enter Tryz.func203, Tryz.ntmps203
    go_wp2_with fail
    go_region
    all_goals
      go_wp2
      go_ret
      exact ⟨rfl, 1, rfl⟩
  | r + 8, h => omega

theorem invByte_at :
    Calls Tryz.prog 205 #[.slice (some ⟨g, 0, none⟩) L cap, .int .i64 (q : Nat)] w fun e w' => e = .returned (.slice (some ⟨g, 0, none⟩) L cap) ∧ ∃ n, w' = (w.drewN n).setCell ⟨g, q, none⟩ (.int .u8 (bits .xor .u8 x 255)) := by
  have h3 : (q : Int) < (L : Int) := by omega
  go_enter Tryz.func205, Tryz.ntmps205
  go_wp2
  go_ret
  exact ⟨rfl, 0, rfl⟩

include hL in
set_option maxHeartbeats 4000000 in
set_option maxRecDepth 100000 in
theorem raise_at (k r : Nat) (hk : k = 4 * q + r) (hr : r < 4) :
    Calls Tryz.prog 206 #[.slice (some ⟨g, 0, none⟩) L cap, .int .i64 k] w fun e w' => e = .returned (.slice (some ⟨g, 0, none⟩) L cap) ∧ ∃ n, w' = (w.drewN n).setCell ⟨g, q, none⟩ (.int .u8 ((x + (r + 1 : Nat)) % 256)) := by
  have h1 : (k : Int) / 4 = (q : Int) := by omega
  have h2 : (k : Int) % 4 = (r : Int) := by omega
  have h3 : (q : Int) < (L : Int) := by omega
  have h4 : (0 : Int) ≤ (k : Int) := by omega
  generalize (k : Int) = K at *
  clear hk
  match r, hr with
  | 0, _ | 1, _ | 2, _ | 3, _ =>
    simp at h2
    go_enter Tryz.func206, Tryz.ntmps206
    go_wp2
    go_ret
    exact ⟨rfl, 0, rfl⟩
  | r + 4, h => omega

include hL in
set_option maxHeartbeats 4000000 in
set_option maxRecDepth 100000 in
theorem lower_at (k r : Nat) (hk : k = 4 * q + r) (hr : r < 4) :
    Calls Tryz.prog 207 #[.slice (some ⟨g, 0, none⟩) L cap, .int .i64 k] w fun e w' => e = .returned (.slice (some ⟨g, 0, none⟩) L cap) ∧ ∃ n, w' = (w.drewN n).setCell ⟨g, q, none⟩ (.int .u8 ((x - (r + 1 : Nat)) % 256)) := by
  have h1 : (k : Int) / 4 = (q : Int) := by omega
  have h2 : (k : Int) % 4 = (r : Int) := by omega
  have h3 : (q : Int) < (L : Int) := by omega
  have h4 : (0 : Int) ≤ (k : Int) := by omega
  generalize (k : Int) = K at *
  clear hk
  match r, hr with
  | 0, _ | 1, _ | 2, _ | 3, _ =>
    simp at h2
    go_enter Tryz.func207, Tryz.ntmps207
    go_wp2
    go_ret
    exact ⟨rfl, 0, rfl⟩
  | r + 4, h => omega

/-- The table 'marked'. -/
def Mrk (w : World) : Prop := ∀ k : Nat, k < 5 → w.cell? ⟨2, k, none⟩ = some (.int .u8 (markL k))

include hL in
set_option maxHeartbeats 4000000 in
set_option maxRecDepth 100000 in
theorem mark_at (hM : Mrk w) (k r : Nat) (hk : k = 5 * q + r) (hr : r < 5) :
    Calls Tryz.prog 208 #[.slice (some ⟨g, 0, none⟩) L cap, .int .i64 k] w fun e w' => e = .returned (.slice (some ⟨g, 0, none⟩) L cap) ∧ ∃ n, w' = (w.drewN n).setCell ⟨g, q, none⟩ (.int .u8 (markL r)) := by
  have h1 : (k : Int) / 5 = (q : Int) := by omega
  have h2 : (k : Int) % 5 = (r : Int) := by omega
  have h3 : (q : Int) < (L : Int) := by omega
  have h4 : (0 : Int) ≤ (k : Int) := by omega
  have hm0 := hM r hr
  have hz : 2 < w.heap.size := World.block_lt_of_cell? w ⟨2, 0, none⟩ (hM 0 (by omega))
  clear hM
  generalize (k : Int) = K at *
  clear hk
  match r, hr with
  | 0, _ | 1, _ | 2, _ | 3, _ | 4, _ =>
    simp at h2
    go_enter Tryz.func208, Tryz.ntmps208
    go_wp2
    go_ret
    exact ⟨rfl, 0, rfl⟩
  | r + 5, h => omega
end

theorem markL_bd (k : Nat) : 0 ≤ markL k ∧ markL k ≤ 255 := by
  unfold markL
  match k with
  | 0 | 1 | 2 | 3 | 4 => decide
  | k + 5 => simp
section
variable (w : World) (g cap : Nat) (l : List Int) (h : Txt w g cap l) (hL : l.length ≤ 1000)
include h hL
theorem invBit_any (k : Nat) (hk : k < 8 * l.length) : Calls Tryz.prog 203 #[.slice (some ⟨g, 0, none⟩) l.length cap, .int .i64 k] w (TxtAns w g (flipL l k)) := by
  have hq : k / 8 < l.length := by omega
  exact (invBit_at w g cap l.length (k / 8) _ (h.at _ hq).1 (h.at _ hq).2 hq hL k (k % 8) (by omega) (by omega)).mono fun _ _ H => set_ans h _ _ hq (bits_u8 _ _ _).1 (bits_u8 _ _ _).2 H
omit hL in
theorem invByte_any (k : Nat) (hk : k < l.length) : Calls Tryz.prog 205 #[.slice (some ⟨g, 0, none⟩) l.length cap, .int .i64 k] w (TxtAns w g (l.set k (bits .xor .u8 (l.getD k 0) 255))) :=
  (invByte_at w g cap l.length k _ (h.at _ hk).1 (h.at _ hk).2 hk).mono fun _ _ H => set_ans h _ _ hk (bits_u8 _ _ _).1 (bits_u8 _ _ _).2 H
theorem raise_any (k : Nat) (hk : k < 4 * l.length) : Calls Tryz.prog 206 #[.slice (some ⟨g, 0, none⟩) l.length cap, .int .i64 k] w (TxtAns w g (l.set (k / 4) ((l.getD (k / 4) 0 + (k % 4 + 1 : Nat)) % 256))) := by
  have hq : k / 4 < l.length := by omega
  exact (raise_at w g cap l.length (k / 4) _ (h.at _ hq).1 (h.at _ hq).2 hq hL k (k % 4) (by omega) (by omega)).mono fun _ _ H => set_ans h _ _ hq (by omega) (by omega) H
theorem lower_any (k : Nat) (hk : k < 4 * l.length) : Calls Tryz.prog 207 #[.slice (some ⟨g, 0, none⟩) l.length cap, .int .i64 k] w (TxtAns w g (l.set (k / 4) ((l.getD (k / 4) 0 - (k % 4 + 1 : Nat)) % 256))) := by
  have hq : k / 4 < l.length := by omega
  exact (lower_at w g cap l.length (k / 4) _ (h.at _ hq).1 (h.at _ hq).2 hq hL k (k % 4) (by omega) (by omega)).mono fun _ _ H => set_ans h _ _ hq (by omega) (by omega) H
theorem mark_any (hM : Mrk w) (k : Nat) (hk : k < 5 * l.length) : Calls Tryz.prog 208 #[.slice (some ⟨g, 0, none⟩) l.length cap, .int .i64 k] w (TxtAns w g (l.set (k / 5) (markL (k % 5)))) := by
  have hq : k / 5 < l.length := by omega
  exact (mark_at w g cap l.length (k / 5) _ (h.at _ hq).1 (h.at _ hq).2 hq hL hM k (k % 5) (by omega) (by omega)).mono fun _ _ H => set_ans h _ _ hq (markL_bd _).1 (markL_bd _).2 H

theorem invTwo_any (k : Nat) (hk : k + 1 < 8 * l.length) : Calls Tryz.prog 204 #[.slice (some ⟨g, 0, none⟩) l.length cap, .int .i64 k] w (TxtAns w g (flipL (flipL l k) (k + 1))) := by
  have hm := h.most
  have H1 : Hid (Calls Tryz.prog 203 #[.slice (some ⟨g, 0, none⟩) l.length cap, .int .i64 k] w (TxtAns w g (flipL l k))) := invBit_any w g cap l h hL k (by omega)
  generalize hLn : l.length = L at *
  go_enter Tryz.func204, Tryz.ntmps204
  go_wp2_with fail
  refine H1.out.mono ?_
  rintro e w1 ⟨g1, cap1, hg, rfl, T1, B1⟩
  have H2 : Hid (Calls Tryz.prog 203 #[.slice (some ⟨g1, 0, none⟩) (flipL l k).length cap1, .int .i64 ((k : Int) + 1)] w1 (TxtAns w1 g1 (flipL (flipL l k) (k + 1)))) := invBit_any w1 g1 cap1 _ T1 (by rw [flip_len]; omega) (k + 1) (by rw [flip_len]; omega)
  generalize (flipL l k).length = L1 at *
  go_wp2_with fail
  refine H2.out.mono ?_
  rintro e w2 ⟨g2, cap2, hg2, rfl, T2, B2⟩
  go_wp2_with fail
  go_ret
  exact ⟨g2, cap2, by omega, rfl, T2, B1.trans (B2.mono hg)⟩

theorem takeOut_any (k : Nat) (hk : k < l.length) : Calls Tryz.prog 209 #[.slice (some ⟨g, 0, none⟩) l.length cap, .int .i64 k] w (TxtAns w g (cutL l k)) := by
  have hm := h.most
  have H1 : Hid (Calls Tryz.prog 231 #[.slice (some ⟨g, 0, none⟩) l.length cap, .int .i64 k, .int .i64 ((k : Int) + 1)] w (TxtAns w g (cutL l k))) := delete_any w g cap k l h hk
  generalize hLn : l.length = L at *
  go_enter Tryz.func209, Tryz.ntmps209
  go_wp2_with fail
  refine H1.out.mono ?_
  rintro e w1 ⟨g1, cap1, hg, rfl, T1, B1⟩
  go_wp2_with fail
  go_ret
  exact ⟨g1, cap1, hg, rfl, T1, B1⟩

theorem double_any (k : Nat) (hk : k < l.length) : Calls Tryz.prog 210 #[.slice (some ⟨g, 0, none⟩) l.length cap, .int .i64 k] w (TxtAns w g (twiceL l k)) := by
  have hm := h.most
  have hc := (h.at k hk).1
  have hg := h.lt
  have hb := h.byt.at k
  have hle := h.le
  have H1 : Hid (Calls Tryz.prog 232 #[.slice (some ⟨g, 0, none⟩) l.length cap, .int .i64 k, .slice (some ⟨w.heap.size, 0, none⟩) 1 1] (w.alloc (.cells #[.int .u8 (l.getD k 0)] 5)) (TxtAns (w.alloc (.cells #[.int .u8 (l.getD k 0)] 5)) g (twiceL l k))) :=
    insert_any _ g cap k w.heap.size l _ (h.alloc _) hL (by omega) ⟨Array.getElem?_push_size⟩ (by omega) hb.1 hb.2
  have h3 : (k : Int) < (l.length : Int) := by omega
  generalize hLn : l.length = L at *
  generalize l.getD k 0 = x at *
  go_enter Tryz.func210, Tryz.ntmps210
  go_wp2_with fail
  refine H1.out.mono ?_
  rintro e w1 ⟨g1, cap1, hg1, rfl, T1, B1⟩
  go_wp2_with fail
  go_ret
  exact ⟨g1, cap1, hg1, rfl, T1, ((Below.refl _ _).alloc (by omega) _).trans B1⟩
end
end Go.Proofs.YtflenkppcclclaaGreatDoor

namespace Go.Proofs.YtflenkppcclclaaGreatDoor
open Go.RowKit

/-- Below block number B nothing but cell fo of block h may change. -/
structure SK (B h fo : Nat) (w w' : World) : Prop where
  os : w'.os = w.os
  tape : w'.tape = w.tape
  output : w'.output = w.output
  size : w.heap.size ≤ w'.heap.size
  block : ∀ k, k < B → k ≠ h → w'.heap[k]? = w.heap[k]?
  cell : ∀ j, j ≠ fo → w'.cell? ⟨h, j, none⟩ = w.cell? ⟨h, j, none⟩
  warm : ∀ j, w'.frozen? ⟨h, j, none⟩ = w.frozen? ⟨h, j, none⟩
theorem SK.refl (B h fo : Nat) (w : World) : SK B h fo w w := ⟨rfl, rfl, rfl, Nat.le_refl _, fun _ _ _ => rfl, fun _ _ => rfl, fun _ => rfl⟩
theorem SK.trans {B h fo : Nat} {a b c : World} (p : SK B h fo a b) (q : SK B h fo b c) : SK B h fo a c :=
  ⟨q.os.trans p.os, q.tape.trans p.tape, q.output.trans p.output, Nat.le_trans p.size q.size, fun k h1 h2 => (q.block k h1 h2).trans (p.block k h1 h2), fun j hj => (q.cell j hj).trans (p.cell j hj), fun j => (q.warm j).trans (p.warm j)⟩
theorem SK.of_below {B h fo D : Nat} {w w' : World} (b : Below D w w') (hB : B ≤ D) (hh : h < B) : SK B h fo w w' :=
  ⟨b.os, b.tape, b.output, b.size, fun k hk _ => b.block k (by omega), fun j _ => World.cell?_of_block (w := w) (a := ⟨h, j, none⟩) (b.block h (by omega)), fun j => World.frozen?_of_block (w := w) (a := ⟨h, j, none⟩) (b.block h (by omega))⟩
theorem SK.put {B h fo g : Nat} {w w' : World} (p : SK B h fo w w') (hg : B ≤ g) (hh : h < B) (a : Nat) (v : Value) : SK B h fo w (w'.setCell ⟨g, a, none⟩ v) :=
  p.trans (SK.of_below (D := B) ((Below.refl B w').setCell (p := ⟨g, a, none⟩) hg _) (Nat.le_refl _) hh)
theorem SK.self (B h fo : Nat) (w : World) (v : Value) : SK B h fo w (w.setCell ⟨h, fo, none⟩ v) :=
  ⟨rfl, rfl, rfl, by simp, fun k _ hk => heap_setCell_other w ⟨h, fo, none⟩ k v hk, fun j hj => World.cell?_setCell_other _ _ _ _ (fun c => hj (by injection c with _ c2 _; exact c2.symm)), fun j => by rw [World.frozen?_setCell]⟩
/-- What is kept below where the seed lies. -/
theorem SK.below {B h fo : Nat} {w w' : World} (p : SK B h fo w w') (hB : h ≤ B) : Below h w w' := ⟨p.os, p.tape, p.output, p.size, fun k hk => p.block k (by omega) (by omega)⟩

/-- The seed in its cell. -/
structure Sd (w : World) (h fo : Nat) (x : Int) : Prop where
  cell : w.cell? ⟨h, fo, none⟩ = some (.int .u64 x)
  warm : w.frozen? ⟨h, fo, none⟩ = false
  lo : 0 ≤ x
  hi : x ≤ 18446744073709551615
theorem Sd.lt {w : World} {h fo : Nat} {x : Int} (s : Sd w h fo x) : h < w.heap.size := World.block_lt_of_cell? w ⟨h, fo, none⟩ s.cell
theorem Sd.of_block {w w' : World} {h fo : Nat} {x : Int} (s : Sd w h fo x) (hb : w'.heap[h]? = w.heap[h]?) : Sd w' h fo x :=
  ⟨(World.cell?_of_block (w := w) hb).trans s.cell, (World.frozen?_of_block (w := w) (w' := w') (a := ⟨h, fo, none⟩) hb).trans s.warm, s.lo, s.hi⟩
theorem Sd.below {w w' : World} {h fo B : Nat} {x : Int} (s : Sd w h fo x) (b : Below B w w') (hB : h < B) : Sd w' h fo x := s.of_block (b.block h hB)
theorem bits_u64 (op : BinOp) (x y : Int) : 0 ≤ bits op .u64 x y ∧ bits op .u64 x y ≤ 18446744073709551615 := by
  have := wf_bits op .u64 x y
  simp [Lit.wf, IntKind.min, IntKind.max, IntKind.signed, IntKind.bits] at this
  omega
theorem sd_bd (x : Int) : 0 ≤ sd x ∧ sd x ≤ 18446744073709551615 := by
  unfold sd nextI
  exact bits_u64 _ _ _
theorem Sd.set {w : World} {h fo : Nat} {x : Int} (s : Sd w h fo x) (y : Int) (h0 : 0 ≤ y) (h1 : y ≤ 18446744073709551615) : Sd (w.setCell ⟨h, fo, none⟩ (.int .u64 y)) h fo y :=
  ⟨World.cell?_setCell_same w _ _ s.cell, by rw [World.frozen?_setCell]; exact s.warm, h0, h1⟩

set_option maxHeartbeats 1000000 in
set_option maxRecDepth 100000 in
theorem draw_any (w : World) (h fo : Nat) (x : Int) (s : Sd w h fo x) :
    Calls Tryz.prog 189 #[.pointer (some ⟨h, fo, none⟩)] w fun e w' => e = .returned (.int .u64 (IntKind.u64.wrap (sd x * 2685821657736338717) / 8589934592)) ∧ w' = w.setCell ⟨h, fo, none⟩ (.int .u64 (sd x)) := by
  have hc := s.cell
  have hf := s.warm
  have hlt := s.lt
  by_cases h0 : x = 0
  · subst h0
    go_enter Tryz.func189, Tryz.ntmps189
    go_wp2
    go_ret
    exact ⟨rfl, rfl⟩
  · have e : sd x = nextI x := by unfold sd; rw [if_neg h0]
    rw [e]
    have hlo := s.lo
    have hhi := s.hi
    go_enter Tryz.func189, Tryz.ntmps189
    go_wp2
    go_ret
    exact ⟨rfl, rfl⟩

set_option maxRecDepth 100000 in
theorem below_any (w : World) (h fo : Nat) (x : Int) (s : Sd w h fo x) (n : Nat) (h1 : 1 ≤ n) (h2 : n ≤ 1000) :
    Calls Tryz.prog 140 #[.pointer (some ⟨h, fo, none⟩), .int .i64 n] w fun e w' => e = .returned (.int .i64 (dr x n : Nat)) ∧ w' = w.setCell ⟨h, fo, none⟩ (.int .u64 (sd x)) := by
  have HD : Hid (Calls Tryz.prog 189 #[.pointer (some ⟨h, fo, none⟩)] w fun e w' => e = .returned (.int .u64 (IntKind.u64.wrap (sd x * 2685821657736338717) / 8589934592)) ∧ w' = w.setCell ⟨h, fo, none⟩ (.int .u64 (sd x))) := draw_any w h fo x s
  have hb : 0 ≤ IntKind.u64.wrap (sd x * 2685821657736338717) ∧ IntKind.u64.wrap (sd x * 2685821657736338717) ≤ 18446744073709551615 := by
    rw [IntKind.wrap_u64]; omega
  unfold dr
  generalize IntKind.u64.wrap (sd x * 2685821657736338717) = P at *
  have hD0 : 0 ≤ P / 8589934592 := by omega
  have hD1 : P / 8589934592 ≤ 2147483648 := by omega
  generalize P / 8589934592 = D at *
  have hm0 : 0 ≤ D % (n : Int) := Int.emod_nonneg _ (by omega)
  have hm1 : D % (n : Int) < (n : Int) := Int.emod_lt_of_pos _ (by omega)
  have hne : ¬ ((n : Int) = 0) := by omega
  have hn0 : (0 : Int) ≤ (n : Int) := by omega
  have he : D % (n : Int) = ((D.toNat % n : Nat) : Int) := by
    have : ((D.toNat % n : Nat) : Int) = (D.toNat : Int) % (n : Int) := by simp
    rw [this, Int.toNat_of_nonneg hD0]
  rw [← he]
  clear he
  generalize hN : (n : Int) = N at *
  go_enter Tryz.func140, Tryz.ntmps140
  go_wp2_with fail
  refine HD.out.mono ?_
  rintro e w1 ⟨rfl, hw1⟩
  subst hw1
  go_wp2_with fail
  go_ret
  exact ⟨rfl, rfl⟩
end Go.Proofs.YtflenkppcclclaaGreatDoor

