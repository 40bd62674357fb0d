import Derived.Test.YtflenkppcclclaaDoorM01
namespace Go.Proofs.YtflenkppcclclaaDoor
open Go.RowKit

theorem set_ans {w w' : World} {g cap : Nat} {l : List Int} (h : Txt w g cap l) (q : Nat) (v : Int) (hq : q < l.length) (h0 : 0 ≤ v) (h1 : v ≤ 255) {e : Ending}
    (H : e = .returned (.slice (some ⟨g, 0, none⟩) l.length cap) ∧ ∃ n, w' = (w.drewN n).setCell ⟨g, q, none⟩ (.int .u8 v)) : TxtAns w g (l.set q v) e w' := by
  obtain ⟨rfl, n, rfl⟩ := H
  exact ⟨g, cap, Nat.le_refl _, by rw [List.length_set], (h.drewN n).set q v hq h0 h1, (Below.mk rfl rfl rfl (Nat.le_refl _) (fun _ _ => rfl) : Below g w (w.drewN n)).setCell (Nat.le_refl _) _⟩

section
variable (w : World) (g cap L q : Nat) (x : Int) (hc : w.cell? ⟨g, q, none⟩ = some (.int .u8 x)) (hf : w.frozen? ⟨g, q, none⟩ = false) (hq : q < L) (hL : L ≤ 1000)
include hc hf hq

include hL in
set_option maxHeartbeats 4000000 in
set_option maxRecDepth 100000 in
theorem invBit_at (k r : Nat) (hk : k = 8 * q + r) (hr : r < 8) :
    Calls Tryd.prog 52 #[.slice (some ⟨g, 0, none⟩) L cap, .int .i64 k] w fun e w' => e = .returned (.slice (some ⟨g, 0, none⟩) L cap) ∧ ∃ n, w' = (w.drewN n).setCell ⟨g, q, none⟩ (.int .u8 (bits .xor .u8 x (2 ^ (7 - r)))) := by
  have h1 : (k : Int) / 8 = (q : Int) := by omega
  have h2 : (k : Int) % 8 = (r : Int) := by omega
  have h3 : (q : Int) < (L : Int) := by omega
  have h4 : (0 : Int) ≤ (k : Int) := by omega
  generalize (k : Int) = K at *
  clear hk
  match r, hr with
  | 0, _ | 1, _ | 2, _ | 3, _ | 4, _ | 5, _ | 6, _ | 7, _ =>
    simp at h2
    go_enter Tryd.func52, Tryd.ntmps52
    go_wp2_with fail
    go_region
    all_goals
      go_wp2
      go_ret
      exact ⟨rfl, 1, rfl⟩
  | r + 8, h => omega

theorem invByte_at :
    Calls Tryd.prog 54 #[.slice (some ⟨g, 0, none⟩) L cap, .int .i64 (q : Nat)] w fun e w' => e = .returned (.slice (some ⟨g, 0, none⟩) L cap) ∧ ∃ n, w' = (w.drewN n).setCell ⟨g, q, none⟩ (.int .u8 (bits .xor .u8 x 255)) := by
  have h3 : (q : Int) < (L : Int) := by omega
  go_enter Tryd.func54, Tryd.ntmps54
  go_wp2
  go_ret
  exact ⟨rfl, 0, rfl⟩

include hL in
set_option maxHeartbeats 4000000 in
set_option maxRecDepth 100000 in
theorem raise_at (k r : Nat) (hk : k = 4 * q + r) (hr : r < 4) :
    Calls Tryd.prog 55 #[.slice (some ⟨g, 0, none⟩) L cap, .int .i64 k] w fun e w' => e = .returned (.slice (some ⟨g, 0, none⟩) L cap) ∧ ∃ n, w' = (w.drewN n).setCell ⟨g, q, none⟩ (.int .u8 ((x + (r + 1 : Nat)) % 256)) := by
  have h1 : (k : Int) / 4 = (q : Int) := by omega
  have h2 : (k : Int) % 4 = (r : Int) := by omega
  have h3 : (q : Int) < (L : Int) := by omega
  have h4 : (0 : Int) ≤ (k : Int) := by omega
  generalize (k : Int) = K at *
  clear hk
  match r, hr with
  | 0, _ | 1, _ | 2, _ | 3, _ =>
    simp at h2
    go_enter Tryd.func55, Tryd.ntmps55
    go_wp2
    go_ret
    exact ⟨rfl, 0, rfl⟩
  | r + 4, h => omega

include hL in
set_option maxHeartbeats 4000000 in
set_option maxRecDepth 100000 in
theorem lower_at (k r : Nat) (hk : k = 4 * q + r) (hr : r < 4) :
    Calls Tryd.prog 56 #[.slice (some ⟨g, 0, none⟩) L cap, .int .i64 k] w fun e w' => e = .returned (.slice (some ⟨g, 0, none⟩) L cap) ∧ ∃ n, w' = (w.drewN n).setCell ⟨g, q, none⟩ (.int .u8 ((x - (r + 1 : Nat)) % 256)) := by
  have h1 : (k : Int) / 4 = (q : Int) := by omega
  have h2 : (k : Int) % 4 = (r : Int) := by omega
  have h3 : (q : Int) < (L : Int) := by omega
  have h4 : (0 : Int) ≤ (k : Int) := by omega
  generalize (k : Int) = K at *
  clear hk
  match r, hr with
  | 0, _ | 1, _ | 2, _ | 3, _ =>
    simp at h2
    go_enter Tryd.func56, Tryd.ntmps56
    go_wp2
    go_ret
    exact ⟨rfl, 0, rfl⟩
  | r + 4, h => omega

/-- The table 'marked'. -/
def Mrk (w : World) : Prop := ∀ k : Nat, k < 5 → w.cell? ⟨1, k, none⟩ = some (.int .u8 (markL k))

include hL in
set_option maxHeartbeats 4000000 in
set_option maxRecDepth 100000 in
theorem mark_at (hM : Mrk w) (k r : Nat) (hk : k = 5 * q + r) (hr : r < 5) :
    Calls Tryd.prog 57 #[.slice (some ⟨g, 0, none⟩) L cap, .int .i64 k] w fun e w' => e = .returned (.slice (some ⟨g, 0, none⟩) L cap) ∧ ∃ n, w' = (w.drewN n).setCell ⟨g, q, none⟩ (.int .u8 (markL r)) := by
  have h1 : (k : Int) / 5 = (q : Int) := by omega
  have h2 : (k : Int) % 5 = (r : Int) := by omega
  have h3 : (q : Int) < (L : Int) := by omega
  have h4 : (0 : Int) ≤ (k : Int) := by omega
  have hm0 := hM r hr
  have hz : 1 < w.heap.size := World.block_lt_of_cell? w ⟨1, 0, none⟩ (hM 0 (by omega))
  clear hM
  generalize (k : Int) = K at *
  clear hk
  match r, hr with
  | 0, _ | 1, _ | 2, _ | 3, _ | 4, _ =>
    simp at h2
    go_enter Tryd.func57, Tryd.ntmps57
    go_wp2
    go_ret
    exact ⟨rfl, 0, rfl⟩
  | r + 5, h => omega
end

theorem markL_bd (k : Nat) : 0 ≤ markL k ∧ markL k ≤ 255 := by
  unfold markL
  match k with
  | 0 | 1 | 2 | 3 | 4 => decide
  | k + 5 => simp
section
variable (w : World) (g cap : Nat) (l : List Int) (h : Txt w g cap l) (hL : l.length ≤ 1000)
include h hL
theorem invBit_any (k : Nat) (hk : k < 8 * l.length) : Calls Tryd.prog 52 #[.slice (some ⟨g, 0, none⟩) l.length cap, .int .i64 k] w (TxtAns w g (flipL l k)) := by
  have hq : k / 8 < l.length := by omega
  exact (invBit_at w g cap l.length (k / 8) _ (h.at _ hq).1 (h.at _ hq).2 hq hL k (k % 8) (by omega) (by omega)).mono fun _ _ H => set_ans h _ _ hq (bits_u8 _ _ _).1 (bits_u8 _ _ _).2 H
omit hL in
theorem invByte_any (k : Nat) (hk : k < l.length) : Calls Tryd.prog 54 #[.slice (some ⟨g, 0, none⟩) l.length cap, .int .i64 k] w (TxtAns w g (l.set k (bits .xor .u8 (l.getD k 0) 255))) :=
  (invByte_at w g cap l.length k _ (h.at _ hk).1 (h.at _ hk).2 hk).mono fun _ _ H => set_ans h _ _ hk (bits_u8 _ _ _).1 (bits_u8 _ _ _).2 H
theorem raise_any (k : Nat) (hk : k < 4 * l.length) : Calls Tryd.prog 55 #[.slice (some ⟨g, 0, none⟩) l.length cap, .int .i64 k] w (TxtAns w g (l.set (k / 4) ((l.getD (k / 4) 0 + (k % 4 + 1 : Nat)) % 256))) := by
  have hq : k / 4 < l.length := by omega
  exact (raise_at w g cap l.length (k / 4) _ (h.at _ hq).1 (h.at _ hq).2 hq hL k (k % 4) (by omega) (by omega)).mono fun _ _ H => set_ans h _ _ hq (by omega) (by omega) H
theorem lower_any (k : Nat) (hk : k < 4 * l.length) : Calls Tryd.prog 56 #[.slice (some ⟨g, 0, none⟩) l.length cap, .int .i64 k] w (TxtAns w g (l.set (k / 4) ((l.getD (k / 4) 0 - (k % 4 + 1 : Nat)) % 256))) := by
  have hq : k / 4 < l.length := by omega
  exact (lower_at w g cap l.length (k / 4) _ (h.at _ hq).1 (h.at _ hq).2 hq hL k (k % 4) (by omega) (by omega)).mono fun _ _ H => set_ans h _ _ hq (by omega) (by omega) H
theorem mark_any (hM : Mrk w) (k : Nat) (hk : k < 5 * l.length) : Calls Tryd.prog 57 #[.slice (some ⟨g, 0, none⟩) l.length cap, .int .i64 k] w (TxtAns w g (l.set (k / 5) (markL (k % 5)))) := by
  have hq : k / 5 < l.length := by omega
  exact (mark_at w g cap l.length (k / 5) _ (h.at _ hq).1 (h.at _ hq).2 hq hL hM k (k % 5) (by omega) (by omega)).mono fun _ _ H => set_ans h _ _ hq (markL_bd _).1 (markL_bd _).2 H

theorem invTwo_any (k : Nat) (hk : k + 1 < 8 * l.length) : Calls Tryd.prog 53 #[.slice (some ⟨g, 0, none⟩) l.length cap, .int .i64 k] w (TxtAns w g (flipL (flipL l k) (k + 1))) := by
  have hm := h.most
  have H1 : Hid (Calls Tryd.prog 52 #[.slice (some ⟨g, 0, none⟩) l.length cap, .int .i64 k] w (TxtAns w g (flipL l k))) := invBit_any w g cap l h hL k (by omega)
  generalize hLn : l.length = L at *
  go_enter Tryd.func53, Tryd.ntmps53
  go_wp2_with fail
  refine H1.out.mono ?_
  rintro e w1 ⟨g1, cap1, hg, rfl, T1, B1⟩
  have H2 : Hid (Calls Tryd.prog 52 #[.slice (some ⟨g1, 0, none⟩) (flipL l k).length cap1, .int .i64 ((k : Int) + 1)] w1 (TxtAns w1 g1 (flipL (flipL l k) (k + 1)))) := invBit_any w1 g1 cap1 _ T1 (by rw [flip_len]; omega) (k + 1) (by rw [flip_len]; omega)
  generalize (flipL l k).length = L1 at *
  go_wp2_with fail
  refine H2.out.mono ?_
  rintro e w2 ⟨g2, cap2, hg2, rfl, T2, B2⟩
  go_wp2_with fail
  go_ret
  exact ⟨g2, cap2, by omega, rfl, T2, B1.trans (B2.mono hg)⟩

theorem takeOut_any (k : Nat) (hk : k < l.length) : Calls Tryd.prog 58 #[.slice (some ⟨g, 0, none⟩) l.length cap, .int .i64 k] w (TxtAns w g (cutL l k)) := by
  have hm := h.most
  have H1 : Hid (Calls Tryd.prog 69 #[.slice (some ⟨g, 0, none⟩) l.length cap, .int .i64 k, .int .i64 ((k : Int) + 1)] w (TxtAns w g (cutL l k))) := delete_any w g cap k l h hk
  generalize hLn : l.length = L at *
  go_enter Tryd.func58, Tryd.ntmps58
  go_wp2_with fail
  refine H1.out.mono ?_
  rintro e w1 ⟨g1, cap1, hg, rfl, T1, B1⟩
  go_wp2_with fail
  go_ret
  exact ⟨g1, cap1, hg, rfl, T1, B1⟩

theorem double_any (k : Nat) (hk : k < l.length) : Calls Tryd.prog 59 #[.slice (some ⟨g, 0, none⟩) l.length cap, .int .i64 k] w (TxtAns w g (twiceL l k)) := by
  have hm := h.most
  have hc := (h.at k hk).1
  have hg := h.lt
  have hb := h.byt.at k
  have hle := h.le
  have H1 : Hid (Calls Tryd.prog 70 #[.slice (some ⟨g, 0, none⟩) l.length cap, .int .i64 k, .slice (some ⟨w.heap.size, 0, none⟩) 1 1] (w.alloc (.cells #[.int .u8 (l.getD k 0)] 5)) (TxtAns (w.alloc (.cells #[.int .u8 (l.getD k 0)] 5)) g (twiceL l k))) :=
    insert_any _ g cap k w.heap.size l _ (h.alloc _) hL (by omega) ⟨Array.getElem?_push_size⟩ (by omega) hb.1 hb.2
  have h3 : (k : Int) < (l.length : Int) := by omega
  generalize hLn : l.length = L at *
  generalize l.getD k 0 = x at *
  go_enter Tryd.func59, Tryd.ntmps59
  go_wp2_with fail
  refine H1.out.mono ?_
  rintro e w1 ⟨g1, cap1, hg1, rfl, T1, B1⟩
  go_wp2_with fail
  go_ret
  exact ⟨g1, cap1, hg1, rfl, T1, ((Below.refl _ _).alloc (by omega) _).trans B1⟩
end
end Go.Proofs.YtflenkppcclclaaDoor

namespace Go.Proofs.YtflenkppcclclaaDoor
open Go.RowKit

/-- Below block number B nothing but cell fo of block h may change. -/
structure SK (B h fo : Nat) (w w' : World) : Prop where
  os : w'.os = w.os
  tape : w'.tape = w.tape
  output : w'.output = w.output
  size : w.heap.size ≤ w'.heap.size
  block : ∀ k, k < B → k ≠ h → w'.heap[k]? = w.heap[k]?
  cell : ∀ j, j ≠ fo → w'.cell? ⟨h, j, none⟩ = w.cell? ⟨h, j, none⟩
  warm : ∀ j, w'.frozen? ⟨h, j, none⟩ = w.frozen? ⟨h, j, none⟩
theorem SK.refl (B h fo : Nat) (w : World) : SK B h fo w w := ⟨rfl, rfl, rfl, Nat.le_refl _, fun _ _ _ => rfl, fun _ _ => rfl, fun _ => rfl⟩
theorem SK.trans {B h fo : Nat} {a b c : World} (p : SK B h fo a b) (q : SK B h fo b c) : SK B h fo a c :=
  ⟨q.os.trans p.os, q.tape.trans p.tape, q.output.trans p.output, Nat.le_trans p.size q.size, fun k h1 h2 => (q.block k h1 h2).trans (p.block k h1 h2), fun j hj => (q.cell j hj).trans (p.cell j hj), fun j => (q.warm j).trans (p.warm j)⟩
theorem SK.of_below {B h fo D : Nat} {w w' : World} (b : Below D w w') (hB : B ≤ D) (hh : h < B) : SK B h fo w w' :=
  ⟨b.os, b.tape, b.output, b.size, fun k hk _ => b.block k (by omega), fun j _ => World.cell?_of_block (w := w) (a := ⟨h, j, none⟩) (b.block h (by omega)), fun j => World.frozen?_of_block (w := w) (a := ⟨h, j, none⟩) (b.block h (by omega))⟩
theorem SK.put {B h fo g : Nat} {w w' : World} (p : SK B h fo w w') (hg : B ≤ g) (hh : h < B) (a : Nat) (v : Value) : SK B h fo w (w'.setCell ⟨g, a, none⟩ v) :=
  p.trans (SK.of_below (D := B) ((Below.refl B w').setCell (p := ⟨g, a, none⟩) hg _) (Nat.le_refl _) hh)
theorem SK.self (B h fo : Nat) (w : World) (v : Value) : SK B h fo w (w.setCell ⟨h, fo, none⟩ v) :=
  ⟨rfl, rfl, rfl, by simp, fun k _ hk => heap_setCell_other w ⟨h, fo, none⟩ k v hk, fun j hj => World.cell?_setCell_other _ _ _ _ (fun c => hj (by injection c with _ c2 _; exact c2.symm)), fun j => by rw [World.frozen?_setCell]⟩
/-- What is kept below where the seed lies. -/
theorem SK.below {B h fo : Nat} {w w' : World} (p : SK B h fo w w') (hB : h ≤ B) : Below h w w' := ⟨p.os, p.tape, p.output, p.size, fun k hk => p.block k (by omega) (by omega)⟩

/-- The seed in its cell. -/
structure Sd (w : World) (h fo : Nat) (x : Int) : Prop where
  cell : w.cell? ⟨h, fo, none⟩ = some (.int .u64 x)
  warm : w.frozen? ⟨h, fo, none⟩ = false
  lo : 0 ≤ x
  hi : x ≤ 18446744073709551615
theorem Sd.lt {w : World} {h fo : Nat} {x : Int} (s : Sd w h fo x) : h < w.heap.size := World.block_lt_of_cell? w ⟨h, fo, none⟩ s.cell
theorem Sd.of_block {w w' : World} {h fo : Nat} {x : Int} (s : Sd w h fo x) (hb : w'.heap[h]? = w.heap[h]?) : Sd w' h fo x :=
  ⟨(World.cell?_of_block (w := w) hb).trans s.cell, (World.frozen?_of_block (w := w) (w' := w') (a := ⟨h, fo, none⟩) hb).trans s.warm, s.lo, s.hi⟩
theorem Sd.below {w w' : World} {h fo B : Nat} {x : Int} (s : Sd w h fo x) (b : Below B w w') (hB : h < B) : Sd w' h fo x := s.of_block (b.block h hB)
theorem bits_u64 (op : BinOp) (x y : Int) : 0 ≤ bits op .u64 x y ∧ bits op .u64 x y ≤ 18446744073709551615 := by
  have := wf_bits op .u64 x y
  simp [Lit.wf, IntKind.min, IntKind.max, IntKind.signed, IntKind.bits] at this
  omega
theorem sd_bd (x : Int) : 0 ≤ sd x ∧ sd x ≤ 18446744073709551615 := by
  unfold sd nextI
  exact bits_u64 _ _ _
theorem Sd.set {w : World} {h fo : Nat} {x : Int} (s : Sd w h fo x) (y : Int) (h0 : 0 ≤ y) (h1 : y ≤ 18446744073709551615) : Sd (w.setCell ⟨h, fo, none⟩ (.int .u64 y)) h fo y :=
  ⟨World.cell?_setCell_same w _ _ s.cell, by rw [World.frozen?_setCell]; exact s.warm, h0, h1⟩

set_option maxHeartbeats 1000000 in
set_option maxRecDepth 100000 in
theorem draw_any (w : World) (h fo : Nat) (x : Int) (s : Sd w h fo x) :
    Calls Tryd.prog 60 #[.pointer (some ⟨h, fo, none⟩)] w fun e w' => e = .returned (.int .u64 (IntKind.u64.wrap (sd x * 2685821657736338717) / 8589934592)) ∧ w' = w.setCell ⟨h, fo, none⟩ (.int .u64 (sd x)) := by
  have hc := s.cell
  have hf := s.warm
  have hlt := s.lt
  by_cases h0 : x = 0
  · subst h0
    go_enter Tryd.func60, Tryd.ntmps60
    go_wp2
    go_ret
    exact ⟨rfl, rfl⟩
  · have e : sd x = nextI x := by unfold sd; rw [if_neg h0]
    rw [e]
    have hlo := s.lo
    have hhi := s.hi
    go_enter Tryd.func60, Tryd.ntmps60
    go_wp2
    go_ret
    exact ⟨rfl, rfl⟩

set_option maxRecDepth 100000 in
theorem below_any (w : World) (h fo : Nat) (x : Int) (s : Sd w h fo x) (n : Nat) (h1 : 1 ≤ n) (h2 : n ≤ 1000) :
    Calls Tryd.prog 42 #[.pointer (some ⟨h, fo, none⟩), .int .i64 n] w fun e w' => e = .returned (.int .i64 (dr x n : Nat)) ∧ w' = w.setCell ⟨h, fo, none⟩ (.int .u64 (sd x)) := by
  have HD : Hid (Calls Tryd.prog 60 #[.pointer (some ⟨h, fo, none⟩)] w fun e w' => e = .returned (.int .u64 (IntKind.u64.wrap (sd x * 2685821657736338717) / 8589934592)) ∧ w' = w.setCell ⟨h, fo, none⟩ (.int .u64 (sd x))) := draw_any w h fo x s
  have hb : 0 ≤ IntKind.u64.wrap (sd x * 2685821657736338717) ∧ IntKind.u64.wrap (sd x * 2685821657736338717) ≤ 18446744073709551615 := by
    rw [IntKind.wrap_u64]; omega
  unfold dr
  generalize IntKind.u64.wrap (sd x * 2685821657736338717) = P at *
  have hD0 : 0 ≤ P / 8589934592 := by omega
  have hD1 : P / 8589934592 ≤ 2147483648 := by omega
  generalize P / 8589934592 = D at *
  have hm0 : 0 ≤ D % (n : Int) := Int.emod_nonneg _ (by omega)
  have hm1 : D % (n : Int) < (n : Int) := Int.emod_lt_of_pos _ (by omega)
  have hne : ¬ ((n : Int) = 0) := by omega
  have hn0 : (0 : Int) ≤ (n : Int) := by omega
  have he : D % (n : Int) = ((D.toNat % n : Nat) : Int) := by
    have : ((D.toNat % n : Nat) : Int) = (D.toNat : Int) % (n : Int) := by simp
    rw [this, Int.toNat_of_nonneg hD0]
  rw [← he]
  clear he
  generalize hN : (n : Int) = N at *
  go_enter Tryd.func42, Tryd.ntmps42
  go_wp2_with fail
  refine HD.out.mono ?_
  rintro e w1 ⟨rfl, hw1⟩
  subst hw1
  go_wp2_with fail
  go_ret
  exact ⟨rfl, rfl⟩
end Go.Proofs.YtflenkppcclclaaDoor

namespace Go.Proofs.YtflenkppcclclaaDoor
open Go.RowKit

/-- What a wild change answers: a text, and the seed in its block; nothing ahead of the seed is touched. -/
def WAns (w : World) (B h fo : Nat) (l' : List Int) (x' : Int) (e : Ending) (w' : World) : Prop :=
  ∃ g' cap', B ≤ g' ∧ e = .returned (.slice (some ⟨g', 0, none⟩) l'.length cap') ∧ Txt w' g' cap' l' ∧ Sd w' h fo x' ∧ SK B h fo w w'
/-- What a draw answers. -/
structure Drawn (w : World) (B h fo g cap : Nat) (l : List Int) (x : Int) (n : Nat) (e : Ending) (w' : World) : Prop where
  ans : e = .returned (.int .i64 (dr x n : Nat))
  txt : Txt w' g cap l
  sd : Sd w' h fo (sd x)
  bel : SK B h fo w w'

/-- The same, of whatever number and seed. -/
structure Drw (w : World) (B h fo g cap : Nat) (l : List Int) (a : Nat) (y : Int) (e : Ending) (w' : World) : Prop where
  ans : e = .returned (.int .i64 (a : Nat))
  txt : Txt w' g cap l
  sd : Sd w' h fo y
  bel : SK B h fo w w'
theorem Drawn.drw {w : World} {B h fo g cap : Nat} {l : List Int} {x : Int} {n : Nat} {e : Ending} {w' : World} (d : Drawn w B h fo g cap l x n e w') : Drw w B h fo g cap l (dr x n) (Go.Proofs.YtflenkppcclclaaDoor.sd x) e w' := ⟨d.ans, d.txt, d.sd, d.bel⟩

theorem below_step (w : World) (B h fo g cap : Nat) (l : List Int) (x : Int) (T : Txt w g cap l) (s : Sd w h fo x) (hg : B ≤ g) (hh : h < B) (n : Nat) (h1 : 1 ≤ n) (h2 : n ≤ 1000) :
    Calls Tryd.prog 42 #[.pointer (some ⟨h, fo, none⟩), .int .i64 n] w (Drawn w B h fo g cap l x n) := by
  refine (below_any w h fo x s n h1 h2).mono ?_
  rintro e w' ⟨rfl, rfl⟩
  exact ⟨rfl, T.other (by show g ≠ h; omega) _, s.set _ (sd_bd x).1 (sd_bd x).2, SK.self B h fo w _⟩

theorem putIn_full (w : World) (B h fo g cap : Nat) (l : List Int) (x : Int) (T : Txt w g cap l) (s : Sd w h fo x) (hg : B ≤ g) (hL : l.length = 24) :
    Calls Tryd.prog 61 #[.slice (some ⟨g, 0, none⟩) l.length cap, .pointer (some ⟨h, fo, none⟩)] w (WAns w B h fo l x) := by
  rw [hL]
  go_enter Tryd.func61, Tryd.ntmps61
  go_wp2_with fail
  go_ret
  exact ⟨g, cap, hg, by rw [hL]; rfl, T, s, SK.refl _ _ _ _⟩

set_option maxRecDepth 100000 in
theorem putIn_any (w : World) (B h fo g cap : Nat) (l : List Int) (x : Int) (T : Txt w g cap l) (s : Sd w h fo x) (hg : B ≤ g) (hh : h < B) (hL : l.length < 24) :
    Calls Tryd.prog 61 #[.slice (some ⟨g, 0, none⟩) l.length cap, .pointer (some ⟨h, fo, none⟩)] w (WAns w B h fo (l.take (dr x (l.length + 1)) ++ (dr (sd x) 256 : Int) :: l.drop (dr x (l.length + 1))) (sd (sd x))) := by
  have hd1 := dr_lt x (l.length + 1) (by omega)
  have hd2 := dr_lt (sd x) 256 (by omega)
  have H1 : Hid (Calls Tryd.prog 42 #[.pointer (some ⟨h, fo, none⟩), .int .i64 ((l.length : Int) + 1)] w (Drawn w B h fo g cap l x (l.length + 1))) := below_step w B h fo g cap l x T s hg hh (l.length + 1) (by omega) (by omega)
  generalize hLn : l.length = L at *
  go_enter Tryd.func61, Tryd.ntmps61
  go_wp2_with fail
  refine H1.out.mono ?_
  rintro e w1 ⟨rfl, T1, s1, B1⟩
  clear H1
  generalize dr x (L + 1) = a at *
  go_wp2_with fail
  refine (below_step w1 B h fo g cap l (sd x) T1 s1 hg hh 256 (by omega) (by omega)).mono ?_
  rintro e w2 ⟨rfl, T2, s2, B2⟩
  generalize dr (sd x) 256 = v at *
  have hg2 := T2.lt
  have HB : Hid (SK B h fo w w2) := B1.trans B2
  have H3 : Hid (Calls Tryd.prog 70 #[.slice (some ⟨g, 0, none⟩) l.length cap, .int .i64 a, .slice (some ⟨w2.heap.size, 0, none⟩) 1 1] (w2.alloc (.cells #[.int .u8 (v : Int)] 5)) (TxtAns (w2.alloc (.cells #[.int .u8 (v : Int)] 5)) g (l.take a ++ (v : Int) :: l.drop a))) :=
    insert_any _ g cap a w2.heap.size l _ (T2.alloc _) (by omega) (by omega) ⟨Array.getElem?_push_size⟩ (by omega) (by omega) (by omega)
  rw [hLn] at H3
  have HS : Hid (Sd w2 h fo (sd (sd x))) := s2
  clear T1 s1 B1 T2 s2 B2
  obtain ⟨lx, hlx⟩ : ∃ lx, l.take a ++ (v : Int) :: l.drop a = lx := ⟨_, rfl⟩
  rw [hlx] at H3
  have HLX : Hid (l.take a ++ (v : Int) :: l.drop a = lx) := hlx
  clear hlx
  go_wp2_with fail
  refine H3.out.mono ?_
  rintro e w3 ⟨g3, cap3, hg3, rfl, T3, B3⟩
  have B3' : Below g w2 w3 := ((Below.refl _ _).alloc (by omega) _).trans B3
  go_wp2_with fail
  go_ret
  rw [HLX.out]
  exact ⟨g3, cap3, by omega, rfl, T3, HS.out.below B3' (by omega), HB.out.trans (SK.of_below B3' hg hh)⟩

theorem byteCells_nums (s : ByteArray) : byteCells s = (nums s).map (Value.int .u8) := by simp [byteCells, nums]
/-- 'append(text[:a], other[b:]...)'. -/
theorem app_str (w : World) (g cap a b : Nat) (l : List Int) (o : ByteArray) (T : Txt w g cap l) (ha : a ≤ l.length) (hb : b ≤ o.size) (hL : l.length ≤ 24) (ho : o.size ≤ 24) :
    ∃ w' g' cap', (∀ ty, (Builtin.append_ #[25, 9] ty #[.slice (some ⟨g, 0, none⟩) a cap, .string (o.extract b o.size)]).run Tryd.prog w = .ok (.slice (some ⟨g', 0, none⟩) (a + (o.size - b)) cap') w') ∧ g ≤ g' ∧ Txt w' g' cap' (l.take a ++ (nums o).drop b) ∧ Below g w w' ∧ a + (o.size - b) ≤ cap' := by
  obtain ⟨i0, hi0, hz0, hzs, hzb⟩ := u8info
  have hle := T.le
  have hsz : (o.extract b o.size).size = o.size - b := by
    rw [← nums_len, nums_extract, List.length_take, List.length_drop, nums_len]
    omega
  have hn : nums (o.extract b o.size) = (nums o).drop b := by
    rw [nums_extract, List.take_of_length_le (by simp [nums_len])]
  have hdl : ((nums o).drop b).length = o.size - b := by rw [List.length_drop, nums_len]
  have hsrc : Src Tryd.prog i0.size 9 (.string (o.extract b o.size)) (o.size - b) (((nums o).drop b).map (Value.int .u8)) w := by
    have := Src.ofString (P := Tryd.prog) w (tx := 9) Tryd.underlying9 (o.extract b o.size)
    rw [hsz, byteCells_nums, hn] at this
    rw [hzs]
    exact this
  by_cases hr : a + (o.size - b) ≤ cap
  · refine ⟨_, g, cap, fun ty => run_append_room_src (w := w) 25 9 ty 5 i0 Tryd.underlying25 hi0 g 0 a cap _ (o.size - b) _ hsrc hr (fun j hj => ?_) (fun j hj => ?_), Nat.le_refl _, ?_, below_puts _ (Below.refl _ _), hr⟩
    · rw [hzs, Nat.mul_one, Nat.zero_add]
      exact T.room _ (by simp [nums_len] at hj; omega)
    · rw [hzs, Nat.mul_one, Nat.zero_add]
      exact T.warm _ (by simp [nums_len] at hj; omega)
    · rw [hzs, Nat.mul_one, Nat.zero_add]
      have T2 := (T.put a ((nums o).drop b) ha (by rw [hdl]; exact hr) ((nums_byt o).drop b)).take (a + (o.size - b))
      rw [List.take_append_of_le_length (by rw [List.length_append, hdl, List.length_take]; omega), List.take_of_length_le (by rw [List.length_append, hdl, List.length_take]; omega)] at T2
      exact T2
  · have hold : (Builtin.firstCells i0.size a (.slice (some ⟨g, 0, none⟩) a cap)).run Tryd.prog w.drew = .ok ((l.take a).map (Value.int .u8)).toArray w.drew := by
      rw [hzs]
      exact run_firstCells_some w.drew 1 a ⟨g, 0, none⟩ a cap ((l.take a).map (Value.int .u8)) (by simp; omega) (fun j u hj => by
        rw [Addr.add_lit]
        exact ((T.drew.take a).get 0 j u (by simpa using hj)))
    have hge : a + (o.size - b) ≤ grownCap w (a + (o.size - b)) cap 5 := grownCap_ge w _ _ _
    have hmx := grownCap_le_maxLen w (a + (o.size - b)) cap 5 (by unfold maxLen; omega)
    refine ⟨_, w.heap.size, _, fun ty => run_append_grow_src w 25 9 ty 5 i0 _ Tryd.underlying25 hi0 hz0 (some ⟨g, 0, none⟩) a cap ((l.take a).map (Value.int .u8)) hold _ (o.size - b) _ hsrc (by omega) (by omega) (by rw [hzb]; exact growslice_fits (by omega) (by omega)), Nat.le_of_lt T.lt, ?_, ((Below.refl _ _).drew.alloc (Nat.le_of_lt T.lt) _), hge⟩
    have e1 : (l.take a ++ (nums o).drop b).length = a + (o.size - b) := by rw [List.length_append, hdl, List.length_take]; omega
    have T2 := txt_new w.drew (l.take a ++ (nums o).drop b) (grownCap w (a + (o.size - b)) cap 5 - (a + (o.size - b))) ((T.byt.take a).app ((nums_byt o).drop b)) (by rw [e1]; unfold maxLen at hmx; omega)
    rw [e1, show a + (o.size - b) + (grownCap w (a + (o.size - b)) cap 5 - (a + (o.size - b))) = grownCap w (a + (o.size - b)) cap 5 by omega, List.map_append] at T2
    exact T2

theorem step_append_run' {ops : Array Oper} {o : Oper} {a : Act} {w : World} {K : Act → World → Prop} {Q : Exit → Act → World → Prop} {E : Prop}
    (hg : o.guard = none) (d x : Operand) (dT sT : TypeId) (hop : o.op = Op.call { callee := Callee.builtin Builtin.append, args := #[d, x], argTypes := #[dT, sT] })
    (v u : Value) (hd : a.eval d = v) (hx : a.eval x = u) {v' : Value} {w' : World} (hr : (Builtin.append_ #[dT, sT] o.type #[v, u]).run Tryd.prog w = .ok v' w') (hK : K (a.put o.dst v') w') :
    if Region.wanted o (yielded ops a.tmps) = true then Oper.wp Tryd.prog o a w K Q else E := by
  have hw : Region.wanted o (yielded ops a.tmps) = true := by simp [Region.wanted, hg]
  rw [if_pos hw]
  unfold Oper.wp
  simp [execOp, hop, resolve, invoke, builtin, hd, hx, hr, Result.andThen]
  exact hK

set_option maxRecDepth 100000 in
set_option maxHeartbeats 1000000 in
theorem cross_core (w : World) (B h fo g cap : Nat) (l : List Int) (o : ByteArray) (a b : Nat) (y1 y2 : Int) (ha : a ≤ l.length) (hb : b ≤ o.size) (hc : l.length ≤ cap)
    (H1 : Hid (Calls Tryd.prog 42 #[.pointer (some ⟨h, fo, none⟩), .int .i64 ((l.length : Int) + 1)] w (Drw w B h fo g cap l a y1)))
    (H2 : Hid (∀ w1, Txt w1 g cap l → Sd w1 h fo y1 → Calls Tryd.prog 42 #[.pointer (some ⟨h, fo, none⟩), .int .i64 ((o.size : Int) + 1)] w1 (Drw w1 B h fo g cap l b y2)))
    (hg : B ≤ g) (hh : h < B) (hL : l.length ≤ 24) (ho : o.size ≤ 24) :
    Calls Tryd.prog 62 #[.slice (some ⟨g, 0, none⟩) l.length cap, .string o, .pointer (some ⟨h, fo, none⟩)] w (WAns w B h fo ((l.take a ++ (nums o).drop b).take 24) y2) := by
  generalize hLn : l.length = L at *
  go_enter Tryd.func62, Tryd.ntmps62
  go_wp2_with fail
  refine H1.out.mono ?_
  rintro e w1 ⟨rfl, T1, s1, B1⟩
  have H2' : Hid (Calls Tryd.prog 42 #[.pointer (some ⟨h, fo, none⟩), .int .i64 ((o.size : Int) + 1)] w1 (Drw w1 B h fo g cap l b y2)) := H2.out w1 T1 s1
  go_wp2_with fail
  refine H2'.out.mono ?_
  rintro e w2 ⟨rfl, T2, s2, B2⟩
  have HB : Hid (SK B h fo w w2) := B1.trans B2
  obtain ⟨w3, g3, cap3, hrun, hg3, T3, B3, hc3⟩ := app_str w2.drew g cap a b l o T2.drew (by omega) (by omega) (by omega) (by omega)
  have hm3 := T3.most
  have HT : Hid (Txt w3 g3 cap3 (l.take a ++ (nums o).drop b)) := T3
  have HB3 : Hid (Below g w2 w3) := (Below.refl _ _).drew.trans B3
  have HS : Hid (Sd w2 h fo y2) := s2
  have hai : (a : Int) ≤ (cap : Int) := by omega
  have hbi : (b : Int) ≤ (o.size : Int) := by omega
  have ha0 : (0 : Int) ≤ (a : Int) := by omega
  have hb0 : (0 : Int) ≤ (b : Int) := by omega
  have HO : Hid (b ≤ o.size ∧ o.size ≤ 24 ∧ a ≤ L ∧ L ≤ 24) := ⟨by omega, by omega, by omega, by omega⟩
  have HC : Hid (a + (o.size - b) ≤ cap3 ∧ cap3 ≤ 9223372036854775807) := ⟨hc3, hm3⟩
  clear T1 s1 B1 T2 s2 B2 T3 B3 hc3 hm3 H1 H2 H2'
  go_wp2_with fail
  go_region_law (refine step_append_run' rfl (.tmp 22) (.tmp 25) 25 9 rfl (.slice (some ⟨g, 0, none⟩) a cap) (.string (o.extract b o.size)) (by simp [Act.eval, Act.put]) (by simp [Act.eval, Act.put]) (hrun _) ?_)
  clear hrun hai hbi ha0 hb0
  have hN : a + (o.size - b) ≤ 48 := by have := HO.out; omega
  have hNc := HC.out.1
  have hm3 := HC.out.2
  have HNE : Hid ((l.take a ++ (nums o).drop b).length = a + (o.size - b)) := by
    have := HO.out
    show _ = _
    rw [List.length_append, List.length_take, List.length_drop, nums_len, hLn]
    omega
  generalize hNN : a + (o.size - b) = N at hN hNc ⊢
  have HNN : Hid (a + (o.size - b) = N) := hNN
  clear hNN
  by_cases h24 : N ≤ 24
  · have hmin : min (N : Int) 24 = (N : Int) := by omega
    go_wp2_with fail
    go_ret
    have e : (l.take a ++ (nums o).drop b).take 24 = l.take a ++ (nums o).drop b := List.take_of_length_le (by rw [HNE.out, HNN.out]; exact h24)
    rw [e]
    exact ⟨g3, cap3, by omega, by rw [HNE.out, HNN.out]; rfl, HT.out, HS.out.below HB3.out (by omega), HB.out.trans (SK.of_below HB3.out hg hh)⟩
  · have hmin : min (N : Int) 24 = 24 := by omega
    have hNc' : (24 : Int) ≤ (cap3 : Int) := by omega
    go_wp2_with fail
    go_ret
    exact ⟨g3, cap3, by omega, by rw [List.length_take, HNE.out, HNN.out, Nat.min_eq_left (by omega)]; rfl, HT.out.take 24, HS.out.below HB3.out (by omega), HB.out.trans (SK.of_below HB3.out hg hh)⟩

theorem cross_any (w : World) (B h fo g cap : Nat) (l : List Int) (o : ByteArray) (x : Int) (T : Txt w g cap l) (s : Sd w h fo x) (hg : B ≤ g) (hh : h < B) (hL : l.length ≤ 24) (ho : o.size ≤ 24) :
    Calls Tryd.prog 62 #[.slice (some ⟨g, 0, none⟩) l.length cap, .string o, .pointer (some ⟨h, fo, none⟩)] w (WAns w B h fo ((l.take (dr x (l.length + 1)) ++ (nums o).drop (dr (sd x) (o.size + 1))).take 24) (sd (sd x))) :=
  cross_core w B h fo g cap l o (dr x (l.length + 1)) (dr (sd x) (o.size + 1)) (sd x) (sd (sd x)) (Nat.le_of_lt_succ (dr_lt _ _ (Nat.succ_pos _))) (Nat.le_of_lt_succ (dr_lt _ _ (Nat.succ_pos _))) T.le
    ((below_step w B h fo g cap l x T s hg hh (l.length + 1) (by omega) (by omega)).mono fun _ _ d => d.drw)
    (fun w1 T1 s1 => (below_step w1 B h fo g cap l (sd x) T1 s1 hg hh (o.size + 1) (by omega) (by omega)).mono fun _ _ d => d.drw) hg hh hL ho
end Go.Proofs.YtflenkppcclclaaDoor

