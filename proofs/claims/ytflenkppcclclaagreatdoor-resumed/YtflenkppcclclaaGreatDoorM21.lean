import Derived.Test.YtflenkppcclclaaGreatDoorM18
import Derived.Test.YtflenkppcclclaaGreatDoorM20
namespace Go.Proofs.YtflenkppcclclaaGreatDoor
open Go.RowKit

/-! Where a prowl is at work. -/
structure Hpos (h : HS) : Prop where
  entry : 0 < h.kept.length → h.entry < h.kept.length
  none : h.kept.length = 0 → h.entry = 0 ∧ h.changes = 0
  changes : h.changes < h.small + 16
  seed0 : 0 ≤ h.seed
  seed1 : h.seed ≤ 18446744073709551615
theorem once_seed (l o : List Int) (x : Int) : 0 ≤ (onceL l o x).2 ∧ (onceL l o x).2 ≤ 18446744073709551615 := by
  unfold onceL
  dsimp only
  repeat' split
  all_goals exact sd_bd _
theorem times_seed (l o : List Int) (x : Int) (h0 : 0 ≤ x) (h1 : x ≤ 18446744073709551615) : ∀ n, 0 ≤ (timesL l o x n).2 ∧ (timesL l o x n).2 ≤ 18446744073709551615
  | 0 => ⟨h0, h1⟩
  | _ + 1 => once_seed _ _ _
theorem wild_seed (l o : List Int) (x : Int) : 0 ≤ (wildL l o x).2 ∧ (wildL l o x).2 ≤ 18446744073709551615 := times_seed _ _ _ (sd_bd x).1 (sd_bd x).2 _
theorem change_seed {h : HS} (p : Hpos h) : 0 ≤ h.chSeed ∧ h.chSeed ≤ 18446744073709551615 := by
  unfold HS.chSeed
  split
  · exact ⟨p.seed0, p.seed1⟩
  · unfold HS.wildly
    exact wild_seed _ _ _
theorem try_rest (R : ByteArray → Sh) (h : HS) (s : ByteArray) : (tryS R h s).1.entry = h.entry ∧ (tryS R h s).1.changes = h.changes ∧ (tryS R h s).1.seed = h.seed ∧ (tryS R h s).1.worked = h.worked ∧ (tryS R h s).1.tries = h.tries + 1 ∧ (tryS R h s).1.hangs ≤ h.hangs + 1 := by
  unfold tryS
  repeat' split
  all_goals exact ⟨rfl, rfl, rfl, rfl, rfl, by dsimp only; omega⟩
theorem try_text (R : ByteArray → Sh) (h : HS) (s : ByteArray) (n : Nat) (hn : n < h.kept.length) : (tryS R h s).1.text n = h.text n := by
  obtain ⟨⟨t, e⟩, _⟩ := try_grows R h s
  unfold HS.text
  rw [e, List.getElem?_append_left hn]
theorem try_small (R : ByteArray → Sh) (h : HS) (s : ByteArray) (hn : h.entry < h.kept.length) : (tryS R h s).1.small = h.small := by
  unfold HS.small
  obtain ⟨e1, _, _, e4, _⟩ := try_rest R h s
  rw [e1, e4, try_text R h s _ hn]
theorem hpos_zero (seed : Int) (h0 : 0 ≤ seed) (h1 : seed ≤ 18446744073709551615) : Hpos (HS.zero seed) := ⟨by simp [HS.zero], fun _ => ⟨rfl, rfl⟩, by show 0 < _; omega, h0, h1⟩
theorem Hpos.tried {R : ByteArray → Sh} {h : HS} (p : Hpos h) (s : ByteArray) : Hpos (tryS R h s).1 := by
  obtain ⟨e1, e2, e3, e4, _⟩ := try_rest R h s
  have hg := kept_grows_try R h s
  refine ⟨fun hk => ?_, fun hk => ?_, ?_, by rw [e3]; exact p.seed0, by rw [e3]; exact p.seed1⟩
  · rw [e1]
    by_cases hz : 0 < h.kept.length
    · have := p.entry hz; omega
    · have := (p.none (by omega)).1; omega
  · rw [e1, e2]; exact p.none (by omega)
  · rw [e2]
    by_cases hz : 0 < h.kept.length
    · rw [try_small R h s (p.entry hz)]; exact p.changes
    · have := (p.none (by omega)).2; omega
theorem Hpos.tries {R : ByteArray → Sh} : ∀ (l : List ByteArray) (h : HS), Hpos h → Hpos (triesS R h l)
  | [], _, p => p
  | s :: l, _, p => Hpos.tries l _ (p.tried s)
theorem Hpos.retried {R : ByteArray → Sh} : ∀ (l : List (Bool × ByteArray)) (h h' : HS), Hpos h → retry R h l = some h' → Hpos h'
  | [], _, _, p, e => by cases e; exact p
  | x :: l, h, h', p, e => by
    unfold retry at e
    split at e
    · exact Hpos.retried l _ h' (p.tried x.2) e
    · cases e
theorem behind_mem (n : Nat) (l : List Nat) (h : l ≠ []) : behindS n l ∈ l := by
  unfold behindS
  cases e : l.find? fun m => decide (n < m) with
  | some m => exact List.mem_of_find?_eq_some e
  | none =>
    cases l with
    | nil => exact absurd rfl h
    | cons a l => simp
theorem Hpos.one {R : ByteArray → Sh} {h : HS} (p : Hpos h) (q : Hinv R h) (hR : ROk R) (hk : 0 < h.kept.length) : Hpos (h.one R) := by
  have hs := change_seed p
  have p1 : Hpos { h with seed := h.chSeed } := ⟨p.entry, p.none, p.changes, hs.1, hs.2⟩
  have p2 : Hpos (tryS R { h with seed := h.chSeed } h.chText).1 := p1.tried _
  have q2 : Hinv R (tryS R { h with seed := h.chSeed } h.chText).1 := Hinv.tried (h := { h with seed := h.chSeed }) (q.alike ⟨rfl, rfl, rfl⟩) hR _ (change_size q)
  have hg : h.kept.length ≤ (tryS R { h with seed := h.chSeed } h.chText).1.kept.length := kept_grows_try R { h with seed := h.chSeed } _
  unfold HS.one
  dsimp only
  generalize (tryS R { h with seed := h.chSeed } h.chText).1 = h1 at p2 q2 hg ⊢
  have hsm : ({ h1 with changes := h1.changes + 1 } : HS).small = h1.small := rfl
  split
  · refine ⟨fun _ => ?_, fun hz => ?_, ?_, p2.seed0, p2.seed1⟩
    · show behindS h1.entry (favS h1.kept) < h1.kept.length
      exact fav_lt _ _ (behind_mem _ _ (fav_some (h := h1) q2 hR (by omega)))
    · have : h1.kept.length = 0 := hz
      omega
    · show 0 < _; omega
  · rename_i hne
    have hne' : h1.changes + 1 ≠ h1.small + 16 := hne
    exact ⟨p2.entry, fun hz => by have : h1.kept.length = 0 := hz; omega, by show h1.changes + 1 < h1.small + 16; have := p2.changes; omega, p2.seed0, p2.seed1⟩
theorem Hpos.go {R : ByteArray → Sh} {h : HS} (p : Hpos h) (q : Hinv R h) (hR : ROk R) (hk : 0 < h.kept.length) : ∀ n, Hpos (h.go R n) ∧ 0 < (h.go R n).kept.length
  | 0 => ⟨p, hk⟩
  | n + 1 => by
    obtain ⟨h1, h2⟩ := Hpos.go p q hR hk n
    exact ⟨h1.one (q.go hR n) hR h2, Nat.lt_of_lt_of_le h2 (kept_grows_one R _)⟩
end Go.Proofs.YtflenkppcclclaaGreatDoor

namespace Go.Proofs.YtflenkppcclclaaGreatDoor
open Go.RowKit

def manyL (L : Nat) : Nat → Nat
  | 0 => 8 * L
  | 1 => 8 * L - 1
  | 2 => L
  | 3 => 4 * L
  | 4 => 4 * L
  | 5 => 5 * L
  | 6 => L
  | 7 => if 24 ≤ L then 0 else L
  | _ => 0
def chgL (l : List Int) (m : Nat) : Nat → List Int
  | 0 => flipL l m
  | 1 => flipL (flipL l m) (m + 1)
  | 2 => l.set m (bits .xor .u8 (l.getD m 0) 255)
  | 3 => l.set (m / 4) ((l.getD (m / 4) 0 + (m % 4 + 1 : Nat)) % 256)
  | 4 => l.set (m / 4) ((l.getD (m / 4) 0 - (m % 4 + 1 : Nat)) % 256)
  | 5 => l.set (m / 5) (markL (m % 5))
  | 6 => cutL l m
  | _ => twiceL l m
def tryL (l : List Int) : Nat → Nat → Nat → Option (List Int)
  | 0, _, _ => none
  | d + 1, j, m => if m < manyL l.length j then some (chgL l m j) else tryL l d (j + 1) (m - manyL l.length j)
theorem mut_try (l : List Int) (n : Nat) : mutL l n = tryL l 8 0 n := by
  have e : ∀ m : Nat, (m < l.length ∧ l.length < 24) ↔ m < (if 24 ≤ l.length then 0 else l.length) := fun m => by split <;> omega
  simp only [mutL, tryL, manyL, chgL, e]

def fnOf (f : Nat) : Value := .func (.func f) #[] #[]
def kindsObj (L : Nat) : Obj := .cells #[.int .i64 (8 * L : Nat), fnOf 203, .int .i64 (8 * L - 1 : Nat), fnOf 204, .int .i64 (L : Nat), fnOf 205, .int .i64 (4 * L : Nat), fnOf 206, .int .i64 (4 * L : Nat), fnOf 207, .int .i64 (5 * L : Nat), fnOf 208, .int .i64 (L : Nat), fnOf 209, .int .i64 ((if 24 ≤ L then 0 else L : Nat) : Int), fnOf 210] 217

set_option maxRecDepth 100000 in
theorem kinds_any (L : Nat) (hL : L ≤ 24) (w : World) : Calls Tryz.prog 163 #[.int .i64 L] w fun e w' => e = .returned (.slice (some ⟨w.heap.size, 0, none⟩) 8 8) ∧ w' = w.alloc (kindsObj L) := by
  have h1 : (8 : Int) * (L : Int) = ((8 * L : Nat) : Int) := by omega
  have hmax : max ((8 : Int) * L - 1) 0 = ((8 * L - 1 : Nat) : Int) := by omega
  by_cases h : 24 ≤ L
  · obtain rfl : L = 24 := by omega
    go_enter Tryz.func163, Tryz.ntmps163
    go_wp2
    go_ret
    exact ⟨rfl, rfl⟩
  · have h' : ¬ (24 : Int) ≤ (L : Int) := by omega
    have e : (if 24 ≤ L then 0 else L : Nat) = L := if_neg h
    unfold kindsObj
    rw [e]
    clear h1 h e
    go_enter Tryz.func163, Tryz.ntmps163
    go_wp2
    go_ret
    exact ⟨rfl, rfl⟩
end Go.Proofs.YtflenkppcclclaaGreatDoor

