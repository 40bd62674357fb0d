import Derived.Test.YtflenkppcclclaaGreatDoorM05
import Derived.Test.YtflenkppcclclaaGreatDoorM00
import Derived.Deep.MidRow
import Derived.Laws.OwnMore
namespace Go.Proofs.YtflenkppcclclaaGreatDoor
open Go.RowKit

/-- What 'advance' makes of a state. -/
def advS (σ : St) (k : Nat) (n fuel : Int) : St :=
  if k = 20 then { σ with next := σ.next + 2 }
  else if σ.steps = fuel then fin σ 2 0
  else if misfitS σ.stack.length (shp (k * 3 + 1)) (shp (k * 3 + 2)) ≠ 0 then fin { σ with steps := σ.steps + 1, next := σ.next + shp (k * 3) } 1 (misfitS σ.stack.length (shp (k * 3 + 1)) (shp (k * 3 + 2)))
  else doS { σ with steps := σ.steps + 1, next := σ.next + shp (k * 3) } k n

theorem misfit_zero {d t l : Int} (h : misfitS d t l = 0) : 0 ≤ d - t ∧ d - t + l ≤ 32 := by
  unfold misfitS at h
  by_cases h1 : d - t < 0
  · rw [if_pos h1] at h; cases h
  · rw [if_neg h1] at h
    by_cases h2 : 32 < d - t + l
    · rw [if_pos h2] at h; cases h
    · omega

theorem sz_cases : ∀ k, k ≤ 20 → (shp (k * 3) = 1 ∧ ¬ (k = 16 ∨ k = 17)) ∨ shp (k * 3) = 2 := by
  intro k hk
  match k, hk with
  | 0, _ | 1, _ | 2, _ | 3, _ | 4, _ | 5, _ | 6, _ | 7, _ | 8, _ | 9, _ | 10, _ | 11, _ | 12, _ | 13, _ | 14, _ | 15, _ | 16, _ | 17, _ | 18, _ | 19, _ | 20, _ => simp [shp, shapeCells]
  | k + 21, hk => omega

theorem adv_any (base M : Nat) (w : World) (vs vo : Value) (σ : St) (cb co len cap : Nat) (k : Nat) (n fuel : Int) (hk : k ≤ 20) (hc0 : w.cell? ⟨cb, co, none⟩ = some (.int .u8 (k : Int))) (hl : 1 ≤ len)
    (hs0 : 0 ≤ σ.steps) (hs1 : σ.steps ≤ 1000) (hx0 : 0 ≤ σ.next) (hx1 : σ.next ≤ 1000) (h3 : σ.stack.length ≤ 32) (hT : Tab w) (h : MS base M w vs vo σ) (h0M : 0 < M)
    (hn : 0 ≤ n) (hn' : n ≤ 255) (hh : k = 16 ∨ k = 17 → n < 16) (hi : σ.input.size ≤ 24) (ho : σ.out.length ≤ 16) (hcb : cb ≠ M) (hcz : cb < w.heap.size)
    (h1 : shp (k * 3) = 1 → n = 0) (h2 : shp (k * 3) = 2 → 2 ≤ len ∧ w.cell? ⟨cb, co + 1, none⟩ = some (.int .u8 n)) :
    Calls Tryz.prog 73 #[.pointer (some ⟨M, 0, none⟩), .slice (some ⟨cb, co, none⟩) len cap, .int .i64 fuel] w (Out base M w (advS σ k n fuel)) := by
  unfold advS
  by_cases e20 : k = 20
  · subst e20
    rw [if_pos rfl]
    obtain ⟨a, b⟩ := h2 rfl
    exact adv_probe base M w vs vo σ cb co len cap n fuel hc0 hx0 hx1 h3 hT h h0M hn hn' a b hcb hcz
  rw [if_neg e20]
  have hk20 : ((k : Int) != 20) = true := by rw [bne_iff_ne]; omega
  by_cases es : σ.steps = fuel
  · rw [if_pos es]
    exact adv_hang base M w vs vo σ cb co len cap k fuel hk20 hc0 hl (by rw [beq_iff_eq]; exact es) h
  rw [if_neg es]
  have hz : (σ.steps == fuel) = false := by rw [beq_eq_false_iff_ne]; exact es
  by_cases er : misfitS σ.stack.length (shp (k * 3 + 1)) (shp (k * 3 + 2)) ≠ 0
  · rw [if_pos er]
    exact adv_fault base M w vs vo σ cb co len cap k fuel hk hk20 hc0 hl hz hs0 hs1 hx0 hx1 h3 hT h h0M _ rfl (by rw [bne_iff_ne]; exact er)
  rw [if_neg er]
  have er0 : misfitS σ.stack.length (shp (k * 3 + 1)) (shp (k * 3 + 2)) = 0 := Classical.byContradiction er
  obtain ⟨_, ⟨t1, t2⟩, ⟨l1, l2⟩⟩ := shp_bounds k hk
  have hm := misfit_zero er0
  have hq1 : tkOf k ≤ σ.stack.length := by unfold tkOf; omega
  have hq2 : σ.stack.length - tkOf k + lyOf k ≤ 32 := by unfold tkOf lyOf; omega
  have hr0 : ((0 : Int) != 0) = false := rfl
  rcases sz_cases k hk with ⟨e1, ek⟩ | e2
  · have := h1 e1
    subst this
    exact adv_do1 base M w vs vo σ cb co len cap k fuel hk hk20 hc0 hl hz hs0 hs1 hx0 hx1 h3 hT h h0M 0 er0 hr0 e1 ek hi ho hq1 hq2
  · obtain ⟨a, b⟩ := h2 e2
    exact adv_do2 base M w vs vo σ cb co len cap k fuel hk hk20 hc0 hz hs0 hs1 hx0 hx1 h3 hT h h0M 0 er0 hr0 e2 n hn hn' hh a b hcb hcz hi ho hq1 hq2
end Go.Proofs.YtflenkppcclclaaGreatDoor

namespace Go.Proofs.YtflenkppcclclaaGreatDoor
open Go.RowKit

/-- The trail lies in block S: what is counted at each place, and the block ahead. -/
structure TS (S : Nat) (w : World) (cnt : Nat → Int) (ah : Int) : Prop where
  cell : ∀ j, j < 64 → w.cell? ⟨S, j, none⟩ = some (.int .i64 (cnt j))
  ahead : w.cell? ⟨S, 64, none⟩ = some (.int .i64 ah)
  thaw : ∀ j, w.frozen? ⟨S, j, none⟩ = false

theorem TS.kept {S : Nat} {w w' : World} {cnt : Nat → Int} {ah : Int} (h : TS S w cnt ah) (hb : w'.heap[S]? = w.heap[S]?) : TS S w' cnt ah :=
  ⟨fun j hj => (World.cell?_of_block (w := w) (a := ⟨S, j, none⟩) hb).trans (h.cell j hj), (World.cell?_of_block (w := w) (a := ⟨S, 64, none⟩) hb).trans h.ahead, fun j => (World.frozen?_of_block (w := w) (a := ⟨S, j, none⟩) hb).trans (h.thaw j)⟩

theorem TS.count {S : Nat} {w : World} {cnt : Nat → Int} {ah : Int} (h : TS S w cnt ah) (p : Nat) (hp : p < 64) (v : Int) : TS S (w.setCell ⟨S, p, none⟩ (.int .i64 v)) (fun i => if i = p then v else cnt i) ah where
  cell := by
    intro j hj
    by_cases e : j = p
    · subst e; rw [if_pos rfl]; exact World.cell?_setCell_same _ _ _ (h.cell j hj)
    · rw [if_neg e, World.cell?_setCell_other _ _ _ _ (fun c => e (by injection c with _ c2 _; exact c2.symm))]; exact h.cell j hj
  ahead := by rw [World.cell?_setCell_other _ _ _ _ (fun c => by injection c with _ c2 _; omega)]; exact h.ahead
  thaw := fun j => by rw [World.frozen?_setCell]; exact h.thaw j
theorem TS.move {S : Nat} {w : World} {cnt : Nat → Int} {ah : Int} (h : TS S w cnt ah) (v : Int) : TS S (w.setCell ⟨S, 64, none⟩ (.int .i64 v)) cnt v where
  cell := fun j hj => by rw [World.cell?_setCell_other _ _ _ _ (fun c => by injection c with _ c2 _; omega)]; exact h.cell j hj
  ahead := World.cell?_setCell_same _ _ _ h.ahead
  thaw := fun j => by rw [World.frozen?_setCell]; exact h.thaw j

/-- All blocks but S are as they were. -/
structure OnlyB (S : Nat) (w w' : World) : Prop where
  os : w'.os = w.os
  tape : w'.tape = w.tape
  output : w'.output = w.output
  size : w'.heap.size = w.heap.size
  block : ∀ k, k ≠ S → w'.heap[k]? = w.heap[k]?
theorem OnlyB.set (S : Nat) (w : World) (j : Nat) (u : Value) : OnlyB S w (w.setCell ⟨S, j, none⟩ u) := ⟨rfl, rfl, rfl, by simp, fun k hk => heap_setCell_other w ⟨S, j, none⟩ k u hk⟩
theorem OnlyB.trans {S : Nat} {a b c : World} (h : OnlyB S a b) (k : OnlyB S b c) : OnlyB S a c := ⟨k.os.trans h.os, k.tape.trans h.tape, k.output.trans h.output, k.size.trans h.size, fun i hi => (k.block i hi).trans (h.block i hi)⟩
theorem OnlyB.drew {S : Nat} {a b : World} (h : OnlyB S a b) : OnlyB S a b.drew := ⟨h.os, h.tape, h.output, h.size, h.block⟩

def comeAt (ah b : Int) : Nat := ((7 * ah + b) % 64).toNat
def comeS (cnt : Nat → Int) (ah b : Int) : Nat → Int := if cnt (comeAt ah b) < 255 then fun i => if i = comeAt ah b then cnt (comeAt ah b) + 1 else cnt i else cnt

set_option maxHeartbeats 400000 in
theorem come_any (S : Nat) (w : World) (cnt : Nat → Int) (ah b : Int) (h : TS S w cnt ah) (ha : 0 ≤ ah) (ha' : ah ≤ 1000) (hb : 0 ≤ b) (hb' : b ≤ 1000) (hc : ∀ i, 0 ≤ cnt i) :
    Calls Tryz.prog 72 #[.pointer (some ⟨S, 0, none⟩), .int .i64 b] w fun e w' => e = .returned (.tuple #[]) ∧ TS S w' (comeS cnt ah b) (b + 1) ∧ OnlyB S w w' := by
  have c64 := h.ahead
  have f64 := h.thaw 64
  have hp : comeAt ah b < 64 := by unfold comeAt; omega
  have HP : Hid ((7 * ah + b) % 64 = (comeAt ah b : Int)) := by unfold comeAt; show _ = _; omega
  have hcp := h.cell (comeAt ah b) hp
  have hfp := h.thaw (comeAt ah b)
  have h0 := hc (comeAt ah b)
  have hlt : (comeAt ah b : Int) < 64 := by omega
  unfold comeS
  by_cases hx : cnt (comeAt ah b) < 255
  · rw [if_pos hx]
    have R := (h.count (comeAt ah b) hp (cnt (comeAt ah b) + 1)).move (b + 1)
    have K := (OnlyB.set S w (comeAt ah b) (.int .i64 (cnt (comeAt ah b) + 1))).trans (OnlyB.set S _ 64 (.int .i64 (b + 1)))
    have hmod := HP.out
    clear h hc
    generalize comeAt ah b = p at *
    go_enter Tryz.func72, Tryz.ntmps72
    go_wp2
    go_region
    go_wp2
    go_end0
    exact ⟨rfl, R.kept rfl, K.drew⟩
  · rw [if_neg hx]
    have R := h.move (b + 1)
    have K := OnlyB.set S w 64 (.int .i64 (b + 1))
    have hmod := HP.out
    clear h hc
    generalize comeAt ah b = p at *
    go_enter Tryz.func72, Tryz.ntmps72
    go_wp2
    go_end0
    exact ⟨rfl, R, K⟩

theorem index_at (l : List Int) (k : Nat) (hk : k < 64) (hl : l.length = 64) (w : World) : (Instr.index 130 (.agg (l.map (Value.int .i64)).toArray) (.int .i64 (k : Int))).run Tryz.prog w = .ok (.int .i64 (l.getD k 0)) w := by
  have h1 : (k : Int) < 64 := by omega
  simp [Instr.index, run_underlying Tryz.underlying130, asIntOf, part, go_sem]
  rw [if_pos hk, List.getElem?_eq_getElem (by omega)]
  rfl

def classS (c : Int) : Int := if 128 ≤ c then 128 else if 32 ≤ c then 64 else if 16 ≤ c then 32 else if 8 ≤ c then 16 else if 4 ≤ c then 8 else if c = 3 then 4 else c

theorem class_any (c : Int) (h0 : 0 ≤ c) (w : World) : Calls Tryz.prog 133 #[.int .i64 c] w fun e w' => e = .returned (.int .u8 (classS c)) ∧ w' = w := by
  unfold classS
  by_cases h1 : 128 ≤ c
  · rw [if_pos h1]; go_enter Tryz.func133, Tryz.ntmps133; go_wp2; go_ret; exact ⟨rfl, rfl⟩
  rw [if_neg h1]
  by_cases h2 : 32 ≤ c
  · rw [if_pos h2]; go_enter Tryz.func133, Tryz.ntmps133; go_wp2; go_ret; exact ⟨rfl, rfl⟩
  rw [if_neg h2]
  by_cases h3 : 16 ≤ c
  · rw [if_pos h3]; go_enter Tryz.func133, Tryz.ntmps133; go_wp2; go_ret; exact ⟨rfl, rfl⟩
  rw [if_neg h3]
  by_cases h4 : 8 ≤ c
  · rw [if_pos h4]; go_enter Tryz.func133, Tryz.ntmps133; go_wp2; go_ret; exact ⟨rfl, rfl⟩
  rw [if_neg h4]
  by_cases h5 : 4 ≤ c
  · rw [if_pos h5]; go_enter Tryz.func133, Tryz.ntmps133; go_wp2; go_ret; exact ⟨rfl, rfl⟩
  rw [if_neg h5]
  by_cases h6 : c = 3
  · rw [if_pos h6]
    have h6' : (c == 3) = true := by rw [beq_iff_eq]; exact h6
    clear h6
    go_enter Tryz.func133, Tryz.ntmps133; go_wp2; go_ret; exact ⟨rfl, rfl⟩
  · rw [if_neg h6]
    have h6' : (c == 3) = false := by rw [beq_eq_false_iff_ne]; exact h6
    have h7 : c ≤ 2 := by omega
    clear h6
    go_enter Tryz.func133, Tryz.ntmps133; go_wp2; go_ret; exact ⟨rfl, rfl⟩

/-- The cover, as far as it is made. -/
def covL (cnt : Nat → Int) (k : Nat) : List Value := (List.range 64).map fun i => .int .u8 (if i < k then classS (cnt i) else 0)
theorem covL_len (cnt : Nat → Int) (k : Nat) : (covL cnt k).length = 64 := by simp [covL]
theorem covL_get (cnt : Nat → Int) (k j : Nat) (hj : j < 64) : (covL cnt k)[j]? = some (.int .u8 (if j < k then classS (cnt j) else 0)) := by simp [covL, List.getElem?_range hj]
theorem covL_set (cnt : Nat → Int) (k : Nat) (hk : k < 64) : (covL cnt k).set k (.int .u8 (classS (cnt k))) = covL cnt (k + 1) := by
  apply List.ext_getElem?
  intro j
  by_cases hj : j < 64
  · rw [List.getElem?_set]
    by_cases e : k = j
    · subst e; rw [if_pos rfl, if_pos (by rw [covL_len]; exact hk), covL_get _ _ _ hk, if_pos (by omega)]
    · rw [if_neg e, covL_get _ _ _ hj, covL_get _ _ _ hj]
      by_cases c : j < k
      · rw [if_pos c, if_pos (by omega)]
      · rw [if_neg c, if_neg (by omega)]
  · rw [List.getElem?_eq_none (by simp [covL_len]; omega), List.getElem?_eq_none (by rw [covL_len]; omega)]
def zero64 : Array Value := (covL (fun _ => 0) 0).toArray
theorem zero64_eq (cnt : Nat → Int) : zero64 = (covL cnt 0).toArray := by
  unfold zero64 covL; simp
theorem make64 (w : World) : (Instr.makeSlice 25 (.int .i64 64) (.int .i64 64)).run Tryz.prog w = .ok (.slice (some ⟨w.heap.size, 0, none⟩) 64 64) (w.alloc (.cells zero64 5)) := by kernel_rfl
theorem info64 : (Tryz.prog.info? 130).map (·.size) = some 64 := by kernel_rfl

set_option maxHeartbeats 400000 in
theorem cover_any (S : Nat) (w : World) (cnt : Nat → Int) (ah : Int) (h : TS S w cnt ah) (hc : ∀ i, 0 ≤ cnt i) :
    Calls Tryz.prog 74 #[.pointer (some ⟨S, 0, none⟩)] w fun e w' => e = .returned (.slice (some ⟨w.heap.size, 0, none⟩) 64 64) ∧ w'.heap[w.heap.size]? = some (.cells (covL cnt 64).toArray 5 (0, 0)) ∧ Below w.heap.size w w' := by
  have hmk := make64
  obtain ⟨l, hl⟩ : ∃ l, l = (List.range 64).map cnt := ⟨_, rfl⟩
  have hlen : l.length = 64 := by rw [hl]; simp
  have hget : ∀ k, k < 64 → l.getD k 0 = cnt k := fun k hk => by rw [hl]; simp [List.getElem?_range hk]
  have hr : (w.alloc (.cells zero64 5)).rangeAt S 0 (l.map (Value.int .i64)) := by
    refine World.rangeAt_alloc ?_ _
    intro j v hj
    rw [List.getElem?_map, Option.map_eq_some_iff] at hj
    obtain ⟨x, hx, rfl⟩ := hj
    have hj2 : j < 64 := by rw [← hlen]; exact (List.getElem?_eq_some_iff.1 hx).1
    have := hget j hj2
    simp [hx] at this
    rw [Nat.zero_add, h.cell j hj2, this]
  have hi : (Tryz.prog.info? 130).map (·.size) = some (l.map (Value.int .i64)).length := by rw [List.length_map, hlen]; exact info64
  have hix := fun k hk => index_at l k hk hlen
  have HL : Hid (∀ k : Nat, k < 64 → l.getD k 0 = cnt k) := hget
  have HLEN : Hid (l.length = 64) := hlen
  have HIX : Hid (∀ k : Nat, k < 64 → ∀ w, (Instr.index 130 (.agg (l.map (Value.int .i64)).toArray) (.int .i64 (k : Int))).run Tryz.prog w = .ok (.int .i64 (l.getD k 0)) w) := hix
  have HI : Hid ((Tryz.prog.info? 130).map (·.size) = some (l.map (Value.int .i64)).length) := hi
  have HR : Hid ((w.alloc (.cells zero64 5)).rangeAt S 0 (l.map (Value.int .i64))) := hr
  clear hl hlen hget hi hix hr
  obtain ⟨cs, hcs⟩ : ∃ cs, cs = l.map (Value.int .i64) := ⟨_, rfl⟩
  rw [← hcs] at HR HI HIX
  have HCS : Hid (cs = l.map (Value.int .i64)) := hcs
  clear hcs
  go_enter Tryz.func74, Tryz.ntmps74
  go_wp2_with (refine wpList_load_mid rfl 130 _ rfl S 0 rfl cs _ HR.out Tryz.underlying130 rfl HI.out ?_)
  go_loopw [11] (fun i wr => ∃ k : Nat, k ≤ 64 ∧ i = .int .i64 k ∧ wr.heap[w.heap.size]? = some (.cells (covL cnt k).toArray 5 (0, 0)) ∧ Below w.heap.size w wr) (fun i _ => 64 - (intOf i).toNat)
  case atStart => exact ⟨0, by omega, rfl, by rw [← zero64_eq]; exact heap_alloc_new w _, (Below.refl _ _).alloc (Nat.le_refl _) _⟩
  case round =>
    obtain ⟨k, hk, rfl, hh, hB⟩ := hrel
    by_cases hlt : k < 64
    · have e1 := HIX.out k hlt
      rw [HL.out k hlt] at e1
      have c1 : wr.cell? ⟨w.heap.size, k, none⟩ = some (.int .u8 (if k < k then classS (cnt k) else 0)) := by
        rw [cell_of_row wr w.heap.size k _ _ _ hh, List.getElem?_toArray]; exact covL_get cnt k k hlt
      have f1 := frozen_of_row wr w.heap.size k _ _ hh
      have R : (wr.setCell ⟨w.heap.size, k, none⟩ (.int .u8 (classS (cnt k)))).heap[w.heap.size]? = some (.cells (covL cnt (k + 1)).toArray 5 (0, 0)) := by
        rw [heap_setCell_same wr w.heap.size k _ _ _ hh, ← covL_set cnt k hlt]
        simp
      have B2 := hB.setCell (p := ⟨w.heap.size, k, none⟩) (Nat.le_refl _) (.int .u8 (classS (cnt k)))
      have HR2 : Hid ((wr.setCell ⟨w.heap.size, k, none⟩ (.int .u8 (classS (cnt k)))).heap[w.heap.size]? = some (.cells (covL cnt (k + 1)).toArray 5 (0, 0))) := R
      have hck := hc k
      have hlt' : (k : Int) < 64 := by omega
      clear R hh hmk
      go_wp2_with (go_at_call 133; refine (class_any _ hck _).mono ?_; rintro e w' ⟨rfl, rfl⟩)
      go_roundw
      case rel => exact ⟨k + 1, by omega, by go_num, HR2.out, B2⟩
      case measure => simp [intOf]; omega
    · have e64 : k = 64 := by omega
      subst e64
      go_wp2
      go_ret
      exact ⟨rfl, hh, hB⟩
end Go.Proofs.YtflenkppcclclaaGreatDoor

namespace Go.Proofs.YtflenkppcclclaaGreatDoor
open Go.RowKit

structure RS where
  σ : St
  cnt : Nat → Int
  ah : Int

/-- The second byte of the instruction at p; 0, if it has none. -/
def second (c : Nat → Int) (p : Nat) : Int := if shp ((c p).toNat * 3) = 2 then c (p + 1) else 0

/-- One round of 'Run'. -/
def roundS (c ent : Nat → Int) (fuel : Int) (ρ : RS) : RS :=
  { σ := advS { ρ.σ with place := ρ.σ.next } (c ρ.σ.next.toNat).toNat (second c ρ.σ.next.toNat) fuel
    cnt := if ent ρ.σ.next.toNat = -1 then ρ.cnt else comeS ρ.cnt ρ.ah (ent ρ.σ.next.toNat)
    ah := if ent ρ.σ.next.toNat = -1 then ρ.ah else ent ρ.σ.next.toNat + 1 }

def after (c ent : Nat → Int) (fuel : Int) (ρ : RS) : Nat → RS
  | 0 => ρ
  | n + 1 => roundS c ent fuel (after c ent fuel ρ n)

/-- Bytes that can be run: 'Start' holds where an instruction begins. -/
structure Good (c : Nat → Int) (L : Nat) (Start : Nat → Prop) : Prop where
  zero : Start 0
  most : L ≤ 240
  lt : ∀ p, Start p → p + szOf (c p).toNat ≤ L ∧ c p ≤ 20
  byte : ∀ p, p < L → 0 ≤ c p ∧ c p ≤ 255
  cell : ∀ p, Start p → c p = 16 ∨ c p = 17 → c (p + 1) < 16
  next : ∀ p, Start p → c p ≠ 0 → c p ≠ 14 → c p ≠ 19 → Start (p + szOf (c p).toNat)
  jump : ∀ p, Start p → c p = 14 ∨ c p = 15 → Start (c (p + 1)).toNat

structure Inv (L : Nat) (Start : Nat → Prop) (fuel : Int) (ρ : RS) : Prop where
  next0 : 0 ≤ ρ.σ.next
  nextL : ρ.σ.next ≤ 300
  start : ρ.σ.ended = false → Start ρ.σ.next.toNat
  stack : ρ.σ.stack.length ≤ 32
  input : ρ.σ.input.size ≤ 24
  out : ρ.σ.out.length ≤ 16
  steps0 : 0 ≤ ρ.σ.steps
  steps : ρ.σ.steps ≤ fuel
  cnt : ∀ i, 0 ≤ ρ.cnt i
  ah0 : 0 ≤ ρ.ah
  ah : ρ.ah ≤ 256

def mu (fuel : Int) (ρ : RS) : Nat := if ρ.σ.ended then 0 else (fuel - ρ.σ.steps).toNat * 400 + (400 - ρ.σ.next.toNat) + 1

theorem szOf_pos : ∀ k, k ≤ 20 → 1 ≤ szOf k ∧ szOf k ≤ 2 ∧ (szOf k : Int) = shp (k * 3) := by
  intro k hk
  obtain ⟨⟨a, b⟩, _, _⟩ := shp_bounds k hk
  unfold szOf; omega

theorem doS_facts (σ : St) (k : Nat) (n : Int) (hk : k ≤ 20) (h1 : tkOf k ≤ σ.stack.length) (h2 : σ.stack.length - tkOf k + lyOf k ≤ 32) (ho : σ.out.length ≤ 16) :
    (doS σ k n).steps = σ.steps ∧ (doS σ k n).place = σ.place ∧ (doS σ k n).input.size ≤ σ.input.size ∧ (doS σ k n).out.length ≤ 16 ∧ (doS σ k n).stack.length ≤ 32 ∧
    ((doS σ k n).next = σ.next ∨ (doS σ k n).next = n ∧ (k = 14 ∨ k = 15)) ∧ ((doS σ k n).ended = false → k ≠ 0 ∧ k ≠ 19 ∧ ((doS σ k n).next = n ∧ (k = 14 ∨ k = 15) ∨ (doS σ k n).next = σ.next ∧ k ≠ 14)) := by
  match k, hk with
  | 0, _ | 1, _ | 3, _ | 4, _ | 5, _ | 6, _ | 7, _ | 8, _ | 9, _ | 10, _ | 12, _ | 13, _ | 14, _ | 16, _ | 17, _ | 19, _ | 20, _ =>
    simp [tkOf, lyOf, shp, shapeCells] at h1 h2
    simp [doS, tkOf, shp, shapeCells, fin, ho]
    try omega
  | 2, _ =>
    simp [tkOf, lyOf, shp, shapeCells] at h1 h2
    by_cases he : 0 < σ.input.size
    · simp [doS, tkOf, shp, shapeCells, he, ho]
      omega
    · simp [doS, tkOf, shp, shapeCells, he, ho]
      omega
  | 11, _ =>
    simp [tkOf, lyOf, shp, shapeCells] at h1 h2
    simp only [doS, tkOf, shp, shapeCells]
    simp
    split
    · simp [fin, ho]; omega
    · simp [ho]; omega
  | 15, _ =>
    simp [tkOf, lyOf, shp, shapeCells] at h1 h2
    simp only [doS, tkOf, shp, shapeCells]
    simp
    split
    · simp [ho]; omega
    · simp [ho]; omega
  | 18, _ =>
    simp [tkOf, lyOf, shp, shapeCells] at h1 h2
    simp only [doS, putS, tkOf, shp, shapeCells]
    simp
    split
    · simp [fin, ho]; omega
    · simp; omega
  | k + 21, hk => omega

theorem second_bounds {c : Nat → Int} {L : Nat} {Start : Nat → Prop} (hG : Good c L Start) {p : Nat} (hp : Start p) : 0 ≤ second c p ∧ second c p ≤ 255 := by
  obtain ⟨h1, h2⟩ := hG.lt p hp
  unfold second
  by_cases e : shp ((c p).toNat * 3) = 2
  · rw [if_pos e]
    have hs := (szOf_pos (c p).toNat (by omega)).2.2
    exact hG.byte (p + 1) (by omega)
  · rw [if_neg e]; omega

theorem trail_inv {ρ : RS} {e : Int} (hcnt : ∀ i, 0 ≤ ρ.cnt i) (h0 : 0 ≤ ρ.ah) (h1 : ρ.ah ≤ 256) (he : -1 ≤ e) (he' : e ≤ 255) :
    (∀ i, 0 ≤ (if e = -1 then ρ.cnt else comeS ρ.cnt ρ.ah e) i) ∧ 0 ≤ (if e = -1 then ρ.ah else e + 1) ∧ (if e = -1 then ρ.ah else e + 1) ≤ 256 := by
  by_cases c : e = -1
  · rw [if_pos c, if_pos c]; exact ⟨hcnt, h0, h1⟩
  · rw [if_neg c, if_neg c]
    refine ⟨fun i => ?_, by omega, by omega⟩
    unfold comeS
    split
    · show 0 ≤ (if i = _ then _ else _)
      have := hcnt (comeAt ρ.ah e)
      have := hcnt i
      split <;> omega
    · exact hcnt i

theorem advS_inv {c ent : Nat → Int} {L : Nat} {Start : Nat → Prop} {fuel : Int} {ρ : RS} (hG : Good c L Start) (hE : ∀ p, p < L → -1 ≤ ent p ∧ ent p ≤ 255) (hI : Inv L Start fuel ρ) (he : ρ.σ.ended = false) :
    Inv L Start fuel (roundS c ent fuel ρ) ∧ mu fuel (roundS c ent fuel ρ) < mu fuel ρ := by
  have hst := hI.start he
  obtain ⟨hpL, hk20⟩ := hG.lt _ hst
  have hk : (c ρ.σ.next.toNat).toNat ≤ 20 := by omega
  obtain ⟨s1, s2, s3⟩ := szOf_pos _ hk
  have hpl : ρ.σ.next.toNat < L := by omega
  obtain ⟨hb0, hb1⟩ := hG.byte _ hpl
  obtain ⟨e0, e1⟩ := hE _ hpl
  have hT := trail_inv hI.cnt hI.ah0 hI.ah e0 e1
  obtain ⟨n0, n1⟩ := second_bounds hG hst
  have hmost := hG.most
  have hn0 := hI.next0
  have hm0 : mu fuel ρ = (fuel - ρ.σ.steps).toNat * 400 + (400 - ρ.σ.next.toNat) + 1 := by unfold mu; rw [he]; rfl
  -- the machine's part
  have key : ∀ τ : St, advS { ρ.σ with place := ρ.σ.next } (c ρ.σ.next.toNat).toNat (second c ρ.σ.next.toNat) fuel = τ →
      (0 ≤ τ.next ∧ τ.next ≤ 300 ∧ (τ.ended = false → Start τ.next.toNat) ∧ τ.stack.length ≤ 32 ∧ τ.input.size ≤ 24 ∧ τ.out.length ≤ 16 ∧ 0 ≤ τ.steps ∧ τ.steps ≤ fuel) ∧
      (τ.ended = false → (fuel - τ.steps).toNat * 400 + (400 - τ.next.toNat) + 1 < mu fuel ρ) := by
    intro τ hτ
    rw [hm0]
    unfold advS at hτ
    have hs0 := hI.steps0
    have hs1 := hI.steps
    by_cases e20 : (c ρ.σ.next.toNat).toNat = 20
    · rw [if_pos e20] at hτ
      subst hτ
      have hc20 : c ρ.σ.next.toNat = 20 := by omega
      have hnx := hG.next _ hst (by omega) (by omega) (by omega)
      rw [e20] at hnx
      have e2 : szOf 20 = 2 := rfl
      rw [e20, e2] at hpL
      refine ⟨⟨by show 0 ≤ ρ.σ.next + 2; omega, by show ρ.σ.next + 2 ≤ 300; omega, fun _ => ?_, hI.stack, hI.input, hI.out, hs0, hs1⟩, fun _ => ?_⟩
      · show Start (ρ.σ.next + 2).toNat
        rw [show (ρ.σ.next + 2).toNat = ρ.σ.next.toNat + szOf 20 by rw [e2]; omega]
        exact hnx
      · show (fuel - ρ.σ.steps).toNat * 400 + (400 - (ρ.σ.next + 2).toNat) + 1 < _
        omega
    rw [if_neg e20] at hτ
    by_cases es : ρ.σ.steps = fuel
    · rw [if_pos es] at hτ
      subst hτ
      exact ⟨⟨hn0, hI.nextL, fun c => (by cases c), hI.stack, hI.input, hI.out, hs0, hs1⟩, fun c => (by cases c)⟩
    rw [if_neg es] at hτ
    have hlt : ρ.σ.steps + 1 ≤ fuel := by omega
    by_cases er : misfitS ρ.σ.stack.length (shp ((c ρ.σ.next.toNat).toNat * 3 + 1)) (shp ((c ρ.σ.next.toNat).toNat * 3 + 2)) ≠ 0
    · rw [if_pos er] at hτ
      subst hτ
      refine ⟨⟨?_, ?_, fun c => (by cases c), hI.stack, hI.input, hI.out, ?_, hlt⟩, fun c => (by cases c)⟩
      · show 0 ≤ ρ.σ.next + _; omega
      · show ρ.σ.next + _ ≤ 300; omega
      · show 0 ≤ ρ.σ.steps + 1; omega
    rw [if_neg er] at hτ
    obtain ⟨_, ⟨t1, t2⟩, ⟨l1, l2⟩⟩ := shp_bounds _ hk
    have hmz := misfit_zero (Classical.byContradiction er)
    have hq1 : tkOf (c ρ.σ.next.toNat).toNat ≤ ρ.σ.stack.length := by unfold tkOf; omega
    have hq2 : ρ.σ.stack.length - tkOf (c ρ.σ.next.toNat).toNat + lyOf (c ρ.σ.next.toNat).toNat ≤ 32 := by unfold tkOf lyOf; omega
    have F := doS_facts { ρ.σ with place := ρ.σ.next, steps := ρ.σ.steps + 1, next := ρ.σ.next + shp ((c ρ.σ.next.toNat).toNat * 3) } (c ρ.σ.next.toNat).toNat (second c ρ.σ.next.toNat) hk hq1 hq2 hI.out
    have hτ' : doS { ρ.σ with place := ρ.σ.next, steps := ρ.σ.steps + 1, next := ρ.σ.next + shp ((c ρ.σ.next.toNat).toNat * 3) } (c ρ.σ.next.toNat).toNat (second c ρ.σ.next.toNat) = τ := hτ
    rw [hτ'] at F
    obtain ⟨F1, _, F3, F4, F5, F6, F7⟩ := F
    simp only at F1 F3 F6 F7
    have hin := hI.input
    refine ⟨⟨?_, ?_, ?_, F5, by omega, F4, by omega, by omega⟩, ?_⟩
    · rcases F6 with f | ⟨f, _⟩ <;> omega
    · rcases F6 with f | ⟨f, _⟩ <;> omega
    · intro hne
      obtain ⟨g0, g19, g⟩ := F7 hne
      rcases g with ⟨f, g⟩ | ⟨f, g⟩
      · rw [f]
        have e2 : shp ((c ρ.σ.next.toNat).toNat * 3) = 2 := by rcases g with g | g <;> rw [g] <;> rfl
        unfold second
        rw [if_pos e2]
        exact hG.jump _ hst (by omega)
      · rw [f, show (ρ.σ.next + shp ((c ρ.σ.next.toNat).toNat * 3)).toNat = ρ.σ.next.toNat + szOf (c ρ.σ.next.toNat).toNat by omega]
        exact hG.next _ hst (by omega) (by omega) (by omega)
    · intro hne
      rw [F1]
      have : (fuel - (ρ.σ.steps + 1)).toNat + 1 = (fuel - ρ.σ.steps).toNat := by omega
      omega
  obtain ⟨⟨k1, k2, k3, k4, k5, k6, k7, k8⟩, km⟩ := key _ rfl
  refine ⟨⟨k1, k2, k3, k4, k5, k6, k7, k8, hT.1, hT.2.1, hT.2.2⟩, ?_⟩
  cases hx : (roundS c ent fuel ρ).σ.ended with
  | true => unfold mu; rw [hx, he]; simp
  | false =>
    have := km hx
    have e : mu fuel (roundS c ent fuel ρ) = (fuel - (roundS c ent fuel ρ).σ.steps).toNat * 400 + (400 - (roundS c ent fuel ρ).σ.next.toNat) + 1 := by
      conv => lhs; unfold mu
      rw [hx]; rfl
    rw [e]
    exact this
end Go.Proofs.YtflenkppcclclaaGreatDoor

namespace Go.Proofs.YtflenkppcclclaaGreatDoor
open Go.RowKit

def endsB (x : Int) : Bool := x == 0 || x == 14 || x == 19
def leadsB (x : Int) : Bool := x == 14 || x == 15
def holdsB (x : Int) : Bool := x == 16 || x == 17

theorem ends_any (x : Int) (w : World) : Calls Tryz.prog 144 #[.int .u8 x] w fun e w' => e = .returned (.bool (endsB x)) ∧ w' = w := by
  unfold endsB
  cases h0 : x == 0
  · cases h1 : x == 14
    · cases h2 : x == 19
      · go_enter Tryz.func144, Tryz.ntmps144; go_wp2; go_ret; exact ⟨rfl, rfl⟩
      · go_enter Tryz.func144, Tryz.ntmps144; go_wp2; go_ret; exact ⟨rfl, rfl⟩
    · go_enter Tryz.func144, Tryz.ntmps144; go_wp2; go_ret; exact ⟨rfl, rfl⟩
  · go_enter Tryz.func144, Tryz.ntmps144; go_wp2; go_ret; exact ⟨rfl, rfl⟩
theorem leads_any (x : Int) (w : World) : Calls Tryz.prog 143 #[.int .u8 x] w fun e w' => e = .returned (.bool (leadsB x)) ∧ w' = w := by
  unfold leadsB
  cases h0 : x == 14
  · cases h1 : x == 15
    · go_enter Tryz.func143, Tryz.ntmps143; go_wp2; go_ret; exact ⟨rfl, rfl⟩
    · go_enter Tryz.func143, Tryz.ntmps143; go_wp2; go_ret; exact ⟨rfl, rfl⟩
  · go_enter Tryz.func143, Tryz.ntmps143; go_wp2; go_ret; exact ⟨rfl, rfl⟩
theorem holds_any (x : Int) (w : World) : Calls Tryz.prog 216 #[.int .u8 x] w fun e w' => e = .returned (.bool (holdsB x)) ∧ w' = w := by
  unfold holdsB
  cases h0 : x == 16
  · cases h1 : x == 17
    · go_enter Tryz.func216, Tryz.ntmps216; go_wp2; go_ret; exact ⟨rfl, rfl⟩
    · go_enter Tryz.func216, Tryz.ntmps216; go_wp2; go_ret; exact ⟨rfl, rfl⟩
  · go_enter Tryz.func216, Tryz.ntmps216; go_wp2; go_ret; exact ⟨rfl, rfl⟩
end Go.Proofs.YtflenkppcclclaaGreatDoor

