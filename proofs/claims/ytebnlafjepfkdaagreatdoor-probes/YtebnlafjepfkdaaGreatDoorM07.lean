import Derived.Test.YtebnlafjepfkdaaGreatDoorM06
import Derived.Test.YtebnlafjepfkdaaGreatDoorM00
import Derived.Deep.MidRow
import Derived.Laws.OwnMore
namespace Go.Proofs.YtebnlafjepfkdaaGreatDoor
open Go.RowKit

set_option maxHeartbeats 1000000 in
set_option maxRecDepth 100000 in
/-- A Probe. -/
theorem adv_probe (base M : Nat) (w : World) (vs vo : Value) (σ : St) (cb co len cap : Nat) (n fuel : Int) (hc0 : w.cell? ⟨cb, co, none⟩ = some (.int .u8 20))
    (hx0 : 0 ≤ σ.next) (hx1 : σ.next ≤ 1000) (h3 : σ.stack.length ≤ 32) (hT : Tab w) (h : MS base M w vs vo σ) (h0M : 0 < M) (hn : 0 ≤ n) (hn' : n ≤ 255) (hl2 : 2 ≤ len) (hc1 : w.cell? ⟨cb, co + 1, none⟩ = some (.int .u8 n)) (hcb : cb ≠ M) (hcz : cb < w.heap.size) :
    Calls Tryz.prog 82 #[.pointer (some ⟨M, 0, none⟩), .slice (some ⟨cb, co, none⟩) len cap, .int .i64 fuel] w (Out base M w { σ with next := σ.next + 2 }) := by
  obtain ⟨ao, cp, rfl⟩ := h.head
  have hM : M < w.heap.size := Nat.lt_of_lt_of_le h.lt h.le
  have c19 := h.cell 19 (by omega)
  rw [mv_next] at c19
  have f19 := h.thaw 19
  have c00 := h.cell 0 (by omega)
  rw [mv_stack] at c00
  have hl0 : (0 : Int) < (len : Int) := by omega
  have hl1 : (1 : Int) < (len : Int) := by omega
  have hcb' : M ≠ cb := fun c => hcb c.symm
  have h1 := h.setNext (σ.next + 2)
  have k1 := Kept.set base M w 19 (.int .i64 (σ.next + 2))
  have hT2 := k1.tab h0M h.lt hT
  have hd0 : (0 : Int) ≤ (σ.stack.length : Int) := by omega
  have hd1 : (σ.stack.length : Int) ≤ 32 := by omega
  have hmf : Hid (∀ w', Calls Tryz.prog 103 #[.int .i64 (σ.stack.length : Int), .agg #[.int .i64 2, .int .i64 0, .int .i64 0]] w' fun e w'' => e = .returned (.int .i64 0) ∧ ∃ c, w'' = w'.alloc (.cells c 152)) := by
    intro w'
    have hr : misfitS σ.stack.length 0 0 = 0 := by unfold misfitS; rw [if_neg (by omega), if_neg (by omega)]
    have := misfit_any (σ.stack.length : Int) 2 0 0 w' hd0 hd1 (by omega) (by omega) (by omega) (by omega)
    rw [hr] at this
    exact this
  have HT1 : Hid (Tab w) := hT
  have HT2 : Hid (Tab (w.setCell ⟨M, 19, none⟩ (.int .i64 (σ.next + 2)))) := hT2
  have hcz1 : cb < w.heap.size + 1 := by omega
  have hcz2 : cb < w.heap.size + 1 + 1 := by omega
  have hcz3 : cb < w.heap.size + 2 := by omega
  have hc2 : (w.setCell ⟨M, 19, none⟩ (.int .i64 (σ.next + 2))).cell? ⟨cb, co + 1, none⟩ = some (.int .u8 n) := by
    rw [World.cell?_setCell_other _ _ _ _ (fun c => by injection c with c1 _ _; exact hcb c1.symm)]
    exact hc1
  clear hT hT2
  go_enter Tryz.func82, Tryz.ntmps82
  go_wp2_with fail
  refine (shape20 _ HT1.out).mono ?_
  rintro e w1 ⟨rfl, c, rfl⟩
  go_wp2_with fail
  go_region
  go_wp2_with fail
  go_region_with (go_at_call 103; refine (hmf.out _).mono ?_; rintro e w2 ⟨rfl, c2, rfl⟩)
  all_goals
    go_wp2_with fail
    obtain ⟨h5, k5, t5⟩ := three h1 k1 HT2.out (.cells c 152) (.cells #[.int .i64 2, .int .i64 0, .int .i64 0] 152) (.cells c2 152)
    refine (do_probe base M _ _ _ { σ with next := σ.next + 2 } n h3 t5 h5).mono ?_
    rintro e w3 ⟨rfl, ⟨vs6, vo6, h6⟩, k6⟩
    go_wp2
    go_end0
    exact ⟨rfl, ⟨_, _, h6⟩, k5.trans k6⟩

end Go.Proofs.YtebnlafjepfkdaaGreatDoor

namespace Go.Proofs.YtebnlafjepfkdaaGreatDoor
open Go.RowKit

/-- What 'advance' makes of a state. -/
def advS (σ : St) (k : Nat) (n fuel : Int) : St :=
  if k = 20 then { σ with next := σ.next + 2 }
  else if σ.steps = fuel then fin σ 2 0
  else if misfitS σ.stack.length (shp (k * 3 + 1)) (shp (k * 3 + 2)) ≠ 0 then fin { σ with steps := σ.steps + 1, next := σ.next + shp (k * 3) } 1 (misfitS σ.stack.length (shp (k * 3 + 1)) (shp (k * 3 + 2)))
  else doS { σ with steps := σ.steps + 1, next := σ.next + shp (k * 3) } k n

theorem misfit_zero {d t l : Int} (h : misfitS d t l = 0) : 0 ≤ d - t ∧ d - t + l ≤ 32 := by
  unfold misfitS at h
  by_cases h1 : d - t < 0
  · rw [if_pos h1] at h; cases h
  · rw [if_neg h1] at h
    by_cases h2 : 32 < d - t + l
    · rw [if_pos h2] at h; cases h
    · omega

theorem sz_cases : ∀ k, k ≤ 20 → (shp (k * 3) = 1 ∧ ¬ (k = 16 ∨ k = 17)) ∨ shp (k * 3) = 2 := by
  intro k hk
  match k, hk with
  | 0, _ | 1, _ | 2, _ | 3, _ | 4, _ | 5, _ | 6, _ | 7, _ | 8, _ | 9, _ | 10, _ | 11, _ | 12, _ | 13, _ | 14, _ | 15, _ | 16, _ | 17, _ | 18, _ | 19, _ | 20, _ => simp [shp, shapeCells]
  | k + 21, hk => omega

theorem adv_any (base M : Nat) (w : World) (vs vo : Value) (σ : St) (cb co len cap : Nat) (k : Nat) (n fuel : Int) (hk : k ≤ 20) (hc0 : w.cell? ⟨cb, co, none⟩ = some (.int .u8 (k : Int))) (hl : 1 ≤ len)
    (hs0 : 0 ≤ σ.steps) (hs1 : σ.steps ≤ 1000) (hx0 : 0 ≤ σ.next) (hx1 : σ.next ≤ 1000) (h3 : σ.stack.length ≤ 32) (hT : Tab w) (h : MS base M w vs vo σ) (h0M : 0 < M)
    (hn : 0 ≤ n) (hn' : n ≤ 255) (hh : k = 16 ∨ k = 17 → n < 16) (hi : σ.input.size ≤ 24) (ho : σ.out.length ≤ 16) (hcb : cb ≠ M) (hcz : cb < w.heap.size)
    (h1 : shp (k * 3) = 1 → n = 0) (h2 : shp (k * 3) = 2 → 2 ≤ len ∧ w.cell? ⟨cb, co + 1, none⟩ = some (.int .u8 n)) :
    Calls Tryz.prog 82 #[.pointer (some ⟨M, 0, none⟩), .slice (some ⟨cb, co, none⟩) len cap, .int .i64 fuel] w (Out base M w (advS σ k n fuel)) := by
  unfold advS
  by_cases e20 : k = 20
  · subst e20
    rw [if_pos rfl]
    obtain ⟨a, b⟩ := h2 rfl
    exact adv_probe base M w vs vo σ cb co len cap n fuel hc0 hx0 hx1 h3 hT h h0M hn hn' a b hcb hcz
  rw [if_neg e20]
  have hk20 : ((k : Int) != 20) = true := by rw [bne_iff_ne]; omega
  by_cases es : σ.steps = fuel
  · rw [if_pos es]
    exact adv_hang base M w vs vo σ cb co len cap k fuel hk20 hc0 hl (by rw [beq_iff_eq]; exact es) h
  rw [if_neg es]
  have hz : (σ.steps == fuel) = false := by rw [beq_eq_false_iff_ne]; exact es
  by_cases er : misfitS σ.stack.length (shp (k * 3 + 1)) (shp (k * 3 + 2)) ≠ 0
  · rw [if_pos er]
    exact adv_fault base M w vs vo σ cb co len cap k fuel hk hk20 hc0 hl hz hs0 hs1 hx0 hx1 h3 hT h h0M _ rfl (by rw [bne_iff_ne]; exact er)
  rw [if_neg er]
  have er0 : misfitS σ.stack.length (shp (k * 3 + 1)) (shp (k * 3 + 2)) = 0 := Classical.byContradiction er
  obtain ⟨_, ⟨t1, t2⟩, ⟨l1, l2⟩⟩ := shp_bounds k hk
  have hm := misfit_zero er0
  have hq1 : tkOf k ≤ σ.stack.length := by unfold tkOf; omega
  have hq2 : σ.stack.length - tkOf k + lyOf k ≤ 32 := by unfold tkOf lyOf; omega
  have hr0 : ((0 : Int) != 0) = false := rfl
  rcases sz_cases k hk with ⟨e1, ek⟩ | e2
  · have := h1 e1
    subst this
    exact adv_do1 base M w vs vo σ cb co len cap k fuel hk hk20 hc0 hl hz hs0 hs1 hx0 hx1 h3 hT h h0M 0 er0 hr0 e1 ek hi ho hq1 hq2
  · obtain ⟨a, b⟩ := h2 e2
    exact adv_do2 base M w vs vo σ cb co len cap k fuel hk hk20 hc0 hz hs0 hs1 hx0 hx1 h3 hT h h0M 0 er0 hr0 e2 n hn hn' hh a b hcb hcz hi ho hq1 hq2
end Go.Proofs.YtebnlafjepfkdaaGreatDoor

namespace Go.Proofs.YtebnlafjepfkdaaGreatDoor
open Go.RowKit

/-- The trail lies in block S: what is counted at each place, and the block ahead. -/
structure TS (S : Nat) (w : World) (cnt : Nat → Int) (ah : Int) : Prop where
  cell : ∀ j, j < 64 → w.cell? ⟨S, j, none⟩ = some (.int .i64 (cnt j))
  ahead : w.cell? ⟨S, 64, none⟩ = some (.int .i64 ah)
  thaw : ∀ j, w.frozen? ⟨S, j, none⟩ = false

theorem TS.kept {S : Nat} {w w' : World} {cnt : Nat → Int} {ah : Int} (h : TS S w cnt ah) (hb : w'.heap[S]? = w.heap[S]?) : TS S w' cnt ah :=
  ⟨fun j hj => (World.cell?_of_block (w := w) (a := ⟨S, j, none⟩) hb).trans (h.cell j hj), (World.cell?_of_block (w := w) (a := ⟨S, 64, none⟩) hb).trans h.ahead, fun j => (World.frozen?_of_block (w := w) (a := ⟨S, j, none⟩) hb).trans (h.thaw j)⟩

theorem TS.count {S : Nat} {w : World} {cnt : Nat → Int} {ah : Int} (h : TS S w cnt ah) (p : Nat) (hp : p < 64) (v : Int) : TS S (w.setCell ⟨S, p, none⟩ (.int .i64 v)) (fun i => if i = p then v else cnt i) ah where
  cell := by
    intro j hj
    by_cases e : j = p
    · subst e; rw [if_pos rfl]; exact World.cell?_setCell_same _ _ _ (h.cell j hj)
    · rw [if_neg e, World.cell?_setCell_other _ _ _ _ (fun c => e (by injection c with _ c2 _; exact c2.symm))]; exact h.cell j hj
  ahead := by rw [World.cell?_setCell_other _ _ _ _ (fun c => by injection c with _ c2 _; omega)]; exact h.ahead
  thaw := fun j => by rw [World.frozen?_setCell]; exact h.thaw j
theorem TS.move {S : Nat} {w : World} {cnt : Nat → Int} {ah : Int} (h : TS S w cnt ah) (v : Int) : TS S (w.setCell ⟨S, 64, none⟩ (.int .i64 v)) cnt v where
  cell := fun j hj => by rw [World.cell?_setCell_other _ _ _ _ (fun c => by injection c with _ c2 _; omega)]; exact h.cell j hj
  ahead := World.cell?_setCell_same _ _ _ h.ahead
  thaw := fun j => by rw [World.frozen?_setCell]; exact h.thaw j

/-- All blocks but S are as they were. -/
structure OnlyB (S : Nat) (w w' : World) : Prop where
  os : w'.os = w.os
  tape : w'.tape = w.tape
  output : w'.output = w.output
  size : w'.heap.size = w.heap.size
  block : ∀ k, k ≠ S → w'.heap[k]? = w.heap[k]?
theorem OnlyB.set (S : Nat) (w : World) (j : Nat) (u : Value) : OnlyB S w (w.setCell ⟨S, j, none⟩ u) := ⟨rfl, rfl, rfl, by simp, fun k hk => heap_setCell_other w ⟨S, j, none⟩ k u hk⟩
theorem OnlyB.trans {S : Nat} {a b c : World} (h : OnlyB S a b) (k : OnlyB S b c) : OnlyB S a c := ⟨k.os.trans h.os, k.tape.trans h.tape, k.output.trans h.output, k.size.trans h.size, fun i hi => (k.block i hi).trans (h.block i hi)⟩
theorem OnlyB.drew {S : Nat} {a b : World} (h : OnlyB S a b) : OnlyB S a b.drew := ⟨h.os, h.tape, h.output, h.size, h.block⟩

def comeAt (ah b : Int) : Nat := ((7 * ah + b) % 64).toNat
def comeS (cnt : Nat → Int) (ah b : Int) : Nat → Int := if cnt (comeAt ah b) < 255 then fun i => if i = comeAt ah b then cnt (comeAt ah b) + 1 else cnt i else cnt

set_option maxHeartbeats 400000 in
theorem come_any (S : Nat) (w : World) (cnt : Nat → Int) (ah b : Int) (h : TS S w cnt ah) (ha : 0 ≤ ah) (ha' : ah ≤ 1000) (hb : 0 ≤ b) (hb' : b ≤ 1000) (hc : ∀ i, 0 ≤ cnt i) :
    Calls Tryz.prog 81 #[.pointer (some ⟨S, 0, none⟩), .int .i64 b] w fun e w' => e = .returned (.tuple #[]) ∧ TS S w' (comeS cnt ah b) (b + 1) ∧ OnlyB S w w' := by
  have c64 := h.ahead
  have f64 := h.thaw 64
  have hp : comeAt ah b < 64 := by unfold comeAt; omega
  have HP : Hid ((7 * ah + b) % 64 = (comeAt ah b : Int)) := by unfold comeAt; show _ = _; omega
  have hcp := h.cell (comeAt ah b) hp
  have hfp := h.thaw (comeAt ah b)
  have h0 := hc (comeAt ah b)
  have hlt : (comeAt ah b : Int) < 64 := by omega
  unfold comeS
  by_cases hx : cnt (comeAt ah b) < 255
  · rw [if_pos hx]
    have R := (h.count (comeAt ah b) hp (cnt (comeAt ah b) + 1)).move (b + 1)
    have K := (OnlyB.set S w (comeAt ah b) (.int .i64 (cnt (comeAt ah b) + 1))).trans (OnlyB.set S _ 64 (.int .i64 (b + 1)))
    have hmod := HP.out
    clear h hc
    generalize comeAt ah b = p at *
    go_enter Tryz.func81, Tryz.ntmps81
    go_wp2
    go_region
    go_wp2
    go_end0
    exact ⟨rfl, R.kept rfl, K.drew⟩
  · rw [if_neg hx]
    have R := h.move (b + 1)
    have K := OnlyB.set S w 64 (.int .i64 (b + 1))
    have hmod := HP.out
    clear h hc
    generalize comeAt ah b = p at *
    go_enter Tryz.func81, Tryz.ntmps81
    go_wp2
    go_end0
    exact ⟨rfl, R, K⟩

theorem index_at (l : List Int) (k : Nat) (hk : k < 64) (hl : l.length = 64) (w : World) : (Instr.index 137 (.agg (l.map (Value.int .i64)).toArray) (.int .i64 (k : Int))).run Tryz.prog w = .ok (.int .i64 (l.getD k 0)) w := by
  have h1 : (k : Int) < 64 := by omega
  simp [Instr.index, run_underlying Tryz.underlying137, asIntOf, part, go_sem]
  rw [if_pos hk, List.getElem?_eq_getElem (by omega)]
  rfl

def classS (c : Int) : Int := if 128 ≤ c then 128 else if 32 ≤ c then 64 else if 16 ≤ c then 32 else if 8 ≤ c then 16 else if 4 ≤ c then 8 else if c = 3 then 4 else c

theorem class_any (c : Int) (h0 : 0 ≤ c) (w : World) : Calls Tryz.prog 105 #[.int .i64 c] w fun e w' => e = .returned (.int .u8 (classS c)) ∧ w' = w := by
  unfold classS
  by_cases h1 : 128 ≤ c
  · rw [if_pos h1]; go_enter Tryz.func105, Tryz.ntmps105; go_wp2; go_ret; exact ⟨rfl, rfl⟩
  rw [if_neg h1]
  by_cases h2 : 32 ≤ c
  · rw [if_pos h2]; go_enter Tryz.func105, Tryz.ntmps105; go_wp2; go_ret; exact ⟨rfl, rfl⟩
  rw [if_neg h2]
  by_cases h3 : 16 ≤ c
  · rw [if_pos h3]; go_enter Tryz.func105, Tryz.ntmps105; go_wp2; go_ret; exact ⟨rfl, rfl⟩
  rw [if_neg h3]
  by_cases h4 : 8 ≤ c
  · rw [if_pos h4]; go_enter Tryz.func105, Tryz.ntmps105; go_wp2; go_ret; exact ⟨rfl, rfl⟩
  rw [if_neg h4]
  by_cases h5 : 4 ≤ c
  · rw [if_pos h5]; go_enter Tryz.func105, Tryz.ntmps105; go_wp2; go_ret; exact ⟨rfl, rfl⟩
  rw [if_neg h5]
  by_cases h6 : c = 3
  · rw [if_pos h6]
    have h6' : (c == 3) = true := by rw [beq_iff_eq]; exact h6
    clear h6
    go_enter Tryz.func105, Tryz.ntmps105; go_wp2; go_ret; exact ⟨rfl, rfl⟩
  · rw [if_neg h6]
    have h6' : (c == 3) = false := by rw [beq_eq_false_iff_ne]; exact h6
    have h7 : c ≤ 2 := by omega
    clear h6
    go_enter Tryz.func105, Tryz.ntmps105; go_wp2; go_ret; exact ⟨rfl, rfl⟩

/-- The cover, as far as it is made. -/
def covL (cnt : Nat → Int) (k : Nat) : List Value := (List.range 64).map fun i => .int .u8 (if i < k then classS (cnt i) else 0)
theorem covL_len (cnt : Nat → Int) (k : Nat) : (covL cnt k).length = 64 := by simp [covL]
theorem covL_get (cnt : Nat → Int) (k j : Nat) (hj : j < 64) : (covL cnt k)[j]? = some (.int .u8 (if j < k then classS (cnt j) else 0)) := by simp [covL, List.getElem?_range hj]
theorem covL_set (cnt : Nat → Int) (k : Nat) (hk : k < 64) : (covL cnt k).set k (.int .u8 (classS (cnt k))) = covL cnt (k + 1) := by
  apply List.ext_getElem?
  intro j
  by_cases hj : j < 64
  · rw [List.getElem?_set]
    by_cases e : k = j
    · subst e; rw [if_pos rfl, if_pos (by rw [covL_len]; exact hk), covL_get _ _ _ hk, if_pos (by omega)]
    · rw [if_neg e, covL_get _ _ _ hj, covL_get _ _ _ hj]
      by_cases c : j < k
      · rw [if_pos c, if_pos (by omega)]
      · rw [if_neg c, if_neg (by omega)]
  · rw [List.getElem?_eq_none (by simp [covL_len]; omega), List.getElem?_eq_none (by rw [covL_len]; omega)]
def zero64 : Array Value := (covL (fun _ => 0) 0).toArray
theorem zero64_eq (cnt : Nat → Int) : zero64 = (covL cnt 0).toArray := by
  unfold zero64 covL; simp
theorem make64 (w : World) : (Instr.makeSlice 39 (.int .i64 64) (.int .i64 64)).run Tryz.prog w = .ok (.slice (some ⟨w.heap.size, 0, none⟩) 64 64) (w.alloc (.cells zero64 5)) := by kernel_rfl
theorem info64 : (Tryz.prog.info? 137).map (·.size) = some 64 := by kernel_rfl

set_option maxHeartbeats 400000 in
theorem cover_any (S : Nat) (w : World) (cnt : Nat → Int) (ah : Int) (h : TS S w cnt ah) (hc : ∀ i, 0 ≤ cnt i) :
    Calls Tryz.prog 83 #[.pointer (some ⟨S, 0, none⟩)] w fun e w' => e = .returned (.slice (some ⟨w.heap.size, 0, none⟩) 64 64) ∧ w'.heap[w.heap.size]? = some (.cells (covL cnt 64).toArray 5 (0, 0)) ∧ Below w.heap.size w w' := by
  have hmk := make64
  obtain ⟨l, hl⟩ : ∃ l, l = (List.range 64).map cnt := ⟨_, rfl⟩
  have hlen : l.length = 64 := by rw [hl]; simp
  have hget : ∀ k, k < 64 → l.getD k 0 = cnt k := fun k hk => by rw [hl]; simp [List.getElem?_range hk]
  have hr : (w.alloc (.cells zero64 5)).rangeAt S 0 (l.map (Value.int .i64)) := by
    refine World.rangeAt_alloc ?_ _
    intro j v hj
    rw [List.getElem?_map, Option.map_eq_some_iff] at hj
    obtain ⟨x, hx, rfl⟩ := hj
    have hj2 : j < 64 := by rw [← hlen]; exact (List.getElem?_eq_some_iff.1 hx).1
    have := hget j hj2
    simp [hx] at this
    rw [Nat.zero_add, h.cell j hj2, this]
  have hi : (Tryz.prog.info? 137).map (·.size) = some (l.map (Value.int .i64)).length := by rw [List.length_map, hlen]; exact info64
  have hix := fun k hk => index_at l k hk hlen
  have HL : Hid (∀ k : Nat, k < 64 → l.getD k 0 = cnt k) := hget
  have HLEN : Hid (l.length = 64) := hlen
  have HIX : Hid (∀ k : Nat, k < 64 → ∀ w, (Instr.index 137 (.agg (l.map (Value.int .i64)).toArray) (.int .i64 (k : Int))).run Tryz.prog w = .ok (.int .i64 (l.getD k 0)) w) := hix
  have HI : Hid ((Tryz.prog.info? 137).map (·.size) = some (l.map (Value.int .i64)).length) := hi
  have HR : Hid ((w.alloc (.cells zero64 5)).rangeAt S 0 (l.map (Value.int .i64))) := hr
  clear hl hlen hget hi hix hr
  obtain ⟨cs, hcs⟩ : ∃ cs, cs = l.map (Value.int .i64) := ⟨_, rfl⟩
  rw [← hcs] at HR HI HIX
  have HCS : Hid (cs = l.map (Value.int .i64)) := hcs
  clear hcs
  go_enter Tryz.func83, Tryz.ntmps83
  go_wp2_with (refine wpList_load_mid rfl 137 _ rfl S 0 rfl cs _ HR.out Tryz.underlying137 rfl HI.out ?_)
  go_loopw [11] (fun i wr => ∃ k : Nat, k ≤ 64 ∧ i = .int .i64 k ∧ wr.heap[w.heap.size]? = some (.cells (covL cnt k).toArray 5 (0, 0)) ∧ Below w.heap.size w wr) (fun i _ => 64 - (intOf i).toNat)
  case atStart => exact ⟨0, by omega, rfl, by rw [← zero64_eq]; exact heap_alloc_new w _, (Below.refl _ _).alloc (Nat.le_refl _) _⟩
  case round =>
    obtain ⟨k, hk, rfl, hh, hB⟩ := hrel
    by_cases hlt : k < 64
    · have e1 := HIX.out k hlt
      rw [HL.out k hlt] at e1
      have c1 : wr.cell? ⟨w.heap.size, k, none⟩ = some (.int .u8 (if k < k then classS (cnt k) else 0)) := by
        rw [cell_of_row wr w.heap.size k _ _ _ hh, List.getElem?_toArray]; exact covL_get cnt k k hlt
      have f1 := frozen_of_row wr w.heap.size k _ _ hh
      have R : (wr.setCell ⟨w.heap.size, k, none⟩ (.int .u8 (classS (cnt k)))).heap[w.heap.size]? = some (.cells (covL cnt (k + 1)).toArray 5 (0, 0)) := by
        rw [heap_setCell_same wr w.heap.size k _ _ _ hh, ← covL_set cnt k hlt]
        simp
      have B2 := hB.setCell (p := ⟨w.heap.size, k, none⟩) (Nat.le_refl _) (.int .u8 (classS (cnt k)))
      have HR2 : Hid ((wr.setCell ⟨w.heap.size, k, none⟩ (.int .u8 (classS (cnt k)))).heap[w.heap.size]? = some (.cells (covL cnt (k + 1)).toArray 5 (0, 0))) := R
      have hck := hc k
      have hlt' : (k : Int) < 64 := by omega
      clear R hh hmk
      go_wp2_with (go_at_call 105; refine (class_any _ hck _).mono ?_; rintro e w' ⟨rfl, rfl⟩)
      go_roundw
      case rel => exact ⟨k + 1, by omega, by go_num, HR2.out, B2⟩
      case measure => simp [intOf]; omega
    · have e64 : k = 64 := by omega
      subst e64
      go_wp2
      go_ret
      exact ⟨rfl, hh, hB⟩
end Go.Proofs.YtebnlafjepfkdaaGreatDoor

