import Derived.Test.YtebnlafjepfkdaaGreatDoorM20
namespace Go.Proofs.YtebnlafjepfkdaaGreatDoor
open Go.RowKit

theorem own_get {w : World} {base g n cap N : Nat} {xs : List Value} (h : w.ownsRow base 3 1 (.slice (some ⟨g, 0, none⟩) n cap) N xs) {i : Nat} {u : Value} (hi : i < N) (hx : xs[i]? = some u) :
    w.cell? ⟨g, i, none⟩ = some u := by
  rcases h.2 with ⟨hv, _⟩ | ⟨g', cap', cur, hv, _, hh, hle, _, hcs, htake⟩
  · cases hv
  · simp only [Value.slice.injEq, Option.some.injEq, Addr.mk.injEq, and_true] at hv
    obtain ⟨rfl, rfl, rfl⟩ := hv
    rw [cell_of_row w g _ _ _ _ hh]
    have h2 : (cur.toList.take (n * 1))[i]? = some u := by rw [htake]; exact hx
    rw [List.getElem?_take, if_pos (by omega)] at h2
    simpa using h2

/-- The stack has grown into new memory, and its new head is stored. -/
theorem RMS.pushed {M : Nat} {w w2 : World} {vc vs : Value} {inp : ByteArray} {ρ : RR} (h : RMS M w vc vs inp ρ) (hM : M < w.heap.size) (hB : Below w.heap.size w w2) (g cap : Nat) (n : Int)
    (ho : w2.ownsRow w.heap.size 3 1 (.slice (some ⟨g, 0, none⟩) (ρ.stack.length + 1) cap) (ρ.stack.length + 1) (ρ.stack.map (Value.int .i64) ++ [.int .i64 n])) :
    RMS M (w2.setCell ⟨M, 3, none⟩ (.slice (some ⟨g, 0, none⟩) (ρ.stack.length + 1) cap)) vc (.slice (some ⟨g, 0, none⟩) (ρ.stack.length + 1) cap) inp { ρ with stack := ρ.stack ++ [n] } where
  cell := by
    intro j hj
    have hc : ∀ j, j < 92 → w2.cell? ⟨M, j, none⟩ = some (rmval vc vs inp ρ j) := fun j hj => (hB.cell (p := ⟨M, j, none⟩) hM).trans (h.cell j hj)
    by_cases e : j = 3
    · subst e; exact World.cell?_setCell_same _ _ _ (hc 3 hj)
    · rw [World.cell?_setCell_other _ _ _ _ (fun c => e (by injection c with _ c2 _; exact c2.symm)), hc j hj]
      unfold rmval; simp only [if_neg e]
  thaw := fun j => by rw [World.frozen?_setCell]; exact (hB.frozen (p := ⟨M, j, none⟩) hM).trans (h.thaw j)
  row := by
    refine SRow.set ?_ 3 _
    have hrm : Roomy (some ⟨g, 0, none⟩) (ρ.stack ++ [n]).length cap := by
      rcases ho.2 with ⟨hv, _⟩ | ⟨g', cap', cur, hv, _, _, hle, hcap, _, _⟩
      · cases hv
      · simp only [Value.slice.injEq, Option.some.injEq, Addr.mk.injEq, and_true] at hv
        refine ⟨by simp; omega, by unfold maxLen at hcap; omega, Or.inr ⟨g, rfl⟩⟩
    refine ⟨_, cap, by simp, hrm, fun i x hx => ⟨g, rfl, ?_, ?_⟩⟩
    · have := (ho.lt g rfl).1; omega
    · refine own_get ho ?_ (u := .int .i64 x) ?_
      · have := (List.getElem?_eq_some_iff.1 hx).1
        simpa using this
      · have e : ρ.stack.map (Value.int .i64) ++ [Value.int .i64 n] = (ρ.stack ++ [n]).map (Value.int .i64) := by simp
        rw [e, List.getElem?_map]
        have hx' : (ρ.stack ++ [n])[i]? = some x := hx
        rw [hx']; rfl

theorem append_none (w : World) (p : Option Addr) (cap : Nat) : (Builtin.append_ #[32, 32] 32 #[.slice none 0 0, .slice p 0 cap]).run Tryz.prog w = .ok (.slice none 0 0) w := by
  obtain ⟨i, hi, hz0, hz1, hz2⟩ := info_parts Tryz.infoInt
  cases p <;> simp [Builtin.append_, run_underlying Tryz.underlying32, sizeOf, typeInfo, hi, loadCells, go_sem]

theorem wp_append_run {w : World} {ops : Array Oper} {rest : List Oper} {o : Oper} {a : Act} {Q : Exit → Act → World → Prop} (hgd : o.guard = none) (s x : Operand) (t : TypeId)
    (ho : o.op = .call { callee := .builtin .append, args := #[s, x], argTypes := #[t, t] }) (v u r : Value) (hs : a.eval s = v) (hx : a.eval x = u)
    (hr : (Builtin.append_ #[t, t] o.type #[v, u]).run Tryz.prog w = .ok r w) (h : wpList Tryz.prog ops Q rest (a.put o.dst r) w) : wpList Tryz.prog ops Q (o :: rest) a w := by
  refine wpList_plain hgd fun K hK => ?_
  unfold Oper.wp execOp
  simp only [ho, resolve, invoke, builtin, Sem.run_bind, Sem.run_pure, Result.andThen_ok, List.map_toArray, List.map_cons, List.map_nil, hs, hx, hr]
  exact hK _ _ h

set_option maxRecDepth 100000 in
set_option maxHeartbeats 1000000 in
theorem rpush_any (M : Nat) (w : World) (vc vs : Value) (inp : ByteArray) (ρ : RR) (n : Int) (h : RMS M w vc vs inp ρ) (hM : M < w.heap.size) (hl : ρ.stack.length ≤ 64) :
    Calls Tryz.prog 115 #[.pointer (some ⟨M, 0, none⟩), .int .i64 n] w fun e w' => e = .returned (.tuple #[]) ∧ (∃ vs', RMS M w' vc vs' inp { ρ with stack := ρ.stack ++ [n] }) ∧ Kept w.heap.size M w w' := by
  obtain ⟨i, hi, hz0, hz1, hz2⟩ := info_parts Tryz.infoInt
  have c3 := h.cell 3 (by omega)
  have e3 : rmval vc vs inp ρ 3 = vs := rfl
  rw [e3] at c3
  have f3 := h.thaw 3
  obtain ⟨p, cap, hv, _, hc⟩ := h.row
  have HH : Hid (RMS M w vc vs inp ρ) := h
  clear h e3
  subst hv
  by_cases h0 : ρ.stack.length = 0
  · have hs : ρ.stack = [] := List.eq_nil_of_length_eq_zero h0
    rw [hs] at c3
    simp only [List.length_nil] at c3
    clear hc h0
    have hrun := append_none w p cap
    have O1 : w.ownsRow w.heap.size 3 1 (.slice none 0 0) 0 [] := World.ownsRow_nil _ _ _ _
    go_enter Tryz.func115, Tryz.ntmps115
    go_wp2_with (first | (at_builtin; refine wp_append_run rfl (.tmp 5) (.tmp 9) 32 rfl _ _ _ rfl rfl hrun ?_) | (at_builtin; refine wpList_append_own_at _ rfl (.tmp 12) (.tmp 14) 32 rfl w.heap.size 3 i (.int .i64 0) 1 8 Tryz.underlying32 hi hz0 hz1 hz2 rfl (by decide) _ 0 [] rfl (O1.alloc _) ⟨_, 0, none⟩ 1 1 [.int .i64 n] rfl rfl (cell_one_new _ _ _) ?c3 (by unfold maxLen; omega) (by omega) (by simp) ?_))
    case c3 => intro u hu; simp at hu; subst hu; rfl
    intro v2 w2 hown2 hgrow2 _ _
    have B2 := ((Below.refl w.heap.size w).alloc (Nat.le_refl _) (.cells #[.int .i64 n] 3)).grown hgrow2 (by simp) (fun k hk => by cases hk)
    obtain ⟨g2, cap2, rfl⟩ := own_form hown2 (by omega)
    have R := HH.out.pushed hM B2 g2 cap2 n (by rw [hs]; exact hown2)
    have el : ρ.stack.length + 1 = 0 + 1 := by rw [hs]; rfl
    rw [el] at R
    have hc2 : w2.cell? ⟨M, 3, none⟩ = _ := (B2.cell (p := ⟨M, 3, none⟩) hM).trans c3
    have hf2 : w2.frozen? ⟨M, 3, none⟩ = false := (B2.frozen (p := ⟨M, 3, none⟩) hM).trans f3
    have K := (Kept.of_below (M := M) B2).trans (Kept.set w.heap.size M w2 3 (.slice (some ⟨g2, 0, none⟩) (0 + 1) cap2))
    clear hown2 hgrow2 B2 HH hrun
    go_wp2_with fail
    go_end0
    exact ⟨rfl, ⟨_, R⟩, K⟩
  · obtain ⟨x0, hx0⟩ : ∃ x, ρ.stack[0]? = some x := ⟨_, List.getElem?_eq_getElem (by omega)⟩
    obtain ⟨g, rfl, hgM, _⟩ := hc 0 x0 hx0
    have hcell : ∀ j u, (ρ.stack.map (Value.int .i64))[j]? = some u → w.cell? ((⟨g, 0, none⟩ : Addr).add j) = some u := fun j u hu => by
      rw [List.getElem?_map] at hu
      cases hx : ρ.stack[j]? with
      | none => rw [hx] at hu; cases hu
      | some x =>
        rw [hx] at hu
        obtain ⟨g', e, _, hcl⟩ := hc j x hx
        simp only [Option.some.injEq, Addr.mk.injEq, and_true] at e
        subst e
        simp at hu
        subst hu
        have ea : (⟨g, 0, none⟩ : Addr).add j = ⟨g, j, none⟩ := by
          by_cases e : j = 0
          · subst e; rfl
          · simp [Addr.add, e]
        rw [ea]; exact hcl
    clear hc hx0
    go_enter Tryz.func115, Tryz.ntmps115
    go_wp2_with (at_builtin; refine wpList_append_own_at _ rfl (.tmp 5) (.tmp 9) 32 rfl w.heap.size 3 i (.int .i64 0) 1 8 Tryz.underlying32 hi hz0 hz1 hz2 rfl (by decide) _ 0 [] rfl (World.ownsRow_nil _ _ _ _) ⟨g, 0, none⟩ ρ.stack.length cap (ρ.stack.map (Value.int .i64)) rfl (by simp) hcell ?c2 (by unfold maxLen; omega) (by omega) (Nat.le_refl _) ?_)
    case c2 => intro u hu; simp at hu; obtain ⟨x, _, rfl⟩ := hu; rfl
    intro v1 w1 hown1 hgrow1 _ _
    have B1 := (Below.refl w.heap.size w).grown hgrow1 (Nat.le_refl _) (fun k hk => by cases hk)
    have hown1' : w1.ownsRow w.heap.size 3 1 v1 ρ.stack.length (ρ.stack.map (Value.int .i64)) := by simpa using hown1
    have HO : Hid (w1.ownsRow w.heap.size 3 1 v1 ρ.stack.length (ρ.stack.map (Value.int .i64))) := hown1'
    have hs1 := B1.size
    clear hown1 hown1' hgrow1 hcell
    go_wp2_with (at_builtin; refine wpList_append_own_at _ rfl (.tmp 12) (.tmp 14) 32 rfl w.heap.size 3 i (.int .i64 0) 1 8 Tryz.underlying32 hi hz0 hz1 hz2 rfl (by decide) _ ρ.stack.length _ rfl (HO.out.alloc _) ⟨_, 0, none⟩ 1 1 [.int .i64 n] rfl rfl (cell_one_new _ _ _) ?c3 (by unfold maxLen; omega) (by omega) (by simp; omega) ?_)
    case c3 => intro u hu; simp at hu; subst hu; rfl
    intro v2 w2 hown2 hgrow2 _ _
    have B2 := (B1.alloc hs1 (.cells #[.int .i64 n] 3)).grown hgrow2 (by simp; omega) (fun k hk => (HO.out.lt k hk).1)
    obtain ⟨g2, cap2, rfl⟩ := own_form hown2 (by omega)
    have R := HH.out.pushed hM B2 g2 cap2 n hown2
    have hc2 : w2.cell? ⟨M, 3, none⟩ = _ := (B2.cell (p := ⟨M, 3, none⟩) hM).trans c3
    have hf2 : w2.frozen? ⟨M, 3, none⟩ = false := (B2.frozen (p := ⟨M, 3, none⟩) hM).trans f3
    have K := (Kept.of_below (M := M) B2).trans (Kept.set w.heap.size M w2 3 (.slice (some ⟨g2, 0, none⟩) (ρ.stack.length + 1) cap2))
    clear hown2 hgrow2 B2 B1 HO HH
    go_wp2_with fail
    go_end0
    exact ⟨rfl, ⟨_, R⟩, K⟩
end Go.Proofs.YtebnlafjepfkdaaGreatDoor

namespace Go.Proofs.YtebnlafjepfkdaaGreatDoor
open Go.RowKit

/-- What two numbers make, by the document. -/
def wk (x a b : Int) : Int :=
  if x = 6 then (a + b) % 65536 else if x = 7 then (a + 65536 - b) % 65536 else if x = 8 then a * b % 65536 else if x = 9 then bits .and .i64 a b else if x = 10 then bits .xor .i64 a b else if x = 11 then a.tdiv b else if x = 12 ∧ a = b ∨ x = 13 ∧ a < b then 1 else 0

set_option maxHeartbeats 1000000 in
theorem rworked_add (a b : Int) (w : World) (a0 : 0 ≤ a) (a1 : a ≤ 65535) (b0 : 0 ≤ b) (b1 : b ≤ 65535) :
    Calls Tryz.prog 116 #[.int .u8 6, .int .i64 a, .int .i64 b] w fun e w' => e = .returned (.int .i64 (wk 6 a b)) ∧ w' = w := by
  have e : wk 6 a b = (a + b) % 65536 := rfl
  rw [e]
  go_enter Tryz.func116, Tryz.ntmps116
  go_wp2
  go_ret
  exact ⟨by first | rfl | (simp; omega), rfl⟩
set_option maxHeartbeats 1000000 in
theorem rworked_sub (a b : Int) (w : World) (a0 : 0 ≤ a) (a1 : a ≤ 65535) (b0 : 0 ≤ b) (b1 : b ≤ 65535) :
    Calls Tryz.prog 116 #[.int .u8 7, .int .i64 a, .int .i64 b] w fun e w' => e = .returned (.int .i64 (wk 7 a b)) ∧ w' = w := by
  have e : wk 7 a b = (a + 65536 - b) % 65536 := rfl
  rw [e]
  go_enter Tryz.func116, Tryz.ntmps116
  go_wp2
  go_ret
  exact ⟨by first | rfl | (simp; omega), rfl⟩
set_option maxHeartbeats 1000000 in
theorem rworked_mul (a b : Int) (w : World) (a0 : 0 ≤ a) (a1 : a ≤ 65535) (b0 : 0 ≤ b) (b1 : b ≤ 65535) :
    Calls Tryz.prog 116 #[.int .u8 8, .int .i64 a, .int .i64 b] w fun e w' => e = .returned (.int .i64 (wk 8 a b)) ∧ w' = w := by
  have e : wk 8 a b = a * b % 65536 := rfl
  have m0 : 0 ≤ a * b := Int.mul_nonneg a0 b0
  have m1 : a * b ≤ 65535 * 65535 := Int.mul_le_mul a1 b1 b0 (by omega)
  rw [e]
  go_enter Tryz.func116, Tryz.ntmps116
  go_wp2
  go_ret
  exact ⟨by first | rfl | (simp; omega), rfl⟩
set_option maxHeartbeats 1000000 in
theorem rworked_and (a b : Int) (w : World) : Calls Tryz.prog 116 #[.int .u8 9, .int .i64 a, .int .i64 b] w fun e w' => e = .returned (.int .i64 (wk 9 a b)) ∧ w' = w := by
  have e : wk 9 a b = bits .and .i64 a b := rfl
  rw [e]
  go_enter Tryz.func116, Tryz.ntmps116
  go_wp2
  go_ret
  exact ⟨rfl, rfl⟩
set_option maxHeartbeats 1000000 in
theorem rworked_xor (a b : Int) (w : World) : Calls Tryz.prog 116 #[.int .u8 10, .int .i64 a, .int .i64 b] w fun e w' => e = .returned (.int .i64 (wk 10 a b)) ∧ w' = w := by
  have e : wk 10 a b = bits .xor .i64 a b := rfl
  rw [e]
  go_enter Tryz.func116, Tryz.ntmps116
  go_wp2
  go_ret
  exact ⟨rfl, rfl⟩
set_option maxHeartbeats 1000000 in
theorem rworked_eq (a b : Int) (w : World) : Calls Tryz.prog 116 #[.int .u8 12, .int .i64 a, .int .i64 b] w fun e w' => e = .returned (.int .i64 (wk 12 a b)) ∧ w' = w := by
  have e : wk 12 a b = if a = b then 1 else 0 := by unfold wk; simp
  rw [e]
  cases h : (a == b) with
  | true =>
    rw [if_pos (by simpa using h)]
    go_enter Tryz.func116, Tryz.ntmps116
    go_wp2
    go_ret
    exact ⟨rfl, rfl⟩
  | false =>
    rw [if_neg (by simpa using h)]
    go_enter Tryz.func116, Tryz.ntmps116
    go_wp2
    go_ret
    exact ⟨rfl, rfl⟩
set_option maxHeartbeats 1000000 in
theorem rworked_lt (a b : Int) (w : World) : Calls Tryz.prog 116 #[.int .u8 13, .int .i64 a, .int .i64 b] w fun e w' => e = .returned (.int .i64 (wk 13 a b)) ∧ w' = w := by
  have e : wk 13 a b = if a < b then 1 else 0 := by unfold wk; simp
  rw [e]
  by_cases h : a < b
  · have d : decide (a < b) = true := by simpa using h
    rw [if_pos h]
    go_enter Tryz.func116, Tryz.ntmps116
    go_wp2
    go_ret
    exact ⟨rfl, rfl⟩
  · have d : decide (a < b) = false := by simpa using h
    rw [if_neg h]
    go_enter Tryz.func116, Tryz.ntmps116
    go_wp2
    go_ret
    exact ⟨rfl, rfl⟩
set_option maxHeartbeats 1000000 in
theorem rworked_div (a b : Int) (w : World) (a0 : 0 ≤ a) (a1 : a ≤ 65535) (b0 : 0 < b) (b1 : b ≤ 65535) :
    Calls Tryz.prog 116 #[.int .u8 11, .int .i64 a, .int .i64 b] w fun e w' => e = .returned (.int .i64 (wk 11 a b)) ∧ w' = w := by
  have e : wk 11 a b = a.tdiv b := rfl
  have hne : ¬ b = 0 := by omega
  have hne' : (b == 0) = false := by rw [beq_eq_false_iff_ne]; omega
  have q0 : 0 ≤ a.tdiv b := Int.tdiv_nonneg a0 (by omega)
  have q1 : a.tdiv b ≤ a := by rw [Int.tdiv_eq_ediv_of_nonneg a0]; exact Int.ediv_le_self b a0
  rw [e]
  go_enter Tryz.func116, Tryz.ntmps116
  go_wp2
  go_ret
  exact ⟨rfl, rfl⟩
end Go.Proofs.YtebnlafjepfkdaaGreatDoor

namespace Go.Proofs.YtebnlafjepfkdaaGreatDoor
open Go.RowKit

/-- What 'does' leaves. -/
def DoesIs (M : Nat) (w : World) (vc : Value) (inp : ByteArray) (ρ : RR) (e : Ending) (w' : World) : Prop :=
  e = .returned (.tuple #[]) ∧ (∃ vs', RMS M w' vc vs' inp ρ) ∧ Kept w.heap.size M w w'

set_option maxHeartbeats 1000000 in
theorem rdoes_push (M : Nat) (w : World) (vc vs : Value) (inp : ByteArray) (ρ : RR) (a b k : Int) (h : RMS M w vc vs inp ρ) (hM : M < w.heap.size) (hl : ρ.stack.length ≤ 32) :
    Calls Tryz.prog 108 #[.pointer (some ⟨M, 0, none⟩), .int .u8 1, .int .i64 a, .int .i64 b, .int .i64 k] w (DoesIs M w vc inp { ρ with stack := ρ.stack ++ [k] }) := by
  have hp := rpush_any M w vc vs inp ρ k h hM (by omega)
  have HP : Hid (Calls Tryz.prog 115 #[.pointer (some ⟨M, 0, none⟩), .int .i64 k] w fun e w' => e = .returned (.tuple #[]) ∧ (∃ vs', RMS M w' vc vs' inp { ρ with stack := ρ.stack ++ [k] }) ∧ Kept w.heap.size M w w') := hp
  clear hp h
  go_enter Tryz.func108, Tryz.ntmps108
  go_wp2_with (go_at_call 115; refine HP.out.mono ?_; rintro e w' ⟨rfl, R, K⟩)
  go_end0
  exact ⟨rfl, R, K⟩

theorem RMS.some_in {M : Nat} {w : World} {vc vs : Value} {inp : ByteArray} {ρ : RR} (h : RMS M w vc vs inp ρ) : M < w.heap.size := World.block_lt_of_cell? w ⟨M, 0, none⟩ (h.cell 0 (by omega))

set_option maxHeartbeats 1000000 in
theorem rdoes_none (M : Nat) (w : World) (vc vs : Value) (inp : ByteArray) (ρ : RR) (x a b k : Int) (h : RMS M w vc vs inp ρ) (hx : x = 4 ∨ x = 14 ∨ x = 15) :
    Calls Tryz.prog 108 #[.pointer (some ⟨M, 0, none⟩), .int .u8 x, .int .i64 a, .int .i64 b, .int .i64 k] w (DoesIs M w vc inp ρ) := by
  have R : Hid (∃ vs', RMS M w vc vs' inp ρ) := ⟨_, h⟩
  clear h
  rcases hx with rfl | rfl | rfl
  all_goals
    go_enter Tryz.func108, Tryz.ntmps108
    go_wp2_with fail
    go_end0
    exact ⟨rfl, R.out, Kept.refl _ _ _⟩

set_option maxHeartbeats 1000000 in
theorem rdoes_two (M : Nat) (w : World) (vc vs : Value) (inp : ByteArray) (ρ : RR) (x a b k : Int) (h : RMS M w vc vs inp ρ) (hM : M < w.heap.size) (hl : ρ.stack.length ≤ 32) (hx : x = 3 ∨ x = 5) :
    Calls Tryz.prog 108 #[.pointer (some ⟨M, 0, none⟩), .int .u8 x, .int .i64 a, .int .i64 b, .int .i64 k] w (DoesIs M w vc inp { ρ with stack := ρ.stack ++ [if x = 3 then a else b] ++ [a] }) := by
  have hp := rpush_any M w vc vs inp ρ (if x = 3 then a else b) h hM (by omega)
  have HP : Hid (Calls Tryz.prog 115 #[.pointer (some ⟨M, 0, none⟩), .int .i64 (if x = 3 then a else b)] w fun e w' => e = .returned (.tuple #[]) ∧ (∃ vs', RMS M w' vc vs' inp { ρ with stack := ρ.stack ++ [if x = 3 then a else b] }) ∧ Kept w.heap.size M w w') := hp
  have HQ : Hid (∀ w1 vs1, RMS M w1 vc vs1 inp { ρ with stack := ρ.stack ++ [if x = 3 then a else b] } → Calls Tryz.prog 115 #[.pointer (some ⟨M, 0, none⟩), .int .i64 a] w1 fun e w' => e = .returned (.tuple #[]) ∧ (∃ vs', RMS M w' vc vs' inp { ρ with stack := ρ.stack ++ [if x = 3 then a else b] ++ [a] }) ∧ Kept w1.heap.size M w1 w') := fun w1 vs1 h1 =>
    rpush_any M w1 vc vs1 inp _ a h1 h1.some_in (by simp; omega)
  clear hp h
  rcases hx with rfl | rfl
  · simp only [if_true] at HP HQ ⊢
    go_enter Tryz.func108, Tryz.ntmps108
    go_wp2_with (go_at_call 115; refine HP.out.mono ?_; rintro e w1 ⟨rfl, ⟨vs1, R1⟩, K1⟩; have HR1 : Hid (RMS M w1 vc vs1 inp { ρ with stack := ρ.stack ++ [a] }) := R1; clear R1 HP)
    go_wp2_with (go_at_call 115; refine (HQ.out _ _ HR1.out).mono ?_; rintro e w2 ⟨rfl, R2, K2⟩)
    go_end0
    exact ⟨rfl, R2, K1.trans ⟨K2.os, K2.tape, K2.output, K2.size, fun j hj hm => K2.block j (by have := K1.size; omega) hm⟩⟩
  · have e5 : (if (5 : Int) = 3 then a else b) = b := rfl
    rw [e5] at HP HQ ⊢
    go_enter Tryz.func108, Tryz.ntmps108
    go_wp2_with (go_at_call 115; refine HP.out.mono ?_; rintro e w1 ⟨rfl, ⟨vs1, R1⟩, K1⟩; have HR1 : Hid (RMS M w1 vc vs1 inp { ρ with stack := ρ.stack ++ [b] }) := R1; clear R1 HP)
    go_wp2_with (go_at_call 115; refine (HQ.out _ _ HR1.out).mono ?_; rintro e w2 ⟨rfl, R2, K2⟩)
    go_end0
    exact ⟨rfl, R2, K1.trans ⟨K2.os, K2.tape, K2.output, K2.size, fun j hj hm => K2.block j (by have := K1.size; omega) hm⟩⟩
end Go.Proofs.YtebnlafjepfkdaaGreatDoor

namespace Go.Proofs.YtebnlafjepfkdaaGreatDoor
open Go.RowKit

theorem rworked_any (x a b : Int) (w : World) (hx : 6 ≤ x ∧ x ≤ 13) (a0 : 0 ≤ a) (a1 : a ≤ 65535) (b0 : 0 ≤ b) (b1 : b ≤ 65535) (hd : x = 11 → 0 < b) :
    Calls Tryz.prog 116 #[.int .u8 x, .int .i64 a, .int .i64 b] w fun e w' => e = .returned (.int .i64 (wk x a b)) ∧ w' = w := by
  have : x = 6 ∨ x = 7 ∨ x = 8 ∨ x = 9 ∨ x = 10 ∨ x = 11 ∨ x = 12 ∨ x = 13 := by omega
  rcases this with rfl | rfl | rfl | rfl | rfl | rfl | rfl | rfl
  · exact rworked_add a b w a0 a1 b0 b1
  · exact rworked_sub a b w a0 a1 b0 b1
  · exact rworked_mul a b w a0 a1 b0 b1
  · exact rworked_and a b w
  · exact rworked_xor a b w
  · exact rworked_div a b w a0 a1 (hd rfl) b1
  · exact rworked_eq a b w
  · exact rworked_lt a b w

set_option maxHeartbeats 2000000 in
theorem rdoes_work (M : Nat) (w : World) (vc vs : Value) (inp : ByteArray) (ρ : RR) (x a b k : Int) (h : RMS M w vc vs inp ρ) (hM : M < w.heap.size) (hl : ρ.stack.length ≤ 32) (hx : 6 ≤ x ∧ x ≤ 13) (a0 : 0 ≤ a) (a1 : a ≤ 65535) (b0 : 0 ≤ b) (b1 : b ≤ 65535) (hd : x = 11 → 0 < b) :
    Calls Tryz.prog 108 #[.pointer (some ⟨M, 0, none⟩), .int .u8 x, .int .i64 a, .int .i64 b, .int .i64 k] w (DoesIs M w vc inp { ρ with stack := ρ.stack ++ [wk x a b] }) := by
  have hp := rpush_any M w vc vs inp ρ (wk x a b) h hM (by omega)
  have hw := rworked_any x a b w hx a0 a1 b0 b1 hd
  obtain ⟨r, hr⟩ : ∃ r, wk x a b = r := ⟨_, rfl⟩
  rw [hr] at hp hw ⊢
  have HP : Hid (Calls Tryz.prog 115 #[.pointer (some ⟨M, 0, none⟩), .int .i64 r] w fun e w' => e = .returned (.tuple #[]) ∧ (∃ vs', RMS M w' vc vs' inp { ρ with stack := ρ.stack ++ [r] }) ∧ Kept w.heap.size M w w') := hp
  have HW : Hid (Calls Tryz.prog 116 #[.int .u8 x, .int .i64 a, .int .i64 b] w fun e w' => e = .returned (.int .i64 r) ∧ w' = w) := hw
  clear hp h hw hr hd
  have : x = 6 ∨ x = 7 ∨ x = 8 ∨ x = 9 ∨ x = 10 ∨ x = 11 ∨ x = 12 ∨ x = 13 := by omega
  clear hx
  rcases this with rfl | rfl | rfl | rfl | rfl | rfl | rfl | rfl
  all_goals
    go_enter Tryz.func108, Tryz.ntmps108
    go_wp2_with (first | (go_at_call 116; refine HW.out.mono ?_; rintro e w1 ⟨rfl, rfl⟩) | (go_at_call 115; refine HP.out.mono ?_; rintro e w' ⟨rfl, R, K⟩))
    go_end0
    exact ⟨rfl, R, K⟩

set_option maxHeartbeats 1000000 in
theorem rdoes_load (M : Nat) (w : World) (vc vs : Value) (inp : ByteArray) (ρ : RR) (a b : Int) (k : Nat) (h : RMS M w vc vs inp ρ) (hM : M < w.heap.size) (hl : ρ.stack.length ≤ 32) (hk : k < 16) :
    Calls Tryz.prog 108 #[.pointer (some ⟨M, 0, none⟩), .int .u8 16, .int .i64 a, .int .i64 b, .int .i64 (k : Int)] w (DoesIs M w vc inp { ρ with stack := ρ.stack ++ [ρ.cells k] }) := by
  have hc := h.cell (4 + k) (by omega)
  have ec : rmval vc vs inp ρ (4 + k) = .int .i64 (ρ.cells k) := by
    unfold rmval
    rw [if_neg (by omega), if_neg (by omega), if_neg (by omega), if_neg (by omega), if_pos (by omega), Nat.add_sub_cancel_left]
  rw [ec] at hc
  have hk' : (k : Int) < 16 := by omega
  have hp := rpush_any M w vc vs inp ρ (ρ.cells k) h hM (by omega)
  have HP : Hid (Calls Tryz.prog 115 #[.pointer (some ⟨M, 0, none⟩), .int .i64 (ρ.cells k)] w fun e w' => e = .returned (.tuple #[]) ∧ (∃ vs', RMS M w' vc vs' inp { ρ with stack := ρ.stack ++ [ρ.cells k] }) ∧ Kept w.heap.size M w w') := hp
  clear hp h ec
  go_enter Tryz.func108, Tryz.ntmps108
  go_wp2_with (go_at_call 115; refine HP.out.mono ?_; rintro e w' ⟨rfl, R, K⟩)
  go_end0
  exact ⟨rfl, R, K⟩

set_option maxHeartbeats 1000000 in
theorem rdoes_store (M : Nat) (w : World) (vc vs : Value) (inp : ByteArray) (ρ : RR) (a b : Int) (k : Nat) (h : RMS M w vc vs inp ρ) (hk : k < 16) :
    Calls Tryz.prog 108 #[.pointer (some ⟨M, 0, none⟩), .int .u8 17, .int .i64 a, .int .i64 b, .int .i64 (k : Int)] w (DoesIs M w vc inp { ρ with cells := fun i => if i = k then a else ρ.cells i }) := by
  have hc := h.cell (4 + k) (by omega)
  have hf := h.thaw (4 + k)
  have hk' : (k : Int) < 16 := by omega
  have R := h.setCell' k hk a
  have K := Kept.set w.heap.size M w (4 + k) (.int .i64 a)
  clear h
  go_enter Tryz.func108, Tryz.ntmps108
  go_wp2_with fail
  go_end0
  exact ⟨rfl, ⟨_, R⟩, K⟩
end Go.Proofs.YtebnlafjepfkdaaGreatDoor

