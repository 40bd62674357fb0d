import Derived.Test.YtebnlafjepfkdaaGreatDoorM29
namespace Go.Proofs.YtebnlafjepfkdaaGreatDoor
open Go.RowKit

def rcells (v : Value) (s : ByteArray) : Array Value := #[v, .string s, .int .i64 0, .slice none 0 0] ++ (Array.replicate 85 (.int .i64 0) ++ #[.string ByteArray.empty, .int .i64 0, .bool false])
theorem rbuild (a : Option Addr) (n c : Nat) (s : ByteArray) (w : World) : (Instr.build 145 #[(0, .slice a n c), (1, .string s)]).run Tryz.prog w = .ok (.agg (rcells (.slice a n c) s)) w := by kernel_rfl
theorem rbox (a : Option Addr) (n c : Nat) (s : ByteArray) (w : World) : (Instr.box 145 (.agg (rcells (.slice a n c) s))).run Tryz.prog w = .ok (.pointer (some ⟨w.heap.size, 0, none⟩)) (w.alloc (.cells (rcells (.slice a n c) s) 145)) := by kernel_rfl
theorem ralloc27 (w : World) : (Instr.alloc 74 true (.tuple #[])).run Tryz.prog w = .ok (.pointer (some ⟨w.heap.size, 0, none⟩)) (w.alloc (.cells z27 74)) := by kernel_rfl

section
variable {P : Program} {w : World} {ops : Array Oper} {rest : List Oper} {o : Oper} {a : Act} {Q : Exit → Act → World → Prop}
/-- A struct of which two parts are given. -/
theorem wpList_build2_c (hgd : o.guard = none) (t : TypeId) (i j : Nat) (x y : Operand) (ho : o.op = .build t #[(i, x), (j, y)]) (v u : Value) (hx : a.eval x = v) (hy : a.eval y = u) (cs : Array Value) (hrun : ∀ w, (Instr.build t #[(i, v), (j, u)]).run P w = .ok (.agg cs) w)
    (h : wpList P ops Q rest (a.put o.dst (.agg cs)) w) : wpList P ops Q (o :: rest) a w := by
  refine wpList_plain hgd fun K hK => ?_
  unfold Oper.wp execOp
  simp only [ho, List.map_toArray, List.map_cons, List.map_nil, hx, hy, hrun, Sem.run_bind, Sem.run_pure, Result.andThen_ok]
  exact hK _ _ h
/-- A struct, laid in new memory. -/
theorem wpList_box_c (hgd : o.guard = none) (t : TypeId) (x : Operand) (ho : o.op = .box t x) (v : Value) (hx : a.eval x = v) (cs : Array Value) (hrun : ∀ w, (Instr.box t v).run P w = .ok (.pointer (some ⟨w.heap.size, 0, none⟩)) (w.alloc (.cells cs t)))
    (h : wpList P ops Q rest (a.put o.dst (.pointer (some ⟨w.heap.size, 0, none⟩))) (w.alloc (.cells cs t))) : wpList P ops Q (o :: rest) a w := by
  refine wpList_plain hgd fun K hK => ?_
  unfold Oper.wp execOp
  simp only [ho, hx, hrun, Sem.run_bind, Sem.run_pure, Result.andThen_ok]
  exact hK _ _ h
end

theorem rmval_zero (v : Value) (s : ByteArray) {j : Nat} (h4 : 4 ≤ j) (h89 : j < 89) : rmval v (.slice none 0 0) s r0 j = .int .i64 0 := by
  unfold rmval
  rw [if_neg (by omega), if_neg (by omega), if_neg (by omega), if_neg (by omega)]
  by_cases a : j < 20
  · rw [if_pos a]; rfl
  · rw [if_neg a]
    by_cases b : j = 20
    · rw [if_pos b]; rfl
    · rw [if_neg b]
      by_cases d : j < 85
      · rw [if_pos d]; rfl
      · rw [if_neg d]
        have : j = 85 ∨ j = 86 ∨ j = 87 ∨ j = 88 := by omega
        rcases this with rfl | rfl | rfl | rfl <;> rfl
theorem rcells_get (v : Value) (s : ByteArray) (j : Nat) (hj : j < 92) : (rcells v s)[j]? = some (rmval v (.slice none 0 0) s r0 j) := by
  unfold rcells
  by_cases h4 : j < 4
  · rw [Array.getElem?_append_left (by simp; omega)]
    have : j = 0 ∨ j = 1 ∨ j = 2 ∨ j = 3 := by omega
    rcases this with rfl | rfl | rfl | rfl <;> rfl
  · rw [Array.getElem?_append_right (by simp; omega)]
    have e4 : (#[v, Value.string s, .int .i64 0, .slice none 0 0] : Array Value).size = 4 := rfl
    rw [e4]
    by_cases h89 : j < 89
    · rw [Array.getElem?_append_left (by rw [Array.size_replicate]; omega), Array.getElem?_replicate, if_pos (by omega), rmval_zero v s (by omega) h89]
    · rw [Array.getElem?_append_right (by rw [Array.size_replicate]; omega), Array.size_replicate]
      have : j = 89 ∨ j = 90 ∨ j = 91 := by omega
      rcases this with rfl | rfl | rfl <;> rfl
theorem rms_begin {w : World} {M : Nat} {v : Value} {s : ByteArray} (h : w.heap[M]? = some (.cells (rcells v s) 145 (0, 0))) : RMS M w v (.slice none 0 0) s r0 where
  cell := fun j hj => by rw [cell_of_row w M _ _ _ _ h]; exact rcells_get v s j hj
  thaw := fun j => frozen_of_row w M j _ _ h
  row := ⟨none, 0, rfl, ⟨Nat.le_refl _, by omega, Or.inl ⟨rfl, rfl⟩⟩, fun i x hx => by cases hx⟩

/-- The place of the k-th block. -/
theorem blk_at {c : Nat → Int} {N : Nat} : ∀ M k, k < cntR c N M → ∃ t, t < M ∧ (blkl c N M)[k]? = some (.int .i64 (pos c t)) ∧ rbegAt c t N = true ∧ cntR c N t = k := by
  intro M
  induction M with
  | zero => intro k hk; have : cntR c N 0 = 0 := rfl
            omega
  | succ M ih =>
    intro k hk
    have hl : (blkl c N M).length = cntR c N M := by unfold blkl cntR; rw [List.length_map]
    cases hb : rbegAt c M N with
    | false =>
      obtain ⟨e1, e2⟩ := blk_skip hb
      rw [e2] at hk
      obtain ⟨t, h1, h2, h3, h4⟩ := ih k hk
      exact ⟨t, by omega, by rw [e1]; exact h2, h3, h4⟩
    | true =>
      obtain ⟨e1, e2⟩ := blk_take hb
      rw [e2] at hk
      by_cases hlt : k < cntR c N M
      · obtain ⟨t, h1, h2, h3, h4⟩ := ih k hlt
        exact ⟨t, by omega, by rw [e1, List.getElem?_append_left (by rw [hl]; exact hlt)]; exact h2, h3, h4⟩
      · have hk2 : k = cntR c N M := by omega
        subst hk2
        refine ⟨M, by omega, ?_, hb, rfl⟩
        rw [e1, List.getElem?_append_right (by rw [hl]; exact Nat.le_refl _), hl, Nat.sub_self]; rfl
theorem cntR_mono (c : Nat → Int) (N m : Nat) : ∀ d, cntR c N m ≤ cntR c N (m + d)
  | 0 => Nat.le_refl _
  | d + 1 => by
    have := cntR_mono c N m d
    cases hb : rbegAt c (m + d) N with
    | false => rw [← Nat.add_assoc, (blk_skip hb).2]; exact this
    | true => rw [← Nat.add_assoc, (blk_take hb).2]; omega
theorem cntR_lt {c : Nat → Int} {N m k : Nat} (hb : rbegAt c m N = true) (h : m < k) : cntR c N m < cntR c N k := by
  have h1 := (blk_take hb).2
  have h2 := cntR_mono c N (m + 1) (k - (m + 1))
  rw [show m + 1 + (k - (m + 1)) = k by omega] at h2
  omega
theorem cntR_inj {c : Nat → Int} {N m k : Nat} (hm : rbegAt c m N = true) (hk : rbegAt c k N = true) (h : cntR c N m = cntR c N k) : m = k := by
  rcases Nat.lt_trichotomy m k with q | q | q
  · have := cntR_lt hm q; omega
  · exact q
  · have := cntR_lt hk q; omega
end Go.Proofs.YtebnlafjepfkdaaGreatDoor

