import Derived.Test.YtebnlafjepfkdaaGreatDoorM39
namespace Go.Proofs.YtebnlafjepfkdaaGreatDoor
open Go.RowKit

/-- The script's world lies in block W0: the book, and no prowls. -/
structure WS (base M W0 : Nat) (w : World) : Prop where
  book : w.cell? ⟨W0, 0, none⟩ = some (.pointer (some ⟨M, 0, none⟩))
  none' : w.cell? ⟨W0, 1, none⟩ = some (.slice none 0 0)
  lt : W0 < base
  ne : W0 ≠ M
theorem WS.kept {base M W0 : Nat} {w w' : World} (h : WS base M W0 w) (k : Kept base M w w') : WS base M W0 w' :=
  ⟨(k.cell (p := ⟨W0, 0, none⟩) h.lt h.ne).trans h.book, (k.cell (p := ⟨W0, 1, none⟩) h.lt h.ne).trans h.none', h.lt, h.ne⟩
/-- A step's code, as the machine takes it. -/
structure CodeOk (base M : Nat) (w : World) (cv : Value) (L : Nat) (c : Nat → Int) : Prop where
  coded : Coded w cv L c
  byte : ∀ i, i < L → 0 ≤ c i ∧ c i ≤ 255
  most : L + 8 ≤ 140737488355328
  low : 0 < L → ∀ g, cv.ownBlock = some g → g < base ∧ g ≠ M
theorem CodeOk.kept {base M : Nat} {w w' : World} {cv : Value} {L : Nat} {c : Nat → Int} (h : CodeOk base M w cv L c) (k : Kept base M w w') : CodeOk base M w' cv L c where
  coded := by
    by_cases h0 : 0 < L
    · exact h.coded.keep (fun g hg _ => by obtain ⟨a, b⟩ := h.low h0 g hg; exact k.block g a b)
    · obtain ⟨p, cap, hv⟩ := h.coded.form
      have hL0 : L = 0 := by omega
      subst hL0
      exact .bare p cap hv rfl
  byte := h.byte
  most := h.most
  low := h.low

set_option maxHeartbeats 2000000 in
set_option maxRecDepth 100000 in
theorem step_runs (base M W0 : Nat) (w : World) (F : Nat → Value) (X : Nat → List Value) (h : BK base M w F X) (d : BD M w F X) (hw : WS base M W0 w) (hT : Tab w)
    (kd p n f : Int) (hkd : kd ≤ 2) (cv : Value) (L : Nat) (c : Nat → Int) (C : CodeOk base M w cv L c) (s t : ByteArray) (sd : Int) (b : Option Addr) (k e : Nat)
    (hX : ((X 8).length + 1) * 24 ≤ 140737488355328) (hX0 : ((X 0).length + 4) * 24 ≤ 140737488355328) (hX1 : (X 1).length ≤ 4611686018427387904) :
    Calls Tryz.prog 7 #[.pointer (some ⟨W0, 0, none⟩), .agg (opC kd p n f cv s t sd (.slice b k e))] w (Stepped base M w X) := by
  obtain ⟨pc, capc, rfl⟩ := C.coded.form
  have hle := h.le
  have hlt := h.lt
  have B0 : Below w.heap.size w (w.alloc (.cells (opC kd p n f (.slice pc L capc) s t sd (.slice b k e)) 43)) := (Below.refl _ _).alloc (Nat.le_refl _) _
  have K0 : Kept base M w (w.alloc (.cells (opC kd p n f (.slice pc L capc) s t sd (.slice b k e)) 43)) := Kept.alloc w hle _
  have hh0 := heap_alloc_new w (.cells (opC kd p n f (.slice pc L capc) s t sd (.slice b k e)) 43)
  have e0 : (w.alloc (.cells (opC kd p n f (.slice pc L capc) s t sd (.slice b k e)) 43)).cell? ⟨w.heap.size, 0, none⟩ = some (.int .i64 kd) := cell_of_row _ _ _ _ _ _ hh0
  have e1 : (w.alloc (.cells (opC kd p n f (.slice pc L capc) s t sd (.slice b k e)) 43)).cell? ⟨w.heap.size, 1, none⟩ = some (.int .i64 p) := cell_of_row _ _ _ _ _ _ hh0
  have e2 : (w.alloc (.cells (opC kd p n f (.slice pc L capc) s t sd (.slice b k e)) 43)).cell? ⟨w.heap.size, 2, none⟩ = some (.int .i64 n) := cell_of_row _ _ _ _ _ _ hh0
  have e3 : (w.alloc (.cells (opC kd p n f (.slice pc L capc) s t sd (.slice b k e)) 43)).cell? ⟨w.heap.size, 3, none⟩ = some (.int .i64 f) := cell_of_row _ _ _ _ _ _ hh0
  have e4 : (w.alloc (.cells (opC kd p n f (.slice pc L capc) s t sd (.slice b k e)) 43)).cell? ⟨w.heap.size, 4, none⟩ = some (.slice pc L capc) := cell_of_row _ _ _ _ _ _ hh0
  have e5 : (w.alloc (.cells (opC kd p n f (.slice pc L capc) s t sd (.slice b k e)) 43)).cell? ⟨w.heap.size, 5, none⟩ = some (.string s) := cell_of_row _ _ _ _ _ _ hh0
  have e6 : (w.alloc (.cells (opC kd p n f (.slice pc L capc) s t sd (.slice b k e)) 43)).cell? ⟨w.heap.size, 6, none⟩ = some (.string t) := cell_of_row _ _ _ _ _ _ hh0
  have e7 : (w.alloc (.cells (opC kd p n f (.slice pc L capc) s t sd (.slice b k e)) 43)).cell? ⟨w.heap.size, 7, none⟩ = some (.int .u64 sd) := cell_of_row _ _ _ _ _ _ hh0
  have e8 : (w.alloc (.cells (opC kd p n f (.slice pc L capc) s t sd (.slice b k e)) 43)).cell? ⟨w.heap.size, 8, none⟩ = some (.slice b k e) := cell_of_row _ _ _ _ _ _ hh0
  have HW : Hid (WS base M W0 w) := hw
  have HFIN : Hid (∀ (w1 : World) (e' : Ending) (w' : World), Below w.heap.size w w1 → Stepped base M w1 X e' w' → Stepped base M w X e' w') := by
    rintro w1 e' w' hB ⟨rfl, F', X', r1, r2, r3, r4⟩
    exact ⟨rfl, F', X', r1, r2, (Kept.of_below (hB.mono hle)).trans r3, r4⟩
  have HMC : Hid (∀ w1, Below w.heap.size w w1 → Calls Tryz.prog 10 #[.pointer (some ⟨W0, 0, none⟩), .agg (opC 1 p n f (.slice pc L capc) s t sd (.slice b k e))] w1 (Stepped base M w1 X)) := fun w1 hB => by
    have K1 : Kept base M w w1 := Kept.of_below (hB.mono hle)
    exact machine_check base M W0 w1 F X (h.below hB) (d.below hB) (hw.kept K1).book (hT.below hB) p n f _ L c (C.kept K1).coded C.byte C.most s t sd b k e hX
  have HMR : Hid (∀ w1, Below w.heap.size w w1 → Calls Tryz.prog 10 #[.pointer (some ⟨W0, 0, none⟩), .agg (opC 2 p n f (.slice pc L capc) s t sd (.slice b k e))] w1 (Stepped base M w1 X)) := fun w1 hB => by
    have K1 : Kept base M w w1 := Kept.of_below (hB.mono hle)
    exact machine_run base M W0 w1 F X (h.below hB) (d.below hB) (hw.kept K1).book hw.lt hw.ne (hT.below hB) p n f _ L c (C.kept K1).coded C.byte C.most C.low s t sd b k e hX hX0 hX1
  have HNO : Hid (∀ w1, Below w.heap.size w w1 → Stepped base M w X (.returned (.bool true)) w1) := fun w1 hB => ⟨rfl, F, X, h.below hB, d.below hB, Kept.of_below (hB.mono hle), by omega, by omega, by omega⟩
  have wl := (hw.kept K0).none'
  clear hh0 h d hw hT C
  by_cases h1 : kd = 1
  · subst h1
    go_enter Tryz.func7, Tryz.ntmps7
    go_wp2_with (refine wpList_box_c rfl 43 _ rfl (.agg (opC 1 p n f (.slice pc L capc) s t sd (.slice b k e))) rfl (opC 1 p n f (.slice pc L capc) s t sd (.slice b k e)) (opbox _ _ _ _ _ _ _ _ _ _ _ _ _) ?_)
    generalize (w.alloc (.cells (opC 1 p n f (.slice pc L capc) s t sd (.slice b k e)) 43)) = w0 at *
    refine (HMC.out w0 B0).mono ?_
    rintro e' w' hS
    have hS' := HFIN.out w0 _ w' B0 hS
    obtain ⟨rfl, _⟩ := hS
    have HS : Hid (Stepped base M w X (.returned (.bool true)) w') := hS'
    clear hS'
    go_wp2_with fail
    go_ret
    exact HS.out
  · by_cases h2 : kd = 2
    · subst h2
      go_enter Tryz.func7, Tryz.ntmps7
      go_wp2_with (refine wpList_box_c rfl 43 _ rfl (.agg (opC 2 p n f (.slice pc L capc) s t sd (.slice b k e))) rfl (opC 2 p n f (.slice pc L capc) s t sd (.slice b k e)) (opbox _ _ _ _ _ _ _ _ _ _ _ _ _) ?_)
      generalize (w.alloc (.cells (opC 2 p n f (.slice pc L capc) s t sd (.slice b k e)) 43)) = w0 at *
      refine (HMR.out w0 B0).mono ?_
      rintro e' w' hS
      have hS' := HFIN.out w0 _ w' B0 hS
      obtain ⟨rfl, _⟩ := hS
      have HS : Hid (Stepped base M w X (.returned (.bool true)) w') := hS'
      clear hS'
      go_wp2_with fail
      go_ret
      exact HS.out
    · have hk0 : kd < 1 := by omega
      have q1 : decide ((1 : Int) ≤ kd) = false := by simp; omega
      have q1' : ¬ (1 : Int) ≤ kd := by omega
      have q5 : (kd == 5) = false := by rw [beq_eq_false_iff_ne]; omega
      have q6 : (kd == 6) = false := by rw [beq_eq_false_iff_ne]; omega
      have q7 : (kd == 7) = false := by rw [beq_eq_false_iff_ne]; omega
      have q15 : (kd == 15) = false := by rw [beq_eq_false_iff_ne]; omega
      have HS : Hid (Stepped base M w X (.returned (.bool true)) (w.alloc (.cells (opC kd p n f (.slice pc L capc) s t sd (.slice b k e)) 43))) := HNO.out _ B0
      clear HMC HMR HFIN HNO h1 h2 hk0
      go_enter Tryz.func7, Tryz.ntmps7
      go_wp2_with (refine wpList_box_c rfl 43 _ rfl (.agg (opC kd p n f (.slice pc L capc) s t sd (.slice b k e))) rfl (opC kd p n f (.slice pc L capc) s t sd (.slice b k e)) (opbox _ _ _ _ _ _ _ _ _ _ _ _ _) ?_)
      go_ret
      exact HS.out
end Go.Proofs.YtebnlafjepfkdaaGreatDoor

namespace Go.Proofs.YtebnlafjepfkdaaGreatDoor
open Go.RowKit

def exC : Array Value := #[.int .u8 2, .int .u8 1, .int .u8 97, .int .u8 12, .int .u8 15, .int .u8 9, .int .u8 19, .int .u8 7, .int .u8 0, .int .u8 0]
theorem lexample_any (w : World) : Calls Tryz.prog 9 #[] w fun e w' => e = .returned (.slice (some ⟨w.heap.size, 0, none⟩) 10 10) ∧ w' = w.alloc (.cells exC 5) := by
  go_enter Tryz.func9, Tryz.ntmps9
  go_wp2_with fail
  all_goals (first | done | (go_ret; exact ⟨rfl, rfl⟩) | skip)

/-- What is asked ahead of any script: its cells (h: the first new block). -/
def firstA (h : Nat) : Array Value := #[.int .i64 1, .int .i64 0, .int .i64 0, .int .i64 0, .slice (some ⟨h, 0, none⟩) 10 10, .string ⟨#[]⟩, .string ⟨#[]⟩, .int .u64 0, .slice none 0 0, .int .i64 2, .int .i64 0, .int .i64 0, .int .i64 100, .slice (some ⟨h + 1, 0, none⟩) 10 10, .string ⟨#[98]⟩, .string ⟨#[]⟩, .int .u64 0, .slice none 0 0, .int .i64 3, .int .i64 0, .int .i64 0, .int .i64 0, .slice (some ⟨h + 1 + 1, 0, none⟩) 10 10, .string ⟨#[]⟩, .string ⟨#[]⟩, .int .u64 0, .slice none 0 0, .int .i64 5, .int .i64 0, .int .i64 30, .int .i64 0, .slice none 0 0, .string ⟨#[97]⟩, .string ⟨#[]⟩, .int .u64 0, .slice none 0 0, .int .i64 6, .int .i64 0, .int .i64 0, .int .i64 0, .slice none 0 0, .string ⟨#[97, 98, 99]⟩, .string ⟨#[120, 121, 122]⟩, .int .u64 1, .slice none 0 0, .int .i64 7, .int .i64 0, .int .i64 0, .int .i64 100, .slice (some ⟨h + 1 + 1 + 1, 0, none⟩) 10 10, .string ⟨#[]⟩, .string ⟨#[]⟩, .int .u64 1, .slice (some ⟨h + 1 + 1 + 1 + 1, 0, none⟩) 1 1, .int .i64 8, .int .i64 0, .int .i64 40, .int .i64 0, .slice none 0 0, .string ⟨#[]⟩, .string ⟨#[]⟩, .int .u64 0, .slice none 0 0, .int .i64 11, .int .i64 0, .int .i64 0, .int .i64 0, .slice none 0 0, .string ⟨#[]⟩, .string ⟨#[]⟩, .int .u64 0, .slice none 0 0, .int .i64 14, .int .i64 0, .int .i64 0, .int .i64 0, .slice none 0 0, .string ⟨#[]⟩, .string ⟨#[]⟩, .int .u64 0, .slice none 0 0]
def firstW (w : World) : World := (((((w.alloc (.cells exC 5)).alloc (.cells exC 5)).alloc (.cells exC 5)).alloc (.cells exC 5)).alloc (.cells #[.string ⟨#[98]⟩] 9)).alloc (.cells (firstA w.heap.size) 43)
set_option maxHeartbeats 2000000 in
set_option maxRecDepth 100000 in
theorem first_any (w : World) : Calls Tryz.prog 6 #[] w fun e w' => e = .returned (.slice (some ⟨w.heap.size + 5, 0, none⟩) 9 9) ∧ w' = firstW w := by
  go_enter Tryz.func6, Tryz.ntmps6
  go_wp2_with fail
  refine (lexample_any _).mono ?_
  rintro _ _ ⟨rfl, rfl⟩
  go_wp2_with fail
  refine (lexample_any _).mono ?_
  rintro _ _ ⟨rfl, rfl⟩
  go_wp2_with fail
  refine (lexample_any _).mono ?_
  rintro _ _ ⟨rfl, rfl⟩
  go_wp2_with fail
  refine (lexample_any _).mono ?_
  rintro _ _ ⟨rfl, rfl⟩
  go_wp2_with fail
  go_ret
  exact ⟨rfl, rfl⟩
end Go.Proofs.YtebnlafjepfkdaaGreatDoor

namespace Go.Proofs.YtebnlafjepfkdaaGreatDoor
open Go.RowKit

def exN (i : Nat) : Int := ([2, 1, 97, 12, 15, 9, 19, 7, 0, 0] : List Int).getD i 0
theorem opInfo : ∃ i : TypeInfo, Tryz.prog.info? 43 = some i ∧ i.size = 9 ∧ i.bytes = 120 ∧ ∃ z, i.zero = some z ∧ z.cells.size = 9 := by
  have h : (Tryz.prog.info? 43).map (fun i => (i.size, i.bytes, i.zero.map fun z => z.cells.size)) = some (9, 120, some 9) := by kernel_rfl
  cases hi : Tryz.prog.info? 43 with
  | none => rw [hi] at h; cases h
  | some i =>
    rw [hi] at h
    simp only [Option.map_some, Option.some.injEq, Prod.mk.injEq, Option.map_eq_some_iff] at h
    obtain ⟨h1, h2, z, h3, h4⟩ := h
    exact ⟨i, rfl, h1, h2, z, h3, h4⟩

/-- 'append' of a script to what is asked ahead of it. -/
theorem append_first (w : World) (G : Nat) (xs : Array Value) (hG : w.heap[G]? = some (.cells xs 43 (0, 0))) (hx : xs.size = 81) (a : Option Addr) (m c : Nat) (news : List Value) (hl : news.length = m * 9)
    (hnews : ∀ ad, a = some ad → ∀ j u, news[j]? = some u → w.cell? (ad.add j) = some u) (hn : a = none → m = 0) (hb : (9 + m) * 120 ≤ 140737488355328) (ty : TypeId) :
    ∃ G' c' w', (Builtin.append_ #[22, 22] ty #[.slice (some ⟨G, 0, none⟩) 9 9, .slice a m c]).run Tryz.prog w = .ok (.slice (some ⟨G', 0, none⟩) (9 + m) c') w' ∧ Below w.heap.size w w' ∧
      (∀ j u, (xs.toList ++ news)[j]? = some u → w'.cell? ⟨G', j, none⟩ = some u) ∧ G' < w'.heap.size ∧ (9 + m ≤ c' ∧ c' ≤ maxLen) := by
  obtain ⟨i, hi, hs, hby, z, hz, hzs⟩ := opInfo
  have hlt : G < w.heap.size := (Array.getElem?_eq_some_iff.1 hG).1
  have hcur : ∀ j u, xs.toList[j]? = some u → w.cell? ⟨G, j, none⟩ = some u := fun j u hj => by
    rw [cell_of_row _ _ _ _ _ _ hG]; simpa using hj
  have hadd : ∀ j, (⟨G, 0, none⟩ : Addr).add j = ⟨G, j, none⟩ := fun j => by unfold Addr.add; split <;> simp_all
  by_cases hm : m = 0
  · subst hm
    have hnil : news = [] := List.eq_nil_of_length_eq_zero (by simpa using hl)
    subst hnil
    refine ⟨G, 9, w, ?_, Below.refl _ _, fun j u hj => hcur j u (by simpa using hj), hlt, by omega, by unfold maxLen; omega⟩
    cases a with
    | none => simp [Builtin.append_, run_underlying Tryz.underlying22, sizeOf, typeInfo, hi, Builtin.lenOf, Builtin.firstCells, storeCells]
    | some ad =>
      have hfc := run_firstCells_some (P := Tryz.prog) w i.size 0 ad 0 c [] (by simp) (fun j u hj => by simp at hj)
      simp [Builtin.append_, run_underlying Tryz.underlying22, sizeOf, typeInfo, hi, Builtin.lenOf, hfc, storeCells]
  · cases a with
    | none => exact absurd (hn rfl) hm
    | some ad =>
      have hr := run_append_grow (P := Tryz.prog) w 22 ty 43 i z Tryz.underlying22 hi hz ⟨G, 0, none⟩ 9 9 xs.toList (by rw [hs]; simpa using hx) (fun j u hj => by rw [hadd]; exact hcur j u hj) ad m c news (by rw [hs]; exact hl) (hnews ad rfl) (by omega) (by omega) (growslice_fits (by omega) (by rw [hby]; exact hb))
      refine ⟨_, _, _, hr, ⟨rfl, rfl, rfl, by simp, fun k hk => Below.heap_alloc w.drew _ k hk⟩, ?_, by simp, grownCap_ge w (9 + m) 9 43, grownCap_le_maxLen w (9 + m) 9 43 (by unfold maxLen; omega)⟩
      intro j u hj
      have hh : (w.drew.alloc (.cells (xs.toList.toArray ++ news.toArray ++ Builtin.zeroCells z.cells (grownCap w (9 + m) 9 43 - (9 + m))) 43)).heap[w.heap.size]? = _ := heap_alloc_new w.drew _
      rw [cell_of_row _ _ _ _ _ _ hh]
      rw [Array.getElem?_append_left]
      · rw [List.append_toArray, List.getElem?_toArray]; exact hj
      · obtain ⟨h1, _⟩ := List.getElem?_eq_some_iff.1 hj
        simpa using h1

structure AppFirst (w w' : World) (G c' m : Nat) (ys : List Value) : Prop where
  below : Below w.heap.size w w'
  cell : ∀ j u, ys[j]? = some u → w'.cell? ⟨G, j, none⟩ = some u
  lt : G < w'.heap.size
  room : 9 + m ≤ c'
  room' : c' ≤ 9223372036854775807
section
variable {w : World}
theorem wpList_append_first {ops : Array Oper} {rest : List Oper} {o : Oper} {a : Act} {Q : Exit → Act → World → Prop} (hgd : o.guard = none) (s x : Operand)
    (ho : o.op = .call { callee := .builtin .append, args := #[s, x], argTypes := #[22, 22] })
    (G : Nat) (xs : Array Value) (hG : w.heap[G]? = some (.cells xs 43 (0, 0))) (hx : xs.size = 81) (ad : Option Addr) (m c : Nat) (news : List Value) (hl : news.length = m * 9)
    (hnews : ∀ p, ad = some p → ∀ j u, news[j]? = some u → w.cell? (p.add j) = some u) (hn : ad = none → m = 0) (hb : (9 + m) * 120 ≤ 140737488355328)
    (hs : a.eval s = .slice (some ⟨G, 0, none⟩) 9 9) (hxx : a.eval x = .slice ad m c)
    (h : ∀ G' c' w', AppFirst w w' G' c' m (xs.toList ++ news) → wpList Tryz.prog ops Q rest (a.put o.dst (.slice (some ⟨G', 0, none⟩) (9 + m) c')) w') :
    wpList Tryz.prog ops Q (o :: rest) a w := by
  refine wpList_plain hgd fun K hK => ?_
  obtain ⟨G', c', w', hr, h2, h3, h4, h5⟩ := append_first w G xs hG hx ad m c news hl hnews hn hb o.type
  unfold Oper.wp execOp
  simp only [ho, resolve, invoke, builtin, Sem.run_bind, Sem.run_pure, Result.andThen_ok, List.map_toArray, List.map_cons, List.map_nil, hs, hxx, hr]
  exact hK _ _ (h G' c' w' ⟨h2, h3, h4, h5.1, h5.2⟩)
end

/-- What the new memory of 'first' holds. -/
structure FirstIs (w w' : World) : Prop where
  below : Below w.heap.size w w'
  size : w'.heap.size = w.heap.size + 6
  row : w'.heap[w.heap.size + 5]? = some (.cells (firstA w.heap.size) 43 (0, 0))
  code : ∀ k, k < 4 → w'.heap[w.heap.size + k]? = some (.cells exC 5 (0, 0))
theorem first_is (w : World) : FirstIs w (firstW w) := by
  have z1 : ∀ (v : World) (o : Obj), (v.alloc o).heap.size = v.heap.size + 1 := fun v o => by simp
  have old : ∀ (v : World) (o : Obj) (k : Nat), k < v.heap.size → (v.alloc o).heap[k]? = v.heap[k]? := fun v o k hk => Below.heap_alloc v o k hk
  have new : ∀ (v : World) (o : Obj) (k : Nat), k = v.heap.size → (v.alloc o).heap[k]? = some o := fun v o k hk => by rw [hk]; exact heap_alloc_new v o
  unfold firstW
  generalize e1 : w.alloc (.cells exC 5) = w1
  generalize e2 : w1.alloc (.cells exC 5) = w2
  generalize e3 : w2.alloc (.cells exC 5) = w3
  generalize e4 : w3.alloc (.cells exC 5) = w4
  generalize e5 : w4.alloc (.cells #[.string ⟨#[98]⟩] 9) = w5
  generalize e6 : w5.alloc (.cells (firstA w.heap.size) 43) = w6
  have s1 : w1.heap.size = w.heap.size + 1 := by rw [← e1]; exact z1 _ _
  have s2 : w2.heap.size = w.heap.size + 2 := by rw [← e2, z1]; omega
  have s3 : w3.heap.size = w.heap.size + 3 := by rw [← e3, z1]; omega
  have s4 : w4.heap.size = w.heap.size + 4 := by rw [← e4, z1]; omega
  have s5 : w5.heap.size = w.heap.size + 5 := by rw [← e5, z1]; omega
  have s6 : w6.heap.size = w.heap.size + 6 := by rw [← e6, z1]; omega
  refine ⟨?_, s6, by rw [← e6]; exact new _ _ _ (by omega), ?_⟩
  · rw [← e6, ← e5, ← e4, ← e3, ← e2, ← e1]
    exact ((((((Below.refl _ w).alloc (Nat.le_refl _) _).alloc (by simp) _).alloc (by simp; omega) _).alloc (by simp; omega) _).alloc (by simp; omega) _).alloc (by simp; omega) _
  · intro k hk
    match k, hk with
    | 0, _ => rw [← e6, old _ _ _ (by omega), ← e5, old _ _ _ (by omega), ← e4, old _ _ _ (by omega), ← e3, old _ _ _ (by omega), ← e2, old _ _ _ (by omega), ← e1]; exact new _ _ _ (by omega)
    | 1, _ => rw [← e6, old _ _ _ (by omega), ← e5, old _ _ _ (by omega), ← e4, old _ _ _ (by omega), ← e3, old _ _ _ (by omega), ← e2]; exact new _ _ _ (by omega)
    | 2, _ => rw [← e6, old _ _ _ (by omega), ← e5, old _ _ _ (by omega), ← e4, old _ _ _ (by omega), ← e3]; exact new _ _ _ (by omega)
    | 3, _ => rw [← e6, old _ _ _ (by omega), ← e5, old _ _ _ (by omega), ← e4]; exact new _ _ _ (by omega)
    | k + 4, hk => omega

/-- A step of a script: where it lies, and that its code can be read. -/
def StepAt (base M : Nat) (w : World) (cells : Nat → Option Value) : Prop :=
  ∃ kd p n f cv s t sd b k e L c, (∀ j, j < 9 → cells j = (opC kd p n f cv s t sd (.slice b k e))[j]?) ∧ CodeOk base M w cv L c

theorem exampleOk {base M : Nat} {w : World} {g : Nat} (h : w.heap[g]? = some (.cells exC 5 (0, 0))) (hg : g < base) (hM : g ≠ M) : CodeOk base M w (.slice (some ⟨g, 0, none⟩) 10 10) 10 exN where
  coded := .full g 0 10 rfl ⟨fun i hi => by
    rw [Nat.zero_add, cell_of_row _ _ _ _ _ _ h]
    match i, hi with
    | 0, _ | 1, _ | 2, _ | 3, _ | 4, _ | 5, _ | 6, _ | 7, _ | 8, _ | 9, _ => rfl
    | i + 10, hi => omega, Nat.le_refl _, by decide, by decide⟩
  byte := by decide
  most := by decide
  low := by
    intro _ k hk
    have : g = k := by simpa [Value.ownBlock] using hk
    subst this
    exact ⟨hg, hM⟩
theorem noneOk {base M : Nat} {w : World} : CodeOk base M w (.slice none 0 0) 0 (fun _ => 0) where
  coded := .bare none 0 rfl rfl
  byte := fun i hi => by omega
  most := by decide
  low := fun h => by omega

set_option maxRecDepth 100000 in
theorem first_steps {base M : Nat} {w' : World} {h : Nat} (hc : ∀ k, k < 4 → w'.heap[h + k]? = some (.cells exC 5 (0, 0))) (hb : h + 4 ≤ base) (hM : h + 4 ≤ M) (i : Nat) (hi : i < 9) : StepAt base M w' (fun j => (firstA h)[9 * i + j]?) := by
  have ok : ∀ k, k < 4 → CodeOk base M w' (.slice (some ⟨h + k, 0, none⟩) 10 10) 10 exN := fun k hk => exampleOk (hc k hk) (by omega) (by omega)
  match i, hi with
  | 0, _ => exact ⟨1, 0, 0, 0, _, _, _, 0, _, _, _, _, _, fun j hj => by
      match j, hj with
      | 0, _ | 1, _ | 2, _ | 3, _ | 4, _ | 5, _ | 6, _ | 7, _ | 8, _ => rfl
      | j + 9, hj => omega, ok 0 (by omega)⟩
  | 1, _ => exact ⟨2, 0, 0, 100, _, _, _, 0, _, _, _, _, _, fun j hj => by
      match j, hj with
      | 0, _ | 1, _ | 2, _ | 3, _ | 4, _ | 5, _ | 6, _ | 7, _ | 8, _ => rfl
      | j + 9, hj => omega, ok 1 (by omega)⟩
  | 2, _ => exact ⟨3, 0, 0, 0, _, _, _, 0, _, _, _, _, _, fun j hj => by
      match j, hj with
      | 0, _ | 1, _ | 2, _ | 3, _ | 4, _ | 5, _ | 6, _ | 7, _ | 8, _ => rfl
      | j + 9, hj => omega, ok 2 (by omega)⟩
  | 3, _ => exact ⟨5, 0, 30, 0, _, _, _, 0, _, _, _, _, _, fun j hj => by
      match j, hj with
      | 0, _ | 1, _ | 2, _ | 3, _ | 4, _ | 5, _ | 6, _ | 7, _ | 8, _ => rfl
      | j + 9, hj => omega, noneOk⟩
  | 4, _ => exact ⟨6, 0, 0, 0, _, _, _, 1, _, _, _, _, _, fun j hj => by
      match j, hj with
      | 0, _ | 1, _ | 2, _ | 3, _ | 4, _ | 5, _ | 6, _ | 7, _ | 8, _ => rfl
      | j + 9, hj => omega, noneOk⟩
  | 5, _ => exact ⟨7, 0, 0, 100, _, _, _, 1, _, _, _, _, _, fun j hj => by
      match j, hj with
      | 0, _ | 1, _ | 2, _ | 3, _ | 4, _ | 5, _ | 6, _ | 7, _ | 8, _ => rfl
      | j + 9, hj => omega, ok 3 (by omega)⟩
  | 6, _ => exact ⟨8, 0, 40, 0, _, _, _, 0, _, _, _, _, _, fun j hj => by
      match j, hj with
      | 0, _ | 1, _ | 2, _ | 3, _ | 4, _ | 5, _ | 6, _ | 7, _ | 8, _ => rfl
      | j + 9, hj => omega, noneOk⟩
  | 7, _ => exact ⟨11, 0, 0, 0, _, _, _, 0, _, _, _, _, _, fun j hj => by
      match j, hj with
      | 0, _ | 1, _ | 2, _ | 3, _ | 4, _ | 5, _ | 6, _ | 7, _ | 8, _ => rfl
      | j + 9, hj => omega, noneOk⟩
  | 8, _ => exact ⟨14, 0, 0, 0, _, _, _, 0, _, _, _, _, _, fun j hj => by
      match j, hj with
      | 0, _ | 1, _ | 2, _ | 3, _ | 4, _ | 5, _ | 6, _ | 7, _ | 8, _ => rfl
      | j + 9, hj => omega, noneOk⟩
  | i + 9, hi => omega
end Go.Proofs.YtebnlafjepfkdaaGreatDoor

