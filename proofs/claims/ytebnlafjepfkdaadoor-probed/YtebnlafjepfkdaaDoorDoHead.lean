import Derived.Test.YtebnlafjepfkdaaDoorTake
import Derived.Test.YtebnlafjepfkdaaDoorPut
import Derived.Test.YtebnlafjepfkdaaDoorRead
import Derived.Test.YtebnlafjepfkdaaDoorTests
namespace Go.Proofs.YtebnlafjepfkdaaDoor
open Go.RowKit

def Out (base M : Nat) (w : World) (σ' : St) (e : Ending) (w' : World) : Prop := e = .returned (.tuple #[]) ∧ (∃ vs vo, MS base M w' vs vo σ') ∧ Kept base M w w'

theorem take2 (base M : Nat) (w : World) (vs vo : Value) (σ : St) (l : List Int) (a b : Int) (hs : σ.stack = l ++ [a, b]) (hm : l.length < 32) (h : MS base M w vs vo σ) :
    Calls Tryd.prog 42 #[.pointer (some ⟨M, 0, none⟩), .int .i64 2] w fun e w' => e = .returned (.tuple #[.int .u16 a, .int .u16 b]) ∧ (∃ vs', MS base M w' vs' vo { σ with stack := l }) ∧ Kept base M w w' := by
  have := take_two base M w vs vo σ l.length (by simp [hs]) hm h
  simpa [hs] using this
theorem take1 (base M : Nat) (w : World) (vs vo : Value) (σ : St) (l : List Int) (a : Int) (hs : σ.stack = l ++ [a]) (hm : l.length < 32) (h : MS base M w vs vo σ) :
    Calls Tryd.prog 42 #[.pointer (some ⟨M, 0, none⟩), .int .i64 1] w fun e w' => e = .returned (.tuple #[.int .u16 a, .int .u16 0]) ∧ (∃ vs', MS base M w' vs' vo { σ with stack := l }) ∧ Kept base M w w' := by
  have := take_one base M w vs vo σ l.length (by simp [hs]) hm h
  simpa [hs] using this

theorem field_size (s t l : Int) (w : World) : (Instr.field 66 (.agg #[.int .i64 s, .int .i64 t, .int .i64 l]) 0).run Tryd.prog w = .ok (.int .i64 s) w := by kernel_rfl
theorem field_takes (s t l : Int) (w : World) : (Instr.field 66 (.agg #[.int .i64 s, .int .i64 t, .int .i64 l]) 1).run Tryd.prog w = .ok (.int .i64 t) w := by kernel_rfl

theorem shape0 (w : World) (hT : Tab w) : Calls Tryd.prog 29 #[.int .u8 0] w fun e w' => e = .returned (.agg #[.int .i64 1, .int .i64 0, .int .i64 0]) ∧ ∃ c, w' = w.alloc (.cells c 66) := shapeOf_any 0 (by omega) w hT
theorem shape1 (w : World) (hT : Tab w) : Calls Tryd.prog 29 #[.int .u8 1] w fun e w' => e = .returned (.agg #[.int .i64 2, .int .i64 0, .int .i64 1]) ∧ ∃ c, w' = w.alloc (.cells c 66) := shapeOf_any 1 (by omega) w hT
theorem shape2 (w : World) (hT : Tab w) : Calls Tryd.prog 29 #[.int .u8 2] w fun e w' => e = .returned (.agg #[.int .i64 1, .int .i64 0, .int .i64 1]) ∧ ∃ c, w' = w.alloc (.cells c 66) := shapeOf_any 2 (by omega) w hT
theorem shape3 (w : World) (hT : Tab w) : Calls Tryd.prog 29 #[.int .u8 3] w fun e w' => e = .returned (.agg #[.int .i64 1, .int .i64 1, .int .i64 2]) ∧ ∃ c, w' = w.alloc (.cells c 66) := shapeOf_any 3 (by omega) w hT
theorem shape4 (w : World) (hT : Tab w) : Calls Tryd.prog 29 #[.int .u8 4] w fun e w' => e = .returned (.agg #[.int .i64 1, .int .i64 1, .int .i64 0]) ∧ ∃ c, w' = w.alloc (.cells c 66) := shapeOf_any 4 (by omega) w hT
theorem shape5 (w : World) (hT : Tab w) : Calls Tryd.prog 29 #[.int .u8 5] w fun e w' => e = .returned (.agg #[.int .i64 1, .int .i64 2, .int .i64 2]) ∧ ∃ c, w' = w.alloc (.cells c 66) := shapeOf_any 5 (by omega) w hT
theorem shape6 (w : World) (hT : Tab w) : Calls Tryd.prog 29 #[.int .u8 6] w fun e w' => e = .returned (.agg #[.int .i64 1, .int .i64 2, .int .i64 1]) ∧ ∃ c, w' = w.alloc (.cells c 66) := shapeOf_any 6 (by omega) w hT
theorem shape7 (w : World) (hT : Tab w) : Calls Tryd.prog 29 #[.int .u8 7] w fun e w' => e = .returned (.agg #[.int .i64 1, .int .i64 2, .int .i64 1]) ∧ ∃ c, w' = w.alloc (.cells c 66) := shapeOf_any 7 (by omega) w hT
theorem shape8 (w : World) (hT : Tab w) : Calls Tryd.prog 29 #[.int .u8 8] w fun e w' => e = .returned (.agg #[.int .i64 1, .int .i64 2, .int .i64 1]) ∧ ∃ c, w' = w.alloc (.cells c 66) := shapeOf_any 8 (by omega) w hT
theorem shape9 (w : World) (hT : Tab w) : Calls Tryd.prog 29 #[.int .u8 9] w fun e w' => e = .returned (.agg #[.int .i64 1, .int .i64 2, .int .i64 1]) ∧ ∃ c, w' = w.alloc (.cells c 66) := shapeOf_any 9 (by omega) w hT
theorem shape10 (w : World) (hT : Tab w) : Calls Tryd.prog 29 #[.int .u8 10] w fun e w' => e = .returned (.agg #[.int .i64 1, .int .i64 2, .int .i64 1]) ∧ ∃ c, w' = w.alloc (.cells c 66) := shapeOf_any 10 (by omega) w hT
theorem shape11 (w : World) (hT : Tab w) : Calls Tryd.prog 29 #[.int .u8 11] w fun e w' => e = .returned (.agg #[.int .i64 1, .int .i64 2, .int .i64 1]) ∧ ∃ c, w' = w.alloc (.cells c 66) := shapeOf_any 11 (by omega) w hT
theorem shape12 (w : World) (hT : Tab w) : Calls Tryd.prog 29 #[.int .u8 12] w fun e w' => e = .returned (.agg #[.int .i64 1, .int .i64 2, .int .i64 1]) ∧ ∃ c, w' = w.alloc (.cells c 66) := shapeOf_any 12 (by omega) w hT
theorem shape13 (w : World) (hT : Tab w) : Calls Tryd.prog 29 #[.int .u8 13] w fun e w' => e = .returned (.agg #[.int .i64 1, .int .i64 2, .int .i64 1]) ∧ ∃ c, w' = w.alloc (.cells c 66) := shapeOf_any 13 (by omega) w hT
theorem shape14 (w : World) (hT : Tab w) : Calls Tryd.prog 29 #[.int .u8 14] w fun e w' => e = .returned (.agg #[.int .i64 2, .int .i64 0, .int .i64 0]) ∧ ∃ c, w' = w.alloc (.cells c 66) := shapeOf_any 14 (by omega) w hT
theorem shape15 (w : World) (hT : Tab w) : Calls Tryd.prog 29 #[.int .u8 15] w fun e w' => e = .returned (.agg #[.int .i64 2, .int .i64 1, .int .i64 0]) ∧ ∃ c, w' = w.alloc (.cells c 66) := shapeOf_any 15 (by omega) w hT
theorem shape16 (w : World) (hT : Tab w) : Calls Tryd.prog 29 #[.int .u8 16] w fun e w' => e = .returned (.agg #[.int .i64 2, .int .i64 0, .int .i64 1]) ∧ ∃ c, w' = w.alloc (.cells c 66) := shapeOf_any 16 (by omega) w hT
theorem shape17 (w : World) (hT : Tab w) : Calls Tryd.prog 29 #[.int .u8 17] w fun e w' => e = .returned (.agg #[.int .i64 2, .int .i64 1, .int .i64 0]) ∧ ∃ c, w' = w.alloc (.cells c 66) := shapeOf_any 17 (by omega) w hT
theorem shape18 (w : World) (hT : Tab w) : Calls Tryd.prog 29 #[.int .u8 18] w fun e w' => e = .returned (.agg #[.int .i64 1, .int .i64 1, .int .i64 0]) ∧ ∃ c, w' = w.alloc (.cells c 66) := shapeOf_any 18 (by omega) w hT
theorem shape19 (w : World) (hT : Tab w) : Calls Tryd.prog 29 #[.int .u8 19] w fun e w' => e = .returned (.agg #[.int .i64 2, .int .i64 0, .int .i64 0]) ∧ ∃ c, w' = w.alloc (.cells c 66) := shapeOf_any 19 (by omega) w hT
theorem shape20 (w : World) (hT : Tab w) : Calls Tryd.prog 29 #[.int .u8 20] w fun e w' => e = .returned (.agg #[.int .i64 2, .int .i64 0, .int .i64 0]) ∧ ∃ c, w' = w.alloc (.cells c 66) := shapeOf_any 20 (by omega) w hT

theorem opaque2 {P : Program} {x y z : Code} {Q : Exit → Act → World → Prop} {a : Act} {w : World} (Z : Code) (hz : Z = z) (h : (Code.seq x (.seq y Z)).wp P Q a w) : (Code.seq x (.seq y z)).wp P Q a w := hz ▸ h
theorem runs_at {P : Program} {Q : Exit → Act → World → Prop} {l rest : List Code} {c : Code} {a : Act} {w : World} (he : l = c :: rest) (h : ∀ K : Act → World → Prop, c.wp P (Exit.then K Q) a w) : runs P Q l a w := by subst he; exact h _
theorem runs_at2 {P : Program} {Q : Exit → Act → World → Prop} {l rest : List Code} {c d : Code} {a : Act} {w : World} (he : l = c :: d :: rest)
    (h : ∀ K : Act → World → Prop, (∀ a w, (∀ K' : Act → World → Prop, d.wp P (Exit.then K' Q) a w) → K a w) → c.wp P (Exit.then K Q) a w) : runs P Q l a w := by
  subst he
  exact h _ (fun a w h2 => h2 _)


theorem cell_pair_new (w : World) (x y : Value) (t : TypeId) : ∀ j u, [x, y][j]? = some u → (w.alloc (.cells #[x, y] t)).cell? ((⟨w.heap.size, 0, none⟩ : Addr).add j) = some u := by
  intro j u hj
  match j, hj with
  | 0, hj => simp at hj; subst hj; simp [Addr.add]
  | 1, hj => simp at hj; subst hj; simp [Addr.add]

def tru (b : Bool) : Int := if b then 1 else 0
theorem truth_tru (b : Bool) (w : World) : Calls Tryd.prog 45 #[.bool b] w fun e w' => e = .returned (.int .u16 (tru b)) ∧ w' = w := truth_any b w

end Go.Proofs.YtebnlafjepfkdaaDoor
