import Derived.Test.YtgepjiheohgogaaDoorRan
import Derived.Test.YtgepjiheohgogaaDoorEchoF
namespace Go.Proofs.YtgepjiheohgogaaDoor
open Go.RowKit

def pickS (c n : Int) : Int := if c < 0 then -((c + 1).tmod n) else c % n
theorem pickS_bd (c n : Int) (hn : 1 ≤ n) : 0 ≤ pickS c n ∧ pickS c n < n := by
  unfold pickS
  by_cases h : c < 0
  · rw [if_pos h]
    have e : -((c + 1).tmod n) = (-(c + 1)) % n := by rw [← Int.tmod_eq_emod_of_nonneg (by omega), Int.neg_tmod]
    rw [e]
    exact ⟨Int.emod_nonneg _ (by omega), Int.emod_lt_of_pos _ (by omega)⟩
  · rw [if_neg h]
    exact ⟨Int.emod_nonneg _ (by omega), Int.emod_lt_of_pos _ (by omega)⟩
theorem pickS_any (c n : Int) (h1 : -9223372036854775808 ≤ c) (h2 : c ≤ 9223372036854775807) (hn : 1 ≤ n) (hn' : n ≤ 1000) (w : World) : Calls Tryd.prog 6 #[.int .i64 c, .int .i64 n] w fun e w' => e = .returned (.int .i64 (pickS c n)) ∧ w' = w := by
  unfold pickS
  by_cases h : c < 0
  · rw [if_pos h]
    go_enter Tryd.func6, Tryd.ntmps6
    go_wp2
    go_ret
    exact ⟨rfl, rfl⟩
  · rw [if_neg h]
    go_enter Tryd.func6, Tryd.ntmps6
    go_wp2
    go_ret
    exact ⟨rfl, rfl⟩

def blkQ : Obj := .cells #[.int .u8 2, .int .u8 3, .int .u8 1, .int .u8 255, .int .u8 5, .int .u8 13, .int .u8 15, .int .u8 10, .int .u8 0, .int .u8 0, .int .u8 18, .int .u8 14, .int .u8 0] 5
theorem laidQ (w : World) : Laid (w.alloc blkQ) w.heap.size 0 13 13 cQ where
  cell := by
    intro i hi
    rw [Nat.zero_add, blkQ, World.cell?_alloc_new]
    match i, hi with
    | 0, _ | 1, _ | 2, _ | 3, _ | 4, _ | 5, _ | 6, _ | 7, _ | 8, _ | 9, _ | 10, _ | 11, _ | 12, _ => rfl
    | i + 13, hi => omega
  room := Nat.le_refl _
  room' := by decide
  some' := by decide

/-- 'Run' of the echo, as far as the law looks at it. -/
theorem runQ {f : Int} {s t : ByteArray} {kd fl pl st : Int} {o : List Int} (E : Ends f s kd fl pl o st) (ht : strOfNums o = t) (hs : s.size ≤ 24) (hf0 : 0 ≤ f) (hf1 : f ≤ 500) (w : World) (hT : Tab w) :
    Calls Tryd.prog 7 #[.slice (some ⟨w.heap.size, 0, none⟩) 13 13, .string s, .int .i64 f] (w.alloc blkQ) fun e w' => Below (w.heap.size + 1) (w.alloc blkQ) w' ∧ ∃ g, e = .returned (.tuple #[.agg #[.int .i64 kd, .int .i64 fl, .int .i64 pl, .string t, .int .i64 st], .slice (some ⟨g, 0, none⟩) 64 64, .int .i64 0]) := by
  refine (xRun_any (w.alloc blkQ) w.heap.size 0 13 13 10 cQ vQ (laidQ w) (hT.alloc _) s f hs hf0 hf1).mono ?_
  intro e w' A
  have := answer E A
  rw [ht, World.size_alloc] at this
  exact this
end Go.Proofs.YtgepjiheohgogaaDoor
