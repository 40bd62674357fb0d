import Derived.Test.YtebnlafjepfkdaaDoorRows
import Derived.WalkKit
import Derived.WalkSpells
import Derived.WalkLawsBesides
import Derived.BigQuiet
import Derived.Deep.QuietTactic
import Derived.Outline
namespace Go.Proofs.YtebnlafjepfkdaaDoor
open Go.RowKit

/-- The table 'shapes', cell by cell. -/
def shapeCells : List Int := [1,0,0, 2,0,1, 1,0,1, 1,1,2, 1,1,0, 1,2,2, 1,2,1, 1,2,1, 1,2,1, 1,2,1, 1,2,1, 1,2,1, 1,2,1, 1,2,1, 2,0,0, 2,1,0, 2,0,1, 2,1,0, 1,1,0, 2,0,0, 2,0,0]
def shp (k : Nat) : Int := shapeCells.getD k 0
def Tab (w : World) : Prop := ∀ k : Nat, k < 63 → w.cell? ⟨0, k, none⟩ = some (.int .i64 (shp k))

theorem Tab.pos {w : World} (hT : Tab w) : 0 < w.heap.size := World.block_lt_of_cell? w ⟨0, 0, none⟩ (hT 0 (by omega))

theorem shapeOf_any (k : Nat) (hk : k ≤ 20) (w : World) (hT : Tab w) :
    Calls Tryd.prog 29 #[.int .u8 (k : Int)] w fun e w' => e = .returned (.agg #[.int .i64 (shp (k * 3)), .int .i64 (shp (k * 3 + 1)), .int .i64 (shp (k * 3 + 2))]) ∧ ∃ c, w' = w.alloc (.cells c 66) := by
  have h0 := hT (k * 3) (by omega)
  have h1 := hT (k * 3 + 1) (by omega)
  have h2 := hT (k * 3 + 2) (by omega)
  have hz := hT.pos
  clear hT
  go_enter Tryd.func29, Tryd.ntmps29
  go_wp2
  refine bodyPost_ret (v := .agg #[.int .i64 (shp (k * 3)), .int .i64 (shp (k * 3 + 1)), .int .i64 (shp (k * 3 + 2))]) (by simp [results, Tryd.results29, go_sem]) rfl ⟨rfl, _, rfl⟩
end Go.Proofs.YtebnlafjepfkdaaDoor
