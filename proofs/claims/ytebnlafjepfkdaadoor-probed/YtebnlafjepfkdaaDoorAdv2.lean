import Derived.Test.YtebnlafjepfkdaaDoorAdv
import Derived.Deep.RegionWith
namespace Go.Proofs.YtebnlafjepfkdaaDoor
open Go.RowKit

theorem shp_bounds : ∀ k, k ≤ 20 → (1 ≤ shp (k * 3) ∧ shp (k * 3) ≤ 2) ∧ (0 ≤ shp (k * 3 + 1) ∧ shp (k * 3 + 1) ≤ 2) ∧ (0 ≤ shp (k * 3 + 2) ∧ shp (k * 3 + 2) ≤ 2) := by
  intro k hk
  match k, hk with
  | 0, _ | 1, _ | 2, _ | 3, _ | 4, _ | 5, _ | 6, _ | 7, _ | 8, _ | 9, _ | 10, _ | 11, _ | 12, _ | 13, _ | 14, _ | 15, _ | 16, _ | 17, _ | 18, _ | 19, _ | 20, _ => simp [shp, shapeCells]
  | k + 21, hk => omega

/-- The stack's head, as a value. -/
theorem MS.head {base M : Nat} {w : World} {vs vo : Value} {σ : St} (h : MS base M w vs vo σ) : ∃ ao cap, vs = .slice ao σ.stack.length cap := by
  rcases h.own1.2 with ⟨e, h0⟩ | ⟨g, cap, cur, hv, _⟩
  · exact ⟨none, 0, by rw [h0]; exact e⟩
  · exact ⟨_, _, hv⟩

theorem Tab.alloc {w : World} (hT : Tab w) (o : Obj) : Tab (w.alloc o) := fun k hk => (World.cell?_alloc_past _ _ _ hT.pos).trans (hT k hk)

/-- Three blocks more, and two draws. -/
theorem three {base M : Nat} {w X : World} {vs vo : Value} {σ : St} (h1 : MS base M X vs vo σ) (k1 : Kept base M w X) (hT : Tab X) (o1 o2 o3 : Obj) :
    MS base M (((X.alloc o1).alloc o2).alloc o3).drew.drew vs vo σ ∧ Kept base M w (((X.alloc o1).alloc o2).alloc o3).drew.drew ∧ Tab (((X.alloc o1).alloc o2).alloc o3).drew.drew := by
  have a := h1.alloc o1
  have b := a.alloc o2
  have c := b.alloc o3
  have K := ((k1.trans (Kept.alloc (M := M) X h1.le o1)).trans (Kept.alloc (M := M) _ a.le o2)).trans (Kept.alloc (M := M) _ b.le o3)
  exact ⟨c.drew.drew, ⟨K.os, K.tape, K.output, K.size, K.block⟩, fun k hk => ((hT.alloc o1).alloc o2).alloc o3 k hk⟩

set_option maxHeartbeats 1000000 in
set_option maxRecDepth 100000 in
/-- There is no fuel left. -/
theorem adv_hang (base M : Nat) (w : World) (vs vo : Value) (σ : St) (cb co len cap : Nat) (k : Nat) (fuel : Int) (hk20 : ((k : Int) != 20) = true) (hc0 : w.cell? ⟨cb, co, none⟩ = some (.int .u8 (k : Int))) (hl : 1 ≤ len)
    (hz : (σ.steps == fuel) = true) (h : MS base M w vs vo σ) :
    Calls Tryd.prog 22 #[.pointer (some ⟨M, 0, none⟩), .slice (some ⟨cb, co, none⟩) len cap, .int .i64 fuel] w (Out base M w (fin σ 2 0)) := by
  have c24 := h.cell 24 (by omega)
  rw [mv_steps] at c24
  have hl0 : (0 : Int) < (len : Int) := by omega
  go_enter Tryd.func22, Tryd.ntmps22
  go_wp2_with fail
  refine (end_any base M _ _ _ _ 2 0 h).mono ?_
  rintro e w3 ⟨rfl, h6, k6⟩
  go_wp2
  exact bodyPost_ret (results_none rfl _ _ _) rfl ⟨rfl, ⟨_, _, h6⟩, k6⟩

end Go.Proofs.YtebnlafjepfkdaaDoor
