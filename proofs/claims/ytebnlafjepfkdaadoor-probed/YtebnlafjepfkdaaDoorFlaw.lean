import Derived.Test.YtebnlafjepfkdaaDoorChk
import Derived.Test.YtebnlafjepfkdaaDoorTgt
namespace Go.Proofs.YtebnlafjepfkdaaDoor
open Go.RowKit

set_option maxHeartbeats 400000 in
theorem flaw_no (w : World) (cb co L cap N : Nat) (c : Nat → Int) (V : VP c L N) (C : Laid w cb co L cap c) (hT : Tab w) :
    Calls Tryd.prog 19 #[.slice (some ⟨cb, co, none⟩) L cap, .int .i64 80, .int .u8 19] w fun e w' => e = .returned (.tuple #[.int .i64 0, .bool false]) ∧ Below w.heap.size w w' := by
  have hmost := V.most
  have h80 : ¬ (80 : Int) < (L : Int) := by omega
  have hLL : ¬ (L : Int) < (L : Int) := by omega
  go_enter Tryd.func19, Tryd.ntmps19
  go_wp2_with fail
  refine (soundBytes_yes w cb co L cap N c V C hT).mono ?_
  rintro e w1 ⟨rfl, B1⟩
  go_wp2_with fail
  refine (endsWell_yes w1 cb co L cap N c V (C.below B1) (hT.below B1)).mono ?_
  rintro e w2 ⟨rfl, B2⟩
  have B12 := B1.trans (B2.mono B1.size)
  go_wp2_with fail
  refine (wrongTarget_no w2 cb co L cap N c V (C.below B12) (hT.below B12)).mono ?_
  rintro e w3 ⟨rfl, B3⟩
  go_wp2_with fail
  go_ret2
  exact ⟨rfl, B12.trans (B3.mono B12.size)⟩

theorem canRun_yes (w : World) (cb co L cap N : Nat) (c : Nat → Int) (V : VP c L N) (C : Laid w cb co L cap c) (hT : Tab w) :
    Calls Tryd.prog 14 #[.slice (some ⟨cb, co, none⟩) L cap] w fun e w' => e = .returned (.bool true) ∧ Below w.heap.size w w' := by
  go_enter Tryd.func14, Tryd.ntmps14
  go_wp2_with fail
  refine (flaw_no w cb co L cap N c V C hT).mono ?_
  rintro e w1 ⟨rfl, B1⟩
  go_wp2_with fail
  go_ret
  exact ⟨rfl, B1⟩
end Go.Proofs.YtebnlafjepfkdaaDoor
