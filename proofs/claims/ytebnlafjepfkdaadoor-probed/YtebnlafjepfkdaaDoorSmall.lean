import Derived.Test.YtebnlafjepfkdaaDoorShape
namespace Go.Proofs.YtebnlafjepfkdaaDoor
open Go.RowKit

def endsB (x : Int) : Bool := x == 0 || x == 14 || x == 19
def leadsB (x : Int) : Bool := x == 14 || x == 15
def holdsB (x : Int) : Bool := x == 16 || x == 17

theorem ends_any (x : Int) (w : World) : Calls Tryd.prog 40 #[.int .u8 x] w fun e w' => e = .returned (.bool (endsB x)) ∧ w' = w := by
  unfold endsB
  cases h0 : x == 0
  · cases h1 : x == 14
    · cases h2 : x == 19
      · go_enter Tryd.func40, Tryd.ntmps40; go_wp2; go_ret; exact ⟨rfl, rfl⟩
      · go_enter Tryd.func40, Tryd.ntmps40; go_wp2; go_ret; exact ⟨rfl, rfl⟩
    · go_enter Tryd.func40, Tryd.ntmps40; go_wp2; go_ret; exact ⟨rfl, rfl⟩
  · go_enter Tryd.func40, Tryd.ntmps40; go_wp2; go_ret; exact ⟨rfl, rfl⟩
theorem leads_any (x : Int) (w : World) : Calls Tryd.prog 30 #[.int .u8 x] w fun e w' => e = .returned (.bool (leadsB x)) ∧ w' = w := by
  unfold leadsB
  cases h0 : x == 14
  · cases h1 : x == 15
    · go_enter Tryd.func30, Tryd.ntmps30; go_wp2; go_ret; exact ⟨rfl, rfl⟩
    · go_enter Tryd.func30, Tryd.ntmps30; go_wp2; go_ret; exact ⟨rfl, rfl⟩
  · go_enter Tryd.func30, Tryd.ntmps30; go_wp2; go_ret; exact ⟨rfl, rfl⟩
theorem holds_any (x : Int) (w : World) : Calls Tryd.prog 47 #[.int .u8 x] w fun e w' => e = .returned (.bool (holdsB x)) ∧ w' = w := by
  unfold holdsB
  cases h0 : x == 16
  · cases h1 : x == 17
    · go_enter Tryd.func47, Tryd.ntmps47; go_wp2; go_ret; exact ⟨rfl, rfl⟩
    · go_enter Tryd.func47, Tryd.ntmps47; go_wp2; go_ret; exact ⟨rfl, rfl⟩
  · go_enter Tryd.func47, Tryd.ntmps47; go_wp2; go_ret; exact ⟨rfl, rfl⟩
end Go.Proofs.YtebnlafjepfkdaaDoor
