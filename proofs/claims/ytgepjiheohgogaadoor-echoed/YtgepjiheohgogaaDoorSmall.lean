import Derived.Test.YtgepjiheohgogaaDoorShape
namespace Go.Proofs.YtgepjiheohgogaaDoor
open Go.RowKit

def endsB (x : Int) : Bool := x == 0 || x == 14 || x == 19
def leadsB (x : Int) : Bool := x == 14 || x == 15
def holdsB (x : Int) : Bool := x == 16 || x == 17

theorem ends_any (x : Int) (w : World) : Calls Tryd.prog 32 #[.int .u8 x] w fun e w' => e = .returned (.bool (endsB x)) ∧ w' = w := by
  unfold endsB
  cases h0 : x == 0
  · cases h1 : x == 14
    · cases h2 : x == 19
      · go_enter Tryd.func32, Tryd.ntmps32; go_wp2; go_ret; exact ⟨rfl, rfl⟩
      · go_enter Tryd.func32, Tryd.ntmps32; go_wp2; go_ret; exact ⟨rfl, rfl⟩
    · go_enter Tryd.func32, Tryd.ntmps32; go_wp2; go_ret; exact ⟨rfl, rfl⟩
  · go_enter Tryd.func32, Tryd.ntmps32; go_wp2; go_ret; exact ⟨rfl, rfl⟩
theorem leads_any (x : Int) (w : World) : Calls Tryd.prog 31 #[.int .u8 x] w fun e w' => e = .returned (.bool (leadsB x)) ∧ w' = w := by
  unfold leadsB
  cases h0 : x == 14
  · cases h1 : x == 15
    · go_enter Tryd.func31, Tryd.ntmps31; go_wp2; go_ret; exact ⟨rfl, rfl⟩
    · go_enter Tryd.func31, Tryd.ntmps31; go_wp2; go_ret; exact ⟨rfl, rfl⟩
  · go_enter Tryd.func31, Tryd.ntmps31; go_wp2; go_ret; exact ⟨rfl, rfl⟩
theorem holds_any (x : Int) (w : World) : Calls Tryd.prog 39 #[.int .u8 x] w fun e w' => e = .returned (.bool (holdsB x)) ∧ w' = w := by
  unfold holdsB
  cases h0 : x == 16
  · cases h1 : x == 17
    · go_enter Tryd.func39, Tryd.ntmps39; go_wp2; go_ret; exact ⟨rfl, rfl⟩
    · go_enter Tryd.func39, Tryd.ntmps39; go_wp2; go_ret; exact ⟨rfl, rfl⟩
  · go_enter Tryd.func39, Tryd.ntmps39; go_wp2; go_ret; exact ⟨rfl, rfl⟩
end Go.Proofs.YtgepjiheohgogaaDoor
