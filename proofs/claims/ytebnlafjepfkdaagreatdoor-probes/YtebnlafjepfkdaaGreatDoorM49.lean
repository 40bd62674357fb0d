import Derived.Test.YtebnlafjepfkdaaGreatDoorM48
namespace Go.Proofs.YtebnlafjepfkdaaGreatDoor
open Go.RowKit

theorem rProbe_bad (w : World) (v : Value) (L : Nat) (c : Nat → Int) (hby : ∀ i, i < L → 0 ≤ c i ∧ c i ≤ 255) (C : Coded w v L c) (hbad : ¬ ∃ N, VP c L N) :
    Calls Tryz.prog 22 #[v] w fun e w' => e = .returned (.tuple #[.slice none 0 0, .slice none 0 0, .int .i64 1]) ∧ Below w.heap.size w w' := by
  have HW : Hid (Calls Tryz.prog 56 #[v, .int .i64 80, .bool false] w fun e w' => ∃ r : Nat, e = .returned (.int .i64 (r : Int)) ∧ Below w.heap.size w w') := by
    refine (rwrong_gen w v L 80 c false (by omega) hby C).mono ?_
    rintro e w' ⟨r, b, hf, rfl, hB⟩
    cases b with
    | true => exact ⟨r, rfl, hB⟩
    | false =>
      obtain ⟨_, hL, N, F⟩ := hf.fine
      exact absurd ⟨N, F.vp hL⟩ hbad
  obtain ⟨p, cap, rfl⟩ := C.form
  clear C hby hbad
  go_enter Tryz.func22, Tryz.ntmps22
  go_wp2_with fail
  refine HW.out.mono ?_
  rintro _ w1 ⟨r, rfl, B1⟩
  have HB : Hid (Below w.heap.size w w1) := B1
  have h0 : (0 : Int) ≤ (r : Int) := by omega
  have h0' : decide ((0 : Int) ≤ (r : Int)) = true := by simp
  clear B1
  go_wp2_with fail
  refine bodyPost_ret (v := .tuple #[.slice none 0 0, .slice none 0 0, .int .i64 1]) (by simp [results, Tryz.results22, go_sem]) rfl ?_
  exact ⟨rfl, HB.out⟩
end Go.Proofs.YtebnlafjepfkdaaGreatDoor

