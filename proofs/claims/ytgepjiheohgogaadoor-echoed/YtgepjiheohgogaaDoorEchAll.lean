import Derived.Test.YtgepjiheohgogaaDoorEchD
import Derived.Test.YtgepjiheohgogaaDoorEchA
import Derived.Test.YtgepjiheohgogaaDoorEchB
import Derived.Test.YtgepjiheohgogaaDoorEchC
import Derived.Test.YtgepjiheohgogaaDoorEchF
namespace Go.Proofs.YtgepjiheohgogaaDoor
open Go.RowKit

theorem short_size (s : ByteArray) : (if 24 < s.size then s.extract 0 24 else s).size ≤ 24 := by
  split
  · rw [Lib.size_eq, Lib.extract_data, List.length_take]; omega
  · omega

/-- 'prowlkeep.Echoed' returns true, whatever it is given, and changes nothing that was there. -/
theorem echoed_all (input : ByteArray) (hin : input.size ≤ 9223372036854775807) (fuel : Int) (h1 : -9223372036854775808 ≤ fuel) (h2 : fuel ≤ 9223372036854775807) (w : World) (hT : Tab w) :
    Calls Tryd.prog 3 #[.string input, .int .i64 fuel] w fun e w' => e = .returned (.bool true) ∧ Below w.heap.size w w' := by
  have hsh : Hid (∀ w, Calls Tryd.prog 5 #[.string input, .int .i64 24] w fun e w' => e = .returned (.string (if 24 < input.size then input.extract 0 24 else input)) ∧ w' = w) := fun w => short_any input hin w
  have hpk : Hid (∀ w, Calls Tryd.prog 6 #[.int .i64 fuel, .int .i64 501] w fun e w' => e = .returned (.int .i64 (pickS fuel 501)) ∧ w' = w) := fun w => pickS_any fuel 501 h1 h2 (by omega) (by omega) w
  have hs := short_size input
  obtain ⟨hf0, hf1⟩ := pickS_bd fuel 501 (by omega)
  generalize (if 24 < input.size then input.extract 0 24 else input) = s at hsh hs
  generalize pickS fuel 501 = f at hpk hf0 hf1
  have hf1' : f ≤ 500 := by omega
  obtain ⟨n, hn⟩ := Int.eq_ofNat_of_zero_le (show 0 ≤ (f + 1) / 8 by omega)
  by_cases h16 : s.size ≤ 16
  · by_cases hT2 : 8 * (s.size : Int) + 7 ≤ f
    · exact ech_done input s fuel f w hT hsh hpk hs hf0 hf1' h16 hT2
    · have hT3 : f < 8 * (s.size : Int) + 7 := by omega
      by_cases hc : n < s.size
      · have hk : f % 8 = 0 ∨ f % 8 = 1 ∨ f % 8 = 2 ∨ f % 8 = 3 ∨ f % 8 = 4 ∨ f % 8 = 5 ∨ f % 8 = 6 ∨ f % 8 = 7 := by omega
        rcases hk with hk | hk | hk | hk | hk | hk | hk | hk
        · exact ech_h0lts input s fuel f w hT hsh hpk hs hf0 hf1' n hn hk hc h16 hT3
        · exact ech_h1lts input s fuel f w hT hsh hpk hs hf0 hf1' n hn hk hc h16 hT3
        · exact ech_h2lts input s fuel f w hT hsh hpk hs hf0 hf1' n hn hk hc h16 hT3
        · exact ech_h3lts input s fuel f w hT hsh hpk hs hf0 hf1' n hn hk hc h16 hT3
        · exact ech_h4lts input s fuel f w hT hsh hpk hs hf0 hf1' n hn hk hc h16 hT3
        · exact ech_h5lts input s fuel f w hT hsh hpk hs hf0 hf1' n hn hk hc h16 hT3
        · exact ech_h6lts input s fuel f w hT hsh hpk hs hf0 hf1' n hn hk hc h16 hT3
        · exact ech_h7lts input s fuel f w hT hsh hpk hs hf0 hf1' n hn hk hc h16 hT3
      · have hc' : s.size ≤ n := by omega
        have hk : f % 8 = 0 ∨ f % 8 = 1 ∨ f % 8 = 2 ∨ f % 8 = 3 ∨ f % 8 = 4 ∨ f % 8 = 5 ∨ f % 8 = 6 ∨ f % 8 = 7 := by omega
        rcases hk with hk | hk | hk | hk | hk | hk | hk | hk
        · exact ech_h0ges input s fuel f w hT hsh hpk hs hf0 hf1' n hn hk hc' h16 hT3
        · exact ech_h1ges input s fuel f w hT hsh hpk hs hf0 hf1' n hn hk hc' h16 hT3
        · exact ech_h2ges input s fuel f w hT hsh hpk hs hf0 hf1' n hn hk hc' h16 hT3
        · exact ech_h3ges input s fuel f w hT hsh hpk hs hf0 hf1' n hn hk hc' h16 hT3
        · exact ech_h4ges input s fuel f w hT hsh hpk hs hf0 hf1' n hn hk hc' h16 hT3
        · exact ech_h5ges input s fuel f w hT hsh hpk hs hf0 hf1' n hn hk hc' h16 hT3
        · exact ech_h6ges input s fuel f w hT hsh hpk hs hf0 hf1' n hn hk hc' h16 hT3
        · exact ech_h7ges input s fuel f w hT hsh hpk hs hf0 hf1' n hn hk hc' h16 hT3
  · have h16' : 16 < s.size := by omega
    by_cases hT2 : 135 ≤ f
    · exact ech_full input s fuel f w hT hsh hpk hs hf0 hf1' h16' hT2
    · have hT3 : f < 135 := by omega
      have hc : n < s.size := by omega
      have hk : f % 8 = 0 ∨ f % 8 = 1 ∨ f % 8 = 2 ∨ f % 8 = 3 ∨ f % 8 = 4 ∨ f % 8 = 5 ∨ f % 8 = 6 ∨ f % 8 = 7 := by omega
      rcases hk with hk | hk | hk | hk | hk | hk | hk | hk
      · exact ech_h0ltb input s fuel f w hT hsh hpk hs hf0 hf1' n hn hk hc h16' hT3
      · exact ech_h1ltb input s fuel f w hT hsh hpk hs hf0 hf1' n hn hk hc h16' hT3
      · exact ech_h2ltb input s fuel f w hT hsh hpk hs hf0 hf1' n hn hk hc h16' hT3
      · exact ech_h3ltb input s fuel f w hT hsh hpk hs hf0 hf1' n hn hk hc h16' hT3
      · exact ech_h4ltb input s fuel f w hT hsh hpk hs hf0 hf1' n hn hk hc h16' hT3
      · exact ech_h5ltb input s fuel f w hT hsh hpk hs hf0 hf1' n hn hk hc h16' hT3
      · exact ech_h6ltb input s fuel f w hT hsh hpk hs hf0 hf1' n hn hk hc h16' hT3
      · exact ech_h7ltb input s fuel f w hT hsh hpk hs hf0 hf1' n hn hk hc h16' hT3
end Go.Proofs.YtgepjiheohgogaaDoor
