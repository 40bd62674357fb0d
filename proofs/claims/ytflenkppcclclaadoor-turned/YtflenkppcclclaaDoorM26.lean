import Derived.Test.YtflenkppcclclaaDoorM25
import Derived.Test.YtflenkppcclclaaDoorM24
namespace Go.Proofs.YtflenkppcclclaaDoor
open Go.RowKit

/-- A change of what came of a change leads back. -/
theorem back_of (w w' : World) (hM : Mrk w) (B : Below w.heap.size w w') (s : ByteArray) (l : List Int) (hb : Byt l) (hlen : l.length ≤ 24) (k : Nat) (hk : k ≤ 100000) (e : mutL l k = some (nums s)) : Calls Tryd.prog 15 #[.string (strOfNums l), .int .i64 (k : Int)] w' (ChA w' s true) := by
  have hsz : (strOfNums l).size ≤ 24 := by rw [strOfNums_size]; exact hlen
  have := chA_some w' (hM.all B) (strOfNums l) hsz (k : Int) (by omega) (by omega) (nums s) (by rw [mutS_nat _ hsz, nums_str hb]; exact e)
  rw [str_nums] at this
  exact this
theorem set_len (l : List Int) (q : Nat) (v : Int) : (l.set q v).length = l.length := List.length_set
theorem raise_back {l : List Int} (hb : Byt l) (k : Nat) (hk : k < 4 * l.length) :
    (l.set (k / 4) ((l.getD (k / 4) 0 + (k % 4 + 1 : Nat)) % 256)).set (k / 4) (((l.set (k / 4) ((l.getD (k / 4) 0 + (k % 4 + 1 : Nat)) % 256)).getD (k / 4) 0 - (k % 4 + 1 : Nat)) % 256) = l := by
  have hq : k / 4 < l.length := by omega
  have b := hb.at (k / 4)
  rw [getD_set _ _ _ hq]
  have e : ((l.getD (k / 4) 0 + (k % 4 + 1 : Nat)) % 256 - (k % 4 + 1 : Nat)) % 256 = l.getD (k / 4) 0 := by omega
  rw [e, set_back _ _ hq]
theorem lower_back {l : List Int} (hb : Byt l) (k : Nat) (hk : k < 4 * l.length) :
    (l.set (k / 4) ((l.getD (k / 4) 0 - (k % 4 + 1 : Nat)) % 256)).set (k / 4) (((l.set (k / 4) ((l.getD (k / 4) 0 - (k % 4 + 1 : Nat)) % 256)).getD (k / 4) 0 + (k % 4 + 1 : Nat)) % 256) = l := by
  have hq : k / 4 < l.length := by omega
  have b := hb.at (k / 4)
  rw [getD_set _ _ _ hq]
  have e : ((l.getD (k / 4) 0 - (k % 4 + 1 : Nat)) % 256 + (k % 4 + 1 : Nat)) % 256 = l.getD (k / 4) 0 := by omega
  rw [e, set_back _ _ hq]

/-- Turned, where the text is not empty and the change is none of the marks. -/
theorem turned_rest (w : World) (hT : Tab w) (hM : Mrk w) (input s : ByteArray) (hin : input.size ≤ 9223372036854775807) (hsi : (if 24 < input.size then input.extract 0 24 else input) = s) (hL0 : 0 < s.size) (hL : s.size ≤ 24) (which : Int) (h1 : -9223372036854775808 ≤ which) (h2 : which ≤ 9223372036854775807)
    (m : Nat) (hm : (m : Int) = kpickS which (allOf s.size : Nat)) (hmark : m < 25 * s.size - 1 ∨ 30 * s.size - 1 ≤ m) :
    Calls Tryd.prog 5 #[.string input, .int .i64 which] w fun e w' => e = .returned (.bool true) ∧ Below w.heap.size w w' := by
  have ha := allOf_le s.size hL0 hL
  have hb := kpick_bd which (allOf s.size : Nat) (by omega)
  rw [← hm] at hb
  have hx := nums_byt s
  have hl := nums_len s
  have A := fun k => mut_at (nums s) s.size hl hL0 k
  have hall : m < allOf s.size := by omega
  have TU := fun (l : List Int) (h : mutL (nums s) m = some l) => tu_make w hT hM input s hin hsi hL0 hL which h1 h2 m hm l h
  -- the two kinds of the end
  have ha24 : s.size < 24 → (31 * (s.size : Int) - 1) + (s.size : Int) = ((allOf s.size : Nat) : Int) := fun h => by unfold allOf; rw [if_pos h]; omega
  have haf : ¬ s.size < 24 → 31 * (s.size : Int) - 1 = ((allOf s.size : Nat) : Int) := fun h => by unfold allOf; rw [if_neg h]; omega
  have R0 : ∀ l, mutL (nums s) m = some l → m < 17 * s.size - 1 → (∀ w', Below w.heap.size w w' → Calls Tryd.prog 15 #[.string (strOfNums l), .int .i64 (m : Int)] w' (ChA w' s true)) → Calls Tryd.prog 5 #[.string input, .int .i64 which] w fun e w' => e = .returned (.bool true) ∧ Below w.heap.size w w' := fun l e1 e2 HX => by
    by_cases h : s.size < 24
    · exact turned0 _ _ _ _ _ _ _ _ _ _ _ _ _ (TU l e1) (by omega) (ha24 h) (by omega) HX
    · exact turned0f _ _ _ _ _ _ _ _ _ _ _ _ _ (TU l e1) (by omega) (haf h) (by omega) HX
  by_cases c0 : m < 8 * s.size
  · have e := (A m).1 c0
    refine R0 _ e (by omega) fun w' B => back_of w w' hM B s _ (flip_byt hx m) (by rw [flip_len]; omega) m (by omega) ?_
    have := (mut_at (flipL (nums s) m) s.size (by rw [flip_len]; exact hl) hL0 m).1 c0
    rw [this, flip_back hx m (by omega)]
  by_cases c1 : m < 16 * s.size - 1
  · obtain ⟨k, rfl⟩ : ∃ k, m = 8 * s.size + k := ⟨m - 8 * s.size, by omega⟩
    have e := (A k).2.1 (by omega)
    refine R0 _ e (by omega) fun w' B => back_of w w' hM B s _ (flip_byt (flip_byt hx k) _) (by rw [flip_len, flip_len]; omega) _ (by omega) ?_
    have := (mut_at (flipL (flipL (nums s) k) (k + 1)) s.size (by rw [flip_len, flip_len]; exact hl) hL0 k).2.1 (by omega)
    rw [this, two_back hx k (by omega)]
  by_cases c2 : m < 17 * s.size - 1
  · obtain ⟨k, rfl⟩ : ∃ k, m = 16 * s.size - 1 + k := ⟨m - (16 * s.size - 1), by omega⟩
    have e := (A k).2.2.1 (by omega)
    have b := hx.at k
    refine R0 _ e (by omega) fun w' B => back_of w w' hM B s _ (hx.set _ (bits_u8 _ _ _).1 (bits_u8 _ _ _).2) (by rw [set_len]; omega) _ (by omega) ?_
    have := (mut_at ((nums s).set k (bits .xor .u8 ((nums s).getD k 0) 255)) s.size (by rw [set_len]; exact hl) hL0 k).2.2.1 (by omega)
    rw [this, getD_set _ _ _ (by omega), xor_back _ _ b.1 b.2 (by omega) (by omega), set_back _ _ (by omega)]
  by_cases c3 : m < 21 * s.size - 1
  · obtain ⟨k, rfl⟩ : ∃ k, m = 17 * s.size - 1 + k := ⟨m - (17 * s.size - 1), by omega⟩
    have e := (A k).2.2.2.1 (by omega)
    have e' := (mut_at ((nums s).set (k / 4) (((nums s).getD (k / 4) 0 + (k % 4 + 1 : Nat)) % 256)) s.size (by rw [set_len]; exact hl) hL0 k).2.2.2.2.1 (by omega)
    rw [raise_back hx k (by omega)] at e'
    have HX : ∀ w', Below w.heap.size w w' → Calls Tryd.prog 15 #[.string _, .int .i64 ((21 * s.size - 1 + k : Nat) : Int)] w' (ChA w' s true) := fun w' B => back_of w w' hM B s _ (hx.set _ (by omega) (by omega)) (by rw [set_len]; omega) _ (by omega) e'
    by_cases h : s.size < 24
    · exact turned3 _ _ _ _ _ _ _ _ _ _ _ _ _ (TU _ e) (by omega) (ha24 h) _ (by omega) (by omega) (by omega) HX
    · exact turned3f _ _ _ _ _ _ _ _ _ _ _ _ _ (TU _ e) (by omega) (haf h) _ (by omega) (by omega) (by omega) HX
  by_cases c4 : m < 25 * s.size - 1
  · obtain ⟨k, rfl⟩ : ∃ k, m = 21 * s.size - 1 + k := ⟨m - (21 * s.size - 1), by omega⟩
    have e := (A k).2.2.2.2.1 (by omega)
    have e' := (mut_at ((nums s).set (k / 4) (((nums s).getD (k / 4) 0 - (k % 4 + 1 : Nat)) % 256)) s.size (by rw [set_len]; exact hl) hL0 k).2.2.2.1 (by omega)
    rw [lower_back hx k (by omega)] at e'
    have HX : ∀ w', Below w.heap.size w w' → Calls Tryd.prog 15 #[.string _, .int .i64 ((17 * s.size - 1 + k : Nat) : Int)] w' (ChA w' s true) := fun w' B => back_of w w' hM B s _ (hx.set _ (by omega) (by omega)) (by rw [set_len]; omega) _ (by omega) e'
    by_cases h : s.size < 24
    · exact turned4 _ _ _ _ _ _ _ _ _ _ _ _ _ (TU _ e) (by omega) (ha24 h) _ (by omega) (by omega) (by omega) (by omega) HX
    · exact turned4f _ _ _ _ _ _ _ _ _ _ _ _ _ (TU _ e) (by omega) (haf h) _ (by omega) (by omega) (by omega) (by omega) HX
  by_cases c6 : m < 31 * s.size - 1
  · obtain ⟨k, rfl⟩ : ∃ k, m = 30 * s.size - 1 + k := ⟨m - (30 * s.size - 1), by omega⟩
    have e := (A k).2.2.2.2.2.2.1 (by omega)
    have HT : s.extract 0 k ++ s.extract (k + 1) s.size = strOfNums (cutL (nums s) k) := by
      apply nums_inj
      rw [nums_append, nums_extract, nums_extract, nums_str (cut_byt hx k), cutL]
      rw [List.drop_zero, Nat.sub_zero, List.take_of_length_le (i := s.size - (k + 1)) (by simp [nums_len])]
    by_cases h : s.size < 24
    · exact turned6 _ _ _ _ _ _ _ _ _ _ _ _ _ (TU _ e) (by omega) (ha24 h) k (by omega) (by omega) (by omega) (by omega) (by omega) (by omega) HT
    · exact turned6f _ _ _ _ _ _ _ _ _ _ _ _ _ (TU _ e) (by omega) (haf h) k (by omega) (by omega) (by omega) (by omega) (by omega) (by omega) HT
  · have h : s.size < 24 := by
      by_cases h : s.size < 24
      · exact h
      · exfalso
        unfold allOf at hall
        rw [if_neg h] at hall
        omega
    obtain ⟨k, rfl⟩ : ∃ k, m = 31 * s.size - 1 + k := ⟨m - (31 * s.size - 1), by omega⟩
    have hk : k < s.size := by
      unfold allOf at hall
      rw [if_pos h] at hall
      omega
    have e := (A k).2.2.2.2.2.2.2.1 hk h
    have bk := hx.at k
    have hlt : (twiceL (nums s) k).length = s.size + 1 := by unfold twiceL; rw [put_len _ _ _ (by omega), hl]
    have e' := (mut_at (twiceL (nums s) k) (s.size + 1) hlt (by omega) k).2.2.2.2.2.2.1 (by omega)
    rw [cut_twice _ _ (by omega)] at e'
    have HX : ∀ w', Below w.heap.size w w' → Calls Tryd.prog 15 #[.string _, .int .i64 ((30 * (s.size + 1) - 1 + k : Nat) : Int)] w' (ChA w' s true) := fun w' B => back_of w w' hM B s (twiceL (nums s) k) (show Byt (twiceL (nums s) k) from put_byt hx k bk.1 bk.2) (by rw [hlt]; omega) _ (by omega) e'
    exact turned7 _ _ _ _ _ _ _ _ _ _ _ _ _ (TU _ e) (by omega) (ha24 h) (30 * ((s.size : Int) + 1) - 1) _ _ (by omega) (by omega) (by omega) (by omega) (by omega) (by omega) (by omega) (fun w' => kbase6 w' (s.size + 1) (by omega)) rfl (by omega) HX
end Go.Proofs.YtflenkppcclclaaDoor

