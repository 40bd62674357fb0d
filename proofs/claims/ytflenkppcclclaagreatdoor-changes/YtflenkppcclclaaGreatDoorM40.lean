import Derived.Test.YtflenkppcclclaaGreatDoorM39
import Derived.Deep.RegionWith
namespace Go.Proofs.YtflenkppcclclaaGreatDoor
open Go.RowKit

/-- A text is answered. -/
structure StrAns (w : World) (t : ByteArray) (e : Ending) (w' : World) : Prop where
  bel : Below w.heap.size w w'
  ans : e = .returned (.string t)

theorem put_str (s : ByteArray) (i : Nat) (b : Int) (hi : i < s.size) (h0 : 0 ≤ b) (h1 : b ≤ 255) : s.extract 0 i ++ strOfNums [b] ++ s.extract (i + 1) s.size = strOfNums ((nums s).set i b) := by
  apply nums_inj
  rw [nums_append, nums_append, nums_extract, nums_extract, nums_str (byt_one h0 h1), nums_str ((nums_byt s).set i h0 h1), List.set_eq_take_append_cons_drop, if_pos (by rw [nums_len]; exact hi)]
  rw [List.drop_zero, Nat.sub_zero, List.take_of_length_le (i := s.size - (i + 1)) (by simp [nums_len])]
  simp

set_option maxRecDepth 100000 in
theorem rput_core (w : World) (s t0 : ByteArray) (i L : Nat) (b : Int) (hL : s.size = L) (hi : i < L) (hs : L ≤ 1000) (ht0 : strOfNums [b] = t0) :
    Calls Tryz.prog 155 #[.string s, .int .i64 i, .int .u8 b] w (StrAns w (s.extract 0 i ++ t0 ++ s.extract (i + 1) L)) := by
  have h1 : (0 : Int) ≤ (i : Int) := by omega
  have h2 : (i : Int) ≤ (L : Int) := by omega
  have h3 : (0 : Int) ≤ (i : Int) + 1 := by omega
  have h4 : (i : Int) + 1 ≤ (L : Int) := by omega
  have htn : ((i : Int) + 1).toNat = i + 1 := by omega
  have hmin : min i L = i := by omega
  have hts : t0.size = 1 := by rw [← ht0]; rfl
  have hcv : (convert 25 9 (.slice (some ⟨w.heap.size, 0, none⟩) 1 1)).run Tryz.prog (w.alloc (.cells #[.int .u8 b] 5)).drew = .ok (.string t0) (w.alloc (.cells #[.int .u8 b] 5)).drew := by
    rw [← ht0]
    exact run_convert_bytes_arg _ 25 5 Tryz.underlying25 Tryz.underlying5 w.heap.size 0 1 1 [b] rfl (fun j hj => by
      have e : (w.alloc (.cells #[.int .u8 b] 5)).drew.cell? ⟨w.heap.size, 0 + j, none⟩ = #[Value.int .u8 b][0 + j]? := World.cell?_alloc_new w #[.int .u8 b] 5 (0 + j)
      rw [e]
      match j, hj with
      | 0, _ => rfl
      | j + 1, hj => simp at hj) 9 Tryz.underlying9
  go_enter Tryz.func155, Tryz.ntmps155
  go_wp2_with fail
  go_region
  all_goals
    go_wp2
    go_ret
    exact ⟨((Below.refl _ _).alloc (Nat.le_refl _) _).drew, rfl⟩
theorem rput_any (w : World) (s : ByteArray) (i : Nat) (b : Int) (hi : i < s.size) (hs : s.size ≤ 1000) (h0 : 0 ≤ b) (h1 : b ≤ 255) :
    Calls Tryz.prog 155 #[.string s, .int .i64 i, .int .u8 b] w (StrAns w (strOfNums ((nums s).set i b))) := by
  rw [← put_str s i b hi h0 h1]
  exact rput_core w s _ i s.size b rfl hi hs rfl

theorem idx_str (s : ByteArray) (q : Nat) (hq : q < s.size) (W : World) : (Instr.index 9 (.string s) (.int .i64 (q : Int))).run Tryz.prog W = .ok (.int .u8 ((nums s).getD q 0)) W := by
  rw [run_index_string W _ _ _ _ Tryz.underlying9, dif_pos ⟨by omega, by omega⟩, ← nums_get s q hq]
  rfl
theorem strAns_put {w w' : World} {s t : ByteArray} {q : Nat} {b b' : Int} (B : Below w.heap.size w w') (h : b = b') (ht : t = strOfNums ((nums s).set q b')) : StrAns w t (.returned (.string (strOfNums ((nums s).set q b)))) w' := by
  subst h
  rw [ht]
  exact ⟨B, rfl⟩

set_option maxRecDepth 100000 in
theorem rflip0 (w : World) (s t : ByteArray) (K : Int) (q : Nat) (h4 : 0 ≤ K) (h1 : K / 8 = (q : Int)) (h2 : K % 8 = 0) (hq : q < s.size) (hs : s.size ≤ 1000) (ht : t = strOfNums ((nums s).set q (bits .xor .u8 ((nums s).getD q 0) 128))) :
    Calls Tryz.prog 154 #[.string s, .int .i64 K] w (StrAns w t) := by
  have g1 : IntKind.i64.wrap (K.tdiv 8) = (q : Int) := by rw [Int.tdiv_eq_ediv_of_nonneg h4, h1, IntKind.wrap_i64]; omega
  have g2 : K.tmod 8 = 0 := by rw [Int.tmod_eq_emod_of_nonneg h4, h2]
  have g3 : IntKind.i64.wrap (7 - 0) = 7 := by decide
  have g4 : IntKind.i64.wrap 7 = 7 := by decide
  have h3 : (q : Int) < (s.size : Int) := by omega
  have HT : Hid (t = strOfNums ((nums s).set q (bits .xor .u8 ((nums s).getD q 0) 128))) := ht
  have HP : Hid (∀ x y, Calls Tryz.prog 155 #[.string s, .int .i64 q, .int .u8 (bits .xor .u8 x y)] w.drew (StrAns w.drew (strOfNums ((nums s).set q (bits .xor .u8 x y))))) := fun x y => rput_any w.drew s q _ hq hs (bits_u8 _ _ _).1 (bits_u8 _ _ _).2
  have hidx := idx_str s q hq
  obtain ⟨x, hx⟩ : ∃ x, (nums s).getD q 0 = x := ⟨_, rfl⟩
  rw [hx] at hidx HT
  clear ht hx
  go_enter Tryz.func154, Tryz.ntmps154
  go_wp2_with fail
  go_region_with (go_at_call 155; refine (HP.out _ _).mono ?_; rintro e w' ⟨B, rfl⟩)
  go_wp2
  go_ret
  exact strAns_put ((Below.refl _ _).drew.trans B) rfl HT.out
set_option maxRecDepth 100000 in
theorem rflip1 (w : World) (s t : ByteArray) (K : Int) (q : Nat) (h4 : 0 ≤ K) (h1 : K / 8 = (q : Int)) (h2 : K % 8 = 1) (hq : q < s.size) (hs : s.size ≤ 1000) (ht : t = strOfNums ((nums s).set q (bits .xor .u8 ((nums s).getD q 0) 64))) :
    Calls Tryz.prog 154 #[.string s, .int .i64 K] w (StrAns w t) := by
  have g1 : IntKind.i64.wrap (K.tdiv 8) = (q : Int) := by rw [Int.tdiv_eq_ediv_of_nonneg h4, h1, IntKind.wrap_i64]; omega
  have g2 : K.tmod 8 = 1 := by rw [Int.tmod_eq_emod_of_nonneg h4, h2]
  have g3 : IntKind.i64.wrap (7 - 1) = 6 := by decide
  have g4 : IntKind.i64.wrap 6 = 6 := by decide
  have h3 : (q : Int) < (s.size : Int) := by omega
  have HT : Hid (t = strOfNums ((nums s).set q (bits .xor .u8 ((nums s).getD q 0) 64))) := ht
  have HP : Hid (∀ x y, Calls Tryz.prog 155 #[.string s, .int .i64 q, .int .u8 (bits .xor .u8 x y)] w.drew (StrAns w.drew (strOfNums ((nums s).set q (bits .xor .u8 x y))))) := fun x y => rput_any w.drew s q _ hq hs (bits_u8 _ _ _).1 (bits_u8 _ _ _).2
  have hidx := idx_str s q hq
  obtain ⟨x, hx⟩ : ∃ x, (nums s).getD q 0 = x := ⟨_, rfl⟩
  rw [hx] at hidx HT
  clear ht hx
  go_enter Tryz.func154, Tryz.ntmps154
  go_wp2_with fail
  go_region_with (go_at_call 155; refine (HP.out _ _).mono ?_; rintro e w' ⟨B, rfl⟩)
  go_wp2
  go_ret
  exact strAns_put ((Below.refl _ _).drew.trans B) rfl HT.out
set_option maxRecDepth 100000 in
theorem rflip2 (w : World) (s t : ByteArray) (K : Int) (q : Nat) (h4 : 0 ≤ K) (h1 : K / 8 = (q : Int)) (h2 : K % 8 = 2) (hq : q < s.size) (hs : s.size ≤ 1000) (ht : t = strOfNums ((nums s).set q (bits .xor .u8 ((nums s).getD q 0) 32))) :
    Calls Tryz.prog 154 #[.string s, .int .i64 K] w (StrAns w t) := by
  have g1 : IntKind.i64.wrap (K.tdiv 8) = (q : Int) := by rw [Int.tdiv_eq_ediv_of_nonneg h4, h1, IntKind.wrap_i64]; omega
  have g2 : K.tmod 8 = 2 := by rw [Int.tmod_eq_emod_of_nonneg h4, h2]
  have g3 : IntKind.i64.wrap (7 - 2) = 5 := by decide
  have g4 : IntKind.i64.wrap 5 = 5 := by decide
  have h3 : (q : Int) < (s.size : Int) := by omega
  have HT : Hid (t = strOfNums ((nums s).set q (bits .xor .u8 ((nums s).getD q 0) 32))) := ht
  have HP : Hid (∀ x y, Calls Tryz.prog 155 #[.string s, .int .i64 q, .int .u8 (bits .xor .u8 x y)] w.drew (StrAns w.drew (strOfNums ((nums s).set q (bits .xor .u8 x y))))) := fun x y => rput_any w.drew s q _ hq hs (bits_u8 _ _ _).1 (bits_u8 _ _ _).2
  have hidx := idx_str s q hq
  obtain ⟨x, hx⟩ : ∃ x, (nums s).getD q 0 = x := ⟨_, rfl⟩
  rw [hx] at hidx HT
  clear ht hx
  go_enter Tryz.func154, Tryz.ntmps154
  go_wp2_with fail
  go_region_with (go_at_call 155; refine (HP.out _ _).mono ?_; rintro e w' ⟨B, rfl⟩)
  go_wp2
  go_ret
  exact strAns_put ((Below.refl _ _).drew.trans B) rfl HT.out
set_option maxRecDepth 100000 in
theorem rflip3 (w : World) (s t : ByteArray) (K : Int) (q : Nat) (h4 : 0 ≤ K) (h1 : K / 8 = (q : Int)) (h2 : K % 8 = 3) (hq : q < s.size) (hs : s.size ≤ 1000) (ht : t = strOfNums ((nums s).set q (bits .xor .u8 ((nums s).getD q 0) 16))) :
    Calls Tryz.prog 154 #[.string s, .int .i64 K] w (StrAns w t) := by
  have g1 : IntKind.i64.wrap (K.tdiv 8) = (q : Int) := by rw [Int.tdiv_eq_ediv_of_nonneg h4, h1, IntKind.wrap_i64]; omega
  have g2 : K.tmod 8 = 3 := by rw [Int.tmod_eq_emod_of_nonneg h4, h2]
  have g3 : IntKind.i64.wrap (7 - 3) = 4 := by decide
  have g4 : IntKind.i64.wrap 4 = 4 := by decide
  have h3 : (q : Int) < (s.size : Int) := by omega
  have HT : Hid (t = strOfNums ((nums s).set q (bits .xor .u8 ((nums s).getD q 0) 16))) := ht
  have HP : Hid (∀ x y, Calls Tryz.prog 155 #[.string s, .int .i64 q, .int .u8 (bits .xor .u8 x y)] w.drew (StrAns w.drew (strOfNums ((nums s).set q (bits .xor .u8 x y))))) := fun x y => rput_any w.drew s q _ hq hs (bits_u8 _ _ _).1 (bits_u8 _ _ _).2
  have hidx := idx_str s q hq
  obtain ⟨x, hx⟩ : ∃ x, (nums s).getD q 0 = x := ⟨_, rfl⟩
  rw [hx] at hidx HT
  clear ht hx
  go_enter Tryz.func154, Tryz.ntmps154
  go_wp2_with fail
  go_region_with (go_at_call 155; refine (HP.out _ _).mono ?_; rintro e w' ⟨B, rfl⟩)
  go_wp2
  go_ret
  exact strAns_put ((Below.refl _ _).drew.trans B) rfl HT.out
set_option maxRecDepth 100000 in
theorem rflip4 (w : World) (s t : ByteArray) (K : Int) (q : Nat) (h4 : 0 ≤ K) (h1 : K / 8 = (q : Int)) (h2 : K % 8 = 4) (hq : q < s.size) (hs : s.size ≤ 1000) (ht : t = strOfNums ((nums s).set q (bits .xor .u8 ((nums s).getD q 0) 8))) :
    Calls Tryz.prog 154 #[.string s, .int .i64 K] w (StrAns w t) := by
  have g1 : IntKind.i64.wrap (K.tdiv 8) = (q : Int) := by rw [Int.tdiv_eq_ediv_of_nonneg h4, h1, IntKind.wrap_i64]; omega
  have g2 : K.tmod 8 = 4 := by rw [Int.tmod_eq_emod_of_nonneg h4, h2]
  have g3 : IntKind.i64.wrap (7 - 4) = 3 := by decide
  have g4 : IntKind.i64.wrap 3 = 3 := by decide
  have h3 : (q : Int) < (s.size : Int) := by omega
  have HT : Hid (t = strOfNums ((nums s).set q (bits .xor .u8 ((nums s).getD q 0) 8))) := ht
  have HP : Hid (∀ x y, Calls Tryz.prog 155 #[.string s, .int .i64 q, .int .u8 (bits .xor .u8 x y)] w.drew (StrAns w.drew (strOfNums ((nums s).set q (bits .xor .u8 x y))))) := fun x y => rput_any w.drew s q _ hq hs (bits_u8 _ _ _).1 (bits_u8 _ _ _).2
  have hidx := idx_str s q hq
  obtain ⟨x, hx⟩ : ∃ x, (nums s).getD q 0 = x := ⟨_, rfl⟩
  rw [hx] at hidx HT
  clear ht hx
  go_enter Tryz.func154, Tryz.ntmps154
  go_wp2_with fail
  go_region_with (go_at_call 155; refine (HP.out _ _).mono ?_; rintro e w' ⟨B, rfl⟩)
  go_wp2
  go_ret
  exact strAns_put ((Below.refl _ _).drew.trans B) rfl HT.out
set_option maxRecDepth 100000 in
theorem rflip5 (w : World) (s t : ByteArray) (K : Int) (q : Nat) (h4 : 0 ≤ K) (h1 : K / 8 = (q : Int)) (h2 : K % 8 = 5) (hq : q < s.size) (hs : s.size ≤ 1000) (ht : t = strOfNums ((nums s).set q (bits .xor .u8 ((nums s).getD q 0) 4))) :
    Calls Tryz.prog 154 #[.string s, .int .i64 K] w (StrAns w t) := by
  have g1 : IntKind.i64.wrap (K.tdiv 8) = (q : Int) := by rw [Int.tdiv_eq_ediv_of_nonneg h4, h1, IntKind.wrap_i64]; omega
  have g2 : K.tmod 8 = 5 := by rw [Int.tmod_eq_emod_of_nonneg h4, h2]
  have g3 : IntKind.i64.wrap (7 - 5) = 2 := by decide
  have g4 : IntKind.i64.wrap 2 = 2 := by decide
  have h3 : (q : Int) < (s.size : Int) := by omega
  have HT : Hid (t = strOfNums ((nums s).set q (bits .xor .u8 ((nums s).getD q 0) 4))) := ht
  have HP : Hid (∀ x y, Calls Tryz.prog 155 #[.string s, .int .i64 q, .int .u8 (bits .xor .u8 x y)] w.drew (StrAns w.drew (strOfNums ((nums s).set q (bits .xor .u8 x y))))) := fun x y => rput_any w.drew s q _ hq hs (bits_u8 _ _ _).1 (bits_u8 _ _ _).2
  have hidx := idx_str s q hq
  obtain ⟨x, hx⟩ : ∃ x, (nums s).getD q 0 = x := ⟨_, rfl⟩
  rw [hx] at hidx HT
  clear ht hx
  go_enter Tryz.func154, Tryz.ntmps154
  go_wp2_with fail
  go_region_with (go_at_call 155; refine (HP.out _ _).mono ?_; rintro e w' ⟨B, rfl⟩)
  go_wp2
  go_ret
  exact strAns_put ((Below.refl _ _).drew.trans B) rfl HT.out
set_option maxRecDepth 100000 in
theorem rflip6 (w : World) (s t : ByteArray) (K : Int) (q : Nat) (h4 : 0 ≤ K) (h1 : K / 8 = (q : Int)) (h2 : K % 8 = 6) (hq : q < s.size) (hs : s.size ≤ 1000) (ht : t = strOfNums ((nums s).set q (bits .xor .u8 ((nums s).getD q 0) 2))) :
    Calls Tryz.prog 154 #[.string s, .int .i64 K] w (StrAns w t) := by
  have g1 : IntKind.i64.wrap (K.tdiv 8) = (q : Int) := by rw [Int.tdiv_eq_ediv_of_nonneg h4, h1, IntKind.wrap_i64]; omega
  have g2 : K.tmod 8 = 6 := by rw [Int.tmod_eq_emod_of_nonneg h4, h2]
  have g3 : IntKind.i64.wrap (7 - 6) = 1 := by decide
  have g4 : IntKind.i64.wrap 1 = 1 := by decide
  have h3 : (q : Int) < (s.size : Int) := by omega
  have HT : Hid (t = strOfNums ((nums s).set q (bits .xor .u8 ((nums s).getD q 0) 2))) := ht
  have HP : Hid (∀ x y, Calls Tryz.prog 155 #[.string s, .int .i64 q, .int .u8 (bits .xor .u8 x y)] w.drew (StrAns w.drew (strOfNums ((nums s).set q (bits .xor .u8 x y))))) := fun x y => rput_any w.drew s q _ hq hs (bits_u8 _ _ _).1 (bits_u8 _ _ _).2
  have hidx := idx_str s q hq
  obtain ⟨x, hx⟩ : ∃ x, (nums s).getD q 0 = x := ⟨_, rfl⟩
  rw [hx] at hidx HT
  clear ht hx
  go_enter Tryz.func154, Tryz.ntmps154
  go_wp2_with fail
  go_region_with (go_at_call 155; refine (HP.out _ _).mono ?_; rintro e w' ⟨B, rfl⟩)
  go_wp2
  go_ret
  exact strAns_put ((Below.refl _ _).drew.trans B) rfl HT.out
set_option maxRecDepth 100000 in
theorem rflip7 (w : World) (s t : ByteArray) (K : Int) (q : Nat) (h4 : 0 ≤ K) (h1 : K / 8 = (q : Int)) (h2 : K % 8 = 7) (hq : q < s.size) (hs : s.size ≤ 1000) (ht : t = strOfNums ((nums s).set q (bits .xor .u8 ((nums s).getD q 0) 1))) :
    Calls Tryz.prog 154 #[.string s, .int .i64 K] w (StrAns w t) := by
  have g1 : IntKind.i64.wrap (K.tdiv 8) = (q : Int) := by rw [Int.tdiv_eq_ediv_of_nonneg h4, h1, IntKind.wrap_i64]; omega
  have g2 : K.tmod 8 = 7 := by rw [Int.tmod_eq_emod_of_nonneg h4, h2]
  have g3 : IntKind.i64.wrap (7 - 7) = 0 := by decide
  have g4 : IntKind.i64.wrap 0 = 0 := by decide
  have h3 : (q : Int) < (s.size : Int) := by omega
  have HT : Hid (t = strOfNums ((nums s).set q (bits .xor .u8 ((nums s).getD q 0) 1))) := ht
  have HP : Hid (∀ x y, Calls Tryz.prog 155 #[.string s, .int .i64 q, .int .u8 (bits .xor .u8 x y)] w.drew (StrAns w.drew (strOfNums ((nums s).set q (bits .xor .u8 x y))))) := fun x y => rput_any w.drew s q _ hq hs (bits_u8 _ _ _).1 (bits_u8 _ _ _).2
  have hidx := idx_str s q hq
  obtain ⟨x, hx⟩ : ∃ x, (nums s).getD q 0 = x := ⟨_, rfl⟩
  rw [hx] at hidx HT
  clear ht hx
  go_enter Tryz.func154, Tryz.ntmps154
  go_wp2_with fail
  go_region_with (go_at_call 155; refine (HP.out _ _).mono ?_; rintro e w' ⟨B, rfl⟩)
  go_wp2
  go_ret
  exact strAns_put ((Below.refl _ _).drew.trans B) rfl HT.out
theorem rflip_any (w : World) (s : ByteArray) (k : Nat) (hk : k < 8 * s.size) (hs : s.size ≤ 1000) :
    Calls Tryz.prog 154 #[.string s, .int .i64 k] w (StrAns w (strOfNums (flipL (nums s) k))) := by
  have hq : k / 8 < s.size := by omega
  have h1 : (k : Int) / 8 = ((k / 8 : Nat) : Int) := by omega
  have h0 : (0 : Int) ≤ (k : Int) := by omega
  have hr : k % 8 < 8 := by omega
  have h2 : (k : Int) % 8 = ((k % 8 : Nat) : Int) := by omega
  unfold flipL
  generalize k % 8 = r at hr h2 ⊢
  match r, hr with
  | 0, _ => exact rflip0 w s _ k _ h0 h1 h2 hq hs rfl
  | 1, _ => exact rflip1 w s _ k _ h0 h1 h2 hq hs rfl
  | 2, _ => exact rflip2 w s _ k _ h0 h1 h2 hq hs rfl
  | 3, _ => exact rflip3 w s _ k _ h0 h1 h2 hq hs rfl
  | 4, _ => exact rflip4 w s _ k _ h0 h1 h2 hq hs rfl
  | 5, _ => exact rflip5 w s _ k _ h0 h1 h2 hq hs rfl
  | 6, _ => exact rflip6 w s _ k _ h0 h1 h2 hq hs rfl
  | 7, _ => exact rflip7 w s _ k _ h0 h1 h2 hq hs rfl
  | r + 8, h => omega
end Go.Proofs.YtflenkppcclclaaGreatDoor

namespace Go.Proofs.YtflenkppcclclaaGreatDoor
open Go.RowKit

/-- What 'drawn' answers. -/
structure DAns (w : World) (k : Nat) (y : Int) (e : Ending) (w' : World) : Prop where
  ans : e = .returned (.tuple #[.int .i64 (k : Nat), .int .u64 y])
  same : w' = w

theorem dr_is (x : Int) (n : Nat) : ((dr x n : Nat) : Int) = IntKind.u64.wrap (sd x * 2685821657736338717) / 8589934592 % (n : Int) := by
  unfold dr
  have hb : 0 ≤ IntKind.u64.wrap (sd x * 2685821657736338717) := by rw [IntKind.wrap_u64]; omega
  generalize IntKind.u64.wrap (sd x * 2685821657736338717) = P at *
  have hD0 : 0 ≤ P / 8589934592 := by omega
  generalize P / 8589934592 = D at *
  have : ((D.toNat % n : Nat) : Int) = (D.toNat : Int) % (n : Int) := by simp
  rw [this, Int.toNat_of_nonneg hD0]

set_option maxHeartbeats 1000000 in
set_option maxRecDepth 100000 in
theorem rdrawn_any (w : World) (x : Int) (h0 : 0 ≤ x) (hx : x ≤ 18446744073709551615) (n : Nat) (h1 : 1 ≤ n) (h2 : n ≤ 1000) :
    Calls Tryz.prog 156 #[.int .u64 x, .int .i64 n] w (DAns w (dr x n) (sd x)) := by
  have hd := dr_is x n
  have hne : ¬ ((n : Int) = 0) := by omega
  have hn0 : (0 : Int) ≤ (n : Int) := by omega
  have hm : 0 ≤ IntKind.u64.wrap (sd x * 2685821657736338717) / 8589934592 % (n : Int) ∧ IntKind.u64.wrap (sd x * 2685821657736338717) / 8589934592 % (n : Int) < (n : Int) := ⟨Int.emod_nonneg _ (by omega), Int.emod_lt_of_pos _ (by omega)⟩
  have hw : 0 ≤ IntKind.u64.wrap (sd x * 2685821657736338717) := by rw [IntKind.wrap_u64]; omega
  have HD : Hid (((dr x n : Nat) : Int) = IntKind.u64.wrap (sd x * 2685821657736338717) / 8589934592 % (n : Int)) := hd
  clear hd
  have hN : (n : Int) ≤ 1000 := by omega
  by_cases hz : x = 0
  · subst hz
    have e : sd 0 = nextI 88172645463325252 := rfl
    rw [e] at hm hw
    unfold nextI at hm hw
    have e2 : (88172645463325252 : Int) / 4096 = 21526524771319 := by decide
    rw [e2] at hm hw
    have hm0 := hm.1
    have hm1 := hm.2
    clear hm e e2
    go_enter Tryz.func156, Tryz.ntmps156
    go_wp2
    go_ret2
    exact ⟨by rw [HD.out]; rfl, rfl⟩
  · have e : sd x = nextI x := by unfold sd; rw [if_neg hz]
    rw [e] at hm hw
    unfold nextI at hm hw
    have hm0 := hm.1
    have hm1 := hm.2
    clear hm
    go_enter Tryz.func156, Tryz.ntmps156
    go_wp2
    go_ret2
    exact ⟨by rw [HD.out, e]; rfl, by rfl⟩
end Go.Proofs.YtflenkppcclclaaGreatDoor

namespace Go.Proofs.YtflenkppcclclaaGreatDoor
open Go.RowKit

theorem mutAns_put {w w' : World} {s : ByteArray} {q : Nat} {b b' : Int} {o : Option (List Int)} (B : Below w.heap.size w w') (h : b = b') (ho : o = some ((nums s).set q b')) : MutAns w o (.returned (.tuple #[.string (strOfNums ((nums s).set q b)), .bool true])) w' := by
  subst h
  rw [ho]
  exact ⟨B, rfl⟩
theorem xor_255 (x : Int) (h0 : 0 ≤ x) (h1 : x ≤ 255) : bits .xor .u8 x 255 = 255 - x := by
  obtain ⟨n, rfl⟩ : ∃ n : Nat, x = n := ⟨x.toNat, by omega⟩
  have h : ∀ n : Nat, n < 256 → bits .xor .u8 (n : Int) 255 = 255 - (n : Int) := by decide +kernel
  exact h n (by omega)
theorem cut_str (s : ByteArray) (i : Nat) : s.extract 0 i ++ s.extract (i + 1) s.size = strOfNums (cutL (nums s) i) := by
  apply nums_inj
  rw [nums_append, nums_extract, nums_extract, nums_str (cut_byt (nums_byt s) i), cutL]
  rw [List.drop_zero, Nat.sub_zero, List.take_of_length_le (i := s.size - (i + 1)) (by simp [nums_len])]
theorem twice_str (s : ByteArray) (i : Nat) (hi : i < s.size) : s.extract 0 (i + 1) ++ s.extract i s.size = strOfNums (twiceL (nums s) i) := by
  have hb := (nums_byt s).at i
  apply nums_inj
  rw [nums_append, nums_extract, nums_extract, twiceL, nums_str (put_byt (nums_byt s) i hb.1 hb.2)]
  rw [List.drop_zero, Nat.sub_zero, List.take_of_length_le (i := s.size - i) (by simp [nums_len])]
  have hl : i < (nums s).length := by rw [nums_len]; exact hi
  have e1 : (nums s).take (i + 1) = (nums s).take i ++ [(nums s).getD i 0] := by
    rw [List.take_add_one, List.getElem?_eq_getElem hl, List.getD_eq_getElem?_getD, List.getElem?_eq_getElem hl]
    rfl
  rw [e1]
  simp
theorem mut_zero (n : Nat) : mutL [] n = none := by
  rw [mut_try]
  simp [tryL, manyL]

set_option maxHeartbeats 2000000 in
set_option maxRecDepth 100000 in
theorem rmut0 (w : World) (s : ByteArray) (L n : Nat) (hL : s.size = L) (hs : L ≤ 24)  (h0 : n < 8 * L) :
    Calls Tryz.prog 106 #[.string s, .int .i64 n] w (MutAns w (mutL (nums s) n)) := by
  have HANS : Hid (mutL (nums s) n = some (chgL (nums s) n 0)) := by
    show _ = _
    have hl : (nums s).length = L := by rw [nums_len, hL]
    rw [mut_try]
    rw [tryL, hl]
    exact if_pos h0
  have hne : ¬ ((L : Int) = 0) := by omega
  have hbig : ¬ (24 : Int) < (L : Int) := by omega
  have hneg : ¬ ((n : Int) < 0) := by omega
  have f0 : (n : Int) < 8 * (L : Int) := by omega
  have HC : Hid (Calls Tryz.prog 154 #[.string s, .int .i64 n] w (StrAns w (strOfNums (flipL (nums s) n)))) := rflip_any w s n (by omega) (by omega)
  go_enter Tryz.func106, Tryz.ntmps106
  go_wp2_with fail
  refine HC.out.mono ?_
  rintro e w1 ⟨B1, rfl⟩
  go_wp2_with fail
  go_ret2
  rw [HANS.out]
  exact ⟨B1, rfl⟩

set_option maxHeartbeats 2000000 in
set_option maxRecDepth 100000 in
theorem rmut1 (w : World) (s : ByteArray) (L n n1 : Nat) (hL : s.size = L) (hs : L ≤ 24) (e1 : n1 = n - (8 * L)) (c0 : ¬ n < 8 * L) (h1 : n1 < 8 * L - 1) :
    Calls Tryz.prog 106 #[.string s, .int .i64 n] w (MutAns w (mutL (nums s) n)) := by
  have HANS : Hid (mutL (nums s) n = some (chgL (nums s) n1 1)) := by
    show _ = _
    have hl : (nums s).length = L := by rw [nums_len, hL]
    rw [mut_try]
    rw [tryL_no (nums s) 7 0 n L hl (show ¬ n < manyL L 0 from c0), show n - manyL L 0 = n1 from e1.symm]
    rw [tryL, hl]
    exact if_pos h1
  have hne : ¬ ((L : Int) = 0) := by omega
  have hbig : ¬ (24 : Int) < (L : Int) := by omega
  have hneg : ¬ ((n : Int) < 0) := by omega
  have f0 : ¬ (n : Int) < 8 * (L : Int) := by omega
  have g1 : (n : Int) - 8 * (L : Int) = (n1 : Int) := by omega
  have f1 : (n1 : Int) < 8 * (L : Int) - 1 := by omega
  have hmn : n ≤ 1000 := by omega
  have HC : Hid (Calls Tryz.prog 154 #[.string s, .int .i64 n1] w (StrAns w (strOfNums (flipL (nums s) n1)))) := rflip_any w s n1 (by omega) (by omega)
  have HD : Hid (∀ w', Calls Tryz.prog 154 #[.string (strOfNums (flipL (nums s) n1)), .int .i64 ((n1 : Int) + 1)] w' (StrAns w' (strOfNums (flipL (flipL (nums s) n1) (n1 + 1))))) := fun w' => by
    have hsz : (strOfNums (flipL (nums s) n1)).size = L := by rw [strOfNums_size, flip_len, nums_len, hL]
    have := rflip_any w' (strOfNums (flipL (nums s) n1)) (n1 + 1) (by omega) (by omega)
    rw [nums_str (flip_byt (nums_byt s) n1)] at this
    exact this
  obtain ⟨t1, ht1⟩ : ∃ t1, strOfNums (flipL (nums s) n1) = t1 := ⟨_, rfl⟩
  rw [ht1] at HC HD
  clear e1 c0
  go_enter Tryz.func106, Tryz.ntmps106
  go_wp2_with fail
  refine HC.out.mono ?_
  rintro e w1 ⟨B1, rfl⟩
  go_wp2_with fail
  refine (HD.out w1).mono ?_
  rintro e w2 ⟨B2, rfl⟩
  go_wp2_with fail
  go_ret2
  rw [HANS.out]
  exact ⟨B1.trans (B2.mono B1.size), rfl⟩

set_option maxHeartbeats 2000000 in
set_option maxRecDepth 100000 in
theorem rmut2 (w : World) (s : ByteArray) (L n n1 n2 : Nat) (hL : s.size = L) (hs : L ≤ 24) (e1 : n1 = n - (8 * L)) (c0 : ¬ n < 8 * L) (e2 : n2 = n1 - (8 * L - 1)) (c1 : ¬ n1 < 8 * L - 1) (h2 : n2 < L) :
    Calls Tryz.prog 106 #[.string s, .int .i64 n] w (MutAns w (mutL (nums s) n)) := by
  have HANS : Hid (mutL (nums s) n = some (chgL (nums s) n2 2)) := by
    show _ = _
    have hl : (nums s).length = L := by rw [nums_len, hL]
    rw [mut_try]
    rw [tryL_no (nums s) 7 0 n L hl (show ¬ n < manyL L 0 from c0), show n - manyL L 0 = n1 from e1.symm]
    rw [tryL_no (nums s) 6 1 n1 L hl (show ¬ n1 < manyL L 1 from c1), show n1 - manyL L 1 = n2 from e2.symm]
    rw [tryL, hl]
    exact if_pos h2
  have hne : ¬ ((L : Int) = 0) := by omega
  have hbig : ¬ (24 : Int) < (L : Int) := by omega
  have hneg : ¬ ((n : Int) < 0) := by omega
  have f0 : ¬ (n : Int) < 8 * (L : Int) := by omega
  have g1 : (n : Int) - 8 * (L : Int) = (n1 : Int) := by omega
  have f1 : ¬ (n1 : Int) < 8 * (L : Int) - 1 := by omega
  have g2 : (n1 : Int) - (8 * (L : Int) - 1) = (n2 : Int) := by omega
  have f2 : (n2 : Int) < (L : Int) := by omega
  have hmn : n ≤ 1000 := by omega
  have hqL : n2 < s.size := by omega
  have hx := nums_get s n2 hqL
  have hxb := (nums_byt s).at n2
  generalize hxx : (nums s).getD n2 0 = x at hx hxb
  have HXX : Hid ((nums s).getD n2 0 = x) := hxx
  clear hxx
  have hqI : (n2 : Int) < (L : Int) := by omega
  have hqI2 : (n2 : Int) < (s.size : Int) := by omega
  clear e1 c0 e2 c1
  go_enter Tryz.func106, Tryz.ntmps106
  go_wp2_with fail
  refine (rput_any _ s n2 _ (by omega) (by omega) (by omega) (by omega)).mono ?_
  rintro e w1 ⟨B1, rfl⟩
  go_wp2_with fail
  go_ret2
  refine mutAns_put B1 ?_ HANS.out
  rw [HXX.out, xor_255 x hxb.1 hxb.2]

set_option maxHeartbeats 2000000 in
set_option maxRecDepth 100000 in
theorem rmut3 (w : World) (s : ByteArray) (L n n1 n2 n3 : Nat) (hL : s.size = L) (hs : L ≤ 24) (e1 : n1 = n - (8 * L)) (c0 : ¬ n < 8 * L) (e2 : n2 = n1 - (8 * L - 1)) (c1 : ¬ n1 < 8 * L - 1) (e3 : n3 = n2 - (L)) (c2 : ¬ n2 < L) (h3 : n3 < 4 * L) :
    Calls Tryz.prog 106 #[.string s, .int .i64 n] w (MutAns w (mutL (nums s) n)) := by
  have HANS : Hid (mutL (nums s) n = some (chgL (nums s) n3 3)) := by
    show _ = _
    have hl : (nums s).length = L := by rw [nums_len, hL]
    rw [mut_try]
    rw [tryL_no (nums s) 7 0 n L hl (show ¬ n < manyL L 0 from c0), show n - manyL L 0 = n1 from e1.symm]
    rw [tryL_no (nums s) 6 1 n1 L hl (show ¬ n1 < manyL L 1 from c1), show n1 - manyL L 1 = n2 from e2.symm]
    rw [tryL_no (nums s) 5 2 n2 L hl (show ¬ n2 < manyL L 2 from c2), show n2 - manyL L 2 = n3 from e3.symm]
    rw [tryL, hl]
    exact if_pos h3
  have hne : ¬ ((L : Int) = 0) := by omega
  have hbig : ¬ (24 : Int) < (L : Int) := by omega
  have hneg : ¬ ((n : Int) < 0) := by omega
  have f0 : ¬ (n : Int) < 8 * (L : Int) := by omega
  have g1 : (n : Int) - 8 * (L : Int) = (n1 : Int) := by omega
  have f1 : ¬ (n1 : Int) < 8 * (L : Int) - 1 := by omega
  have g2 : (n1 : Int) - (8 * (L : Int) - 1) = (n2 : Int) := by omega
  have f2 : ¬ (n2 : Int) < (L : Int) := by omega
  have g3 : (n2 : Int) - (L : Int) = (n3 : Int) := by omega
  have f3 : (n3 : Int) < 4 * (L : Int) := by omega
  have hmn : n ≤ 1000 := by omega
  obtain ⟨q, r, hr, hqr⟩ : ∃ q r, r < 4 ∧ n3 = 4 * q + r := ⟨n3 / 4, n3 % 4, by omega, by omega⟩
  have hqL : q < s.size := by omega
  have q1 : (n3 : Int) / 4 = (q : Int) := by omega
  have q2 : (n3 : Int) % 4 = (r : Int) := by omega
  have hdq : n3 / 4 = q := by omega
  have hdr : n3 % 4 = r := by omega
  have HANS2 := HANS.out
  simp only [chgL, hdq, hdr] at HANS2
  have HA2 : Hid (_ = _) := HANS2
  clear HANS2 hdq hdr
  have HQR : Hid (n3 = 4 * q + r) := hqr
  have hx := nums_get s q hqL
  have hxb := (nums_byt s).at q
  generalize hxx : (nums s).getD q 0 = x at hx hxb
  have HXX : Hid ((nums s).getD q 0 = x) := hxx
  clear hxx
  have hqI : (q : Int) < (L : Int) := by omega
  have hqI2 : (q : Int) < (s.size : Int) := by omega
  clear e1 c0 e2 c1 e3 c2
  clear hqr HQR
  match r, hr with
  | 0, _ | 1, _ | 2, _ | 3, _ =>
    simp at q2
    go_enter Tryz.func106, Tryz.ntmps106
    go_wp2_with fail
    refine (rput_any _ s q _ (by omega) (by omega) (by omega) (by omega)).mono ?_
    rintro e w1 ⟨B1, rfl⟩
    go_wp2_with fail
    go_ret2
    refine mutAns_put B1 ?_ HA2.out
    rw [HXX.out]
    omega
  | r + 4, h => omega

set_option maxHeartbeats 2000000 in
set_option maxRecDepth 100000 in
theorem rmut4 (w : World) (s : ByteArray) (L n n1 n2 n3 n4 : Nat) (hL : s.size = L) (hs : L ≤ 24) (e1 : n1 = n - (8 * L)) (c0 : ¬ n < 8 * L) (e2 : n2 = n1 - (8 * L - 1)) (c1 : ¬ n1 < 8 * L - 1) (e3 : n3 = n2 - (L)) (c2 : ¬ n2 < L) (e4 : n4 = n3 - (4 * L)) (c3 : ¬ n3 < 4 * L) (h4 : n4 < 4 * L) :
    Calls Tryz.prog 106 #[.string s, .int .i64 n] w (MutAns w (mutL (nums s) n)) := by
  have HANS : Hid (mutL (nums s) n = some (chgL (nums s) n4 4)) := by
    show _ = _
    have hl : (nums s).length = L := by rw [nums_len, hL]
    rw [mut_try]
    rw [tryL_no (nums s) 7 0 n L hl (show ¬ n < manyL L 0 from c0), show n - manyL L 0 = n1 from e1.symm]
    rw [tryL_no (nums s) 6 1 n1 L hl (show ¬ n1 < manyL L 1 from c1), show n1 - manyL L 1 = n2 from e2.symm]
    rw [tryL_no (nums s) 5 2 n2 L hl (show ¬ n2 < manyL L 2 from c2), show n2 - manyL L 2 = n3 from e3.symm]
    rw [tryL_no (nums s) 4 3 n3 L hl (show ¬ n3 < manyL L 3 from c3), show n3 - manyL L 3 = n4 from e4.symm]
    rw [tryL, hl]
    exact if_pos h4
  have hne : ¬ ((L : Int) = 0) := by omega
  have hbig : ¬ (24 : Int) < (L : Int) := by omega
  have hneg : ¬ ((n : Int) < 0) := by omega
  have f0 : ¬ (n : Int) < 8 * (L : Int) := by omega
  have g1 : (n : Int) - 8 * (L : Int) = (n1 : Int) := by omega
  have f1 : ¬ (n1 : Int) < 8 * (L : Int) - 1 := by omega
  have g2 : (n1 : Int) - (8 * (L : Int) - 1) = (n2 : Int) := by omega
  have f2 : ¬ (n2 : Int) < (L : Int) := by omega
  have g3 : (n2 : Int) - (L : Int) = (n3 : Int) := by omega
  have f3 : ¬ (n3 : Int) < 4 * (L : Int) := by omega
  have g4 : (n3 : Int) - 4 * (L : Int) = (n4 : Int) := by omega
  have f4 : (n4 : Int) < 4 * (L : Int) := by omega
  have hmn : n ≤ 1000 := by omega
  obtain ⟨q, r, hr, hqr⟩ : ∃ q r, r < 4 ∧ n4 = 4 * q + r := ⟨n4 / 4, n4 % 4, by omega, by omega⟩
  have hqL : q < s.size := by omega
  have q1 : (n4 : Int) / 4 = (q : Int) := by omega
  have q2 : (n4 : Int) % 4 = (r : Int) := by omega
  have hdq : n4 / 4 = q := by omega
  have hdr : n4 % 4 = r := by omega
  have HANS2 := HANS.out
  simp only [chgL, hdq, hdr] at HANS2
  have HA2 : Hid (_ = _) := HANS2
  clear HANS2 hdq hdr
  have HQR : Hid (n4 = 4 * q + r) := hqr
  have hx := nums_get s q hqL
  have hxb := (nums_byt s).at q
  generalize hxx : (nums s).getD q 0 = x at hx hxb
  have HXX : Hid ((nums s).getD q 0 = x) := hxx
  clear hxx
  have hqI : (q : Int) < (L : Int) := by omega
  have hqI2 : (q : Int) < (s.size : Int) := by omega
  clear e1 c0 e2 c1 e3 c2 e4 c3
  clear hqr HQR
  match r, hr with
  | 0, _ | 1, _ | 2, _ | 3, _ =>
    simp at q2
    go_enter Tryz.func106, Tryz.ntmps106
    go_wp2_with fail
    refine (rput_any _ s q _ (by omega) (by omega) (by omega) (by omega)).mono ?_
    rintro e w1 ⟨B1, rfl⟩
    go_wp2_with fail
    go_ret2
    refine mutAns_put B1 ?_ HA2.out
    rw [HXX.out]
    omega
  | r + 4, h => omega

set_option maxHeartbeats 2000000 in
set_option maxRecDepth 100000 in
theorem rmut5 (w : World) (s : ByteArray) (L n n1 n2 n3 n4 n5 : Nat) (hL : s.size = L) (hs : L ≤ 24) (e1 : n1 = n - (8 * L)) (c0 : ¬ n < 8 * L) (e2 : n2 = n1 - (8 * L - 1)) (c1 : ¬ n1 < 8 * L - 1) (e3 : n3 = n2 - (L)) (c2 : ¬ n2 < L) (e4 : n4 = n3 - (4 * L)) (c3 : ¬ n3 < 4 * L) (e5 : n5 = n4 - (4 * L)) (c4 : ¬ n4 < 4 * L) (h5 : n5 < 5 * L) :
    Calls Tryz.prog 106 #[.string s, .int .i64 n] w (MutAns w (mutL (nums s) n)) := by
  have HANS : Hid (mutL (nums s) n = some (chgL (nums s) n5 5)) := by
    show _ = _
    have hl : (nums s).length = L := by rw [nums_len, hL]
    rw [mut_try]
    rw [tryL_no (nums s) 7 0 n L hl (show ¬ n < manyL L 0 from c0), show n - manyL L 0 = n1 from e1.symm]
    rw [tryL_no (nums s) 6 1 n1 L hl (show ¬ n1 < manyL L 1 from c1), show n1 - manyL L 1 = n2 from e2.symm]
    rw [tryL_no (nums s) 5 2 n2 L hl (show ¬ n2 < manyL L 2 from c2), show n2 - manyL L 2 = n3 from e3.symm]
    rw [tryL_no (nums s) 4 3 n3 L hl (show ¬ n3 < manyL L 3 from c3), show n3 - manyL L 3 = n4 from e4.symm]
    rw [tryL_no (nums s) 3 4 n4 L hl (show ¬ n4 < manyL L 4 from c4), show n4 - manyL L 4 = n5 from e5.symm]
    rw [tryL, hl]
    exact if_pos h5
  have hne : ¬ ((L : Int) = 0) := by omega
  have hbig : ¬ (24 : Int) < (L : Int) := by omega
  have hneg : ¬ ((n : Int) < 0) := by omega
  have f0 : ¬ (n : Int) < 8 * (L : Int) := by omega
  have g1 : (n : Int) - 8 * (L : Int) = (n1 : Int) := by omega
  have f1 : ¬ (n1 : Int) < 8 * (L : Int) - 1 := by omega
  have g2 : (n1 : Int) - (8 * (L : Int) - 1) = (n2 : Int) := by omega
  have f2 : ¬ (n2 : Int) < (L : Int) := by omega
  have g3 : (n2 : Int) - (L : Int) = (n3 : Int) := by omega
  have f3 : ¬ (n3 : Int) < 4 * (L : Int) := by omega
  have g4 : (n3 : Int) - 4 * (L : Int) = (n4 : Int) := by omega
  have f4 : ¬ (n4 : Int) < 4 * (L : Int) := by omega
  have g5 : (n4 : Int) - 4 * (L : Int) = (n5 : Int) := by omega
  have f5 : (n5 : Int) < 5 * (L : Int) := by omega
  have hmn : n ≤ 1000 := by omega
  obtain ⟨q, r, hr, hqr⟩ : ∃ q r, r < 5 ∧ n5 = 5 * q + r := ⟨n5 / 5, n5 % 5, by omega, by omega⟩
  have hqL : q < s.size := by omega
  have q1 : (n5 : Int) / 5 = (q : Int) := by omega
  have q2 : (n5 : Int) % 5 = (r : Int) := by omega
  have hdq : n5 / 5 = q := by omega
  have hdr : n5 % 5 = r := by omega
  have HANS2 := HANS.out
  simp only [chgL, hdq, hdr] at HANS2
  have HA2 : Hid (_ = _) := HANS2
  clear HANS2 hdq hdr
  have HQR : Hid (n5 = 5 * q + r) := hqr
  have hqI : (q : Int) < (L : Int) := by omega
  have hqI2 : (q : Int) < (s.size : Int) := by omega
  clear e1 c0 e2 c1 e3 c2 e4 c3 e5 c4
  clear hqr HQR
  match r, hr with
  | 0, _ | 1, _ | 2, _ | 3, _ | 4, _ =>
    simp at q2
    go_enter Tryz.func106, Tryz.ntmps106
    go_wp2_with fail
    refine (rput_any _ s q _ (by omega) (by omega) (by omega) (by omega)).mono ?_
    rintro e w1 ⟨B1, rfl⟩
    go_wp2_with fail
    go_ret2
    refine mutAns_put (((Below.refl _ _).alloc (Nat.le_refl _) _).trans (B1.mono (by simp))) ?_ HA2.out
    rfl
  | r + 5, h => omega

set_option maxHeartbeats 2000000 in
set_option maxRecDepth 100000 in
theorem rmut6 (w : World) (s : ByteArray) (L n n1 n2 n3 n4 n5 n6 : Nat) (hL : s.size = L) (hs : L ≤ 24) (e1 : n1 = n - (8 * L)) (c0 : ¬ n < 8 * L) (e2 : n2 = n1 - (8 * L - 1)) (c1 : ¬ n1 < 8 * L - 1) (e3 : n3 = n2 - (L)) (c2 : ¬ n2 < L) (e4 : n4 = n3 - (4 * L)) (c3 : ¬ n3 < 4 * L) (e5 : n5 = n4 - (4 * L)) (c4 : ¬ n4 < 4 * L) (e6 : n6 = n5 - (5 * L)) (c5 : ¬ n5 < 5 * L) (h6 : n6 < L) :
    Calls Tryz.prog 106 #[.string s, .int .i64 n] w (MutAns w (mutL (nums s) n)) := by
  have HANS : Hid (mutL (nums s) n = some (chgL (nums s) n6 6)) := by
    show _ = _
    have hl : (nums s).length = L := by rw [nums_len, hL]
    rw [mut_try]
    rw [tryL_no (nums s) 7 0 n L hl (show ¬ n < manyL L 0 from c0), show n - manyL L 0 = n1 from e1.symm]
    rw [tryL_no (nums s) 6 1 n1 L hl (show ¬ n1 < manyL L 1 from c1), show n1 - manyL L 1 = n2 from e2.symm]
    rw [tryL_no (nums s) 5 2 n2 L hl (show ¬ n2 < manyL L 2 from c2), show n2 - manyL L 2 = n3 from e3.symm]
    rw [tryL_no (nums s) 4 3 n3 L hl (show ¬ n3 < manyL L 3 from c3), show n3 - manyL L 3 = n4 from e4.symm]
    rw [tryL_no (nums s) 3 4 n4 L hl (show ¬ n4 < manyL L 4 from c4), show n4 - manyL L 4 = n5 from e5.symm]
    rw [tryL_no (nums s) 2 5 n5 L hl (show ¬ n5 < manyL L 5 from c5), show n5 - manyL L 5 = n6 from e6.symm]
    rw [tryL, hl]
    exact if_pos h6
  have hne : ¬ ((L : Int) = 0) := by omega
  have hbig : ¬ (24 : Int) < (L : Int) := by omega
  have hneg : ¬ ((n : Int) < 0) := by omega
  have f0 : ¬ (n : Int) < 8 * (L : Int) := by omega
  have g1 : (n : Int) - 8 * (L : Int) = (n1 : Int) := by omega
  have f1 : ¬ (n1 : Int) < 8 * (L : Int) - 1 := by omega
  have g2 : (n1 : Int) - (8 * (L : Int) - 1) = (n2 : Int) := by omega
  have f2 : ¬ (n2 : Int) < (L : Int) := by omega
  have g3 : (n2 : Int) - (L : Int) = (n3 : Int) := by omega
  have f3 : ¬ (n3 : Int) < 4 * (L : Int) := by omega
  have g4 : (n3 : Int) - 4 * (L : Int) = (n4 : Int) := by omega
  have f4 : ¬ (n4 : Int) < 4 * (L : Int) := by omega
  have g5 : (n4 : Int) - 4 * (L : Int) = (n5 : Int) := by omega
  have f5 : ¬ (n5 : Int) < 5 * (L : Int) := by omega
  have g6 : (n5 : Int) - 5 * (L : Int) = (n6 : Int) := by omega
  have f6 : (n6 : Int) < (L : Int) := by omega
  have hmn : n ≤ 1000 := by omega
  have HS : Hid (s.extract 0 n6 ++ s.extract (n6 + 1) L = strOfNums (chgL (nums s) n6 6)) := by rw [← hL]; exact cut_str s n6
  have k1 : (0 : Int) ≤ (n6 : Int) := by omega
  have k2 : (n6 : Int) ≤ (L : Int) := by omega
  have k3 : (0 : Int) ≤ (n6 : Int) + 1 := by omega
  have k4 : (n6 : Int) + 1 ≤ (L : Int) := by omega
  have k5 : ((n6 : Int) + 1).toNat = n6 + 1 := by omega
  clear e1 c0 e2 c1 e3 c2 e4 c3 e5 c4 e6 c5
  go_enter Tryz.func106, Tryz.ntmps106
  go_wp2_with fail
  go_quiet (fail)
  go_wp2_with fail
  go_ret2
  rw [HANS.out]
  refine ⟨⟨rfl, rfl, rfl, Nat.le_refl _, fun _ _ => rfl⟩, ?_⟩
  show Ending.returned (.tuple #[.string (s.extract 0 n6 ++ s.extract (n6 + 1) L), .bool true]) = _
  rw [HS.out]
  rfl

set_option maxHeartbeats 2000000 in
set_option maxRecDepth 100000 in
theorem rmut7 (w : World) (s : ByteArray) (L n n1 n2 n3 n4 n5 n6 n7 : Nat) (hL : s.size = L) (hs : L ≤ 24) (e1 : n1 = n - (8 * L)) (c0 : ¬ n < 8 * L) (e2 : n2 = n1 - (8 * L - 1)) (c1 : ¬ n1 < 8 * L - 1) (e3 : n3 = n2 - (L)) (c2 : ¬ n2 < L) (e4 : n4 = n3 - (4 * L)) (c3 : ¬ n3 < 4 * L) (e5 : n5 = n4 - (4 * L)) (c4 : ¬ n4 < 4 * L) (e6 : n6 = n5 - (5 * L)) (c5 : ¬ n5 < 5 * L) (e7 : n7 = n6 - (L)) (c6 : ¬ n6 < L) (h7 : n7 < L) (h24 : L < 24) :
    Calls Tryz.prog 106 #[.string s, .int .i64 n] w (MutAns w (mutL (nums s) n)) := by
  have HANS : Hid (mutL (nums s) n = some (chgL (nums s) n7 7)) := by
    show _ = _
    have hl : (nums s).length = L := by rw [nums_len, hL]
    rw [mut_try]
    rw [tryL_no (nums s) 7 0 n L hl (show ¬ n < manyL L 0 from c0), show n - manyL L 0 = n1 from e1.symm]
    rw [tryL_no (nums s) 6 1 n1 L hl (show ¬ n1 < manyL L 1 from c1), show n1 - manyL L 1 = n2 from e2.symm]
    rw [tryL_no (nums s) 5 2 n2 L hl (show ¬ n2 < manyL L 2 from c2), show n2 - manyL L 2 = n3 from e3.symm]
    rw [tryL_no (nums s) 4 3 n3 L hl (show ¬ n3 < manyL L 3 from c3), show n3 - manyL L 3 = n4 from e4.symm]
    rw [tryL_no (nums s) 3 4 n4 L hl (show ¬ n4 < manyL L 4 from c4), show n4 - manyL L 4 = n5 from e5.symm]
    rw [tryL_no (nums s) 2 5 n5 L hl (show ¬ n5 < manyL L 5 from c5), show n5 - manyL L 5 = n6 from e6.symm]
    rw [tryL_no (nums s) 1 6 n6 L hl (show ¬ n6 < manyL L 6 from c6), show n6 - manyL L 6 = n7 from e7.symm]
    rw [tryL, hl]
    exact if_pos (show n7 < (if 24 ≤ L then 0 else L) by rw [if_neg (by omega)]; exact h7)
  have hne : ¬ ((L : Int) = 0) := by omega
  have hbig : ¬ (24 : Int) < (L : Int) := by omega
  have hneg : ¬ ((n : Int) < 0) := by omega
  have f0 : ¬ (n : Int) < 8 * (L : Int) := by omega
  have g1 : (n : Int) - 8 * (L : Int) = (n1 : Int) := by omega
  have f1 : ¬ (n1 : Int) < 8 * (L : Int) - 1 := by omega
  have g2 : (n1 : Int) - (8 * (L : Int) - 1) = (n2 : Int) := by omega
  have f2 : ¬ (n2 : Int) < (L : Int) := by omega
  have g3 : (n2 : Int) - (L : Int) = (n3 : Int) := by omega
  have f3 : ¬ (n3 : Int) < 4 * (L : Int) := by omega
  have g4 : (n3 : Int) - 4 * (L : Int) = (n4 : Int) := by omega
  have f4 : ¬ (n4 : Int) < 4 * (L : Int) := by omega
  have g5 : (n4 : Int) - 4 * (L : Int) = (n5 : Int) := by omega
  have f5 : ¬ (n5 : Int) < 5 * (L : Int) := by omega
  have g6 : (n5 : Int) - 5 * (L : Int) = (n6 : Int) := by omega
  have f6 : ¬ (n6 : Int) < (L : Int) := by omega
  have g7 : (n6 : Int) - (L : Int) = (n7 : Int) := by omega
  have f7 : (n7 : Int) < (L : Int) := by omega
  have f24 : (L : Int) < 24 := by omega
  have hmn : n ≤ 1000 := by omega
  have HS : Hid (s.extract 0 (n7 + 1) ++ s.extract n7 L = strOfNums (chgL (nums s) n7 7)) := by rw [← hL]; exact twice_str s n7 (by omega)
  have k1 : (0 : Int) ≤ (n7 : Int) := by omega
  have k2 : (n7 : Int) ≤ (L : Int) := by omega
  have k3 : (0 : Int) ≤ (n7 : Int) + 1 := by omega
  have k4 : (n7 : Int) + 1 ≤ (L : Int) := by omega
  have k5 : ((n7 : Int) + 1).toNat = n7 + 1 := by omega
  clear e1 c0 e2 c1 e3 c2 e4 c3 e5 c4 e6 c5 e7 c6
  go_enter Tryz.func106, Tryz.ntmps106
  go_wp2_with fail
  go_quiet (fail)
  go_wp2_with fail
  go_ret2
  rw [HANS.out]
  refine ⟨⟨rfl, rfl, rfl, Nat.le_refl _, fun _ _ => rfl⟩, ?_⟩
  show Ending.returned (.tuple #[.string (s.extract 0 (n7 + 1) ++ s.extract n7 L), .bool true]) = _
  rw [HS.out]
  rfl

end Go.Proofs.YtflenkppcclclaaGreatDoor

