import Derived.Test.YtflenkppcclclaaGreatDoorM21
import Derived.Laws.EntriesVeiled
namespace Go.Proofs.YtflenkppcclclaaGreatDoor
open Go.RowKit

/-- What Mutant answers. -/
def MutAns (w : World) (o : Option (List Int)) (e : Ending) (w' : World) : Prop :=
  Below w.heap.size w w' ∧ e = .returned (.tuple #[.string ((o.map strOfNums).getD ⟨#[]⟩), .bool o.isSome])

theorem Mrk.below {w w' : World} {B : Nat} (h : Mrk w) (b : Below B w w') (hB : 2 < B) : Mrk w' := fun k hk => (b.cell (p := ⟨2, k, none⟩) hB).trans (h k hk)

/-- A text as it was converted, in a world behind whatever. -/
theorem conv_at (W : World) (s : ByteArray) (hs : s.size ≤ 1000) : Txt (Lib.bytesWorld W 5 s) W.heap.size (grownCap W s.size 0 5) (nums s) ∧ Below W.heap.size W (Lib.bytesWorld W 5 s) := by
  obtain ⟨w', cap, h, T, B, _⟩ := conv_in W s hs
  rw [Lib.run_convert_string_bytes W 9 25 5 s Tryz.underlying9 Tryz.underlying25 Tryz.underlying5] at h
  simp only [Result.ok.injEq, Value.slice.injEq, true_and] at h
  obtain ⟨rfl, rfl⟩ := h
  exact ⟨T, B⟩

theorem tryL_no (l : List Int) (d j m L : Nat) (hL : l.length = L) (h : ¬ m < manyL L j) : tryL l (d + 1) j m = tryL l d (j + 1) (m - manyL L j) := by
  subst hL
  exact if_neg h

set_option maxHeartbeats 8000000 in
set_option maxRecDepth 100000 in
theorem cMutant_any (s : ByteArray) (hs : s.size ≤ 24) (n : Nat) (hn : n ≤ 9223372036854775807) (w : World) (hM : Mrk w) :
    Calls Tryz.prog 120 #[.string s, .int .i64 n] w (MutAns w (mutL (nums s) n)) := by
  have hz : 2 < w.heap.size := World.block_lt_of_cell? w ⟨2, 0, none⟩ (hM 0 (by omega))
  have HM : Hid (Mrk w) := hM
  have hn24 : (nums s).length ≤ 1000 := by rw [nums_len]; omega
  have H0 : Hid (tryL (nums s) 8 0 n = mutL (nums s) n) := (mut_try _ _).symm
  have hconv : ∀ W, (convert 9 25 (.string s)).run Tryz.prog W = .ok (.slice (some ⟨W.heap.size, 0, none⟩) s.size (grownCap W s.size 0 5)) (Lib.bytesWorld W 5 s) := fun W => Lib.run_convert_string_bytes W 9 25 5 s Tryz.underlying9 Tryz.underlying25 Tryz.underlying5
  generalize hL : s.size = L at *
  clear hM
  go_enter Tryz.func120, Tryz.ntmps120
  go_wp2_with fail
  refine (kinds_any L hs w).mono ?_
  rintro e w1 ⟨rfl, hw1⟩
  have HB1 : Hid (Below w.heap.size w w1) := by rw [hw1]; exact (Below.refl _ _).alloc (Nat.le_refl _) _
  have hsz : w1.heap.size = w.heap.size + 1 := by rw [hw1]; simp
  have a0 : w1.cell? ⟨w.heap.size, 0, none⟩ = some (.int .i64 ((8 * L : Nat) : Int)) := by rw [hw1, kindsObj, World.cell?_alloc_new]; rfl
  have b0 : w1.cell? ⟨w.heap.size, 1, none⟩ = some (.func (.func 203) #[] #[]) := by rw [hw1, kindsObj, World.cell?_alloc_new]; rfl
  have a1 : w1.cell? ⟨w.heap.size, 2, none⟩ = some (.int .i64 ((8 * L - 1 : Nat) : Int)) := by rw [hw1, kindsObj, World.cell?_alloc_new]; rfl
  have b1 : w1.cell? ⟨w.heap.size, 3, none⟩ = some (.func (.func 204) #[] #[]) := by rw [hw1, kindsObj, World.cell?_alloc_new]; rfl
  have a2 : w1.cell? ⟨w.heap.size, 4, none⟩ = some (.int .i64 ((L : Nat) : Int)) := by rw [hw1, kindsObj, World.cell?_alloc_new]; rfl
  have b2 : w1.cell? ⟨w.heap.size, 5, none⟩ = some (.func (.func 205) #[] #[]) := by rw [hw1, kindsObj, World.cell?_alloc_new]; rfl
  have a3 : w1.cell? ⟨w.heap.size, 6, none⟩ = some (.int .i64 ((4 * L : Nat) : Int)) := by rw [hw1, kindsObj, World.cell?_alloc_new]; rfl
  have b3 : w1.cell? ⟨w.heap.size, 7, none⟩ = some (.func (.func 206) #[] #[]) := by rw [hw1, kindsObj, World.cell?_alloc_new]; rfl
  have a4 : w1.cell? ⟨w.heap.size, 8, none⟩ = some (.int .i64 ((4 * L : Nat) : Int)) := by rw [hw1, kindsObj, World.cell?_alloc_new]; rfl
  have b4 : w1.cell? ⟨w.heap.size, 9, none⟩ = some (.func (.func 207) #[] #[]) := by rw [hw1, kindsObj, World.cell?_alloc_new]; rfl
  have a5 : w1.cell? ⟨w.heap.size, 10, none⟩ = some (.int .i64 ((5 * L : Nat) : Int)) := by rw [hw1, kindsObj, World.cell?_alloc_new]; rfl
  have b5 : w1.cell? ⟨w.heap.size, 11, none⟩ = some (.func (.func 208) #[] #[]) := by rw [hw1, kindsObj, World.cell?_alloc_new]; rfl
  have a6 : w1.cell? ⟨w.heap.size, 12, none⟩ = some (.int .i64 ((L : Nat) : Int)) := by rw [hw1, kindsObj, World.cell?_alloc_new]; rfl
  have b6 : w1.cell? ⟨w.heap.size, 13, none⟩ = some (.func (.func 209) #[] #[]) := by rw [hw1, kindsObj, World.cell?_alloc_new]; rfl
  have a7 : w1.cell? ⟨w.heap.size, 14, none⟩ = some (.int .i64 ((if 24 ≤ L then 0 else L : Nat) : Int)) := by rw [hw1, kindsObj, World.cell?_alloc_new]; rfl
  have b7 : w1.cell? ⟨w.heap.size, 15, none⟩ = some (.func (.func 210) #[] #[]) := by rw [hw1, kindsObj, World.cell?_alloc_new]; rfl
  have HA : Hid (∀ wr, Below (w.heap.size + 1) w1 wr → ∀ k, k < 16 → wr.cell? ⟨w.heap.size, k, none⟩ = w1.cell? ⟨w.heap.size, k, none⟩) := fun wr hb k _ => hb.cell (p := ⟨w.heap.size, k, none⟩) (Nat.lt_succ_self _)
  clear hw1
  go_wp2_with fail
  go_loopw [1, 14] (fun x i wr => ∃ j m : Nat, j ≤ 8 ∧ m ≤ n ∧ x = .int .i64 m ∧ i = .int .i64 j ∧ tryL (nums s) (8 - j) j m = mutL (nums s) n ∧ Below (w.heap.size + 1) w1 wr) (fun _ i _ => 8 - (intOf i).toNat)
  case atStart => exact ⟨0, n, by omega, Nat.le_refl _, rfl, rfl, H0.out, Below.refl _ _⟩
  case round =>
    obtain ⟨j, m, hj, hmn, rfl, rfl, htry, hB⟩ := hrel
    have hszr : w.heap.size + 1 ≤ wr.heap.size := by have := hB.size; omega
    have HBr : Hid (Below (w.heap.size + 1) w1 wr) := hB
    have HT : Hid (tryL (nums s) (8 - j) j m = mutL (nums s) n) := htry
    clear htry
    match j, hj with
    | 0, _ =>
      have a := (HA.out wr hB 0 (by omega)).trans a0
      have b := (HA.out wr hB 1 (by omega)).trans b0
      clear hB a0 b0 a1 b1 a2 b2 a3 b3 a4 b4 a5 b5 a6 b6 a7 b7 HA
      by_cases hlt : m < (8 * L)
      · have hlt' : (m : Int) < ((8 * L : Nat) : Int) := by omega
        have HANS : Hid (mutL (nums s) n = some (chgL (nums s) m 0)) := by
          rw [← HT.out, show 8 - 0 = 7 + 1 from rfl, tryL, nums_len, hL]
          exact if_pos hlt
        generalize hmany : ((8 * L : Nat) : Int) = MM at *
        go_wp2_with fail
        obtain ⟨T0, B0⟩ := conv_at (wr.alloc (.cells #[.int .i64 MM, .func (.func 203) #[] #[]] 217)) s (by omega)
        rw [World.size_alloc, hL] at T0
        have B0m := B0.mono (B' := wr.heap.size) (by simp)
        have B0n : Below wr.heap.size wr (Lib.bytesWorld (wr.alloc (.cells #[.int .i64 MM, .func (.func 203) #[] #[]] 217)) 5 s) := ((Below.refl _ _).alloc (Nat.le_refl _) _).trans B0m
        clear B0 B0m
        generalize Lib.bytesWorld (wr.alloc (.cells #[.int .i64 MM, .func (.func 203) #[] #[]] 217)) 5 s = w3 at T0 B0n ⊢
        generalize grownCap (wr.alloc (.cells #[.int .i64 MM, .func (.func 203) #[] #[]] 217)) L 0 5 = G3 at T0 ⊢
        have eL : (nums s).length = L := by rw [nums_len, hL]
        have HCC : Calls Tryz.prog 203 #[.slice (some ⟨wr.heap.size + 1, 0, none⟩) (nums s).length G3, .int .i64 m] w3 (TxtAns w3 (wr.heap.size + 1) (chgL (nums s) m 0)) := invBit_any _ _ _ _ T0 hn24 m (by rw [eL]; exact hlt)
        rw [eL] at HCC
        generalize chgL (nums s) m 0 = lx at HCC HANS
        refine HCC.mono ?_
        rintro e w2 ⟨g2, cap2, hg2, rfl, T2, B2⟩
        have cv := conv_back T2
        generalize lx.length = L2 at cv ⊢
        have HB2 : Hid (Below w.heap.size w w2) := (HB1.out.trans (HBr.out.mono (by omega))).trans ((B0n.mono (by omega)).trans (B2.mono (by omega)))
        clear T0 B0n HCC B2 T2
        go_wp2_with fail
        go_ret2
        refine ⟨HB2.out, ?_⟩
        rw [HANS.out]
        rfl
      · have hlt' : ¬ (m : Int) < ((8 * L : Nat) : Int) := by omega
        have HN : Hid (tryL (nums s) (8 - (0 + 1)) (0 + 1) (m - (8 * L)) = mutL (nums s) n) := by
          have ht := HT.out
          rw [show 8 - 0 = 7 + 1 from rfl, tryL_no _ _ _ _ L (by rw [nums_len, hL]) hlt] at ht
          exact ht
        have hsub : (m : Int) - ((8 * L : Nat) : Int) = ((m - (8 * L) : Nat) : Int) := by omega
        have hsub0 : (0 : Int) ≤ ((m - (8 * L) : Nat) : Int) := by omega
        have hle : m - (8 * L) ≤ n := by omega
        generalize hrest : m - (8 * L) = M1 at *
        generalize hmany : ((8 * L : Nat) : Int) = MM at *
        go_wp2_with fail
        go_roundw
        case rel => exact ⟨0 + 1, M1, by omega, hle, by first | rfl | rw [hsub], rfl, HN.out, HBr.out.alloc (by omega) _⟩
        case measure => simp [intOf]
    | 1, _ =>
      have a := (HA.out wr hB 2 (by omega)).trans a1
      have b := (HA.out wr hB 3 (by omega)).trans b1
      clear hB a0 b0 a1 b1 a2 b2 a3 b3 a4 b4 a5 b5 a6 b6 a7 b7 HA
      by_cases hlt : m < (8 * L - 1)
      · have hlt' : (m : Int) < ((8 * L - 1 : Nat) : Int) := by omega
        have HANS : Hid (mutL (nums s) n = some (chgL (nums s) m 1)) := by
          rw [← HT.out, show 8 - 1 = 6 + 1 from rfl, tryL, nums_len, hL]
          exact if_pos hlt
        generalize hmany : ((8 * L - 1 : Nat) : Int) = MM at *
        go_wp2_with fail
        obtain ⟨T0, B0⟩ := conv_at (wr.alloc (.cells #[.int .i64 MM, .func (.func 204) #[] #[]] 217)) s (by omega)
        rw [World.size_alloc, hL] at T0
        have B0m := B0.mono (B' := wr.heap.size) (by simp)
        have B0n : Below wr.heap.size wr (Lib.bytesWorld (wr.alloc (.cells #[.int .i64 MM, .func (.func 204) #[] #[]] 217)) 5 s) := ((Below.refl _ _).alloc (Nat.le_refl _) _).trans B0m
        clear B0 B0m
        generalize Lib.bytesWorld (wr.alloc (.cells #[.int .i64 MM, .func (.func 204) #[] #[]] 217)) 5 s = w3 at T0 B0n ⊢
        generalize grownCap (wr.alloc (.cells #[.int .i64 MM, .func (.func 204) #[] #[]] 217)) L 0 5 = G3 at T0 ⊢
        have eL : (nums s).length = L := by rw [nums_len, hL]
        have HCC : Calls Tryz.prog 204 #[.slice (some ⟨wr.heap.size + 1, 0, none⟩) (nums s).length G3, .int .i64 m] w3 (TxtAns w3 (wr.heap.size + 1) (chgL (nums s) m 1)) := invTwo_any _ _ _ _ T0 hn24 m (by rw [eL]; omega)
        rw [eL] at HCC
        generalize chgL (nums s) m 1 = lx at HCC HANS
        refine HCC.mono ?_
        rintro e w2 ⟨g2, cap2, hg2, rfl, T2, B2⟩
        have cv := conv_back T2
        generalize lx.length = L2 at cv ⊢
        have HB2 : Hid (Below w.heap.size w w2) := (HB1.out.trans (HBr.out.mono (by omega))).trans ((B0n.mono (by omega)).trans (B2.mono (by omega)))
        clear T0 B0n HCC B2 T2
        go_wp2_with fail
        go_ret2
        refine ⟨HB2.out, ?_⟩
        rw [HANS.out]
        rfl
      · have hlt' : ¬ (m : Int) < ((8 * L - 1 : Nat) : Int) := by omega
        have HN : Hid (tryL (nums s) (8 - (1 + 1)) (1 + 1) (m - (8 * L - 1)) = mutL (nums s) n) := by
          have ht := HT.out
          rw [show 8 - 1 = 6 + 1 from rfl, tryL_no _ _ _ _ L (by rw [nums_len, hL]) hlt] at ht
          exact ht
        have hsub : (m : Int) - ((8 * L - 1 : Nat) : Int) = ((m - (8 * L - 1) : Nat) : Int) := by omega
        have hsub0 : (0 : Int) ≤ ((m - (8 * L - 1) : Nat) : Int) := by omega
        have hle : m - (8 * L - 1) ≤ n := by omega
        generalize hrest : m - (8 * L - 1) = M1 at *
        generalize hmany : ((8 * L - 1 : Nat) : Int) = MM at *
        go_wp2_with fail
        go_roundw
        case rel => exact ⟨1 + 1, M1, by omega, hle, by first | rfl | rw [hsub], rfl, HN.out, HBr.out.alloc (by omega) _⟩
        case measure => simp [intOf]
    | 2, _ =>
      have a := (HA.out wr hB 4 (by omega)).trans a2
      have b := (HA.out wr hB 5 (by omega)).trans b2
      clear hB a0 b0 a1 b1 a2 b2 a3 b3 a4 b4 a5 b5 a6 b6 a7 b7 HA
      by_cases hlt : m < (L)
      · have hlt' : (m : Int) < ((L : Nat) : Int) := by omega
        have HANS : Hid (mutL (nums s) n = some (chgL (nums s) m 2)) := by
          rw [← HT.out, show 8 - 2 = 5 + 1 from rfl, tryL, nums_len, hL]
          exact if_pos hlt
        generalize hmany : ((L : Nat) : Int) = MM at *
        go_wp2_with fail
        obtain ⟨T0, B0⟩ := conv_at (wr.alloc (.cells #[.int .i64 MM, .func (.func 205) #[] #[]] 217)) s (by omega)
        rw [World.size_alloc, hL] at T0
        have B0m := B0.mono (B' := wr.heap.size) (by simp)
        have B0n : Below wr.heap.size wr (Lib.bytesWorld (wr.alloc (.cells #[.int .i64 MM, .func (.func 205) #[] #[]] 217)) 5 s) := ((Below.refl _ _).alloc (Nat.le_refl _) _).trans B0m
        clear B0 B0m
        generalize Lib.bytesWorld (wr.alloc (.cells #[.int .i64 MM, .func (.func 205) #[] #[]] 217)) 5 s = w3 at T0 B0n ⊢
        generalize grownCap (wr.alloc (.cells #[.int .i64 MM, .func (.func 205) #[] #[]] 217)) L 0 5 = G3 at T0 ⊢
        have eL : (nums s).length = L := by rw [nums_len, hL]
        have HCC : Calls Tryz.prog 205 #[.slice (some ⟨wr.heap.size + 1, 0, none⟩) (nums s).length G3, .int .i64 m] w3 (TxtAns w3 (wr.heap.size + 1) (chgL (nums s) m 2)) := invByte_any _ _ _ _ T0 m (by rw [eL]; exact hlt)
        rw [eL] at HCC
        generalize chgL (nums s) m 2 = lx at HCC HANS
        refine HCC.mono ?_
        rintro e w2 ⟨g2, cap2, hg2, rfl, T2, B2⟩
        have cv := conv_back T2
        generalize lx.length = L2 at cv ⊢
        have HB2 : Hid (Below w.heap.size w w2) := (HB1.out.trans (HBr.out.mono (by omega))).trans ((B0n.mono (by omega)).trans (B2.mono (by omega)))
        clear T0 B0n HCC B2 T2
        go_wp2_with fail
        go_ret2
        refine ⟨HB2.out, ?_⟩
        rw [HANS.out]
        rfl
      · have hlt' : ¬ (m : Int) < ((L : Nat) : Int) := by omega
        have HN : Hid (tryL (nums s) (8 - (2 + 1)) (2 + 1) (m - (L)) = mutL (nums s) n) := by
          have ht := HT.out
          rw [show 8 - 2 = 5 + 1 from rfl, tryL_no _ _ _ _ L (by rw [nums_len, hL]) hlt] at ht
          exact ht
        have hsub : (m : Int) - ((L : Nat) : Int) = ((m - (L) : Nat) : Int) := by omega
        have hsub0 : (0 : Int) ≤ ((m - (L) : Nat) : Int) := by omega
        have hle : m - (L) ≤ n := by omega
        generalize hrest : m - (L) = M1 at *
        generalize hmany : ((L : Nat) : Int) = MM at *
        go_wp2_with fail
        go_roundw
        case rel => exact ⟨2 + 1, M1, by omega, hle, by first | rfl | rw [hsub], rfl, HN.out, HBr.out.alloc (by omega) _⟩
        case measure => simp [intOf]
    | 3, _ =>
      have a := (HA.out wr hB 6 (by omega)).trans a3
      have b := (HA.out wr hB 7 (by omega)).trans b3
      clear hB a0 b0 a1 b1 a2 b2 a3 b3 a4 b4 a5 b5 a6 b6 a7 b7 HA
      by_cases hlt : m < (4 * L)
      · have hlt' : (m : Int) < ((4 * L : Nat) : Int) := by omega
        have HANS : Hid (mutL (nums s) n = some (chgL (nums s) m 3)) := by
          rw [← HT.out, show 8 - 3 = 4 + 1 from rfl, tryL, nums_len, hL]
          exact if_pos hlt
        generalize hmany : ((4 * L : Nat) : Int) = MM at *
        go_wp2_with fail
        obtain ⟨T0, B0⟩ := conv_at (wr.alloc (.cells #[.int .i64 MM, .func (.func 206) #[] #[]] 217)) s (by omega)
        rw [World.size_alloc, hL] at T0
        have B0m := B0.mono (B' := wr.heap.size) (by simp)
        have B0n : Below wr.heap.size wr (Lib.bytesWorld (wr.alloc (.cells #[.int .i64 MM, .func (.func 206) #[] #[]] 217)) 5 s) := ((Below.refl _ _).alloc (Nat.le_refl _) _).trans B0m
        clear B0 B0m
        generalize Lib.bytesWorld (wr.alloc (.cells #[.int .i64 MM, .func (.func 206) #[] #[]] 217)) 5 s = w3 at T0 B0n ⊢
        generalize grownCap (wr.alloc (.cells #[.int .i64 MM, .func (.func 206) #[] #[]] 217)) L 0 5 = G3 at T0 ⊢
        have eL : (nums s).length = L := by rw [nums_len, hL]
        have HCC : Calls Tryz.prog 206 #[.slice (some ⟨wr.heap.size + 1, 0, none⟩) (nums s).length G3, .int .i64 m] w3 (TxtAns w3 (wr.heap.size + 1) (chgL (nums s) m 3)) := raise_any _ _ _ _ T0 hn24 m (by rw [eL]; exact hlt)
        rw [eL] at HCC
        generalize chgL (nums s) m 3 = lx at HCC HANS
        refine HCC.mono ?_
        rintro e w2 ⟨g2, cap2, hg2, rfl, T2, B2⟩
        have cv := conv_back T2
        generalize lx.length = L2 at cv ⊢
        have HB2 : Hid (Below w.heap.size w w2) := (HB1.out.trans (HBr.out.mono (by omega))).trans ((B0n.mono (by omega)).trans (B2.mono (by omega)))
        clear T0 B0n HCC B2 T2
        go_wp2_with fail
        go_ret2
        refine ⟨HB2.out, ?_⟩
        rw [HANS.out]
        rfl
      · have hlt' : ¬ (m : Int) < ((4 * L : Nat) : Int) := by omega
        have HN : Hid (tryL (nums s) (8 - (3 + 1)) (3 + 1) (m - (4 * L)) = mutL (nums s) n) := by
          have ht := HT.out
          rw [show 8 - 3 = 4 + 1 from rfl, tryL_no _ _ _ _ L (by rw [nums_len, hL]) hlt] at ht
          exact ht
        have hsub : (m : Int) - ((4 * L : Nat) : Int) = ((m - (4 * L) : Nat) : Int) := by omega
        have hsub0 : (0 : Int) ≤ ((m - (4 * L) : Nat) : Int) := by omega
        have hle : m - (4 * L) ≤ n := by omega
        generalize hrest : m - (4 * L) = M1 at *
        generalize hmany : ((4 * L : Nat) : Int) = MM at *
        go_wp2_with fail
        go_roundw
        case rel => exact ⟨3 + 1, M1, by omega, hle, by first | rfl | rw [hsub], rfl, HN.out, HBr.out.alloc (by omega) _⟩
        case measure => simp [intOf]
    | 4, _ =>
      have a := (HA.out wr hB 8 (by omega)).trans a4
      have b := (HA.out wr hB 9 (by omega)).trans b4
      clear hB a0 b0 a1 b1 a2 b2 a3 b3 a4 b4 a5 b5 a6 b6 a7 b7 HA
      by_cases hlt : m < (4 * L)
      · have hlt' : (m : Int) < ((4 * L : Nat) : Int) := by omega
        have HANS : Hid (mutL (nums s) n = some (chgL (nums s) m 4)) := by
          rw [← HT.out, show 8 - 4 = 3 + 1 from rfl, tryL, nums_len, hL]
          exact if_pos hlt
        generalize hmany : ((4 * L : Nat) : Int) = MM at *
        go_wp2_with fail
        obtain ⟨T0, B0⟩ := conv_at (wr.alloc (.cells #[.int .i64 MM, .func (.func 207) #[] #[]] 217)) s (by omega)
        rw [World.size_alloc, hL] at T0
        have B0m := B0.mono (B' := wr.heap.size) (by simp)
        have B0n : Below wr.heap.size wr (Lib.bytesWorld (wr.alloc (.cells #[.int .i64 MM, .func (.func 207) #[] #[]] 217)) 5 s) := ((Below.refl _ _).alloc (Nat.le_refl _) _).trans B0m
        clear B0 B0m
        generalize Lib.bytesWorld (wr.alloc (.cells #[.int .i64 MM, .func (.func 207) #[] #[]] 217)) 5 s = w3 at T0 B0n ⊢
        generalize grownCap (wr.alloc (.cells #[.int .i64 MM, .func (.func 207) #[] #[]] 217)) L 0 5 = G3 at T0 ⊢
        have eL : (nums s).length = L := by rw [nums_len, hL]
        have HCC : Calls Tryz.prog 207 #[.slice (some ⟨wr.heap.size + 1, 0, none⟩) (nums s).length G3, .int .i64 m] w3 (TxtAns w3 (wr.heap.size + 1) (chgL (nums s) m 4)) := lower_any _ _ _ _ T0 hn24 m (by rw [eL]; exact hlt)
        rw [eL] at HCC
        generalize chgL (nums s) m 4 = lx at HCC HANS
        refine HCC.mono ?_
        rintro e w2 ⟨g2, cap2, hg2, rfl, T2, B2⟩
        have cv := conv_back T2
        generalize lx.length = L2 at cv ⊢
        have HB2 : Hid (Below w.heap.size w w2) := (HB1.out.trans (HBr.out.mono (by omega))).trans ((B0n.mono (by omega)).trans (B2.mono (by omega)))
        clear T0 B0n HCC B2 T2
        go_wp2_with fail
        go_ret2
        refine ⟨HB2.out, ?_⟩
        rw [HANS.out]
        rfl
      · have hlt' : ¬ (m : Int) < ((4 * L : Nat) : Int) := by omega
        have HN : Hid (tryL (nums s) (8 - (4 + 1)) (4 + 1) (m - (4 * L)) = mutL (nums s) n) := by
          have ht := HT.out
          rw [show 8 - 4 = 3 + 1 from rfl, tryL_no _ _ _ _ L (by rw [nums_len, hL]) hlt] at ht
          exact ht
        have hsub : (m : Int) - ((4 * L : Nat) : Int) = ((m - (4 * L) : Nat) : Int) := by omega
        have hsub0 : (0 : Int) ≤ ((m - (4 * L) : Nat) : Int) := by omega
        have hle : m - (4 * L) ≤ n := by omega
        generalize hrest : m - (4 * L) = M1 at *
        generalize hmany : ((4 * L : Nat) : Int) = MM at *
        go_wp2_with fail
        go_roundw
        case rel => exact ⟨4 + 1, M1, by omega, hle, by first | rfl | rw [hsub], rfl, HN.out, HBr.out.alloc (by omega) _⟩
        case measure => simp [intOf]
    | 5, _ =>
      have a := (HA.out wr hB 10 (by omega)).trans a5
      have b := (HA.out wr hB 11 (by omega)).trans b5
      clear hB a0 b0 a1 b1 a2 b2 a3 b3 a4 b4 a5 b5 a6 b6 a7 b7 HA
      by_cases hlt : m < (5 * L)
      · have hlt' : (m : Int) < ((5 * L : Nat) : Int) := by omega
        have HANS : Hid (mutL (nums s) n = some (chgL (nums s) m 5)) := by
          rw [← HT.out, show 8 - 5 = 2 + 1 from rfl, tryL, nums_len, hL]
          exact if_pos hlt
        generalize hmany : ((5 * L : Nat) : Int) = MM at *
        go_wp2_with fail
        obtain ⟨T0, B0⟩ := conv_at (wr.alloc (.cells #[.int .i64 MM, .func (.func 208) #[] #[]] 217)) s (by omega)
        rw [World.size_alloc, hL] at T0
        have B0m := B0.mono (B' := wr.heap.size) (by simp)
        have B0n : Below wr.heap.size wr (Lib.bytesWorld (wr.alloc (.cells #[.int .i64 MM, .func (.func 208) #[] #[]] 217)) 5 s) := ((Below.refl _ _).alloc (Nat.le_refl _) _).trans B0m
        clear B0 B0m
        generalize Lib.bytesWorld (wr.alloc (.cells #[.int .i64 MM, .func (.func 208) #[] #[]] 217)) 5 s = w3 at T0 B0n ⊢
        generalize grownCap (wr.alloc (.cells #[.int .i64 MM, .func (.func 208) #[] #[]] 217)) L 0 5 = G3 at T0 ⊢
        have eL : (nums s).length = L := by rw [nums_len, hL]
        have HCC : Calls Tryz.prog 208 #[.slice (some ⟨wr.heap.size + 1, 0, none⟩) (nums s).length G3, .int .i64 m] w3 (TxtAns w3 (wr.heap.size + 1) (chgL (nums s) m 5)) := mark_any _ _ _ _ T0 hn24 (((HM.out.below HB1.out hz).below HBr.out (by omega)).below B0n (by omega)) m (by rw [eL]; exact hlt)
        rw [eL] at HCC
        generalize chgL (nums s) m 5 = lx at HCC HANS
        refine HCC.mono ?_
        rintro e w2 ⟨g2, cap2, hg2, rfl, T2, B2⟩
        have cv := conv_back T2
        generalize lx.length = L2 at cv ⊢
        have HB2 : Hid (Below w.heap.size w w2) := (HB1.out.trans (HBr.out.mono (by omega))).trans ((B0n.mono (by omega)).trans (B2.mono (by omega)))
        clear T0 B0n HCC B2 T2
        go_wp2_with fail
        go_ret2
        refine ⟨HB2.out, ?_⟩
        rw [HANS.out]
        rfl
      · have hlt' : ¬ (m : Int) < ((5 * L : Nat) : Int) := by omega
        have HN : Hid (tryL (nums s) (8 - (5 + 1)) (5 + 1) (m - (5 * L)) = mutL (nums s) n) := by
          have ht := HT.out
          rw [show 8 - 5 = 2 + 1 from rfl, tryL_no _ _ _ _ L (by rw [nums_len, hL]) hlt] at ht
          exact ht
        have hsub : (m : Int) - ((5 * L : Nat) : Int) = ((m - (5 * L) : Nat) : Int) := by omega
        have hsub0 : (0 : Int) ≤ ((m - (5 * L) : Nat) : Int) := by omega
        have hle : m - (5 * L) ≤ n := by omega
        generalize hrest : m - (5 * L) = M1 at *
        generalize hmany : ((5 * L : Nat) : Int) = MM at *
        go_wp2_with fail
        go_roundw
        case rel => exact ⟨5 + 1, M1, by omega, hle, by first | rfl | rw [hsub], rfl, HN.out, HBr.out.alloc (by omega) _⟩
        case measure => simp [intOf]
    | 6, _ =>
      have a := (HA.out wr hB 12 (by omega)).trans a6
      have b := (HA.out wr hB 13 (by omega)).trans b6
      clear hB a0 b0 a1 b1 a2 b2 a3 b3 a4 b4 a5 b5 a6 b6 a7 b7 HA
      by_cases hlt : m < (L)
      · have hlt' : (m : Int) < ((L : Nat) : Int) := by omega
        have HANS : Hid (mutL (nums s) n = some (chgL (nums s) m 6)) := by
          rw [← HT.out, show 8 - 6 = 1 + 1 from rfl, tryL, nums_len, hL]
          exact if_pos hlt
        generalize hmany : ((L : Nat) : Int) = MM at *
        go_wp2_with fail
        obtain ⟨T0, B0⟩ := conv_at (wr.alloc (.cells #[.int .i64 MM, .func (.func 209) #[] #[]] 217)) s (by omega)
        rw [World.size_alloc, hL] at T0
        have B0m := B0.mono (B' := wr.heap.size) (by simp)
        have B0n : Below wr.heap.size wr (Lib.bytesWorld (wr.alloc (.cells #[.int .i64 MM, .func (.func 209) #[] #[]] 217)) 5 s) := ((Below.refl _ _).alloc (Nat.le_refl _) _).trans B0m
        clear B0 B0m
        generalize Lib.bytesWorld (wr.alloc (.cells #[.int .i64 MM, .func (.func 209) #[] #[]] 217)) 5 s = w3 at T0 B0n ⊢
        generalize grownCap (wr.alloc (.cells #[.int .i64 MM, .func (.func 209) #[] #[]] 217)) L 0 5 = G3 at T0 ⊢
        have eL : (nums s).length = L := by rw [nums_len, hL]
        have HCC : Calls Tryz.prog 209 #[.slice (some ⟨wr.heap.size + 1, 0, none⟩) (nums s).length G3, .int .i64 m] w3 (TxtAns w3 (wr.heap.size + 1) (chgL (nums s) m 6)) := takeOut_any _ _ _ _ T0 hn24 m (by rw [eL]; exact hlt)
        rw [eL] at HCC
        generalize chgL (nums s) m 6 = lx at HCC HANS
        refine HCC.mono ?_
        rintro e w2 ⟨g2, cap2, hg2, rfl, T2, B2⟩
        have cv := conv_back T2
        generalize lx.length = L2 at cv ⊢
        have HB2 : Hid (Below w.heap.size w w2) := (HB1.out.trans (HBr.out.mono (by omega))).trans ((B0n.mono (by omega)).trans (B2.mono (by omega)))
        clear T0 B0n HCC B2 T2
        go_wp2_with fail
        go_ret2
        refine ⟨HB2.out, ?_⟩
        rw [HANS.out]
        rfl
      · have hlt' : ¬ (m : Int) < ((L : Nat) : Int) := by omega
        have HN : Hid (tryL (nums s) (8 - (6 + 1)) (6 + 1) (m - (L)) = mutL (nums s) n) := by
          have ht := HT.out
          rw [show 8 - 6 = 1 + 1 from rfl, tryL_no _ _ _ _ L (by rw [nums_len, hL]) hlt] at ht
          exact ht
        have hsub : (m : Int) - ((L : Nat) : Int) = ((m - (L) : Nat) : Int) := by omega
        have hsub0 : (0 : Int) ≤ ((m - (L) : Nat) : Int) := by omega
        have hle : m - (L) ≤ n := by omega
        generalize hrest : m - (L) = M1 at *
        generalize hmany : ((L : Nat) : Int) = MM at *
        go_wp2_with fail
        go_roundw
        case rel => exact ⟨6 + 1, M1, by omega, hle, by first | rfl | rw [hsub], rfl, HN.out, HBr.out.alloc (by omega) _⟩
        case measure => simp [intOf]
    | 7, _ =>
      have a := (HA.out wr hB 14 (by omega)).trans a7
      have b := (HA.out wr hB 15 (by omega)).trans b7
      clear hB a0 b0 a1 b1 a2 b2 a3 b3 a4 b4 a5 b5 a6 b6 a7 b7 HA
      by_cases hlt : m < (if 24 ≤ L then 0 else L)
      · have hlt' : (m : Int) < ((if 24 ≤ L then 0 else L : Nat) : Int) := by omega
        have HANS : Hid (mutL (nums s) n = some (chgL (nums s) m 7)) := by
          rw [← HT.out, show 8 - 7 = 0 + 1 from rfl, tryL, nums_len, hL]
          exact if_pos hlt
        generalize hmany : ((if 24 ≤ L then 0 else L : Nat) : Int) = MM at *
        go_wp2_with fail
        obtain ⟨T0, B0⟩ := conv_at (wr.alloc (.cells #[.int .i64 MM, .func (.func 210) #[] #[]] 217)) s (by omega)
        rw [World.size_alloc, hL] at T0
        have B0m := B0.mono (B' := wr.heap.size) (by simp)
        have B0n : Below wr.heap.size wr (Lib.bytesWorld (wr.alloc (.cells #[.int .i64 MM, .func (.func 210) #[] #[]] 217)) 5 s) := ((Below.refl _ _).alloc (Nat.le_refl _) _).trans B0m
        clear B0 B0m
        generalize Lib.bytesWorld (wr.alloc (.cells #[.int .i64 MM, .func (.func 210) #[] #[]] 217)) 5 s = w3 at T0 B0n ⊢
        generalize grownCap (wr.alloc (.cells #[.int .i64 MM, .func (.func 210) #[] #[]] 217)) L 0 5 = G3 at T0 ⊢
        have eL : (nums s).length = L := by rw [nums_len, hL]
        have HCC : Calls Tryz.prog 210 #[.slice (some ⟨wr.heap.size + 1, 0, none⟩) (nums s).length G3, .int .i64 m] w3 (TxtAns w3 (wr.heap.size + 1) (chgL (nums s) m 7)) := double_any _ _ _ _ T0 hn24 m (by rw [eL]; split at hlt <;> omega)
        rw [eL] at HCC
        generalize chgL (nums s) m 7 = lx at HCC HANS
        refine HCC.mono ?_
        rintro e w2 ⟨g2, cap2, hg2, rfl, T2, B2⟩
        have cv := conv_back T2
        generalize lx.length = L2 at cv ⊢
        have HB2 : Hid (Below w.heap.size w w2) := (HB1.out.trans (HBr.out.mono (by omega))).trans ((B0n.mono (by omega)).trans (B2.mono (by omega)))
        clear T0 B0n HCC B2 T2
        go_wp2_with fail
        go_ret2
        refine ⟨HB2.out, ?_⟩
        rw [HANS.out]
        rfl
      · have hlt' : ¬ (m : Int) < ((if 24 ≤ L then 0 else L : Nat) : Int) := by omega
        have HN : Hid (tryL (nums s) (8 - (7 + 1)) (7 + 1) (m - (if 24 ≤ L then 0 else L)) = mutL (nums s) n) := by
          have ht := HT.out
          rw [show 8 - 7 = 0 + 1 from rfl, tryL_no _ _ _ _ L (by rw [nums_len, hL]) hlt] at ht
          exact ht
        have hsub : (m : Int) - ((if 24 ≤ L then 0 else L : Nat) : Int) = ((m - (if 24 ≤ L then 0 else L) : Nat) : Int) := by omega
        have hsub0 : (0 : Int) ≤ ((m - (if 24 ≤ L then 0 else L) : Nat) : Int) := by omega
        have hle : m - (if 24 ≤ L then 0 else L) ≤ n := by omega
        generalize hrest : m - (if 24 ≤ L then 0 else L) = M1 at *
        generalize hmany : ((if 24 ≤ L then 0 else L : Nat) : Int) = MM at *
        go_wp2_with fail
        go_roundw
        case rel => exact ⟨7 + 1, M1, by omega, hle, by first | rfl | rw [hsub], rfl, HN.out, HBr.out.alloc (by omega) _⟩
        case measure => simp [intOf]
    | 8, _ =>
      have HANS : Hid (mutL (nums s) n = none) := HT.out.symm
      clear hB a0 b0 a1 b1 a2 b2 a3 b3 a4 b4 a5 b5 a6 b6 a7 b7 HA
      go_wp2_with fail
      go_ret2
      refine ⟨HB1.out.trans (HBr.out.mono (by omega)), ?_⟩
      rw [HANS.out]
      rfl
    | j + 9, hj => omega
end Go.Proofs.YtflenkppcclclaaGreatDoor

