import Derived.Test.YtflenkppcclclaaGreatDoorM38
import Derived.Laws.EntriesVeiled
namespace Go.Proofs.YtflenkppcclclaaGreatDoor
open Go.RowKit

/-- What Mutant answers. -/
def MutAns (w : World) (o : Option (List Int)) (e : Ending) (w' : World) : Prop :=
  Below w.heap.size w w' ∧ e = .returned (.tuple #[.string ((o.map strOfNums).getD ⟨#[]⟩), .bool o.isSome])

theorem Mrk.below {w w' : World} {B : Nat} (h : Mrk w) (b : Below B w w') (hB : 2 < B) : Mrk w' := fun k hk => (b.cell (p := ⟨2, k, none⟩) hB).trans (h k hk)

/-- A text as it was converted, in a world behind whatever. -/
theorem conv_at (W : World) (s : ByteArray) (hs : s.size ≤ 1000) : Txt (Lib.bytesWorld W 5 s) W.heap.size (grownCap W s.size 0 5) (nums s) ∧ Below W.heap.size W (Lib.bytesWorld W 5 s) := by
  obtain ⟨w', cap, h, T, B, _⟩ := conv_in W s hs
  rw [Lib.run_convert_string_bytes W 9 25 5 s Tryz.underlying9 Tryz.underlying25 Tryz.underlying5] at h
  simp only [Result.ok.injEq, Value.slice.injEq, true_and] at h
  obtain ⟨rfl, rfl⟩ := h
  exact ⟨T, B⟩

theorem tryL_no (l : List Int) (d j m L : Nat) (hL : l.length = L) (h : ¬ m < manyL L j) : tryL l (d + 1) j m = tryL l d (j + 1) (m - manyL L j) := by
  subst hL
  exact if_neg h

set_option maxHeartbeats 8000000 in
set_option maxRecDepth 100000 in
theorem cMutant_any (s : ByteArray) (hs : s.size ≤ 24) (n : Nat) (hn : n ≤ 9223372036854775807) (w : World) (hM : Mrk w) :
    Calls Tryz.prog 120 #[.string s, .int .i64 n] w (MutAns w (mutL (nums s) n)) := by
  have hz : 2 < w.heap.size := World.block_lt_of_cell? w ⟨2, 0, none⟩ (hM 0 (by omega))
  have HM : Hid (Mrk w) := hM
  have hn24 : (nums s).length ≤ 1000 := by rw [nums_len]; omega
  have H0 : Hid (tryL (nums s) 8 0 n = mutL (nums s) n) := (mut_try _ _).symm
  have hconv : ∀ W, (convert 9 25 (.string s)).run Tryz.prog W = .ok (.slice (some ⟨W.heap.size, 0, none⟩) s.size (grownCap W s.size 0 5)) (Lib.bytesWorld W 5 s) := fun W => Lib.run_convert_string_bytes W 9 25 5 s Tryz.underlying9 Tryz.underlying25 Tryz.underlying5
  generalize hL : s.size = L at *
  clear hM
  go_enter Tryz.func120, Tryz.ntmps120
  go_wp2_with fail
  refine (kinds_any L hs w).mono ?_
  rintro e w1 ⟨rfl, hw1⟩
  have HB1 : Hid (Below w.heap.size w w1) := by rw [hw1]; exact (Below.refl _ _).alloc (Nat.le_refl _) _
  have hsz : w1.heap.size = w.heap.size + 1 := by rw [hw1]; simp
  have a0 : w1.cell? ⟨w.heap.size, 0, none⟩ = some (.int .i64 ((8 * L : Nat) : Int)) := by rw [hw1, kindsObj, World.cell?_alloc_new]; rfl
  have b0 : w1.cell? ⟨w.heap.size, 1, none⟩ = some (.func (.func 203) #[] #[]) := by rw [hw1, kindsObj, World.cell?_alloc_new]; rfl
  have a1 : w1.cell? ⟨w.heap.size, 2, none⟩ = some (.int .i64 ((8 * L - 1 : Nat) : Int)) := by rw [hw1, kindsObj, World.cell?_alloc_new]; rfl
  have b1 : w1.cell? ⟨w.heap.size, 3, none⟩ = some (.func (.func 204) #[] #[]) := by rw [hw1, kindsObj, World.cell?_alloc_new]; rfl
  have a2 : w1.cell? ⟨w.heap.size, 4, none⟩ = some (.int .i64 ((L : Nat) : Int)) := by rw [hw1, kindsObj, World.cell?_alloc_new]; rfl
  have b2 : w1.cell? ⟨w.heap.size, 5, none⟩ = some (.func (.func 205) #[] #[]) := by rw [hw1, kindsObj, World.cell?_alloc_new]; rfl
  have a3 : w1.cell? ⟨w.heap.size, 6, none⟩ = some (.int .i64 ((4 * L : Nat) : Int)) := by rw [hw1, kindsObj, World.cell?_alloc_new]; rfl
  have b3 : w1.cell? ⟨w.heap.size, 7, none⟩ = some (.func (.func 206) #[] #[]) := by rw [hw1, kindsObj, World.cell?_alloc_new]; rfl
  have a4 : w1.cell? ⟨w.heap.size, 8, none⟩ = some (.int .i64 ((4 * L : Nat) : Int)) := by rw [hw1, kindsObj, World.cell?_alloc_new]; rfl
  have b4 : w1.cell? ⟨w.heap.size, 9, none⟩ = some (.func (.func 207) #[] #[]) := by rw [hw1, kindsObj, World.cell?_alloc_new]; rfl
  have a5 : w1.cell? ⟨w.heap.size, 10, none⟩ = some (.int .i64 ((5 * L : Nat) : Int)) := by rw [hw1, kindsObj, World.cell?_alloc_new]; rfl
  have b5 : w1.cell? ⟨w.heap.size, 11, none⟩ = some (.func (.func 208) #[] #[]) := by rw [hw1, kindsObj, World.cell?_alloc_new]; rfl
  have a6 : w1.cell? ⟨w.heap.size, 12, none⟩ = some (.int .i64 ((L : Nat) : Int)) := by rw [hw1, kindsObj, World.cell?_alloc_new]; rfl
  have b6 : w1.cell? ⟨w.heap.size, 13, none⟩ = some (.func (.func 209) #[] #[]) := by rw [hw1, kindsObj, World.cell?_alloc_new]; rfl
  have a7 : w1.cell? ⟨w.heap.size, 14, none⟩ = some (.int .i64 ((if 24 ≤ L then 0 else L : Nat) : Int)) := by rw [hw1, kindsObj, World.cell?_alloc_new]; rfl
  have b7 : w1.cell? ⟨w.heap.size, 15, none⟩ = some (.func (.func 210) #[] #[]) := by rw [hw1, kindsObj, World.cell?_alloc_new]; rfl
  have HA : Hid (∀ wr, Below (w.heap.size + 1) w1 wr → ∀ k, k < 16 → wr.cell? ⟨w.heap.size, k, none⟩ = w1.cell? ⟨w.heap.size, k, none⟩) := fun wr hb k _ => hb.cell (p := ⟨w.heap.size, k, none⟩) (Nat.lt_succ_self _)
  clear hw1
  go_wp2_with fail
  go_loopw [1, 14] (fun x i wr => ∃ j m : Nat, j ≤ 8 ∧ m ≤ n ∧ x = .int .i64 m ∧ i = .int .i64 j ∧ tryL (nums s) (8 - j) j m = mutL (nums s) n ∧ Below (w.heap.size + 1) w1 wr) (fun _ i _ => 8 - (intOf i).toNat)
  case atStart => exact ⟨0, n, by omega, Nat.le_refl _, rfl, rfl, H0.out, Below.refl _ _⟩
  case round =>
    obtain ⟨j, m, hj, hmn, rfl, rfl, htry, hB⟩ := hrel
    have hszr : w.heap.size + 1 ≤ wr.heap.size := by have := hB.size; omega
    have HBr : Hid (Below (w.heap.size + 1) w1 wr) := hB
    have HT : Hid (tryL (nums s) (8 - j) j m = mutL (nums s) n) := htry
    clear htry
    match j, hj with
    | 0, _ =>
      have a := (HA.out wr hB 0 (by omega)).trans a0
      have b := (HA.out wr hB 1 (by omega)).trans b0
      clear hB a0 b0 a1 b1 a2 b2 a3 b3 a4 b4 a5 b5 a6 b6 a7 b7 HA
      by_cases hlt : m < (8 * L)
      · have hlt' : (m : Int) < ((8 * L : Nat) : Int) := by omega
        have HANS : Hid (mutL (nums s) n = some (chgL (nums s) m 0)) := by
          rw [← HT.out, show 8 - 0 = 7 + 1 from rfl, tryL, nums_len, hL]
          exact if_pos hlt
        generalize hmany : ((8 * L : Nat) : Int) = MM at *
        go_wp2_with fail
        obtain ⟨T0, B0⟩ := conv_at (wr.alloc (.cells #[.int .i64 MM, .func (.func 203) #[] #[]] 217)) s (by omega)
        rw [World.size_alloc, hL] at T0
        have B0m := B0.mono (B' := wr.heap.size) (by simp)
        have B0n : Below wr.heap.size wr (Lib.bytesWorld (wr.alloc (.cells #[.int .i64 MM, .func (.func 203) #[] #[]] 217)) 5 s) := ((Below.refl _ _).alloc (Nat.le_refl _) _).trans B0m
        clear B0 B0m
        generalize Lib.bytesWorld (wr.alloc (.cells #[.int .i64 MM, .func (.func 203) #[] #[]] 217)) 5 s = w3 at T0 B0n ⊢
        generalize grownCap (wr.alloc (.cells #[.int .i64 MM, .func (.func 203) #[] #[]] 217)) L 0 5 = G3 at T0 ⊢
        have eL : (nums s).length = L := by rw [nums_len, hL]
        have HCC : Calls Tryz.prog 203 #[.slice (some ⟨wr.heap.size + 1, 0, none⟩) (nums s).length G3, .int .i64 m] w3 (TxtAns w3 (wr.heap.size + 1) (chgL (nums s) m 0)) := invBit_any _ _ _ _ T0 hn24 m (by rw [eL]; exact hlt)
        rw [eL] at HCC
        generalize chgL (nums s) m 0 = lx at HCC HANS
        refine HCC.mono ?_
        rintro e w2 ⟨g2, cap2, hg2, rfl, T2, B2⟩
        have cv := conv_back T2
        generalize lx.length = L2 at cv ⊢
        have HB2 : Hid (Below w.heap.size w w2) := (HB1.out.trans (HBr.out.mono (by omega))).trans ((B0n.mono (by omega)).trans (B2.mono (by omega)))
        clear T0 B0n HCC B2 T2
        go_wp2_with fail
        go_ret2
        refine ⟨HB2.out, ?_⟩
        rw [HANS.out]
        rfl
      · have hlt' : ¬ (m : Int) < ((8 * L : Nat) : Int) := by omega
        have HN : Hid (tryL (nums s) (8 - (0 + 1)) (0 + 1) (m - (8 * L)) = mutL (nums s) n) := by
          have ht := HT.out
          rw [show 8 - 0 = 7 + 1 from rfl, tryL_no _ _ _ _ L (by rw [nums_len, hL]) hlt] at ht
          exact ht
        have hsub : (m : Int) - ((8 * L : Nat) : Int) = ((m - (8 * L) : Nat) : Int) := by omega
        have hsub0 : (0 : Int) ≤ ((m - (8 * L) : Nat) : Int) := by omega
        have hle : m - (8 * L) ≤ n := by omega
        generalize hrest : m - (8 * L) = M1 at *
        generalize hmany : ((8 * L : Nat) : Int) = MM at *
        go_wp2_with fail
        go_roundw
        case rel => exact ⟨0 + 1, M1, by omega, hle, by first | rfl | rw [hsub], rfl, HN.out, HBr.out.alloc (by omega) _⟩
        case measure => simp [intOf]
    | 1, _ =>
      have a := (HA.out wr hB 2 (by omega)).trans a1
      have b := (HA.out wr hB 3 (by omega)).trans b1
      clear hB a0 b0 a1 b1 a2 b2 a3 b3 a4 b4 a5 b5 a6 b6 a7 b7 HA
      by_cases hlt : m < (8 * L - 1)
      · have hlt' : (m : Int) < ((8 * L - 1 : Nat) : Int) := by omega
        have HANS : Hid (mutL (nums s) n = some (chgL (nums s) m 1)) := by
          rw [← HT.out, show 8 - 1 = 6 + 1 from rfl, tryL, nums_len, hL]
          exact if_pos hlt
        generalize hmany : ((8 * L - 1 : Nat) : Int) = MM at *
        go_wp2_with fail
        obtain ⟨T0, B0⟩ := conv_at (wr.alloc (.cells #[.int .i64 MM, .func (.func 204) #[] #[]] 217)) s (by omega)
        rw [World.size_alloc, hL] at T0
        have B0m := B0.mono (B' := wr.heap.size) (by simp)
        have B0n : Below wr.heap.size wr (Lib.bytesWorld (wr.alloc (.cells #[.int .i64 MM, .func (.func 204) #[] #[]] 217)) 5 s) := ((Below.refl _ _).alloc (Nat.le_refl _) _).trans B0m
        clear B0 B0m
        generalize Lib.bytesWorld (wr.alloc (.cells #[.int .i64 MM, .func (.func 204) #[] #[]] 217)) 5 s = w3 at T0 B0n ⊢
        generalize grownCap (wr.alloc (.cells #[.int .i64 MM, .func (.func 204) #[] #[]] 217)) L 0 5 = G3 at T0 ⊢
        have eL : (nums s).length = L := by rw [nums_len, hL]
        have HCC : Calls Tryz.prog 204 #[.slice (some ⟨wr.heap.size + 1, 0, none⟩) (nums s).length G3, .int .i64 m] w3 (TxtAns w3 (wr.heap.size + 1) (chgL (nums s) m 1)) := invTwo_any _ _ _ _ T0 hn24 m (by rw [eL]; omega)
        rw [eL] at HCC
        generalize chgL (nums s) m 1 = lx at HCC HANS
        refine HCC.mono ?_
        rintro e w2 ⟨g2, cap2, hg2, rfl, T2, B2⟩
        have cv := conv_back T2
        generalize lx.length = L2 at cv ⊢
        have HB2 : Hid (Below w.heap.size w w2) := (HB1.out.trans (HBr.out.mono (by omega))).trans ((B0n.mono (by omega)).trans (B2.mono (by omega)))
        clear T0 B0n HCC B2 T2
        go_wp2_with fail
        go_ret2
        refine ⟨HB2.out, ?_⟩
        rw [HANS.out]
        rfl
      · have hlt' : ¬ (m : Int) < ((8 * L - 1 : Nat) : Int) := by omega
        have HN : Hid (tryL (nums s) (8 - (1 + 1)) (1 + 1) (m - (8 * L - 1)) = mutL (nums s) n) := by
          have ht := HT.out
          rw [show 8 - 1 = 6 + 1 from rfl, tryL_no _ _ _ _ L (by rw [nums_len, hL]) hlt] at ht
          exact ht
        have hsub : (m : Int) - ((8 * L - 1 : Nat) : Int) = ((m - (8 * L - 1) : Nat) : Int) := by omega
        have hsub0 : (0 : Int) ≤ ((m - (8 * L - 1) : Nat) : Int) := by omega
        have hle : m - (8 * L - 1) ≤ n := by omega
        generalize hrest : m - (8 * L - 1) = M1 at *
        generalize hmany : ((8 * L - 1 : Nat) : Int) = MM at *
        go_wp2_with fail
        go_roundw
        case rel => exact ⟨1 + 1, M1, by omega, hle, by first | rfl | rw [hsub], rfl, HN.out, HBr.out.alloc (by omega) _⟩
        case measure => simp [intOf]
    | 2, _ =>
      have a := (HA.out wr hB 4 (by omega)).trans a2
      have b := (HA.out wr hB 5 (by omega)).trans b2
      clear hB a0 b0 a1 b1 a2 b2 a3 b3 a4 b4 a5 b5 a6 b6 a7 b7 HA
      by_cases hlt : m < (L)
      · have hlt' : (m : Int) < ((L : Nat) : Int) := by omega
        have HANS : Hid (mutL (nums s) n = some (chgL (nums s) m 2)) := by
          rw [← HT.out, show 8 - 2 = 5 + 1 from rfl, tryL, nums_len, hL]
          exact if_pos hlt
        generalize hmany : ((L : Nat) : Int) = MM at *
        go_wp2_with fail
        obtain ⟨T0, B0⟩ := conv_at (wr.alloc (.cells #[.int .i64 MM, .func (.func 205) #[] #[]] 217)) s (by omega)
        rw [World.size_alloc, hL] at T0
        have B0m := B0.mono (B' := wr.heap.size) (by simp)
        have B0n : Below wr.heap.size wr (Lib.bytesWorld (wr.alloc (.cells #[.int .i64 MM, .func (.func 205) #[] #[]] 217)) 5 s) := ((Below.refl _ _).alloc (Nat.le_refl _) _).trans B0m
        clear B0 B0m
        generalize Lib.bytesWorld (wr.alloc (.cells #[.int .i64 MM, .func (.func 205) #[] #[]] 217)) 5 s = w3 at T0 B0n ⊢
        generalize grownCap (wr.alloc (.cells #[.int .i64 MM, .func (.func 205) #[] #[]] 217)) L 0 5 = G3 at T0 ⊢
        have eL : (nums s).length = L := by rw [nums_len, hL]
        have HCC : Calls Tryz.prog 205 #[.slice (some ⟨wr.heap.size + 1, 0, none⟩) (nums s).length G3, .int .i64 m] w3 (TxtAns w3 (wr.heap.size + 1) (chgL (nums s) m 2)) := invByte_any _ _ _ _ T0 m (by rw [eL]; exact hlt)
        rw [eL] at HCC
        generalize chgL (nums s) m 2 = lx at HCC HANS
        refine HCC.mono ?_
        rintro e w2 ⟨g2, cap2, hg2, rfl, T2, B2⟩
        have cv := conv_back T2
        generalize lx.length = L2 at cv ⊢
        have HB2 : Hid (Below w.heap.size w w2) := (HB1.out.trans (HBr.out.mono (by omega))).trans ((B0n.mono (by omega)).trans (B2.mono (by omega)))
        clear T0 B0n HCC B2 T2
        go_wp2_with fail
        go_ret2
        refine ⟨HB2.out, ?_⟩
        rw [HANS.out]
        rfl
      · have hlt' : ¬ (m : Int) < ((L : Nat) : Int) := by omega
        have HN : Hid (tryL (nums s) (8 - (2 + 1)) (2 + 1) (m - (L)) = mutL (nums s) n) := by
          have ht := HT.out
          rw [show 8 - 2 = 5 + 1 from rfl, tryL_no _ _ _ _ L (by rw [nums_len, hL]) hlt] at ht
          exact ht
        have hsub : (m : Int) - ((L : Nat) : Int) = ((m - (L) : Nat) : Int) := by omega
        have hsub0 : (0 : Int) ≤ ((m - (L) : Nat) : Int) := by omega
        have hle : m - (L) ≤ n := by omega
        generalize hrest : m - (L) = M1 at *
        generalize hmany : ((L : Nat) : Int) = MM at *
        go_wp2_with fail
        go_roundw
        case rel => exact ⟨2 + 1, M1, by omega, hle, by first | rfl | rw [hsub], rfl, HN.out, HBr.out.alloc (by omega) _⟩
        case measure => simp [intOf]
    | 3, _ =>
      have a := (HA.out wr hB 6 (by omega)).trans a3
      have b := (HA.out wr hB 7 (by omega)).trans b3
      clear hB a0 b0 a1 b1 a2 b2 a3 b3 a4 b4 a5 b5 a6 b6 a7 b7 HA
      by_cases hlt : m < (4 * L)
      · have hlt' : (m : Int) < ((4 * L : Nat) : Int) := by omega
        have HANS : Hid (mutL (nums s) n = some (chgL (nums s) m 3)) := by
          rw [← HT.out, show 8 - 3 = 4 + 1 from rfl, tryL, nums_len, hL]
          exact if_pos hlt
        generalize hmany : ((4 * L : Nat) : Int) = MM at *
        go_wp2_with fail
        obtain ⟨T0, B0⟩ := conv_at (wr.alloc (.cells #[.int .i64 MM, .func (.func 206) #[] #[]] 217)) s (by omega)
        rw [World.size_alloc, hL] at T0
        have B0m := B0.mono (B' := wr.heap.size) (by simp)
        have B0n : Below wr.heap.size wr (Lib.bytesWorld (wr.alloc (.cells #[.int .i64 MM, .func (.func 206) #[] #[]] 217)) 5 s) := ((Below.refl _ _).alloc (Nat.le_refl _) _).trans B0m
        clear B0 B0m
        generalize Lib.bytesWorld (wr.alloc (.cells #[.int .i64 MM, .func (.func 206) #[] #[]] 217)) 5 s = w3 at T0 B0n ⊢
        generalize grownCap (wr.alloc (.cells #[.int .i64 MM, .func (.func 206) #[] #[]] 217)) L 0 5 = G3 at T0 ⊢
        have eL : (nums s).length = L := by rw [nums_len, hL]
        have HCC : Calls Tryz.prog 206 #[.slice (some ⟨wr.heap.size + 1, 0, none⟩) (nums s).length G3, .int .i64 m] w3 (TxtAns w3 (wr.heap.size + 1) (chgL (nums s) m 3)) := raise_any _ _ _ _ T0 hn24 m (by rw [eL]; exact hlt)
        rw [eL] at HCC
        generalize chgL (nums s) m 3 = lx at HCC HANS
        refine HCC.mono ?_
        rintro e w2 ⟨g2, cap2, hg2, rfl, T2, B2⟩
        have cv := conv_back T2
        generalize lx.length = L2 at cv ⊢
        have HB2 : Hid (Below w.heap.size w w2) := (HB1.out.trans (HBr.out.mono (by omega))).trans ((B0n.mono (by omega)).trans (B2.mono (by omega)))
        clear T0 B0n HCC B2 T2
        go_wp2_with fail
        go_ret2
        refine ⟨HB2.out, ?_⟩
        rw [HANS.out]
        rfl
      · have hlt' : ¬ (m : Int) < ((4 * L : Nat) : Int) := by omega
        have HN : Hid (tryL (nums s) (8 - (3 + 1)) (3 + 1) (m - (4 * L)) = mutL (nums s) n) := by
          have ht := HT.out
          rw [show 8 - 3 = 4 + 1 from rfl, tryL_no _ _ _ _ L (by rw [nums_len, hL]) hlt] at ht
          exact ht
        have hsub : (m : Int) - ((4 * L : Nat) : Int) = ((m - (4 * L) : Nat) : Int) := by omega
        have hsub0 : (0 : Int) ≤ ((m - (4 * L) : Nat) : Int) := by omega
        have hle : m - (4 * L) ≤ n := by omega
        generalize hrest : m - (4 * L) = M1 at *
        generalize hmany : ((4 * L : Nat) : Int) = MM at *
        go_wp2_with fail
        go_roundw
        case rel => exact ⟨3 + 1, M1, by omega, hle, by first | rfl | rw [hsub], rfl, HN.out, HBr.out.alloc (by omega) _⟩
        case measure => simp [intOf]
    | 4, _ =>
      have a := (HA.out wr hB 8 (by omega)).trans a4
      have b := (HA.out wr hB 9 (by omega)).trans b4
      clear hB a0 b0 a1 b1 a2 b2 a3 b3 a4 b4 a5 b5 a6 b6 a7 b7 HA
      by_cases hlt : m < (4 * L)
      · have hlt' : (m : Int) < ((4 * L : Nat) : Int) := by omega
        have HANS : Hid (mutL (nums s) n = some (chgL (nums s) m 4)) := by
          rw [← HT.out, show 8 - 4 = 3 + 1 from rfl, tryL, nums_len, hL]
          exact if_pos hlt
        generalize hmany : ((4 * L : Nat) : Int) = MM at *
        go_wp2_with fail
        obtain ⟨T0, B0⟩ := conv_at (wr.alloc (.cells #[.int .i64 MM, .func (.func 207) #[] #[]] 217)) s (by omega)
        rw [World.size_alloc, hL] at T0
        have B0m := B0.mono (B' := wr.heap.size) (by simp)
        have B0n : Below wr.heap.size wr (Lib.bytesWorld (wr.alloc (.cells #[.int .i64 MM, .func (.func 207) #[] #[]] 217)) 5 s) := ((Below.refl _ _).alloc (Nat.le_refl _) _).trans B0m
        clear B0 B0m
        generalize Lib.bytesWorld (wr.alloc (.cells #[.int .i64 MM, .func (.func 207) #[] #[]] 217)) 5 s = w3 at T0 B0n ⊢
        generalize grownCap (wr.alloc (.cells #[.int .i64 MM, .func (.func 207) #[] #[]] 217)) L 0 5 = G3 at T0 ⊢
        have eL : (nums s).length = L := by rw [nums_len, hL]
        have HCC : Calls Tryz.prog 207 #[.slice (some ⟨wr.heap.size + 1, 0, none⟩) (nums s).length G3, .int .i64 m] w3 (TxtAns w3 (wr.heap.size + 1) (chgL (nums s) m 4)) := lower_any _ _ _ _ T0 hn24 m (by rw [eL]; exact hlt)
        rw [eL] at HCC
        generalize chgL (nums s) m 4 = lx at HCC HANS
        refine HCC.mono ?_
        rintro e w2 ⟨g2, cap2, hg2, rfl, T2, B2⟩
        have cv := conv_back T2
        generalize lx.length = L2 at cv ⊢
        have HB2 : Hid (Below w.heap.size w w2) := (HB1.out.trans (HBr.out.mono (by omega))).trans ((B0n.mono (by omega)).trans (B2.mono (by omega)))
        clear T0 B0n HCC B2 T2
        go_wp2_with fail
        go_ret2
        refine ⟨HB2.out, ?_⟩
        rw [HANS.out]
        rfl
      · have hlt' : ¬ (m : Int) < ((4 * L : Nat) : Int) := by omega
        have HN : Hid (tryL (nums s) (8 - (4 + 1)) (4 + 1) (m - (4 * L)) = mutL (nums s) n) := by
          have ht := HT.out
          rw [show 8 - 4 = 3 + 1 from rfl, tryL_no _ _ _ _ L (by rw [nums_len, hL]) hlt] at ht
          exact ht
        have hsub : (m : Int) - ((4 * L : Nat) : Int) = ((m - (4 * L) : Nat) : Int) := by omega
        have hsub0 : (0 : Int) ≤ ((m - (4 * L) : Nat) : Int) := by omega
        have hle : m - (4 * L) ≤ n := by omega
        generalize hrest : m - (4 * L) = M1 at *
        generalize hmany : ((4 * L : Nat) : Int) = MM at *
        go_wp2_with fail
        go_roundw
        case rel => exact ⟨4 + 1, M1, by omega, hle, by first | rfl | rw [hsub], rfl, HN.out, HBr.out.alloc (by omega) _⟩
        case measure => simp [intOf]
    | 5, _ =>
      have a := (HA.out wr hB 10 (by omega)).trans a5
      have b := (HA.out wr hB 11 (by omega)).trans b5
      clear hB a0 b0 a1 b1 a2 b2 a3 b3 a4 b4 a5 b5 a6 b6 a7 b7 HA
      by_cases hlt : m < (5 * L)
      · have hlt' : (m : Int) < ((5 * L : Nat) : Int) := by omega
        have HANS : Hid (mutL (nums s) n = some (chgL (nums s) m 5)) := by
          rw [← HT.out, show 8 - 5 = 2 + 1 from rfl, tryL, nums_len, hL]
          exact if_pos hlt
        generalize hmany : ((5 * L : Nat) : Int) = MM at *
        go_wp2_with fail
        obtain ⟨T0, B0⟩ := conv_at (wr.alloc (.cells #[.int .i64 MM, .func (.func 208) #[] #[]] 217)) s (by omega)
        rw [World.size_alloc, hL] at T0
        have B0m := B0.mono (B' := wr.heap.size) (by simp)
        have B0n : Below wr.heap.size wr (Lib.bytesWorld (wr.alloc (.cells #[.int .i64 MM, .func (.func 208) #[] #[]] 217)) 5 s) := ((Below.refl _ _).alloc (Nat.le_refl _) _).trans B0m
        clear B0 B0m
        generalize Lib.bytesWorld (wr.alloc (.cells #[.int .i64 MM, .func (.func 208) #[] #[]] 217)) 5 s = w3 at T0 B0n ⊢
        generalize grownCap (wr.alloc (.cells #[.int .i64 MM, .func (.func 208) #[] #[]] 217)) L 0 5 = G3 at T0 ⊢
        have eL : (nums s).length = L := by rw [nums_len, hL]
        have HCC : Calls Tryz.prog 208 #[.slice (some ⟨wr.heap.size + 1, 0, none⟩) (nums s).length G3, .int .i64 m] w3 (TxtAns w3 (wr.heap.size + 1) (chgL (nums s) m 5)) := mark_any _ _ _ _ T0 hn24 (((HM.out.below HB1.out hz).below HBr.out (by omega)).below B0n (by omega)) m (by rw [eL]; exact hlt)
        rw [eL] at HCC
        generalize chgL (nums s) m 5 = lx at HCC HANS
        refine HCC.mono ?_
        rintro e w2 ⟨g2, cap2, hg2, rfl, T2, B2⟩
        have cv := conv_back T2
        generalize lx.length = L2 at cv ⊢
        have HB2 : Hid (Below w.heap.size w w2) := (HB1.out.trans (HBr.out.mono (by omega))).trans ((B0n.mono (by omega)).trans (B2.mono (by omega)))
        clear T0 B0n HCC B2 T2
        go_wp2_with fail
        go_ret2
        refine ⟨HB2.out, ?_⟩
        rw [HANS.out]
        rfl
      · have hlt' : ¬ (m : Int) < ((5 * L : Nat) : Int) := by omega
        have HN : Hid (tryL (nums s) (8 - (5 + 1)) (5 + 1) (m - (5 * L)) = mutL (nums s) n) := by
          have ht := HT.out
          rw [show 8 - 5 = 2 + 1 from rfl, tryL_no _ _ _ _ L (by rw [nums_len, hL]) hlt] at ht
          exact ht
        have hsub : (m : Int) - ((5 * L : Nat) : Int) = ((m - (5 * L) : Nat) : Int) := by omega
        have hsub0 : (0 : Int) ≤ ((m - (5 * L) : Nat) : Int) := by omega
        have hle : m - (5 * L) ≤ n := by omega
        generalize hrest : m - (5 * L) = M1 at *
        generalize hmany : ((5 * L : Nat) : Int) = MM at *
        go_wp2_with fail
        go_roundw
        case rel => exact ⟨5 + 1, M1, by omega, hle, by first | rfl | rw [hsub], rfl, HN.out, HBr.out.alloc (by omega) _⟩
        case measure => simp [intOf]
    | 6, _ =>
      have a := (HA.out wr hB 12 (by omega)).trans a6
      have b := (HA.out wr hB 13 (by omega)).trans b6
      clear hB a0 b0 a1 b1 a2 b2 a3 b3 a4 b4 a5 b5 a6 b6 a7 b7 HA
      by_cases hlt : m < (L)
      · have hlt' : (m : Int) < ((L : Nat) : Int) := by omega
        have HANS : Hid (mutL (nums s) n = some (chgL (nums s) m 6)) := by
          rw [← HT.out, show 8 - 6 = 1 + 1 from rfl, tryL, nums_len, hL]
          exact if_pos hlt
        generalize hmany : ((L : Nat) : Int) = MM at *
        go_wp2_with fail
        obtain ⟨T0, B0⟩ := conv_at (wr.alloc (.cells #[.int .i64 MM, .func (.func 209) #[] #[]] 217)) s (by omega)
        rw [World.size_alloc, hL] at T0
        have B0m := B0.mono (B' := wr.heap.size) (by simp)
        have B0n : Below wr.heap.size wr (Lib.bytesWorld (wr.alloc (.cells #[.int .i64 MM, .func (.func 209) #[] #[]] 217)) 5 s) := ((Below.refl _ _).alloc (Nat.le_refl _) _).trans B0m
        clear B0 B0m
        generalize Lib.bytesWorld (wr.alloc (.cells #[.int .i64 MM, .func (.func 209) #[] #[]] 217)) 5 s = w3 at T0 B0n ⊢
        generalize grownCap (wr.alloc (.cells #[.int .i64 MM, .func (.func 209) #[] #[]] 217)) L 0 5 = G3 at T0 ⊢
        have eL : (nums s).length = L := by rw [nums_len, hL]
        have HCC : Calls Tryz.prog 209 #[.slice (some ⟨wr.heap.size + 1, 0, none⟩) (nums s).length G3, .int .i64 m] w3 (TxtAns w3 (wr.heap.size + 1) (chgL (nums s) m 6)) := takeOut_any _ _ _ _ T0 hn24 m (by rw [eL]; exact hlt)
        rw [eL] at HCC
        generalize chgL (nums s) m 6 = lx at HCC HANS
        refine HCC.mono ?_
        rintro e w2 ⟨g2, cap2, hg2, rfl, T2, B2⟩
        have cv := conv_back T2
        generalize lx.length = L2 at cv ⊢
        have HB2 : Hid (Below w.heap.size w w2) := (HB1.out.trans (HBr.out.mono (by omega))).trans ((B0n.mono (by omega)).trans (B2.mono (by omega)))
        clear T0 B0n HCC B2 T2
        go_wp2_with fail
        go_ret2
        refine ⟨HB2.out, ?_⟩
        rw [HANS.out]
        rfl
      · have hlt' : ¬ (m : Int) < ((L : Nat) : Int) := by omega
        have HN : Hid (tryL (nums s) (8 - (6 + 1)) (6 + 1) (m - (L)) = mutL (nums s) n) := by
          have ht := HT.out
          rw [show 8 - 6 = 1 + 1 from rfl, tryL_no _ _ _ _ L (by rw [nums_len, hL]) hlt] at ht
          exact ht
        have hsub : (m : Int) - ((L : Nat) : Int) = ((m - (L) : Nat) : Int) := by omega
        have hsub0 : (0 : Int) ≤ ((m - (L) : Nat) : Int) := by omega
        have hle : m - (L) ≤ n := by omega
        generalize hrest : m - (L) = M1 at *
        generalize hmany : ((L : Nat) : Int) = MM at *
        go_wp2_with fail
        go_roundw
        case rel => exact ⟨6 + 1, M1, by omega, hle, by first | rfl | rw [hsub], rfl, HN.out, HBr.out.alloc (by omega) _⟩
        case measure => simp [intOf]
    | 7, _ =>
      have a := (HA.out wr hB 14 (by omega)).trans a7
      have b := (HA.out wr hB 15 (by omega)).trans b7
      clear hB a0 b0 a1 b1 a2 b2 a3 b3 a4 b4 a5 b5 a6 b6 a7 b7 HA
      by_cases hlt : m < (if 24 ≤ L then 0 else L)
      · have hlt' : (m : Int) < ((if 24 ≤ L then 0 else L : Nat) : Int) := by omega
        have HANS : Hid (mutL (nums s) n = some (chgL (nums s) m 7)) := by
          rw [← HT.out, show 8 - 7 = 0 + 1 from rfl, tryL, nums_len, hL]
          exact if_pos hlt
        generalize hmany : ((if 24 ≤ L then 0 else L : Nat) : Int) = MM at *
        go_wp2_with fail
        obtain ⟨T0, B0⟩ := conv_at (wr.alloc (.cells #[.int .i64 MM, .func (.func 210) #[] #[]] 217)) s (by omega)
        rw [World.size_alloc, hL] at T0
        have B0m := B0.mono (B' := wr.heap.size) (by simp)
        have B0n : Below wr.heap.size wr (Lib.bytesWorld (wr.alloc (.cells #[.int .i64 MM, .func (.func 210) #[] #[]] 217)) 5 s) := ((Below.refl _ _).alloc (Nat.le_refl _) _).trans B0m
        clear B0 B0m
        generalize Lib.bytesWorld (wr.alloc (.cells #[.int .i64 MM, .func (.func 210) #[] #[]] 217)) 5 s = w3 at T0 B0n ⊢
        generalize grownCap (wr.alloc (.cells #[.int .i64 MM, .func (.func 210) #[] #[]] 217)) L 0 5 = G3 at T0 ⊢
        have eL : (nums s).length = L := by rw [nums_len, hL]
        have HCC : Calls Tryz.prog 210 #[.slice (some ⟨wr.heap.size + 1, 0, none⟩) (nums s).length G3, .int .i64 m] w3 (TxtAns w3 (wr.heap.size + 1) (chgL (nums s) m 7)) := double_any _ _ _ _ T0 hn24 m (by rw [eL]; split at hlt <;> omega)
        rw [eL] at HCC
        generalize chgL (nums s) m 7 = lx at HCC HANS
        refine HCC.mono ?_
        rintro e w2 ⟨g2, cap2, hg2, rfl, T2, B2⟩
        have cv := conv_back T2
        generalize lx.length = L2 at cv ⊢
        have HB2 : Hid (Below w.heap.size w w2) := (HB1.out.trans (HBr.out.mono (by omega))).trans ((B0n.mono (by omega)).trans (B2.mono (by omega)))
        clear T0 B0n HCC B2 T2
        go_wp2_with fail
        go_ret2
        refine ⟨HB2.out, ?_⟩
        rw [HANS.out]
        rfl
      · have hlt' : ¬ (m : Int) < ((if 24 ≤ L then 0 else L : Nat) : Int) := by omega
        have HN : Hid (tryL (nums s) (8 - (7 + 1)) (7 + 1) (m - (if 24 ≤ L then 0 else L)) = mutL (nums s) n) := by
          have ht := HT.out
          rw [show 8 - 7 = 0 + 1 from rfl, tryL_no _ _ _ _ L (by rw [nums_len, hL]) hlt] at ht
          exact ht
        have hsub : (m : Int) - ((if 24 ≤ L then 0 else L : Nat) : Int) = ((m - (if 24 ≤ L then 0 else L) : Nat) : Int) := by omega
        have hsub0 : (0 : Int) ≤ ((m - (if 24 ≤ L then 0 else L) : Nat) : Int) := by omega
        have hle : m - (if 24 ≤ L then 0 else L) ≤ n := by omega
        generalize hrest : m - (if 24 ≤ L then 0 else L) = M1 at *
        generalize hmany : ((if 24 ≤ L then 0 else L : Nat) : Int) = MM at *
        go_wp2_with fail
        go_roundw
        case rel => exact ⟨7 + 1, M1, by omega, hle, by first | rfl | rw [hsub], rfl, HN.out, HBr.out.alloc (by omega) _⟩
        case measure => simp [intOf]
    | 8, _ =>
      have HANS : Hid (mutL (nums s) n = none) := HT.out.symm
      clear hB a0 b0 a1 b1 a2 b2 a3 b3 a4 b4 a5 b5 a6 b6 a7 b7 HA
      go_wp2_with fail
      go_ret2
      refine ⟨HB1.out.trans (HBr.out.mono (by omega)), ?_⟩
      rw [HANS.out]
      rfl
    | j + 9, hj => omega
end Go.Proofs.YtflenkppcclclaaGreatDoor

namespace Go.Proofs.YtflenkppcclclaaGreatDoor
open Go.RowKit

theorem below_drw {B h fo g cap : Nat} {l : List Int} (hg : B ≤ g) (hh : h < B) (x : Int) (n : Nat) (h1 : 1 ≤ n) (h2 : n ≤ 1000) (w : World) (T : Txt w g cap l) (s : Sd w h fo x) :
    Calls Tryz.prog 140 #[.pointer (some ⟨h, fo, none⟩), .int .i64 n] w (Drw w B h fo g cap l (dr x n) (sd x)) :=
  (below_step w B h fo g cap l x T s hg hh n h1 h2).mono fun _ _ d => d.drw

theorem once_any (w : World) (B h fo g cap : Nat) (l : List Int) (o : ByteArray) (x : Int) (T : Txt w g cap l) (s : Sd w h fo x) (hg : B ≤ g) (hh : h < B) (hL : l.length ≤ 24) (ho : o.size ≤ 24) :
    Calls Tryz.prog 164 #[.slice (some ⟨g, 0, none⟩) l.length cap, .string o, .pointer (some ⟨h, fo, none⟩)] w (WAns w B h fo (onceL l (nums o) x).1 (onceL l (nums o) x).2) := by
  have H0 : Hid (Calls Tryz.prog 140 #[.pointer (some ⟨h, fo, none⟩), .int .i64 6] w (Drw w B h fo g cap l (dr x 6) (sd x))) := below_drw hg hh x 6 (by omega) (by omega) w T s
  have hw := dr_lt x 6 (by omega)
  unfold onceL
  dsimp only
  generalize dr x 6 = k at H0 hw ⊢
  by_cases h0 : l.length = 0 ∧ k ≠ 3 ∧ k ≠ 4
  · rw [if_pos h0]
    exact once_empty w B h fo g cap l o hg k (by omega) h0.1 (sd x) H0
  rw [if_neg h0]
  match k, hw with
  | 0, _ =>
    rw [if_pos rfl]
    exact once_bit w B h fo g cap l o hg hh hL _ (dr_lt _ _ (by omega)) _ _ H0 (fun w1 T1 s1 => below_drw hg hh (sd x) (8 * l.length) (by omega) (by omega) w1 T1 s1)
  | 1, _ =>
    rw [if_neg (by decide), if_pos rfl]
    exact once_byte w B h fo g cap l o hg hh _ _ (dr_lt _ _ (by omega)) (dr_lt _ _ (by omega)) _ _ _ H0 (fun w1 T1 s1 => below_drw hg hh (sd x) l.length (by omega) (by omega) w1 T1 s1) (fun w1 T1 s1 => below_drw hg hh (sd (sd x)) 256 (by omega) (by omega) w1 T1 s1)
  | 2, _ =>
    rw [if_neg (by decide), if_neg (by decide), if_pos rfl]
    exact once_cut w B h fo g cap l o hg hh hL _ (dr_lt _ _ (by omega)) _ _ H0 (fun w1 T1 s1 => below_drw hg hh (sd x) l.length (by omega) (by omega) w1 T1 s1)
  | 3, _ =>
    rw [if_neg (by decide), if_neg (by decide), if_neg (by decide), if_pos rfl]
    by_cases h24 : 24 ≤ l.length
    · rw [if_pos h24]
      exact once_in w B h fo g cap l o l _ _ H0 (fun w1 T1 s1 => putIn_full w1 B h fo g cap l _ T1 s1 hg (by omega))
    · rw [if_neg h24]
      exact once_in w B h fo g cap l o _ _ _ H0 (fun w1 T1 s1 => putIn_any w1 B h fo g cap l _ T1 s1 hg hh (by omega))
  | 4, _ =>
    rw [if_neg (by decide), if_neg (by decide), if_neg (by decide), if_neg (by decide), if_pos rfl, nums_len]
    exact once_cross w B h fo g cap l o _ _ _ H0 (fun w1 T1 s1 => cross_any w1 B h fo g cap l o _ T1 s1 hg hh hL ho)
  | 5, _ =>
    rw [if_neg (by decide), if_neg (by decide), if_neg (by decide), if_neg (by decide), if_neg (by decide)]
    exact once_copy w B h fo g cap l o hg hh _ _ (dr_lt _ _ (by omega)) (dr_lt _ _ (by omega)) _ _ _ H0 (fun w1 T1 s1 => below_drw hg hh (sd x) l.length (by omega) (by omega) w1 T1 s1) (fun w1 T1 s1 => below_drw hg hh (sd (sd x)) l.length (by omega) (by omega) w1 T1 s1)
  | k + 6, hk => omega

/-- Several changes, one upon the other: what the loop goes through. -/
structure WSt (w : World) (B h fo : Nat) (l : List Int) (x : Int) (v : Value) (w' : World) : Prop where
  is : ∃ g cap, B ≤ g ∧ v = .slice (some ⟨g, 0, none⟩) l.length cap ∧ Txt w' g cap l ∧ Sd w' h fo x ∧ SK B h fo w w'

set_option maxHeartbeats 1000000 in
set_option maxRecDepth 100000 in
theorem cWild_core (w : World) (B h fo : Nat) (s o : ByteArray) (hs : s.size ≤ 24) (n : Nat) (hn : n ≤ 3) (x1 : Int) (F : Nat → List Int × Int) (hF0 : F 0 = (nums s, x1))
    (hh : h < B) (hB : B ≤ w.heap.size) (x0 : Int) (hsd : Sd w h fo x0)
    (H0 : Hid (∀ w1 cap, Txt w1 w.heap.size cap (nums s) → Sd w1 h fo x0 → Calls Tryz.prog 140 #[.pointer (some ⟨h, fo, none⟩), .int .i64 4] w1 (Drw w1 B h fo w.heap.size cap (nums s) n x1)))
    (H1 : Hid (∀ i w1 g cap, Txt w1 g cap (F i).1 → Sd w1 h fo (F i).2 → B ≤ g → Calls Tryz.prog 164 #[.slice (some ⟨g, 0, none⟩) (F i).1.length cap, .string o, .pointer (some ⟨h, fo, none⟩)] w1 (WAns w1 B h fo (F (i + 1)).1 (F (i + 1)).2))) :
    Calls Tryz.prog 121 #[.string s, .string o, .pointer (some ⟨h, fo, none⟩)] w fun e w' => e = .returned (.string (strOfNums (F (1 + n)).1)) ∧ Sd w' h fo (F (1 + n)).2 ∧ SK B h fo w w' := by
  obtain ⟨w1, cap1, hconv, T1, B1, hsz1⟩ := conv_in w s (by omega)
  have HB1 : Hid (SK B h fo w w1) := SK.of_below B1 hB hh
  have HT1 : Hid (Txt w1 w.heap.size cap1 (nums s)) := T1
  have HS1 : Hid (Sd w1 h fo x0) := hsd.below B1 (by omega)
  have H0' : Hid (Calls Tryz.prog 140 #[.pointer (some ⟨h, fo, none⟩), .int .i64 4] w1 (Drw w1 B h fo w.heap.size cap1 (nums s) n x1)) := H0.out w1 cap1 T1 HS1.out
  have HF0 : Hid (F 0 = (nums s, x1)) := hF0
  generalize hLs : s.size = L at hconv
  clear T1 B1 hsd hF0
  go_enter Tryz.func121, Tryz.ntmps121
  go_wp2_with fail
  refine H0'.out.mono ?_
  rintro e w2 ⟨rfl, T2, s2, B2⟩
  have HW : Hid (WSt w B h fo (F 0).1 (F 0).2 (.slice (some ⟨w.heap.size, 0, none⟩) L cap1) w2) := by
    rw [HF0.out]
    exact ⟨_, cap1, hB, by rw [nums_len, hLs], T2, s2, HB1.out.trans B2⟩
  clear T2 s2 B2
  go_wp2_with fail
  go_loopw [7, 13] (fun v i wr => ∃ k : Nat, k ≤ 1 + n ∧ i = .int .i64 k ∧ WSt w B h fo (F k).1 (F k).2 v wr) (fun _ i _ => 1 + n - (intOf i).toNat)
  case atStart => exact ⟨0, by omega, rfl, HW.out⟩
  case round =>
    obtain ⟨k, hk, rfl, ⟨g, cap, hg, rfl, T, s', BB⟩⟩ := hrel
    by_cases hlt' : k < 1 + n
    · have hi1 : (k : Int) < 1 + (n : Int) := by omega
      have HC : Hid (Calls Tryz.prog 164 #[.slice (some ⟨g, 0, none⟩) (F k).1.length cap, .string o, .pointer (some ⟨h, fo, none⟩)] wr (WAns wr B h fo (F (k + 1)).1 (F (k + 1)).2)) := H1.out k wr g cap T s' hg
      generalize (F k).1.length = Lk at HC ⊢
      go_wp2_with fail
      refine HC.out.mono ?_
      rintro e w3 ⟨g3, cap3, hg3, rfl, T3, s3, B3⟩
      have HW3 : Hid (WSt w B h fo (F (k + 1)).1 (F (k + 1)).2 (.slice (some ⟨g3, 0, none⟩) (F (k + 1)).1.length cap3) w3) := ⟨g3, cap3, hg3, rfl, T3, s3, BB.trans B3⟩
      generalize (F (k + 1)).1.length = Lk1 at HW3 ⊢
      clear T3 s3 B3
      go_wp2_with fail
      go_roundw
      case rel => exact ⟨k + 1, by omega, by go_num, HW3.out⟩
      case measure => simp [intOf]; omega
    · have hi1 : ¬ (k : Int) < 1 + (n : Int) := by omega
      obtain rfl : k = 1 + n := by omega
      have cv := conv_back T
      obtain ⟨st, hst⟩ : ∃ st, strOfNums (F (1 + n)).1 = st := ⟨_, rfl⟩
      rw [hst] at cv
      have HST : Hid (strOfNums (F (1 + n)).1 = st) := hst
      clear hst
      generalize (F (1 + n)).1.length = Lk at cv ⊢
      go_wp2_with fail
      go_ret
      exact ⟨by rw [HST.out]; rfl, s', BB⟩

theorem times_len' {l o : List Int} (hl : l.length ≤ 24) (ho : o.length ≤ 24) (x : Int) (n : Nat) : (timesL l o x n).1.length ≤ 24 := (times_len hl ho x n).1
theorem wild_way (s o : ByteArray) (hs : s.size ≤ 24) (ho : o.size ≤ 24) (x : Int) : ∃ (n : Nat) (x1 : Int) (F : Nat → List Int × Int), n = dr x 4 ∧ x1 = sd x ∧ n ≤ 3 ∧ F 0 = (nums s, x1) ∧ (∀ i, F (i + 1) = onceL (F i).1 (nums o) (F i).2) ∧ (∀ i, (F i).1.length ≤ 24) ∧ F (1 + n) = wildL (nums s) (nums o) x := by
  refine ⟨dr x 4, sd x, fun i => timesL (nums s) (nums o) (sd x) i, rfl, rfl, ?_, rfl, fun i => rfl, fun i => times_len' (by rw [nums_len]; exact hs) (by rw [nums_len]; exact ho) _ _, by unfold wildL; rfl⟩
  have := dr_lt x 4 (by omega)
  omega
theorem cWild_any (w : World) (B h fo : Nat) (s o : ByteArray) (hs : s.size ≤ 24) (ho : o.size ≤ 24) (hh : h < B) (hB : B ≤ w.heap.size) (x : Int) (hsd : Sd w h fo x) :
    Calls Tryz.prog 121 #[.string s, .string o, .pointer (some ⟨h, fo, none⟩)] w fun e w' => e = .returned (.string (strOfNums (wildL (nums s) (nums o) x).1)) ∧ Sd w' h fo (wildL (nums s) (nums o) x).2 ∧ SK B h fo w w' := by
  obtain ⟨n, x1, F, hn, hx1, hn3, hF0, hFs, hFl, hFn⟩ := wild_way s o hs ho x
  rw [← hFn]
  refine cWild_core w B h fo s o hs n hn3 x1 F hF0 hh hB x hsd (fun w1 cap T1 s1 => ?_) (fun i w1 g cap T s' hg => ?_)
  · rw [hn, hx1]
    exact below_drw hB hh x 4 (by omega) (by omega) w1 T1 s1
  · rw [hFs i]
    exact once_any w1 B h fo g cap _ o _ T s' hg hh (hFl i) ho

/-- What Wild answers. -/
structure WildAns (w : World) (t : ByteArray) (y : Int) (e : Ending) (w' : World) : Prop where
  bel : Below w.heap.size w w'
  ans : e = .returned (.tuple #[.string t, .int .u64 y])

set_option maxRecDepth 100000 in
theorem xWild_core (w : World) (s o t : ByteArray) (hs : s.size ≤ 24) (ho : o.size ≤ 24) (x y : Int)
    (H : Hid (Calls Tryz.prog 121 #[.string s, .string o, .pointer (some ⟨w.heap.size, 0, none⟩)] (w.alloc (.cells #[.int .u64 x] 87)) fun e w' => e = .returned (.string t) ∧ Sd w' w.heap.size 0 y ∧ Below w.heap.size (w.alloc (.cells #[.int .u64 x] 87)) w')) :
    Calls Tryz.prog 63 #[.string s, .string o, .int .u64 x] w (WildAns w t y) := by
  generalize hL : s.size = L at hs
  generalize hO : o.size = O at ho
  have h1 : ¬ (24 : Int) < (L : Int) := by omega
  have h2 : ¬ (24 : Int) < (O : Int) := by omega
  go_enter Tryz.func63, Tryz.ntmps63
  go_wp2_with fail
  refine H.out.mono ?_
  rintro e w1 ⟨rfl, s1, B1⟩
  have hc := s1.cell
  have hlt := s1.lt
  have HB : Hid (Below w.heap.size w w1) := ((Below.refl _ _).alloc (Nat.le_refl _) _).trans B1
  clear s1 B1
  go_wp2_with fail
  go_quiet (fail)
  go_wp2_with fail
  go_ret2
  exact ⟨⟨HB.out.os, HB.out.tape, HB.out.output, HB.out.size, HB.out.block⟩, rfl⟩

theorem xWild_any (w : World) (s o : ByteArray) (hs : s.size ≤ 24) (ho : o.size ≤ 24) (x : Int) (h0 : 0 ≤ x) (h1 : x ≤ 18446744073709551615) :
    Calls Tryz.prog 63 #[.string s, .string o, .int .u64 x] w (WildAns w (strOfNums (wildL (nums s) (nums o) x).1) (wildL (nums s) (nums o) x).2) :=
  xWild_core w s o _ hs ho x _ ((cWild_any (w.alloc (.cells #[.int .u64 x] 87)) (w.heap.size + 1) w.heap.size 0 s o hs ho (by omega) (by simp) x ⟨by rw [World.cell?_alloc_new]; rfl, World.frozen?_alloc_at (w := w) _ _ w.heap.size 0 rfl, h0, h1⟩).mono fun _ _ ⟨a, b, c⟩ => ⟨a, b, c.below (by omega)⟩)

theorem xWild_long (w : World) (s o : ByteArray) (hsz : s.size ≤ 9223372036854775807) (hoz : o.size ≤ 9223372036854775807) (hl : 24 < s.size ∨ 24 < o.size) (x : Int) :
    Calls Tryz.prog 63 #[.string s, .string o, .int .u64 x] w (WildAns w ⟨#[]⟩ x) := by
  generalize hL : s.size = L at hsz hl
  generalize hO : o.size = O at hoz hl
  by_cases h1 : 24 < L
  · have h1' : (24 : Int) < (L : Int) := by omega
    go_enter Tryz.func63, Tryz.ntmps63
    go_wp2_with fail
    go_ret2
    exact ⟨Below.refl _ _, rfl⟩
  · have h1' : ¬ (24 : Int) < (L : Int) := by omega
    have h2' : (24 : Int) < (O : Int) := by omega
    go_enter Tryz.func63, Tryz.ntmps63
    go_wp2_with fail
    go_ret2
    exact ⟨Below.refl _ _, rfl⟩

/-- Mutant, of any text and number: what the document asks. -/
def mutS (s : ByteArray) (n : Int) : Option (List Int) := if 24 < s.size ∨ n < 0 then none else mutL (nums s) n.toNat
theorem xMutant_any (w : World) (hM : Mrk w) (s : ByteArray) (hsz : s.size ≤ 9223372036854775807) (n : Int) (h1 : -9223372036854775808 ≤ n) (h2 : n ≤ 9223372036854775807) :
    Calls Tryz.prog 62 #[.string s, .int .i64 n] w (MutAns w (mutS s n)) := by
  unfold mutS
  by_cases hl : 24 < s.size
  · rw [if_pos (Or.inl hl)]
    generalize hL : s.size = L at hsz hl
    have hl' : (24 : Int) < (L : Int) := by omega
    go_enter Tryz.func62, Tryz.ntmps62
    go_wp2_with fail
    go_ret2
    exact ⟨Below.refl _ _, rfl⟩
  · by_cases hn : n < 0
    · rw [if_pos (Or.inr hn)]
      have HC : Hid (Calls Tryz.prog 120 #[.string s, .int .i64 n] w (MutAns w none)) := by
        show Calls _ _ _ _ _
        go_enter Tryz.func120, Tryz.ntmps120
        go_wp2_with fail
        go_ret2
        exact ⟨Below.refl _ _, rfl⟩
      generalize hL : s.size = L at hsz hl
      have hl' : ¬ (24 : Int) < (L : Int) := by omega
      go_enter Tryz.func62, Tryz.ntmps62
      go_wp2_with fail
      refine HC.out.mono ?_
      rintro e w1 ⟨B1, rfl⟩
      go_wp2_with fail
      go_ret2
      exact ⟨B1, rfl⟩
    · rw [if_neg (by omega)]
      obtain ⟨m, rfl⟩ : ∃ m : Nat, n = m := ⟨n.toNat, by omega⟩
      have HC : Hid (Calls Tryz.prog 120 #[.string s, .int .i64 m] w (MutAns w (mutL (nums s) m))) := cMutant_any s (by omega) m (by omega) w hM
      rw [Int.toNat_natCast]
      generalize mutL (nums s) m = ot at HC ⊢
      generalize hL : s.size = L at hsz hl
      have hl' : ¬ (24 : Int) < (L : Int) := by omega
      go_enter Tryz.func62, Tryz.ntmps62
      go_wp2_with fail
      refine HC.out.mono ?_
      rintro e w1 ⟨B1, rfl⟩
      cases ot with
      | none =>
        go_wp2_with fail
        go_ret2
        exact ⟨B1, rfl⟩
      | some t =>
        go_wp2_with fail
        go_ret2
        exact ⟨B1, rfl⟩
end Go.Proofs.YtflenkppcclclaaGreatDoor

