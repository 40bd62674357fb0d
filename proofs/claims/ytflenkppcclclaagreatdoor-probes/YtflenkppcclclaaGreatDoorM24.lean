import Derived.Test.YtflenkppcclclaaGreatDoorM20
import Derived.Test.YtflenkppcclclaaGreatDoorM21
import Derived.Test.YtflenkppcclclaaGreatDoorM22
import Derived.Test.YtflenkppcclclaaGreatDoorM23
import Derived.Test.YtflenkppcclclaaGreatDoorM18
namespace Go.Proofs.YtflenkppcclclaaGreatDoor
open Go.RowKit

theorem rstep_any (M : Nat) (w : World) (vs : Value) (inp : ByteArray) (ρ : RR) (cb co L cap p kk : Nat) (k : Int) (A : SAt M w vs inp ρ cb co L cap p kk k) (hcl : kk = 16 ∨ kk = 17 → k < 16)
    (hnum : ∀ x ∈ ρ.stack, 0 ≤ x ∧ x ≤ 65535) (hr0 : 0 ≤ ρ.read) (hr1 : ρ.read ≤ 1000) (hout : ρ.out.size ≤ 100) :
    Calls Tryz.prog 196 #[.pointer (some ⟨M, 0, none⟩)] w (DoesIs M w (.slice (some ⟨cb, co, none⟩) L cap) inp (stepR inp ρ kk k)) := by
  have hkk := A.kk19
  have hlen := A.len
  obtain ⟨⟨s1, s2⟩, ⟨t1, t2⟩, ⟨l1, l2⟩⟩ := shp_bounds kk (by omega)
  have hsz := szOf_pos kk (by omega)
  obtain ⟨t, ht⟩ := Int.eq_ofNat_of_zero_le t1
  obtain ⟨l, hl⟩ := Int.eq_ofNat_of_zero_le l1
  have hk0 := A.k0
  have hk1 := A.k1
  unfold stepR
  by_cases hm : misfitS ρ.stack.length (shp (kk * 3 + 1)) (shp (kk * 3 + 2)) ≠ 0
  · rw [if_pos hm]
    rw [ht, hl] at hm ⊢
    by_cases hu : ρ.stack.length < t
    · have e : misfitS (ρ.stack.length : Int) (t : Int) (l : Int) = 2 := by unfold misfitS; rw [if_pos (by omega)]
      rw [e]
      by_cases h2 : szOf kk = 2
      · exact rstep_u2 M w vs inp ρ cb co L cap p kk k A h2 t l ht hl hu
      · exact rstep_u1 M w vs inp ρ cb co L cap p kk k A (by omega) t l ht hl hu
    · have ho : 32 < ρ.stack.length - t + l := by
        unfold misfitS at hm
        rw [if_neg (by omega)] at hm
        by_cases h : (32 : Int) < (ρ.stack.length : Int) - t + l
        · omega
        · rw [if_neg h] at hm; exact absurd rfl hm
      have e : misfitS (ρ.stack.length : Int) (t : Int) (l : Int) = 3 := by unfold misfitS; rw [if_neg (by omega), if_pos (by omega)]
      rw [e]
      by_cases h2 : szOf kk = 2
      · exact rstep_o2 M w vs inp ρ cb co L cap p kk k A h2 t l ht hl (by omega) (by omega) (by omega) ho
      · exact rstep_o1 M w vs inp ρ cb co L cap p kk k A (by omega) t l ht hl (by omega) (by omega) (by omega) ho
  · rw [if_neg hm]
    have hmz := misfit_zero (Classical.byContradiction hm)
    have hq1 : t ≤ ρ.stack.length := by omega
    have hq2 : ρ.stack.length - t + l ≤ 32 := by omega
    have hA := A.here
    have bd := fun i => getD_bd hnum i
    have hk2 : kk = 16 ∨ kk = 17 → 0 ≤ k ∧ k < 16 := fun h => ⟨hk0, hcl h⟩
    clear hm hmz t1 t2 l1 l2 s1 s2 hcl
    match kk, hkk, A, ht, hl, hk2 with
    | 0, _, A, ht, hl, hk2 =>
      obtain rfl : t = 0 := by have : ((0 : Nat) : Int) = (t : Int) := ht; omega
      obtain rfl : l = 0 := by have : ((0 : Nat) : Int) = (l : Int) := hl; omega
      exact rstep_e0 M w vs inp ρ cb co L cap p 0 k A rfl 0 rfl rfl (by omega) (by omega) (by omega) rfl
    | 1, _, A, ht, hl, hk2 =>
      obtain rfl : t = 0 := by have : ((0 : Nat) : Int) = (t : Int) := ht; omega
      obtain rfl : l = 1 := by have : ((1 : Nat) : Int) = (l : Int) := hl; omega
      exact rstep_g1 M w vs inp ρ cb co L cap p 1 k A rfl 1 rfl rfl (by omega) (by omega) (by omega) (by decide) (by decide) (by decide) (by decide) (by decide) (by decide) _ (fun w1 vs1 h1 => rdoes_any M w1 _ vs1 inp _ 1 0 0 k h1 (by decide) (by decide) (by show (ρ.stack.take _).length ≤ 32; rw [List.length_take]; omega) (by omega) (by omega) (by omega) (by omega) (fun e => by omega) hk2 hr0 hr1 hout) _ (by rw [hA]; rfl)
    | 2, _, A, ht, hl, hk2 =>
      obtain rfl : t = 0 := by have : ((0 : Nat) : Int) = (t : Int) := ht; omega
      obtain rfl : l = 1 := by have : ((1 : Nat) : Int) = (l : Int) := hl; omega
      exact rstep_g3 M w vs inp ρ cb co L cap p 2 k A rfl 1 rfl rfl (by omega) (by omega) (by omega) (by decide) (by decide) (by decide) (by decide) (by decide) (by decide) _ (fun w1 vs1 h1 => rdoes_any M w1 _ vs1 inp _ 2 0 0 k h1 (by decide) (by decide) (by show (ρ.stack.take _).length ≤ 32; rw [List.length_take]; omega) (by omega) (by omega) (by omega) (by omega) (fun e => by omega) hk2 hr0 hr1 hout) _ (by rw [hA]; rfl)
    | 3, _, A, ht, hl, hk2 =>
      obtain rfl : t = 1 := by have : ((1 : Nat) : Int) = (t : Int) := ht; omega
      obtain rfl : l = 2 := by have : ((2 : Nat) : Int) = (l : Int) := hl; omega
      exact rstep_g4 M w vs inp ρ cb co L cap p 3 k A rfl 2 rfl rfl (by omega) (by omega) (by omega) (by decide) (by decide) (by decide) (by decide) (by decide) (by decide) _ (fun w1 vs1 h1 => rdoes_any M w1 _ vs1 inp _ 3 (ρ.stack.getD (ρ.stack.length - 1) 0) 0 k h1 (by decide) (by decide) (by show (ρ.stack.take _).length ≤ 32; rw [List.length_take]; omega) (bd _).1 (bd _).2 (by omega) (by omega) (fun e => by omega) hk2 hr0 hr1 hout) _ (by rw [hA]; rfl)
    | 4, _, A, ht, hl, hk2 =>
      obtain rfl : t = 1 := by have : ((1 : Nat) : Int) = (t : Int) := ht; omega
      obtain rfl : l = 0 := by have : ((0 : Nat) : Int) = (l : Int) := hl; omega
      exact rstep_g4 M w vs inp ρ cb co L cap p 4 k A rfl 0 rfl rfl (by omega) (by omega) (by omega) (by decide) (by decide) (by decide) (by decide) (by decide) (by decide) _ (fun w1 vs1 h1 => rdoes_any M w1 _ vs1 inp _ 4 (ρ.stack.getD (ρ.stack.length - 1) 0) 0 k h1 (by decide) (by decide) (by show (ρ.stack.take _).length ≤ 32; rw [List.length_take]; omega) (bd _).1 (bd _).2 (by omega) (by omega) (fun e => by omega) hk2 hr0 hr1 hout) _ (by rw [hA]; rfl)
    | 5, _, A, ht, hl, hk2 =>
      obtain rfl : t = 2 := by have : ((2 : Nat) : Int) = (t : Int) := ht; omega
      obtain rfl : l = 2 := by have : ((2 : Nat) : Int) = (l : Int) := hl; omega
      exact rstep_g9 M w vs inp ρ cb co L cap p 5 k A rfl 2 rfl rfl (by omega) (by omega) (by omega) (by decide) (by decide) (by decide) (by decide) (by decide) (by decide) _ (fun w1 vs1 h1 => rdoes_any M w1 _ vs1 inp _ 5 (ρ.stack.getD (ρ.stack.length - 2) 0) (ρ.stack.getD (ρ.stack.length - 2 + 1) 0) k h1 (by decide) (by decide) (by show (ρ.stack.take _).length ≤ 32; rw [List.length_take]; omega) (bd _).1 (bd _).2 (bd _).1 (bd _).2 (fun e => by omega) hk2 hr0 hr1 hout) _ (by rw [hA]; rfl)
    | 6, _, A, ht, hl, hk2 =>
      obtain rfl : t = 2 := by have : ((2 : Nat) : Int) = (t : Int) := ht; omega
      obtain rfl : l = 1 := by have : ((1 : Nat) : Int) = (l : Int) := hl; omega
      exact rstep_g9 M w vs inp ρ cb co L cap p 6 k A rfl 1 rfl rfl (by omega) (by omega) (by omega) (by decide) (by decide) (by decide) (by decide) (by decide) (by decide) _ (fun w1 vs1 h1 => rdoes_any M w1 _ vs1 inp _ 6 (ρ.stack.getD (ρ.stack.length - 2) 0) (ρ.stack.getD (ρ.stack.length - 2 + 1) 0) k h1 (by decide) (by decide) (by show (ρ.stack.take _).length ≤ 32; rw [List.length_take]; omega) (bd _).1 (bd _).2 (bd _).1 (bd _).2 (fun e => by omega) hk2 hr0 hr1 hout) _ (by rw [hA]; rfl)
    | 7, _, A, ht, hl, hk2 =>
      obtain rfl : t = 2 := by have : ((2 : Nat) : Int) = (t : Int) := ht; omega
      obtain rfl : l = 1 := by have : ((1 : Nat) : Int) = (l : Int) := hl; omega
      exact rstep_g9 M w vs inp ρ cb co L cap p 7 k A rfl 1 rfl rfl (by omega) (by omega) (by omega) (by decide) (by decide) (by decide) (by decide) (by decide) (by decide) _ (fun w1 vs1 h1 => rdoes_any M w1 _ vs1 inp _ 7 (ρ.stack.getD (ρ.stack.length - 2) 0) (ρ.stack.getD (ρ.stack.length - 2 + 1) 0) k h1 (by decide) (by decide) (by show (ρ.stack.take _).length ≤ 32; rw [List.length_take]; omega) (bd _).1 (bd _).2 (bd _).1 (bd _).2 (fun e => by omega) hk2 hr0 hr1 hout) _ (by rw [hA]; rfl)
    | 8, _, A, ht, hl, hk2 =>
      obtain rfl : t = 2 := by have : ((2 : Nat) : Int) = (t : Int) := ht; omega
      obtain rfl : l = 1 := by have : ((1 : Nat) : Int) = (l : Int) := hl; omega
      exact rstep_g9 M w vs inp ρ cb co L cap p 8 k A rfl 1 rfl rfl (by omega) (by omega) (by omega) (by decide) (by decide) (by decide) (by decide) (by decide) (by decide) _ (fun w1 vs1 h1 => rdoes_any M w1 _ vs1 inp _ 8 (ρ.stack.getD (ρ.stack.length - 2) 0) (ρ.stack.getD (ρ.stack.length - 2 + 1) 0) k h1 (by decide) (by decide) (by show (ρ.stack.take _).length ≤ 32; rw [List.length_take]; omega) (bd _).1 (bd _).2 (bd _).1 (bd _).2 (fun e => by omega) hk2 hr0 hr1 hout) _ (by rw [hA]; rfl)
    | 9, _, A, ht, hl, hk2 =>
      obtain rfl : t = 2 := by have : ((2 : Nat) : Int) = (t : Int) := ht; omega
      obtain rfl : l = 1 := by have : ((1 : Nat) : Int) = (l : Int) := hl; omega
      exact rstep_g9 M w vs inp ρ cb co L cap p 9 k A rfl 1 rfl rfl (by omega) (by omega) (by omega) (by decide) (by decide) (by decide) (by decide) (by decide) (by decide) _ (fun w1 vs1 h1 => rdoes_any M w1 _ vs1 inp _ 9 (ρ.stack.getD (ρ.stack.length - 2) 0) (ρ.stack.getD (ρ.stack.length - 2 + 1) 0) k h1 (by decide) (by decide) (by show (ρ.stack.take _).length ≤ 32; rw [List.length_take]; omega) (bd _).1 (bd _).2 (bd _).1 (bd _).2 (fun e => by omega) hk2 hr0 hr1 hout) _ (by rw [hA]; rfl)
    | 10, _, A, ht, hl, hk2 =>
      obtain rfl : t = 2 := by have : ((2 : Nat) : Int) = (t : Int) := ht; omega
      obtain rfl : l = 1 := by have : ((1 : Nat) : Int) = (l : Int) := hl; omega
      exact rstep_g9 M w vs inp ρ cb co L cap p 10 k A rfl 1 rfl rfl (by omega) (by omega) (by omega) (by decide) (by decide) (by decide) (by decide) (by decide) (by decide) _ (fun w1 vs1 h1 => rdoes_any M w1 _ vs1 inp _ 10 (ρ.stack.getD (ρ.stack.length - 2) 0) (ρ.stack.getD (ρ.stack.length - 2 + 1) 0) k h1 (by decide) (by decide) (by show (ρ.stack.take _).length ≤ 32; rw [List.length_take]; omega) (bd _).1 (bd _).2 (bd _).1 (bd _).2 (fun e => by omega) hk2 hr0 hr1 hout) _ (by rw [hA]; rfl)
    | 11, _, A, ht, hl, hk2 =>
      obtain rfl : t = 2 := by have : ((2 : Nat) : Int) = (t : Int) := ht; omega
      obtain rfl : l = 1 := by have : ((1 : Nat) : Int) = (l : Int) := hl; omega
      by_cases hb0 : ρ.stack.getD (ρ.stack.length - 2 + 1) 0 = 0
      · have e1 : stepD inp ρ 11 k = rfin { ρ with steps := ρ.steps + 1 } 1 1 := if_pos (c := (11 : Nat) = 11 ∧ ρ.stack.getD (ρ.stack.length - 2 + 1) 0 = 0) ⟨rfl, hb0⟩
        rw [e1]
        exact rstep_e11 M w vs inp ρ cb co L cap p 11 k A rfl 1 rfl rfl (by omega) (by omega) (by omega) rfl hb0
      · have e1 : stepD inp ρ 11 k = { doesR inp { ρ with steps := ρ.steps + 1, stack := ρ.stack.take (ρ.stack.length - 2) } 11 (ρ.stack.getD (ρ.stack.length - 2) 0) (ρ.stack.getD (ρ.stack.length - 2 + 1) 0) k with here := ρ.here + (szOf 11 : Int) } := if_neg (c := (11 : Nat) = 11 ∧ ρ.stack.getD (ρ.stack.length - 2 + 1) 0 = 0) (fun e => hb0 e.2)
        rw [e1]
        exact rstep_g10 M w vs inp ρ cb co L cap p 11 k A rfl 1 rfl rfl (by omega) (by omega) (by omega) rfl hb0 _ (fun w1 vs1 h1 => rdoes_any M w1 _ vs1 inp _ 11 (ρ.stack.getD (ρ.stack.length - 2) 0) (ρ.stack.getD (ρ.stack.length - 2 + 1) 0) k h1 (by decide) (by decide) (by show (ρ.stack.take _).length ≤ 32; rw [List.length_take]; omega) (bd _).1 (bd _).2 (bd _).1 (bd _).2 (fun _ => by have := (bd (ρ.stack.length - 2 + 1)).1; omega) hk2 hr0 hr1 hout) _ (by rw [hA]; rfl)
    | 12, _, A, ht, hl, hk2 =>
      obtain rfl : t = 2 := by have : ((2 : Nat) : Int) = (t : Int) := ht; omega
      obtain rfl : l = 1 := by have : ((1 : Nat) : Int) = (l : Int) := hl; omega
      exact rstep_g9 M w vs inp ρ cb co L cap p 12 k A rfl 1 rfl rfl (by omega) (by omega) (by omega) (by decide) (by decide) (by decide) (by decide) (by decide) (by decide) _ (fun w1 vs1 h1 => rdoes_any M w1 _ vs1 inp _ 12 (ρ.stack.getD (ρ.stack.length - 2) 0) (ρ.stack.getD (ρ.stack.length - 2 + 1) 0) k h1 (by decide) (by decide) (by show (ρ.stack.take _).length ≤ 32; rw [List.length_take]; omega) (bd _).1 (bd _).2 (bd _).1 (bd _).2 (fun e => by omega) hk2 hr0 hr1 hout) _ (by rw [hA]; rfl)
    | 13, _, A, ht, hl, hk2 =>
      obtain rfl : t = 2 := by have : ((2 : Nat) : Int) = (t : Int) := ht; omega
      obtain rfl : l = 1 := by have : ((1 : Nat) : Int) = (l : Int) := hl; omega
      exact rstep_g9 M w vs inp ρ cb co L cap p 13 k A rfl 1 rfl rfl (by omega) (by omega) (by omega) (by decide) (by decide) (by decide) (by decide) (by decide) (by decide) _ (fun w1 vs1 h1 => rdoes_any M w1 _ vs1 inp _ 13 (ρ.stack.getD (ρ.stack.length - 2) 0) (ρ.stack.getD (ρ.stack.length - 2 + 1) 0) k h1 (by decide) (by decide) (by show (ρ.stack.take _).length ≤ 32; rw [List.length_take]; omega) (bd _).1 (bd _).2 (bd _).1 (bd _).2 (fun e => by omega) hk2 hr0 hr1 hout) _ (by rw [hA]; rfl)
    | 14, _, A, ht, hl, hk2 =>
      obtain rfl : t = 0 := by have : ((0 : Nat) : Int) = (t : Int) := ht; omega
      obtain rfl : l = 0 := by have : ((0 : Nat) : Int) = (l : Int) := hl; omega
      exact rstep_g2 M w vs inp ρ cb co L cap p 14 k A rfl 0 rfl rfl (by omega) (by omega) (by omega) rfl _ (fun w1 vs1 h1 => rdoes_any M w1 _ vs1 inp _ 14 0 0 k h1 (by decide) (by decide) (by show (ρ.stack.take _).length ≤ 32; rw [List.length_take]; omega) (by omega) (by omega) (by omega) (by omega) (fun e => by omega) hk2 hr0 hr1 hout) k rfl
    | 15, _, A, ht, hl, hk2 =>
      obtain rfl : t = 1 := by have : ((1 : Nat) : Int) = (t : Int) := ht; omega
      obtain rfl : l = 0 := by have : ((0 : Nat) : Int) = (l : Int) := hl; omega
      have e1 : stepD inp ρ 15 k = { doesR inp { ρ with steps := ρ.steps + 1, stack := ρ.stack.take (ρ.stack.length - 1) } 15 (ρ.stack.getD (ρ.stack.length - 1) 0) 0 k with here := if (15 : Nat) = 14 ∨ ((15 : Nat) = 15 ∧ ρ.stack.getD (ρ.stack.length - 1) 0 = 0) then k else ρ.here + (szOf 15 : Int) } := rfl
      rw [e1]
      by_cases ha0 : ρ.stack.getD (ρ.stack.length - 1) 0 = 0
      · rw [if_pos (Or.inr ⟨rfl, ha0⟩)]
        exact rstep_g7 M w vs inp ρ cb co L cap p 15 k A rfl 0 rfl rfl (by omega) (by omega) (by omega) rfl ha0 _ (fun w1 vs1 h1 => rdoes_any M w1 _ vs1 inp _ 15 (ρ.stack.getD (ρ.stack.length - 1) 0) 0 k h1 (by decide) (by decide) (by show (ρ.stack.take _).length ≤ 32; rw [List.length_take]; omega) (bd _).1 (bd _).2 (by omega) (by omega) (fun e => by omega) hk2 hr0 hr1 hout) k rfl
      · rw [if_neg (fun e => ha0 (by rcases e with e | e; (cases e); (exact e.2)))]
        exact rstep_g8 M w vs inp ρ cb co L cap p 15 k A rfl 0 rfl rfl (by omega) (by omega) (by omega) rfl ha0 _ (fun w1 vs1 h1 => rdoes_any M w1 _ vs1 inp _ 15 (ρ.stack.getD (ρ.stack.length - 1) 0) 0 k h1 (by decide) (by decide) (by show (ρ.stack.take _).length ≤ 32; rw [List.length_take]; omega) (bd _).1 (bd _).2 (by omega) (by omega) (fun e => by omega) hk2 hr0 hr1 hout) _ (by rw [hA]; rfl)
    | 16, _, A, ht, hl, hk2 =>
      obtain rfl : t = 0 := by have : ((0 : Nat) : Int) = (t : Int) := ht; omega
      obtain rfl : l = 1 := by have : ((1 : Nat) : Int) = (l : Int) := hl; omega
      exact rstep_g1 M w vs inp ρ cb co L cap p 16 k A rfl 1 rfl rfl (by omega) (by omega) (by omega) (by decide) (by decide) (by decide) (by decide) (by decide) (by decide) _ (fun w1 vs1 h1 => rdoes_any M w1 _ vs1 inp _ 16 0 0 k h1 (by decide) (by decide) (by show (ρ.stack.take _).length ≤ 32; rw [List.length_take]; omega) (by omega) (by omega) (by omega) (by omega) (fun e => by omega) hk2 hr0 hr1 hout) _ (by rw [hA]; rfl)
    | 17, _, A, ht, hl, hk2 =>
      obtain rfl : t = 1 := by have : ((1 : Nat) : Int) = (t : Int) := ht; omega
      obtain rfl : l = 0 := by have : ((0 : Nat) : Int) = (l : Int) := hl; omega
      exact rstep_g6 M w vs inp ρ cb co L cap p 17 k A rfl 0 rfl rfl (by omega) (by omega) (by omega) (by decide) (by decide) (by decide) (by decide) (by decide) (by decide) _ (fun w1 vs1 h1 => rdoes_any M w1 _ vs1 inp _ 17 (ρ.stack.getD (ρ.stack.length - 1) 0) 0 k h1 (by decide) (by decide) (by show (ρ.stack.take _).length ≤ 32; rw [List.length_take]; omega) (bd _).1 (bd _).2 (by omega) (by omega) (fun e => by omega) hk2 hr0 hr1 hout) _ (by rw [hA]; rfl)
    | 18, _, A, ht, hl, hk2 =>
      obtain rfl : t = 1 := by have : ((1 : Nat) : Int) = (t : Int) := ht; omega
      obtain rfl : l = 0 := by have : ((0 : Nat) : Int) = (l : Int) := hl; omega
      by_cases hf : 16 ≤ ρ.out.size
      · have e1 : stepD inp ρ 18 k = rfin { ρ with steps := ρ.steps + 1 } 1 4 := if_pos (c := (18 : Nat) = 18 ∧ 16 ≤ ρ.out.size) ⟨rfl, hf⟩
        rw [e1]
        exact rstep_e18 M w vs inp ρ cb co L cap p 18 k A rfl 0 rfl rfl (by omega) (by omega) (by omega) rfl hf
      · have e1 : stepD inp ρ 18 k = { doesR inp { ρ with steps := ρ.steps + 1, stack := ρ.stack.take (ρ.stack.length - 1) } 18 (ρ.stack.getD (ρ.stack.length - 1) 0) 0 k with here := ρ.here + (szOf 18 : Int) } := if_neg (c := (18 : Nat) = 18 ∧ 16 ≤ ρ.out.size) (fun e => hf e.2)
        rw [e1]
        exact rstep_g5 M w vs inp ρ cb co L cap p 18 k A rfl 0 rfl rfl (by omega) (by omega) (by omega) rfl (by omega) _ (fun w1 vs1 h1 => rdoes_any M w1 _ vs1 inp _ 18 (ρ.stack.getD (ρ.stack.length - 1) 0) 0 k h1 (by decide) (by decide) (by show (ρ.stack.take _).length ≤ 32; rw [List.length_take]; omega) (bd _).1 (bd _).2 (by omega) (by omega) (fun e => by omega) hk2 hr0 hr1 hout) _ (by rw [hA]; rfl)
    | 19, _, A, ht, hl, hk2 =>
      obtain rfl : t = 0 := by have : ((0 : Nat) : Int) = (t : Int) := ht; omega
      obtain rfl : l = 0 := by have : ((0 : Nat) : Int) = (l : Int) := hl; omega
      exact rstep_e19 M w vs inp ρ cb co L cap p 19 k A rfl 0 rfl rfl (by omega) (by omega) (by omega) rfl
    | kk + 20, hkk, _, _, _, _ => omega
end Go.Proofs.YtflenkppcclclaaGreatDoor

namespace Go.Proofs.YtflenkppcclclaaGreatDoor
open Go.RowKit

theorem rel_round {inp : ByteArray} {c ent : Nat → Int} {L : Nat} {S : Nat → Prop} {fuel : Int} {ρ : RR} {τ : RS} (hG : Good c L S) (hI : Inv L S fuel τ) (h : Rel inp ρ τ) (he : τ.σ.ended = false) :
    Rel inp (rroundR inp c ent fuel ρ) (roundS c ent fuel τ) := by
  have Al := h.alive he
  have hst := hI.start he
  obtain ⟨hpL, hk20⟩ := hG.lt _ hst
  have hk : (c τ.σ.next.toNat).toNat ≤ 20 := by omega
  obtain ⟨s1, s2, s3⟩ := szOf_pos _ hk
  have hb := hG.byte τ.σ.next.toNat (by omega)
  obtain ⟨n0, n1⟩ := second_bounds hG hst
  have hh := Al.here
  unfold rroundR roundS
  rw [hh]
  -- the counts
  have h1 : Rel inp (cameR (ent τ.σ.next.toNat) ρ)
      { σ := τ.σ, cnt := if ent τ.σ.next.toNat = -1 then τ.cnt else comeS τ.cnt τ.ah (ent τ.σ.next.toNat), ah := if ent τ.σ.next.toNat = -1 then τ.ah else ent τ.σ.next.toNat + 1 } := by
    unfold cameR
    by_cases e : ent τ.σ.next.toNat = -1
    · rw [if_pos e, if_pos e, if_pos e]
      exact ⟨h.alive, h.cnt, h.ah, h.kind, h.fault, h.steps, h.out, h.over, h.place⟩
    · rw [if_neg e, if_neg e, if_neg e]
      exact ⟨fun _ => ⟨Al.stack, Al.cells, Al.rd0, Al.rd1, Al.input, Al.here, Al.num, Al.cel⟩, by show comeS ρ.cnt ρ.ah _ = _; rw [h.cnt, h.ah], rfl, h.kind, h.fault, h.steps, h.out, h.over, h.place⟩
  generalize cameR (ent τ.σ.next.toNat) ρ = ρ1 at h1
  generalize (if ent τ.σ.next.toNat = -1 then τ.cnt else comeS τ.cnt τ.ah (ent τ.σ.next.toNat)) = cn at h1
  generalize (if ent τ.σ.next.toNat = -1 then τ.ah else ent τ.σ.next.toNat + 1) = ah at h1
  have A1 := h1.alive he
  unfold advS
  by_cases e20 : (c τ.σ.next.toNat).toNat = 20
  · rw [if_pos e20, if_pos e20]
    exact ⟨fun _ => ⟨A1.stack, A1.cells, A1.rd0, A1.rd1, A1.input, rfl, A1.num, A1.cel⟩, h1.cnt, h1.ah, h1.kind, h1.fault, h1.steps, h1.out, h1.over, fun e => by rw [he] at e; cases e⟩
  rw [if_neg e20, if_neg e20]
  have hfs := hI.steps
  have hst2 := h.steps
  by_cases es : τ.σ.steps = fuel
  · rw [if_pos (show fuel ≤ ρ.steps by omega), if_pos (show ({ τ.σ with place := τ.σ.next } : St).steps = fuel from es)]
    exact ⟨(fun e => by cases e), h1.cnt, h1.ah, rfl, rfl, h1.steps, h1.out, rfl, fun _ => A1.here⟩
  rw [if_neg (show ¬ fuel ≤ ρ.steps by omega), if_neg (show ¬ ({ τ.σ with place := τ.σ.next } : St).steps = fuel from es)]
  unfold stepR
  have hstk : ρ1.stack = τ.σ.stack := A1.stack
  rw [hstk]
  by_cases er : misfitS τ.σ.stack.length (shp ((c τ.σ.next.toNat).toNat * 3 + 1)) (shp ((c τ.σ.next.toNat).toNat * 3 + 2)) ≠ 0
  · rw [if_pos er, if_pos er]
    exact ⟨(fun e => by cases e), h1.cnt, h1.ah, rfl, rfl, by show ρ1.steps + 1 = τ.σ.steps + 1; rw [h1.steps], h1.out, rfl, fun _ => A1.here⟩
  rw [if_neg er, if_neg er]
  exact rel_do h1 he _ _ (by omega) n0 n1 hI.out

/-- The run's beginning. -/
def r0 : RR := ⟨[], fun _ => 0, 0, 0, fun _ => 0, 0, 0, 0, 0, ByteArray.empty, 0, false⟩
theorem rel_begin (inp : ByteArray) : Rel inp r0 (ρ0 inp) :=
  ⟨fun _ => ⟨rfl, rfl, Int.le_refl _, by show (0 : Int) ≤ _; omega, by
    show inp = inp.extract (0 : Int).toNat inp.size
    apply rb_ext
    show inp.data.toList = (inp.extract 0 inp.size).data.toList
    rw [Lib.extract_to_end]; rfl, rfl, (fun x hx => by cases hx), fun _ => by show (0 : Int) ≤ 0 ∧ (0 : Int) ≤ 65535; omega⟩, rfl, rfl, rfl, rfl, rfl, rfl, rfl, fun e => by cases e⟩
end Go.Proofs.YtflenkppcclclaaGreatDoor

namespace Go.Proofs.YtflenkppcclclaaGreatDoor
open Go.RowKit

def rcells (v : Value) (s : ByteArray) : Array Value := #[v, .string s, .int .i64 0, .slice none 0 0] ++ (Array.replicate 85 (.int .i64 0) ++ #[.string ByteArray.empty, .int .i64 0, .bool false])
theorem rbuild (a : Option Addr) (n c : Nat) (s : ByteArray) (w : World) : (Instr.build 253 #[(0, .slice a n c), (1, .string s)]).run Tryz.prog w = .ok (.agg (rcells (.slice a n c) s)) w := by kernel_rfl
theorem rbox (a : Option Addr) (n c : Nat) (s : ByteArray) (w : World) : (Instr.box 253 (.agg (rcells (.slice a n c) s))).run Tryz.prog w = .ok (.pointer (some ⟨w.heap.size, 0, none⟩)) (w.alloc (.cells (rcells (.slice a n c) s) 253)) := by kernel_rfl
theorem ralloc27 (w : World) : (Instr.alloc 35 true (.tuple #[])).run Tryz.prog w = .ok (.pointer (some ⟨w.heap.size, 0, none⟩)) (w.alloc (.cells z27 35)) := by kernel_rfl

section
variable {P : Program} {w : World} {ops : Array Oper} {rest : List Oper} {o : Oper} {a : Act} {Q : Exit → Act → World → Prop}
/-- A struct of which two parts are given. -/
theorem wpList_build2_c (hgd : o.guard = none) (t : TypeId) (i j : Nat) (x y : Operand) (ho : o.op = .build t #[(i, x), (j, y)]) (v u : Value) (hx : a.eval x = v) (hy : a.eval y = u) (cs : Array Value) (hrun : ∀ w, (Instr.build t #[(i, v), (j, u)]).run P w = .ok (.agg cs) w)
    (h : wpList P ops Q rest (a.put o.dst (.agg cs)) w) : wpList P ops Q (o :: rest) a w := by
  refine wpList_plain hgd fun K hK => ?_
  unfold Oper.wp execOp
  simp only [ho, List.map_toArray, List.map_cons, List.map_nil, hx, hy, hrun, Sem.run_bind, Sem.run_pure, Result.andThen_ok]
  exact hK _ _ h
/-- A struct, laid in new memory. -/
theorem wpList_box_c (hgd : o.guard = none) (t : TypeId) (x : Operand) (ho : o.op = .box t x) (v : Value) (hx : a.eval x = v) (cs : Array Value) (hrun : ∀ w, (Instr.box t v).run P w = .ok (.pointer (some ⟨w.heap.size, 0, none⟩)) (w.alloc (.cells cs t)))
    (h : wpList P ops Q rest (a.put o.dst (.pointer (some ⟨w.heap.size, 0, none⟩))) (w.alloc (.cells cs t))) : wpList P ops Q (o :: rest) a w := by
  refine wpList_plain hgd fun K hK => ?_
  unfold Oper.wp execOp
  simp only [ho, hx, hrun, Sem.run_bind, Sem.run_pure, Result.andThen_ok]
  exact hK _ _ h
end

theorem rmval_zero (v : Value) (s : ByteArray) {j : Nat} (h4 : 4 ≤ j) (h89 : j < 89) : rmval v (.slice none 0 0) s r0 j = .int .i64 0 := by
  unfold rmval
  rw [if_neg (by omega), if_neg (by omega), if_neg (by omega), if_neg (by omega)]
  by_cases a : j < 20
  · rw [if_pos a]; rfl
  · rw [if_neg a]
    by_cases b : j = 20
    · rw [if_pos b]; rfl
    · rw [if_neg b]
      by_cases d : j < 85
      · rw [if_pos d]; rfl
      · rw [if_neg d]
        have : j = 85 ∨ j = 86 ∨ j = 87 ∨ j = 88 := by omega
        rcases this with rfl | rfl | rfl | rfl <;> rfl
theorem rcells_get (v : Value) (s : ByteArray) (j : Nat) (hj : j < 92) : (rcells v s)[j]? = some (rmval v (.slice none 0 0) s r0 j) := by
  unfold rcells
  by_cases h4 : j < 4
  · rw [Array.getElem?_append_left (by simp; omega)]
    have : j = 0 ∨ j = 1 ∨ j = 2 ∨ j = 3 := by omega
    rcases this with rfl | rfl | rfl | rfl <;> rfl
  · rw [Array.getElem?_append_right (by simp; omega)]
    have e4 : (#[v, Value.string s, .int .i64 0, .slice none 0 0] : Array Value).size = 4 := rfl
    rw [e4]
    by_cases h89 : j < 89
    · rw [Array.getElem?_append_left (by rw [Array.size_replicate]; omega), Array.getElem?_replicate, if_pos (by omega), rmval_zero v s (by omega) h89]
    · rw [Array.getElem?_append_right (by rw [Array.size_replicate]; omega), Array.size_replicate]
      have : j = 89 ∨ j = 90 ∨ j = 91 := by omega
      rcases this with rfl | rfl | rfl <;> rfl
theorem rms_begin {w : World} {M : Nat} {v : Value} {s : ByteArray} (h : w.heap[M]? = some (.cells (rcells v s) 253 (0, 0))) : RMS M w v (.slice none 0 0) s r0 where
  cell := fun j hj => by rw [cell_of_row w M _ _ _ _ h]; exact rcells_get v s j hj
  thaw := fun j => frozen_of_row w M j _ _ h
  row := ⟨none, 0, rfl, ⟨Nat.le_refl _, by omega, Or.inl ⟨rfl, rfl⟩⟩, fun i x hx => by cases hx⟩

/-- The place of the k-th block. -/
theorem blk_at {c : Nat → Int} {N : Nat} : ∀ M k, k < cntR c N M → ∃ t, t < M ∧ (blkl c N M)[k]? = some (.int .i64 (pos c t)) ∧ rbegAt c t N = true ∧ cntR c N t = k := by
  intro M
  induction M with
  | zero => intro k hk; have : cntR c N 0 = 0 := rfl
            omega
  | succ M ih =>
    intro k hk
    have hl : (blkl c N M).length = cntR c N M := by unfold blkl cntR; rw [List.length_map]
    cases hb : rbegAt c M N with
    | false =>
      obtain ⟨e1, e2⟩ := blk_skip hb
      rw [e2] at hk
      obtain ⟨t, h1, h2, h3, h4⟩ := ih k hk
      exact ⟨t, by omega, by rw [e1]; exact h2, h3, h4⟩
    | true =>
      obtain ⟨e1, e2⟩ := blk_take hb
      rw [e2] at hk
      by_cases hlt : k < cntR c N M
      · obtain ⟨t, h1, h2, h3, h4⟩ := ih k hlt
        exact ⟨t, by omega, by rw [e1, List.getElem?_append_left (by rw [hl]; exact hlt)]; exact h2, h3, h4⟩
      · have hk2 : k = cntR c N M := by omega
        subst hk2
        refine ⟨M, by omega, ?_, hb, rfl⟩
        rw [e1, List.getElem?_append_right (by rw [hl]; exact Nat.le_refl _), hl, Nat.sub_self]; rfl
theorem cntR_mono (c : Nat → Int) (N m : Nat) : ∀ d, cntR c N m ≤ cntR c N (m + d)
  | 0 => Nat.le_refl _
  | d + 1 => by
    have := cntR_mono c N m d
    cases hb : rbegAt c (m + d) N with
    | false => rw [← Nat.add_assoc, (blk_skip hb).2]; exact this
    | true => rw [← Nat.add_assoc, (blk_take hb).2]; omega
theorem cntR_lt {c : Nat → Int} {N m k : Nat} (hb : rbegAt c m N = true) (h : m < k) : cntR c N m < cntR c N k := by
  have h1 := (blk_take hb).2
  have h2 := cntR_mono c N (m + 1) (k - (m + 1))
  rw [show m + 1 + (k - (m + 1)) = k by omega] at h2
  omega
theorem cntR_inj {c : Nat → Int} {N m k : Nat} (hm : rbegAt c m N = true) (hk : rbegAt c k N = true) (h : cntR c N m = cntR c N k) : m = k := by
  rcases Nat.lt_trichotomy m k with q | q | q
  · have := cntR_lt hm q; omega
  · exact q
  · have := cntR_lt hk q; omega
end Go.Proofs.YtflenkppcclclaaGreatDoor

