import Derived.Test.YtflenkppcclclaaGreatDoorM19
import Derived.BigQuiet
namespace Go.Proofs.YtflenkppcclclaaGreatDoor
open Go.RowKit

set_option maxRecDepth 100000 in
set_option maxHeartbeats 4000000 in
theorem rstep_g9 (M : Nat) (w : World) (vs : Value) (inp : ByteArray) (ρ : RR) (cb co L cap p kk : Nat) (k : Int) (A : SAt M w vs inp ρ cb co L cap p kk k) (hsz : szOf kk = 1) (l : Nat) (ht : shp (kk * 3 + 1) = 2) (hl : shp (kk * 3 + 2) = (l : Int)) (hl2 : l ≤ 2) (hu : 2 ≤ ρ.stack.length) (ho : ρ.stack.length - 2 + l ≤ 32) (h0 : kk ≠ 0) (h11 : kk ≠ 11) (h18 : kk ≠ 18) (h19 : kk ≠ 19) (h14 : kk ≠ 14) (h15 : kk ≠ 15) (ρ3 : RR) (HD : ∀ (w1 : World) (vs1 : Value), RMS M w1 (.slice (some ⟨cb, co, none⟩) L cap) vs1 inp { ρ with steps := ρ.steps + 1, stack := ρ.stack.take (ρ.stack.length - 2) } → Calls Tryz.prog 230 #[.pointer (some ⟨M, 0, none⟩), .int .u8 (kk : Int), .int .i64 (ρ.stack.getD (ρ.stack.length - 2) 0), .int .i64 (ρ.stack.getD (ρ.stack.length - 2 + 1) 0), .int .i64 k] w1 (DoesIs M w1 (.slice (some ⟨cb, co, none⟩) L cap) inp ρ3)) (nx : Int) (hnx : nx = (p : Int) + 1) :
    Calls Tryz.prog 196 #[.pointer (some ⟨M, 0, none⟩)] w (DoesIs M w (.slice (some ⟨cb, co, none⟩) L cap) inp { ρ3 with here := nx }) := by
  obtain ⟨h, hhere, hck, hlt, hsnd, hone, hk0, hk1, hne, hroom, hcap, h240, hkk, hlen, hs0, hs1⟩ := A
  have c0 : w.cell? ⟨M, 0, none⟩ = some (.slice (some ⟨cb, co, none⟩) L cap) := h.cell 0 (by omega)
  have c20 : w.cell? ⟨M, 20, none⟩ = some (.int .i64 (p : Int)) := (h.cell 20 (by omega)).trans (by rw [← hhere]; rfl)
  have c90 : w.cell? ⟨M, 90, none⟩ = some (.int .i64 ρ.steps) := h.cell 90 (by omega)
  have c89 : w.cell? ⟨M, 89, none⟩ = some (.string ρ.out) := h.cell 89 (by omega)
  have f90 := h.thaw 90
  have f3 := h.thaw 3
  have hi1 : (p : Int) < (L : Int) := by omega
  obtain ⟨pp, n, cp, rfl⟩ := h.slice
  obtain ⟨hn, hrm, htop⟩ := h.top
  have c3 : w.cell? ⟨M, 3, none⟩ = some (.slice pp n cp) := h.cell 3 (by omega)
  rw [← hn] at hlen hu ho
  have hsr := szR_is (kk := kk) (by omega)
  have htr := tkR_is (kk := kk) (by omega)
  have hlr := lyR_is (kk := kk) (by omega)
  rw [hsz] at hsr
  rw [ht] at htr
  rw [hl] at hlr
  have QSZ : Hid (∀ w, Calls Tryz.prog 193 #[.int .u8 (kk : Int)] w fun e w' => e = .returned (.int .i64 1) ∧ w' = w) := fun w => by have := rsize_any (kk : Int) w; rw [hsr] at this; exact this
  have QLY : Hid (∀ w, Calls Tryz.prog 229 #[.int .u8 (kk : Int)] w fun e w' => e = .returned (.int .i64 (l : Int)) ∧ w' = w) := fun w => by have := rlays_any (kk : Int) w; rw [hlr] at this; exact this
  obtain rfl := hone (by omega)
  have hu' : ¬ (n : Int) < 2 := by omega
  have ho' : ¬ (32 : Int) < (n : Int) - 2 + (l : Int) := by omega
  obtain ⟨q, rfl⟩ : ∃ q, n = q + 2 := ⟨n - 2, by omega⟩
  obtain ⟨g, rfl, hgM, ca⟩ := htop q (by omega)
  obtain ⟨g', hg', _, cb'⟩ := htop (q + 1) (by omega)
  obtain rfl : g = g' := by simpa using hg'
  have hgl : g < w.heap.size := block_lt_of_cell ca
  have iq : ρ.stack.length - 2 = q := by omega

  rw [iq] at HD
  generalize hAA : ρ.stack.getD q 0 = av at *
  generalize hBB : ρ.stack.getD (q + 1) 0 = bv at *
  have ix1 : (((q + 2 : Nat) : Int)) - 2 = (q : Int) := by omega
  have ix1' : (q : Int) + 2 - 2 = (q : Int) := by omega
  have ix0 : (q : Int) < (q : Int) + 2 := by omega
  have ix2 : (q : Int) + 2 - 1 = (q : Int) + 1 := by omega
  have ix3 : (q : Int) + 1 < (q : Int) + 2 := by omega
  have HSR : Hid (SRow M w (.slice (some ⟨g, 0, none⟩) q cp) (ρ.stack.take q)) := (h.row.take q (by omega)).2.2
  have hK2 : Hid (Kept w.heap.size M w ((w.setCell ⟨M, 90, none⟩ (.int .i64 (ρ.steps + 1))).setCell ⟨M, 3, none⟩ (.slice (some ⟨g, 0, none⟩) q cp))) := (Kept.set _ _ _ _ _).trans (Kept.set _ _ _ _ _)
  have HN : Hid (nx = (p : Int) + 1) := hnx
  clear hnx
  have HD' : Hid _ := HD
  clear HD
  have e0 : ((kk : Int) == 0) = false := by rw [beq_eq_false_iff_ne]; omega
  have e11 : ((kk : Int) == 11) = false := by rw [beq_eq_false_iff_ne]; omega
  have e18 : ((kk : Int) == 18) = false := by rw [beq_eq_false_iff_ne]; omega
  have e19 : ((kk : Int) == 19) = false := by rw [beq_eq_false_iff_ne]; omega
  have e14 : ((kk : Int) == 14) = false := by rw [beq_eq_false_iff_ne]; omega
  have e15 : ((kk : Int) == 15) = false := by rw [beq_eq_false_iff_ne]; omega
  have hcp := hrm.1
  have hcp2 := hrm.2.1
  clear hn iq
  have hR : Hid (RMS M (w.setCell ⟨M, 90, none⟩ (.int .i64 (ρ.steps + 1))) (.slice (some ⟨cb, co, none⟩) L cap) (.slice (some ⟨g, 0, none⟩) (q + 2) cp) inp { ρ with steps := ρ.steps + 1 }) := h.setSteps (ρ.steps + 1)
  have hK : Hid (Kept w.heap.size M w (w.setCell ⟨M, 90, none⟩ (.int .i64 (ρ.steps + 1)))) := Kept.set _ _ _ _ _
  have HH : Hid (ρ.here = (p : Int)) := hhere
  clear h hsnd hone htop hhere
  go_enter Tryz.func196, Tryz.ntmps196
  go_wp2_with fail
  go_quiet (fail)
  go_wp2_with (first | (go_at_call 193; refine (rsize_any _ _).mono ?_; rintro e w' ⟨rfl, rfl⟩; rw [hsr]) | (go_at_call 228; refine (rtakes_any _ _).mono ?_; rintro e w' ⟨rfl, rfl⟩; rw [htr]))
  go_quiet ((go_at_call 229; refine Calls.quiet_of_same (QLY.out _)))
  go_wp2_with fail
  go_quiet (fail)
  go_wp2_with fail
  go_quiet (fail)
  go_wp2_with fail
  go_quiet (fail)
  go_wp2_with fail
  go_quiet ((go_at_call 193; refine Calls.quiet_of_same (QSZ.out _)))
  go_wp2_with fail
  refine (HD'.out _ (.slice (some ⟨g, 0, none⟩) q cp) ?rm).mono ?_
  case rm => exact (hR.out.setStack (HSR.out.set 90 _)).same rfl
  rintro e w2 ⟨rfl, ⟨vs2, R2⟩, K2⟩
  have g20 := R2.cell 20 (by omega)
  have j20 := R2.thaw 20
  have HR3 : Hid (RMS M (w2.setCell ⟨M, 20, none⟩ (.int .i64 ((p : Int) + 1))) (.slice (some ⟨cb, co, none⟩) L cap) vs2 inp { ρ3 with here := (p : Int) + 1 }) := R2.setHere ((p : Int) + 1)
  have HK3 : Hid (Kept w.heap.size M w (w2.setCell ⟨M, 20, none⟩ (.int .i64 ((p : Int) + 1)))) := ((K2.sized (by simp)).from hK2.out rfl rfl rfl rfl).trans (Kept.set _ _ _ _ _)
  clear R2 K2
  go_wp2_with fail
  go_end0
  refine ⟨rfl, ⟨vs2, ?_⟩, ?_⟩
  · rw [HN.out]; exact HR3.out
  · exact HK3.out

set_option maxRecDepth 100000 in
set_option maxHeartbeats 4000000 in
theorem rstep_g10 (M : Nat) (w : World) (vs : Value) (inp : ByteArray) (ρ : RR) (cb co L cap p kk : Nat) (k : Int) (A : SAt M w vs inp ρ cb co L cap p kk k) (hsz : szOf kk = 1) (l : Nat) (ht : shp (kk * 3 + 1) = 2) (hl : shp (kk * 3 + 2) = (l : Int)) (hl2 : l ≤ 2) (hu : 2 ≤ ρ.stack.length) (ho : ρ.stack.length - 2 + l ≤ 32) (h11 : kk = 11) (hb0 : (ρ.stack.getD (ρ.stack.length - 2 + 1) 0) ≠ 0) (ρ3 : RR) (HD : ∀ (w1 : World) (vs1 : Value), RMS M w1 (.slice (some ⟨cb, co, none⟩) L cap) vs1 inp { ρ with steps := ρ.steps + 1, stack := ρ.stack.take (ρ.stack.length - 2) } → Calls Tryz.prog 230 #[.pointer (some ⟨M, 0, none⟩), .int .u8 (kk : Int), .int .i64 (ρ.stack.getD (ρ.stack.length - 2) 0), .int .i64 (ρ.stack.getD (ρ.stack.length - 2 + 1) 0), .int .i64 k] w1 (DoesIs M w1 (.slice (some ⟨cb, co, none⟩) L cap) inp ρ3)) (nx : Int) (hnx : nx = (p : Int) + 1) :
    Calls Tryz.prog 196 #[.pointer (some ⟨M, 0, none⟩)] w (DoesIs M w (.slice (some ⟨cb, co, none⟩) L cap) inp { ρ3 with here := nx }) := by
  obtain ⟨h, hhere, hck, hlt, hsnd, hone, hk0, hk1, hne, hroom, hcap, h240, hkk, hlen, hs0, hs1⟩ := A
  have c0 : w.cell? ⟨M, 0, none⟩ = some (.slice (some ⟨cb, co, none⟩) L cap) := h.cell 0 (by omega)
  have c20 : w.cell? ⟨M, 20, none⟩ = some (.int .i64 (p : Int)) := (h.cell 20 (by omega)).trans (by rw [← hhere]; rfl)
  have c90 : w.cell? ⟨M, 90, none⟩ = some (.int .i64 ρ.steps) := h.cell 90 (by omega)
  have c89 : w.cell? ⟨M, 89, none⟩ = some (.string ρ.out) := h.cell 89 (by omega)
  have f90 := h.thaw 90
  have f3 := h.thaw 3
  have hi1 : (p : Int) < (L : Int) := by omega
  obtain ⟨pp, n, cp, rfl⟩ := h.slice
  obtain ⟨hn, hrm, htop⟩ := h.top
  have c3 : w.cell? ⟨M, 3, none⟩ = some (.slice pp n cp) := h.cell 3 (by omega)
  rw [← hn] at hlen hu ho
  have hsr := szR_is (kk := kk) (by omega)
  have htr := tkR_is (kk := kk) (by omega)
  have hlr := lyR_is (kk := kk) (by omega)
  rw [hsz] at hsr
  rw [ht] at htr
  rw [hl] at hlr
  have QSZ : Hid (∀ w, Calls Tryz.prog 193 #[.int .u8 (kk : Int)] w fun e w' => e = .returned (.int .i64 1) ∧ w' = w) := fun w => by have := rsize_any (kk : Int) w; rw [hsr] at this; exact this
  have QLY : Hid (∀ w, Calls Tryz.prog 229 #[.int .u8 (kk : Int)] w fun e w' => e = .returned (.int .i64 (l : Int)) ∧ w' = w) := fun w => by have := rlays_any (kk : Int) w; rw [hlr] at this; exact this
  obtain rfl := hone (by omega)
  have hu' : ¬ (n : Int) < 2 := by omega
  have ho' : ¬ (32 : Int) < (n : Int) - 2 + (l : Int) := by omega
  obtain ⟨q, rfl⟩ : ∃ q, n = q + 2 := ⟨n - 2, by omega⟩
  obtain ⟨g, rfl, hgM, ca⟩ := htop q (by omega)
  obtain ⟨g', hg', _, cb'⟩ := htop (q + 1) (by omega)
  obtain rfl : g = g' := by simpa using hg'
  have hgl : g < w.heap.size := block_lt_of_cell ca
  have iq : ρ.stack.length - 2 = q := by omega

  rw [iq] at HD hb0
  generalize hAA : ρ.stack.getD q 0 = av at *
  generalize hBB : ρ.stack.getD (q + 1) 0 = bv at *
  have ix1 : (((q + 2 : Nat) : Int)) - 2 = (q : Int) := by omega
  have ix1' : (q : Int) + 2 - 2 = (q : Int) := by omega
  have ix0 : (q : Int) < (q : Int) + 2 := by omega
  have ix2 : (q : Int) + 2 - 1 = (q : Int) + 1 := by omega
  have ix3 : (q : Int) + 1 < (q : Int) + 2 := by omega
  have HSR : Hid (SRow M w (.slice (some ⟨g, 0, none⟩) q cp) (ρ.stack.take q)) := (h.row.take q (by omega)).2.2
  have hK2 : Hid (Kept w.heap.size M w ((w.setCell ⟨M, 90, none⟩ (.int .i64 (ρ.steps + 1))).setCell ⟨M, 3, none⟩ (.slice (some ⟨g, 0, none⟩) q cp))) := (Kept.set _ _ _ _ _).trans (Kept.set _ _ _ _ _)
  have HN : Hid (nx = (p : Int) + 1) := hnx
  clear hnx
  have HD' : Hid _ := HD
  clear HD
  have e0 : ((kk : Int) == 0) = false := by rw [beq_eq_false_iff_ne]; omega
  have e18 : ((kk : Int) == 18) = false := by rw [beq_eq_false_iff_ne]; omega
  have e19 : ((kk : Int) == 19) = false := by rw [beq_eq_false_iff_ne]; omega
  have e14 : ((kk : Int) == 14) = false := by rw [beq_eq_false_iff_ne]; omega
  have e15 : ((kk : Int) == 15) = false := by rw [beq_eq_false_iff_ne]; omega
  have e11 : ((kk : Int) == 11) = true := by rw [beq_iff_eq]; omega
  clear h11
  have eb : (bv == 0) = false := by rw [beq_eq_false_iff_ne]; exact hb0
  clear hb0
  have hcp := hrm.1
  have hcp2 := hrm.2.1
  clear hn iq
  have hR : Hid (RMS M (w.setCell ⟨M, 90, none⟩ (.int .i64 (ρ.steps + 1))) (.slice (some ⟨cb, co, none⟩) L cap) (.slice (some ⟨g, 0, none⟩) (q + 2) cp) inp { ρ with steps := ρ.steps + 1 }) := h.setSteps (ρ.steps + 1)
  have hK : Hid (Kept w.heap.size M w (w.setCell ⟨M, 90, none⟩ (.int .i64 (ρ.steps + 1)))) := Kept.set _ _ _ _ _
  have HH : Hid (ρ.here = (p : Int)) := hhere
  clear h hsnd hone htop hhere
  go_enter Tryz.func196, Tryz.ntmps196
  go_wp2_with fail
  go_quiet (fail)
  go_wp2_with (first | (go_at_call 193; refine (rsize_any _ _).mono ?_; rintro e w' ⟨rfl, rfl⟩; rw [hsr]) | (go_at_call 228; refine (rtakes_any _ _).mono ?_; rintro e w' ⟨rfl, rfl⟩; rw [htr]))
  go_quiet ((go_at_call 229; refine Calls.quiet_of_same (QLY.out _)))
  go_wp2_with fail
  go_quiet (fail)
  go_wp2_with fail
  go_quiet (fail)
  go_wp2_with fail
  go_quiet (fail)
  go_wp2_with fail
  go_quiet ((go_at_call 193; refine Calls.quiet_of_same (QSZ.out _)))
  go_wp2_with fail
  refine (HD'.out _ (.slice (some ⟨g, 0, none⟩) q cp) ?rm).mono ?_
  case rm => exact (hR.out.setStack (HSR.out.set 90 _)).same rfl
  rintro e w2 ⟨rfl, ⟨vs2, R2⟩, K2⟩
  have g20 := R2.cell 20 (by omega)
  have j20 := R2.thaw 20
  have HR3 : Hid (RMS M (w2.setCell ⟨M, 20, none⟩ (.int .i64 ((p : Int) + 1))) (.slice (some ⟨cb, co, none⟩) L cap) vs2 inp { ρ3 with here := (p : Int) + 1 }) := R2.setHere ((p : Int) + 1)
  have HK3 : Hid (Kept w.heap.size M w (w2.setCell ⟨M, 20, none⟩ (.int .i64 ((p : Int) + 1)))) := ((K2.sized (by simp)).from hK2.out rfl rfl rfl rfl).trans (Kept.set _ _ _ _ _)
  clear R2 K2
  go_wp2_with fail
  go_end0
  refine ⟨rfl, ⟨vs2, ?_⟩, ?_⟩
  · rw [HN.out]; exact HR3.out
  · exact HK3.out

set_option maxRecDepth 100000 in
set_option maxHeartbeats 4000000 in
theorem rstep_e11 (M : Nat) (w : World) (vs : Value) (inp : ByteArray) (ρ : RR) (cb co L cap p kk : Nat) (k : Int) (A : SAt M w vs inp ρ cb co L cap p kk k) (hsz : szOf kk = 1) (l : Nat) (ht : shp (kk * 3 + 1) = 2) (hl : shp (kk * 3 + 2) = (l : Int)) (hl2 : l ≤ 2) (hu : 2 ≤ ρ.stack.length) (ho : ρ.stack.length - 2 + l ≤ 32) (h11 : kk = 11) (hb0 : (ρ.stack.getD (ρ.stack.length - 2 + 1) 0) = 0) :
    Calls Tryz.prog 196 #[.pointer (some ⟨M, 0, none⟩)] w (DoesIs M w (.slice (some ⟨cb, co, none⟩) L cap) inp (rfin { ρ with steps := ρ.steps + 1 } 1 1)) := by
  obtain ⟨h, hhere, hck, hlt, hsnd, hone, hk0, hk1, hne, hroom, hcap, h240, hkk, hlen, hs0, hs1⟩ := A
  have c0 : w.cell? ⟨M, 0, none⟩ = some (.slice (some ⟨cb, co, none⟩) L cap) := h.cell 0 (by omega)
  have c20 : w.cell? ⟨M, 20, none⟩ = some (.int .i64 (p : Int)) := (h.cell 20 (by omega)).trans (by rw [← hhere]; rfl)
  have c90 : w.cell? ⟨M, 90, none⟩ = some (.int .i64 ρ.steps) := h.cell 90 (by omega)
  have c89 : w.cell? ⟨M, 89, none⟩ = some (.string ρ.out) := h.cell 89 (by omega)
  have f90 := h.thaw 90
  have f3 := h.thaw 3
  have hi1 : (p : Int) < (L : Int) := by omega
  obtain ⟨pp, n, cp, rfl⟩ := h.slice
  obtain ⟨hn, hrm, htop⟩ := h.top
  have c3 : w.cell? ⟨M, 3, none⟩ = some (.slice pp n cp) := h.cell 3 (by omega)
  rw [← hn] at hlen hu ho
  have hsr := szR_is (kk := kk) (by omega)
  have htr := tkR_is (kk := kk) (by omega)
  have hlr := lyR_is (kk := kk) (by omega)
  rw [hsz] at hsr
  rw [ht] at htr
  rw [hl] at hlr
  have QSZ : Hid (∀ w, Calls Tryz.prog 193 #[.int .u8 (kk : Int)] w fun e w' => e = .returned (.int .i64 1) ∧ w' = w) := fun w => by have := rsize_any (kk : Int) w; rw [hsr] at this; exact this
  have QLY : Hid (∀ w, Calls Tryz.prog 229 #[.int .u8 (kk : Int)] w fun e w' => e = .returned (.int .i64 (l : Int)) ∧ w' = w) := fun w => by have := rlays_any (kk : Int) w; rw [hlr] at this; exact this
  obtain rfl := hone (by omega)
  have hu' : ¬ (n : Int) < 2 := by omega
  have ho' : ¬ (32 : Int) < (n : Int) - 2 + (l : Int) := by omega
  obtain ⟨q, rfl⟩ : ∃ q, n = q + 2 := ⟨n - 2, by omega⟩
  obtain ⟨g, rfl, hgM, ca⟩ := htop q (by omega)
  obtain ⟨g', hg', _, cb'⟩ := htop (q + 1) (by omega)
  obtain rfl : g = g' := by simpa using hg'
  have hgl : g < w.heap.size := block_lt_of_cell ca
  have iq : ρ.stack.length - 2 = q := by omega

  rw [iq] at hb0
  generalize hAA : ρ.stack.getD q 0 = av at *
  generalize hBB : ρ.stack.getD (q + 1) 0 = bv at *
  have ix1 : (((q + 2 : Nat) : Int)) - 2 = (q : Int) := by omega
  have ix1' : (q : Int) + 2 - 2 = (q : Int) := by omega
  have ix0 : (q : Int) < (q : Int) + 2 := by omega
  have ix2 : (q : Int) + 2 - 1 = (q : Int) + 1 := by omega
  have ix3 : (q : Int) + 1 < (q : Int) + 2 := by omega
  have e0 : ((kk : Int) == 0) = false := by rw [beq_eq_false_iff_ne]; omega
  have e11 : ((kk : Int) == 11) = true := by rw [beq_iff_eq]; omega
  clear h11
  have eb : (bv == 0) = true := by rw [beq_iff_eq]; exact hb0
  clear hb0
  have hcp := hrm.1
  have hcp2 := hrm.2.1
  clear hn iq
  have hR : Hid (RMS M (w.setCell ⟨M, 90, none⟩ (.int .i64 (ρ.steps + 1))) (.slice (some ⟨cb, co, none⟩) L cap) (.slice (some ⟨g, 0, none⟩) (q + 2) cp) inp { ρ with steps := ρ.steps + 1 }) := h.setSteps (ρ.steps + 1)
  have hK : Hid (Kept w.heap.size M w (w.setCell ⟨M, 90, none⟩ (.int .i64 (ρ.steps + 1)))) := Kept.set _ _ _ _ _
  have HE : Hid (∀ wx : World, wx.heap = (w.setCell ⟨M, 90, none⟩ (.int .i64 (ρ.steps + 1))).heap → Calls Tryz.prog 195 #[.pointer (some ⟨M, 0, none⟩), .int .i64 1, .int .i64 1] wx fun e w' => e = .returned (.tuple #[]) ∧ RMS M w' (.slice (some ⟨cb, co, none⟩) L cap) (.slice (some ⟨g, 0, none⟩) (q + 2) cp) inp (rfin { ρ with steps := ρ.steps + 1 } 1 1) ∧ OnlyB M wx w') := fun wx hx => rends_any M wx _ _ inp _ 1 1 ((h.setSteps (ρ.steps + 1)).same hx)
  have HH : Hid (ρ.here = (p : Int)) := hhere
  clear h hsnd hone htop hhere
  go_enter Tryz.func196, Tryz.ntmps196
  go_wp2_with fail
  go_quiet (fail)
  go_wp2_with (first | (go_at_call 193; refine (rsize_any _ _).mono ?_; rintro e w' ⟨rfl, rfl⟩; rw [hsr]) | (go_at_call 228; refine (rtakes_any _ _).mono ?_; rintro e w' ⟨rfl, rfl⟩; rw [htr]))
  go_quiet ((go_at_call 229; refine Calls.quiet_of_same (QLY.out _)))
  go_wp2_with fail
  go_quiet (fail)
  go_wp2_with fail
  go_quiet (fail)
  go_wp2_with fail
  go_quiet (fail)
  go_wp2_with fail
  refine (HE.out _ ?hp).mono ?_
  case hp => rfl
  rintro e w2 ⟨rfl, R2, O2⟩
  go_wp2_with fail
  go_end0
  exact ⟨rfl, ⟨_, R2⟩, (Kept.ofOnly O2).from hK.out rfl rfl rfl rfl⟩
end Go.Proofs.YtflenkppcclclaaGreatDoor

