import Derived.Test.YtflenkppcclclaaGreatDoorM18
import Derived.BigQuiet
namespace Go.Proofs.YtflenkppcclclaaGreatDoor
open Go.RowKit

/-- The document's machine stands at an instruction. -/
structure SAt (M : Nat) (w : World) (vs : Value) (inp : ByteArray) (ρ : RR) (cb co L cap p kk : Nat) (k : Int) : Prop where
  ms : RMS M w (.slice (some ⟨cb, co, none⟩) L cap) vs inp ρ
  here : ρ.here = (p : Int)
  op : w.cell? ⟨cb, co + p, none⟩ = some (.int .u8 (kk : Int))
  lt : p < L
  snd : szOf kk = 2 → p + 1 < L ∧ w.cell? ⟨cb, co + (p + 1), none⟩ = some (.int .u8 k)
  one : szOf kk ≠ 2 → k = 0
  k0 : 0 ≤ k
  k1 : k ≤ 255
  ne : cb ≠ M
  room : L ≤ cap
  capm : cap ≤ 9223372036854775807
  most : L ≤ 240
  kk19 : kk ≤ 19
  len : ρ.stack.length ≤ 32
  steps0 : 0 ≤ ρ.steps
  steps1 : ρ.steps ≤ 500

theorem RMS.top {M : Nat} {w : World} {vc : Value} {p : Option Addr} {n cap : Nat} {inp : ByteArray} {ρ : RR} (h : RMS M w vc (.slice p n cap) inp ρ) : n = ρ.stack.length ∧ Roomy p n cap ∧ ∀ i, i < n → ∃ g, p = some ⟨g, 0, none⟩ ∧ g ≠ M ∧ w.cell? ⟨g, i, none⟩ = some (.int .i64 (ρ.stack.getD i 0)) := by
  obtain ⟨p', cap', hv, hrm, hc⟩ := h.row
  simp only [Value.slice.injEq] at hv
  obtain ⟨rfl, rfl, rfl⟩ := hv
  refine ⟨rfl, hrm, fun i hi => ?_⟩
  obtain ⟨g, h1, h2, h3⟩ := hc i _ (List.getElem?_eq_getElem hi)
  refine ⟨g, h1, h2, ?_⟩
  rw [h3, List.getD_eq_getElem?_getD, List.getElem?_eq_getElem hi]; rfl
theorem Kept.ofOnly {B M : Nat} {w w' : World} (h : OnlyB M w w') : Kept B M w w' := ⟨h.os, h.tape, h.output, Nat.le_of_eq h.size.symm, fun k _ hk => h.block k hk⟩
theorem Kept.from {B M : Nat} {w w0 wx w' : World} (k : Kept B M wx w') (h : Kept B M w w0) (h1 : wx.heap = w0.heap) (h2 : wx.os = w0.os) (h3 : wx.tape = w0.tape) (h4 : wx.output = w0.output) : Kept B M w w' :=
  ⟨(k.os.trans h2).trans h.os, (k.tape.trans h3).trans h.tape, (k.output.trans h4).trans h.output, by have := k.size; rw [h1] at this; exact Nat.le_trans h.size this, fun j a b => by rw [k.block j a b, h1]; exact h.block j a b⟩
theorem Kept.sized {B B' M : Nat} {w w' : World} (h : Kept B M w w') (e : B = B') : Kept B' M w w' := e ▸ h
theorem RMS.slice {M : Nat} {w : World} {vc vs : Value} {inp : ByteArray} {ρ : RR} (h : RMS M w vc vs inp ρ) : ∃ p n cap, vs = .slice p n cap := by
  obtain ⟨p, cap, hv, _⟩ := h.row
  exact ⟨p, _, cap, hv⟩

set_option maxRecDepth 100000 in
set_option maxHeartbeats 4000000 in
theorem rstep_u1 (M : Nat) (w : World) (vs : Value) (inp : ByteArray) (ρ : RR) (cb co L cap p kk : Nat) (k : Int) (A : SAt M w vs inp ρ cb co L cap p kk k) (hsz : szOf kk = 1) (t l : Nat) (ht : shp (kk * 3 + 1) = (t : Int)) (hl : shp (kk * 3 + 2) = (l : Int)) (hu : ρ.stack.length < t) :
    Calls Tryz.prog 196 #[.pointer (some ⟨M, 0, none⟩)] w (DoesIs M w (.slice (some ⟨cb, co, none⟩) L cap) inp (rfin { ρ with steps := ρ.steps + 1 } 1 2)) := by
  obtain ⟨h, hhere, hck, hlt, hsnd, hone, hk0, hk1, hne, hroom, hcap, h240, hkk, hlen, hs0, hs1⟩ := A
  have c0 : w.cell? ⟨M, 0, none⟩ = some (.slice (some ⟨cb, co, none⟩) L cap) := h.cell 0 (by omega)
  have c20 : w.cell? ⟨M, 20, none⟩ = some (.int .i64 (p : Int)) := (h.cell 20 (by omega)).trans (by rw [← hhere]; rfl)
  have c90 : w.cell? ⟨M, 90, none⟩ = some (.int .i64 ρ.steps) := h.cell 90 (by omega)
  have c89 : w.cell? ⟨M, 89, none⟩ = some (.string ρ.out) := h.cell 89 (by omega)
  have f90 := h.thaw 90
  have f3 := h.thaw 3
  have hi1 : (p : Int) < (L : Int) := by omega
  obtain ⟨pp, n, cp, rfl⟩ := h.slice
  obtain ⟨hn, hrm, htop⟩ := h.top
  have c3 : w.cell? ⟨M, 3, none⟩ = some (.slice pp n cp) := h.cell 3 (by omega)
  rw [← hn] at hlen hu
  have hsr := szR_is (kk := kk) (by omega)
  have htr := tkR_is (kk := kk) (by omega)
  have hlr := lyR_is (kk := kk) (by omega)
  rw [hsz] at hsr
  rw [ht] at htr
  rw [hl] at hlr
  have QSZ : Hid (∀ w, Calls Tryz.prog 193 #[.int .u8 (kk : Int)] w fun e w' => e = .returned (.int .i64 1) ∧ w' = w) := fun w => by have := rsize_any (kk : Int) w; rw [hsr] at this; exact this
  have QLY : Hid (∀ w, Calls Tryz.prog 229 #[.int .u8 (kk : Int)] w fun e w' => e = .returned (.int .i64 (l : Int)) ∧ w' = w) := fun w => by have := rlays_any (kk : Int) w; rw [hlr] at this; exact this
  obtain rfl := hone (by omega)
  have hu' : (n : Int) < (t : Int) := by omega
  have hR : Hid (RMS M (w.setCell ⟨M, 90, none⟩ (.int .i64 (ρ.steps + 1))) (.slice (some ⟨cb, co, none⟩) L cap) (.slice pp n cp) inp { ρ with steps := ρ.steps + 1 }) := h.setSteps (ρ.steps + 1)
  have hK : Hid (Kept w.heap.size M w (w.setCell ⟨M, 90, none⟩ (.int .i64 (ρ.steps + 1)))) := Kept.set _ _ _ _ _
  have HE : Hid (∀ wx : World, wx.heap = (w.setCell ⟨M, 90, none⟩ (.int .i64 (ρ.steps + 1))).heap → Calls Tryz.prog 195 #[.pointer (some ⟨M, 0, none⟩), .int .i64 1, .int .i64 2] wx fun e w' => e = .returned (.tuple #[]) ∧ RMS M w' (.slice (some ⟨cb, co, none⟩) L cap) (.slice pp n cp) inp (rfin { ρ with steps := ρ.steps + 1 } 1 2) ∧ OnlyB M wx w') := fun wx hx => rends_any M wx _ _ inp _ 1 2 ((h.setSteps (ρ.steps + 1)).same hx)
  have HH : Hid (ρ.here = (p : Int)) := hhere
  clear h hsnd hone htop hhere
  go_enter Tryz.func196, Tryz.ntmps196
  go_wp2_with fail
  go_quiet (fail)
  go_wp2_with (first | (go_at_call 193; refine (rsize_any _ _).mono ?_; rintro e w' ⟨rfl, rfl⟩; rw [hsr]) | (go_at_call 228; refine (rtakes_any _ _).mono ?_; rintro e w' ⟨rfl, rfl⟩; rw [htr]))
  refine (HE.out _ ?hp).mono ?_
  case hp => rfl
  rintro e w2 ⟨rfl, R2, O2⟩
  go_wp2_with fail
  go_end0
  exact ⟨rfl, ⟨_, R2⟩, (Kept.ofOnly O2).from hK.out rfl rfl rfl rfl⟩

set_option maxRecDepth 100000 in
set_option maxHeartbeats 4000000 in
theorem rstep_u2 (M : Nat) (w : World) (vs : Value) (inp : ByteArray) (ρ : RR) (cb co L cap p kk : Nat) (k : Int) (A : SAt M w vs inp ρ cb co L cap p kk k) (hsz : szOf kk = 2) (t l : Nat) (ht : shp (kk * 3 + 1) = (t : Int)) (hl : shp (kk * 3 + 2) = (l : Int)) (hu : ρ.stack.length < t) :
    Calls Tryz.prog 196 #[.pointer (some ⟨M, 0, none⟩)] w (DoesIs M w (.slice (some ⟨cb, co, none⟩) L cap) inp (rfin { ρ with steps := ρ.steps + 1 } 1 2)) := by
  obtain ⟨h, hhere, hck, hlt, hsnd, hone, hk0, hk1, hne, hroom, hcap, h240, hkk, hlen, hs0, hs1⟩ := A
  have c0 : w.cell? ⟨M, 0, none⟩ = some (.slice (some ⟨cb, co, none⟩) L cap) := h.cell 0 (by omega)
  have c20 : w.cell? ⟨M, 20, none⟩ = some (.int .i64 (p : Int)) := (h.cell 20 (by omega)).trans (by rw [← hhere]; rfl)
  have c90 : w.cell? ⟨M, 90, none⟩ = some (.int .i64 ρ.steps) := h.cell 90 (by omega)
  have c89 : w.cell? ⟨M, 89, none⟩ = some (.string ρ.out) := h.cell 89 (by omega)
  have f90 := h.thaw 90
  have f3 := h.thaw 3
  have hi1 : (p : Int) < (L : Int) := by omega
  obtain ⟨pp, n, cp, rfl⟩ := h.slice
  obtain ⟨hn, hrm, htop⟩ := h.top
  have c3 : w.cell? ⟨M, 3, none⟩ = some (.slice pp n cp) := h.cell 3 (by omega)
  rw [← hn] at hlen hu
  have hsr := szR_is (kk := kk) (by omega)
  have htr := tkR_is (kk := kk) (by omega)
  have hlr := lyR_is (kk := kk) (by omega)
  rw [hsz] at hsr
  rw [ht] at htr
  rw [hl] at hlr
  have QSZ : Hid (∀ w, Calls Tryz.prog 193 #[.int .u8 (kk : Int)] w fun e w' => e = .returned (.int .i64 2) ∧ w' = w) := fun w => by have := rsize_any (kk : Int) w; rw [hsr] at this; exact this
  have QLY : Hid (∀ w, Calls Tryz.prog 229 #[.int .u8 (kk : Int)] w fun e w' => e = .returned (.int .i64 (l : Int)) ∧ w' = w) := fun w => by have := rlays_any (kk : Int) w; rw [hlr] at this; exact this
  obtain ⟨hi2, hck2⟩ := hsnd hsz
  have hi3 : (p : Int) + 1 < (L : Int) := by omega
  have hu' : (n : Int) < (t : Int) := by omega
  have hR : Hid (RMS M (w.setCell ⟨M, 90, none⟩ (.int .i64 (ρ.steps + 1))) (.slice (some ⟨cb, co, none⟩) L cap) (.slice pp n cp) inp { ρ with steps := ρ.steps + 1 }) := h.setSteps (ρ.steps + 1)
  have hK : Hid (Kept w.heap.size M w (w.setCell ⟨M, 90, none⟩ (.int .i64 (ρ.steps + 1)))) := Kept.set _ _ _ _ _
  have HE : Hid (∀ wx : World, wx.heap = (w.setCell ⟨M, 90, none⟩ (.int .i64 (ρ.steps + 1))).heap → Calls Tryz.prog 195 #[.pointer (some ⟨M, 0, none⟩), .int .i64 1, .int .i64 2] wx fun e w' => e = .returned (.tuple #[]) ∧ RMS M w' (.slice (some ⟨cb, co, none⟩) L cap) (.slice pp n cp) inp (rfin { ρ with steps := ρ.steps + 1 } 1 2) ∧ OnlyB M wx w') := fun wx hx => rends_any M wx _ _ inp _ 1 2 ((h.setSteps (ρ.steps + 1)).same hx)
  have HH : Hid (ρ.here = (p : Int)) := hhere
  clear h hsnd hone htop hhere
  go_enter Tryz.func196, Tryz.ntmps196
  go_wp2_with fail
  go_quiet (fail)
  go_wp2_with (first | (go_at_call 193; refine (rsize_any _ _).mono ?_; rintro e w' ⟨rfl, rfl⟩; rw [hsr]) | (go_at_call 228; refine (rtakes_any _ _).mono ?_; rintro e w' ⟨rfl, rfl⟩; rw [htr]))
  go_quiet (fail)
  go_wp2_with (first | (go_at_call 193; refine (rsize_any _ _).mono ?_; rintro e w' ⟨rfl, rfl⟩; rw [hsr]) | (go_at_call 228; refine (rtakes_any _ _).mono ?_; rintro e w' ⟨rfl, rfl⟩; rw [htr]))
  refine (HE.out _ ?hp).mono ?_
  case hp => rfl
  rintro e w2 ⟨rfl, R2, O2⟩
  go_wp2_with fail
  go_end0
  exact ⟨rfl, ⟨_, R2⟩, (Kept.ofOnly O2).from hK.out rfl rfl rfl rfl⟩

set_option maxRecDepth 100000 in
set_option maxHeartbeats 4000000 in
theorem rstep_o1 (M : Nat) (w : World) (vs : Value) (inp : ByteArray) (ρ : RR) (cb co L cap p kk : Nat) (k : Int) (A : SAt M w vs inp ρ cb co L cap p kk k) (hsz : szOf kk = 1) (t l : Nat) (ht : shp (kk * 3 + 1) = (t : Int)) (hl : shp (kk * 3 + 2) = (l : Int)) (ht2 : t ≤ 2) (hl2 : l ≤ 2) (hu : t ≤ ρ.stack.length) (ho : 32 < ρ.stack.length - t + l) :
    Calls Tryz.prog 196 #[.pointer (some ⟨M, 0, none⟩)] w (DoesIs M w (.slice (some ⟨cb, co, none⟩) L cap) inp (rfin { ρ with steps := ρ.steps + 1 } 1 3)) := by
  obtain ⟨h, hhere, hck, hlt, hsnd, hone, hk0, hk1, hne, hroom, hcap, h240, hkk, hlen, hs0, hs1⟩ := A
  have c0 : w.cell? ⟨M, 0, none⟩ = some (.slice (some ⟨cb, co, none⟩) L cap) := h.cell 0 (by omega)
  have c20 : w.cell? ⟨M, 20, none⟩ = some (.int .i64 (p : Int)) := (h.cell 20 (by omega)).trans (by rw [← hhere]; rfl)
  have c90 : w.cell? ⟨M, 90, none⟩ = some (.int .i64 ρ.steps) := h.cell 90 (by omega)
  have c89 : w.cell? ⟨M, 89, none⟩ = some (.string ρ.out) := h.cell 89 (by omega)
  have f90 := h.thaw 90
  have f3 := h.thaw 3
  have hi1 : (p : Int) < (L : Int) := by omega
  obtain ⟨pp, n, cp, rfl⟩ := h.slice
  obtain ⟨hn, hrm, htop⟩ := h.top
  have c3 : w.cell? ⟨M, 3, none⟩ = some (.slice pp n cp) := h.cell 3 (by omega)
  rw [← hn] at hlen hu ho
  have hsr := szR_is (kk := kk) (by omega)
  have htr := tkR_is (kk := kk) (by omega)
  have hlr := lyR_is (kk := kk) (by omega)
  rw [hsz] at hsr
  rw [ht] at htr
  rw [hl] at hlr
  have QSZ : Hid (∀ w, Calls Tryz.prog 193 #[.int .u8 (kk : Int)] w fun e w' => e = .returned (.int .i64 1) ∧ w' = w) := fun w => by have := rsize_any (kk : Int) w; rw [hsr] at this; exact this
  have QLY : Hid (∀ w, Calls Tryz.prog 229 #[.int .u8 (kk : Int)] w fun e w' => e = .returned (.int .i64 (l : Int)) ∧ w' = w) := fun w => by have := rlays_any (kk : Int) w; rw [hlr] at this; exact this
  obtain rfl := hone (by omega)
  have hu' : ¬ (n : Int) < (t : Int) := by omega
  have ho' : (32 : Int) < (n : Int) - (t : Int) + (l : Int) := by omega
  have hR : Hid (RMS M (w.setCell ⟨M, 90, none⟩ (.int .i64 (ρ.steps + 1))) (.slice (some ⟨cb, co, none⟩) L cap) (.slice pp n cp) inp { ρ with steps := ρ.steps + 1 }) := h.setSteps (ρ.steps + 1)
  have hK : Hid (Kept w.heap.size M w (w.setCell ⟨M, 90, none⟩ (.int .i64 (ρ.steps + 1)))) := Kept.set _ _ _ _ _
  have HE : Hid (∀ wx : World, wx.heap = (w.setCell ⟨M, 90, none⟩ (.int .i64 (ρ.steps + 1))).heap → Calls Tryz.prog 195 #[.pointer (some ⟨M, 0, none⟩), .int .i64 1, .int .i64 3] wx fun e w' => e = .returned (.tuple #[]) ∧ RMS M w' (.slice (some ⟨cb, co, none⟩) L cap) (.slice pp n cp) inp (rfin { ρ with steps := ρ.steps + 1 } 1 3) ∧ OnlyB M wx w') := fun wx hx => rends_any M wx _ _ inp _ 1 3 ((h.setSteps (ρ.steps + 1)).same hx)
  have HH : Hid (ρ.here = (p : Int)) := hhere
  clear h hsnd hone htop hhere
  go_enter Tryz.func196, Tryz.ntmps196
  go_wp2_with fail
  go_quiet (fail)
  go_wp2_with (first | (go_at_call 193; refine (rsize_any _ _).mono ?_; rintro e w' ⟨rfl, rfl⟩; rw [hsr]) | (go_at_call 228; refine (rtakes_any _ _).mono ?_; rintro e w' ⟨rfl, rfl⟩; rw [htr]))
  go_quiet ((go_at_call 229; refine Calls.quiet_of_same (QLY.out _)))
  go_wp2_with fail
  refine (HE.out _ ?hp).mono ?_
  case hp => rfl
  rintro e w2 ⟨rfl, R2, O2⟩
  go_wp2_with fail
  go_end0
  exact ⟨rfl, ⟨_, R2⟩, (Kept.ofOnly O2).from hK.out rfl rfl rfl rfl⟩

set_option maxRecDepth 100000 in
set_option maxHeartbeats 4000000 in
theorem rstep_o2 (M : Nat) (w : World) (vs : Value) (inp : ByteArray) (ρ : RR) (cb co L cap p kk : Nat) (k : Int) (A : SAt M w vs inp ρ cb co L cap p kk k) (hsz : szOf kk = 2) (t l : Nat) (ht : shp (kk * 3 + 1) = (t : Int)) (hl : shp (kk * 3 + 2) = (l : Int)) (ht2 : t ≤ 2) (hl2 : l ≤ 2) (hu : t ≤ ρ.stack.length) (ho : 32 < ρ.stack.length - t + l) :
    Calls Tryz.prog 196 #[.pointer (some ⟨M, 0, none⟩)] w (DoesIs M w (.slice (some ⟨cb, co, none⟩) L cap) inp (rfin { ρ with steps := ρ.steps + 1 } 1 3)) := by
  obtain ⟨h, hhere, hck, hlt, hsnd, hone, hk0, hk1, hne, hroom, hcap, h240, hkk, hlen, hs0, hs1⟩ := A
  have c0 : w.cell? ⟨M, 0, none⟩ = some (.slice (some ⟨cb, co, none⟩) L cap) := h.cell 0 (by omega)
  have c20 : w.cell? ⟨M, 20, none⟩ = some (.int .i64 (p : Int)) := (h.cell 20 (by omega)).trans (by rw [← hhere]; rfl)
  have c90 : w.cell? ⟨M, 90, none⟩ = some (.int .i64 ρ.steps) := h.cell 90 (by omega)
  have c89 : w.cell? ⟨M, 89, none⟩ = some (.string ρ.out) := h.cell 89 (by omega)
  have f90 := h.thaw 90
  have f3 := h.thaw 3
  have hi1 : (p : Int) < (L : Int) := by omega
  obtain ⟨pp, n, cp, rfl⟩ := h.slice
  obtain ⟨hn, hrm, htop⟩ := h.top
  have c3 : w.cell? ⟨M, 3, none⟩ = some (.slice pp n cp) := h.cell 3 (by omega)
  rw [← hn] at hlen hu ho
  have hsr := szR_is (kk := kk) (by omega)
  have htr := tkR_is (kk := kk) (by omega)
  have hlr := lyR_is (kk := kk) (by omega)
  rw [hsz] at hsr
  rw [ht] at htr
  rw [hl] at hlr
  have QSZ : Hid (∀ w, Calls Tryz.prog 193 #[.int .u8 (kk : Int)] w fun e w' => e = .returned (.int .i64 2) ∧ w' = w) := fun w => by have := rsize_any (kk : Int) w; rw [hsr] at this; exact this
  have QLY : Hid (∀ w, Calls Tryz.prog 229 #[.int .u8 (kk : Int)] w fun e w' => e = .returned (.int .i64 (l : Int)) ∧ w' = w) := fun w => by have := rlays_any (kk : Int) w; rw [hlr] at this; exact this
  obtain ⟨hi2, hck2⟩ := hsnd hsz
  have hi3 : (p : Int) + 1 < (L : Int) := by omega
  have hu' : ¬ (n : Int) < (t : Int) := by omega
  have ho' : (32 : Int) < (n : Int) - (t : Int) + (l : Int) := by omega
  have hR : Hid (RMS M (w.setCell ⟨M, 90, none⟩ (.int .i64 (ρ.steps + 1))) (.slice (some ⟨cb, co, none⟩) L cap) (.slice pp n cp) inp { ρ with steps := ρ.steps + 1 }) := h.setSteps (ρ.steps + 1)
  have hK : Hid (Kept w.heap.size M w (w.setCell ⟨M, 90, none⟩ (.int .i64 (ρ.steps + 1)))) := Kept.set _ _ _ _ _
  have HE : Hid (∀ wx : World, wx.heap = (w.setCell ⟨M, 90, none⟩ (.int .i64 (ρ.steps + 1))).heap → Calls Tryz.prog 195 #[.pointer (some ⟨M, 0, none⟩), .int .i64 1, .int .i64 3] wx fun e w' => e = .returned (.tuple #[]) ∧ RMS M w' (.slice (some ⟨cb, co, none⟩) L cap) (.slice pp n cp) inp (rfin { ρ with steps := ρ.steps + 1 } 1 3) ∧ OnlyB M wx w') := fun wx hx => rends_any M wx _ _ inp _ 1 3 ((h.setSteps (ρ.steps + 1)).same hx)
  have HH : Hid (ρ.here = (p : Int)) := hhere
  clear h hsnd hone htop hhere
  go_enter Tryz.func196, Tryz.ntmps196
  go_wp2_with fail
  go_quiet (fail)
  go_wp2_with (first | (go_at_call 193; refine (rsize_any _ _).mono ?_; rintro e w' ⟨rfl, rfl⟩; rw [hsr]) | (go_at_call 228; refine (rtakes_any _ _).mono ?_; rintro e w' ⟨rfl, rfl⟩; rw [htr]))
  go_quiet (fail)
  go_wp2_with (first | (go_at_call 193; refine (rsize_any _ _).mono ?_; rintro e w' ⟨rfl, rfl⟩; rw [hsr]) | (go_at_call 228; refine (rtakes_any _ _).mono ?_; rintro e w' ⟨rfl, rfl⟩; rw [htr]))
  go_quiet ((go_at_call 229; refine Calls.quiet_of_same (QLY.out _)))
  go_wp2_with fail
  refine (HE.out _ ?hp).mono ?_
  case hp => rfl
  rintro e w2 ⟨rfl, R2, O2⟩
  go_wp2_with fail
  go_end0
  exact ⟨rfl, ⟨_, R2⟩, (Kept.ofOnly O2).from hK.out rfl rfl rfl rfl⟩
end Go.Proofs.YtflenkppcclclaaGreatDoor

