import Derived.Test.YtebnlafjepfkdaaDoorGen
namespace Go.Proofs.YtebnlafjepfkdaaDoor
open Go.RowKit

set_option maxHeartbeats 400000 in
theorem endsWell_gen (w : World) (cb co L cap N z : Nat) (c : Nat → Int) (V : SP c L N z) (hN : pos c N = L) (C : Laid w cb co L cap c) (hT : Tab w) :
    Calls Tryd.prog 34 #[.slice (some ⟨cb, co, none⟩) L cap] w fun e w' => e = .returned (.bool (wellAt c N)) ∧ Below w.heap.size w w' := by
  have hfs := field_sz
  go_enter Tryd.func34, Tryd.ntmps34
  go_wp2
  go_loopw [3, 4] (fun b i wr => ∃ m : Nat, m ≤ N ∧ i = .int .i64 (pos c m) ∧ b = .bool (wellAt c m) ∧ Below w.heap.size w wr) (fun _ i _ => L - (intOf i).toNat)
  case atStart => exact ⟨0, by omega, rfl, rfl, Below.refl _ _⟩
  case round =>
    obtain ⟨m, hm, rfl, rfl, hB⟩ := hrel
    by_cases hlt : m < N
    · obtain ⟨kk, A, hsucc⟩ := V.at hlt
      have hck := C.at hB A.lt
      rw [A.op] at hck
      have h1 := A.lt
      have h2 := A.fits
      have h3 := A.sz
      have h4 := A.s1
      have h5 := A.s2
      have h6 := A.pos
      have h7 := A.most
      have hk := A.k
      have hTr : Hid (Tab wr) := hT.below hB
      have HS : Hid (pos c (m + 1) = pos c m + szOf kk) := hsucc
      have HZ : Hid (((pos c m + szOf kk : Nat) : Int) = (pos c m : Int) + shp (kk * 3)) := h3
      have hi1 : (pos c m : Int) < (L : Int) := by omega
      have HW : Hid (wellAt c (m + 1) = endsB (kk : Int)) := by
        show wellAt c (m + 1) = _
        unfold wellAt
        rw [if_neg (by omega), Nat.add_sub_cancel, A.op]
      clear hsucc h3 A
      go_wp2_with (first | (go_at_call 40; refine (ends_any _ _).mono ?_; rintro e w' ⟨rfl, rfl⟩) | (go_at_call 29; refine (shapeOf_any kk (by omega) _ hTr.out).mono ?_; rintro e w' ⟨rfl, cc2, rfl⟩))
      go_roundw
      case rel => exact ⟨m + 1, by omega, by rw [HS.out, HZ.out], by rw [HW.out], hB.alloc (by have := hB.size; omega) _⟩
      case measure => simp [intOf]; omega
    · have e : m = N := by omega
      subst e
      rw [hN]
      go_wp2
      go_ret
      exact ⟨rfl, hB⟩

/-- One of the first N instructions is a Probe. -/
def probeIn (c : Nat → Int) (N : Nat) : Bool := (List.range N).any fun t => c (pos c t) == 20
theorem probeIn_succ (c : Nat → Int) (m : Nat) : probeIn c (m + 1) = (probeIn c m || c (pos c m) == 20) := by
  unfold probeIn
  rw [List.range_succ, List.any_append]
  simp
theorem probeIn_of (c : Nat → Int) {N m : Nat} (hm : m < N) (h : c (pos c m) = 20) : probeIn c N = true := by
  unfold probeIn
  rw [List.any_eq_true]
  exact ⟨m, List.mem_range.2 hm, by simp [h]⟩
theorem probeIn_not (c : Nat → Int) {N m : Nat} (hm : m < N) (h : probeIn c N = false) : c (pos c m) ≠ 20 := fun e => by
  rw [probeIn_of c hm e] at h; cases h
theorem probeIn_ex (c : Nat → Int) {N : Nat} (h : probeIn c N = true) : ∃ m, m < N ∧ c (pos c m) = 20 := by
  unfold probeIn at h
  rw [List.any_eq_true] at h
  obtain ⟨m, hm, e⟩ := h
  exact ⟨m, List.mem_range.1 hm, by simpa using e⟩

set_option maxHeartbeats 400000 in
theorem hasProbe_gen (w : World) (cb co L cap N z : Nat) (c : Nat → Int) (V : SP c L N z) (hN : pos c N = L) (C : Laid w cb co L cap c) (hT : Tab w) :
    Calls Tryd.prog 20 #[.slice (some ⟨cb, co, none⟩) L cap] w fun e w' => e = .returned (.bool (probeIn c N)) ∧ Below w.heap.size w w' := by
  have hfs := field_sz
  go_enter Tryd.func20, Tryd.ntmps20
  go_wp2
  go_loopw [3] (fun i wr => ∃ m : Nat, m ≤ N ∧ i = .int .i64 (pos c m) ∧ probeIn c m = false ∧ Below w.heap.size w wr) (fun i _ => L - (intOf i).toNat)
  case atStart => exact ⟨0, by omega, rfl, rfl, Below.refl _ _⟩
  case round =>
    obtain ⟨m, hm, rfl, hno, hB⟩ := hrel
    by_cases hlt : m < N
    · obtain ⟨kk, A, hsucc⟩ := V.at hlt
      have hck := C.at hB A.lt
      rw [A.op] at hck
      have h1 := A.lt
      have h2 := A.fits
      have h3 := A.sz
      have h4 := A.s1
      have h5 := A.s2
      have h6 := A.pos
      have h7 := A.most
      have hk := A.k
      have hTr : Hid (Tab wr) := hT.below hB
      have HS : Hid (pos c (m + 1) = pos c m + szOf kk) := hsucc
      have HZ : Hid (((pos c m + szOf kk : Nat) : Int) = (pos c m : Int) + shp (kk * 3)) := h3
      have hi1 : (pos c m : Int) < (L : Int) := by omega
      have HP : Hid (c (pos c m) = (kk : Int)) := A.op
      clear hsucc h3 A
      cases h20 : ((kk : Int) == 20) with
      | false =>
        have HN : Hid (probeIn c (m + 1) = false) := by
          show probeIn c (m + 1) = false
          rw [probeIn_succ, hno, HP.out, h20]; rfl
        clear hno
        go_wp2_with (go_at_call 29; refine (shapeOf_any kk (by omega) _ hTr.out).mono ?_; rintro e w' ⟨rfl, cc, rfl⟩)
        go_roundw
        case rel => exact ⟨m + 1, by omega, by rw [HS.out, HZ.out], HN.out, hB.alloc (by have := hB.size; omega) _⟩
        case measure => simp [intOf]; omega
      | true =>
        go_wp2_with fail
        go_ret
        refine ⟨?_, hB⟩
        rw [probeIn_of c hlt (by rw [HP.out]; simpa using h20)]
        rfl
    · have e : m = N := by omega
      subst e
      rw [hN]
      go_wp2
      go_ret
      exact ⟨by rw [hno]; rfl, hB⟩
end Go.Proofs.YtebnlafjepfkdaaDoor
