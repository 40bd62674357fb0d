import Derived.Test.YtebnlafjepfkdaaDoorValid
import Derived.Laws.OwnMore
namespace Go.Proofs.YtebnlafjepfkdaaDoor
open Go.RowKit

set_option maxHeartbeats 400000 in
theorem sound_yes (w : World) (cb o len cp kk : Nat) (n last : Int) (hk : kk ≤ 20) (hl : (kk : Int) ≤ last) (hlen : shp (kk * 3) ≤ (len : Int)) (h1 : 1 ≤ len) (c0 : w.cell? ⟨cb, o, none⟩ = some (.int .u8 (kk : Int)))
    (hh : holdsB (kk : Int) = true → 2 ≤ len ∧ w.cell? ⟨cb, o + 1, none⟩ = some (.int .u8 n) ∧ n < 16) (hT : Tab w) :
    Calls Tryd.prog 41 #[.slice (some ⟨cb, o, none⟩) len cp, .int .u8 last] w fun e w' => e = .returned (.bool true) ∧ ∃ c, w' = w.alloc (.cells c 66) := by
  have hfs := field_sz
  have hl1 : ¬ last < (kk : Int) := by omega
  have hl2 : decide (last < (kk : Int)) = false := by simpa using hl
  have hl3 : ¬ (len : Int) < shp (kk * 3) := by omega
  have hi0 : (0 : Int) < (len : Int) := by omega
  have hcb : cb < w.heap.size := block_lt_of_cell c0
  have HT : Hid (Tab w) := hT
  clear hT
  cases hb : holdsB (kk : Int) with
  | false =>
    clear hh
    go_enter Tryd.func41, Tryd.ntmps41
    go_wp2_with (first | (go_at_call 29; refine (shapeOf_any kk (by omega) _ HT.out).mono ?_; rintro e w' ⟨rfl, cc, rfl⟩) | (go_at_call 47; refine (holds_any _ _).mono ?_; rintro e w' ⟨rfl, rfl⟩))
    go_ret
    exact ⟨rfl, _, rfl⟩
  | true =>
    obtain ⟨g1, g2, g3⟩ := hh hb
    have hi1 : (1 : Int) < (len : Int) := by omega
    clear hh
    go_enter Tryd.func41, Tryd.ntmps41
    go_wp2_with (first | (go_at_call 29; refine (shapeOf_any kk (by omega) _ HT.out).mono ?_; rintro e w' ⟨rfl, cc, rfl⟩) | (go_at_call 47; refine (holds_any _ _).mono ?_; rintro e w' ⟨rfl, rfl⟩))
    go_ret
    exact ⟨rfl, _, rfl⟩

set_option maxHeartbeats 400000 in
theorem soundBytes_yes (w : World) (cb co L cap N : Nat) (c : Nat → Int) (V : VP c L N) (C : Laid w cb co L cap c) (hT : Tab w) :
    Calls Tryd.prog 33 #[.slice (some ⟨cb, co, none⟩) L cap, .int .u8 19] w fun e w' => e = .returned (.int .i64 L) ∧ Below w.heap.size w w' := by
  have hfs := field_sz
  have hroom := C.room
  go_enter Tryd.func33, Tryd.ntmps33
  go_wp2
  go_loopw [5] (fun i wr => ∃ m : Nat, m ≤ N ∧ i = .int .i64 (pos c m) ∧ Below w.heap.size w wr) (fun i _ => L - (intOf i).toNat)
  case atStart => exact ⟨0, by omega, rfl, Below.refl _ _⟩
  case round =>
    obtain ⟨m, hm, rfl, hB⟩ := hrel
    by_cases hlt : m < N
    · obtain ⟨kk, A, hsucc⟩ := V.at hlt
      have hck := C.at hB A.lt
      rw [A.op] at hck
      have h1 := A.lt
      have h2 := A.fits
      have h3 := A.sz
      have h4 := A.s1
      have h5 := A.s2
      have h6 := A.pos
      have h7 := A.most
      have hk := A.k
      have hTr : Hid (Tab wr) := hT.below hB
      have HS : Hid (pos c (m + 1) = pos c m + szOf kk) := hsucc
      have HZ : Hid (((pos c m + szOf kk : Nat) : Int) = (pos c m : Int) + shp (kk * 3)) := h3
      have hi1 : (pos c m : Int) < (L : Int) := by omega
      have hi2 : (pos c m : Int) ≤ (L : Int) := by omega
      have hcq : ¬ cap = pos c m := by omega
      have hdec : decide ((pos c m : Int) < (L : Int)) = true := by simpa using hi1
      have hsnd : Hid (Calls Tryd.prog 41 #[.slice (some ⟨cb, co + pos c m, none⟩) (L - pos c m) (cap - pos c m), .int .u8 19] wr fun e w' => e = .returned (.bool true) ∧ ∃ c, w' = wr.alloc (.cells c 66)) := by
        refine sound_yes wr cb _ _ _ kk (c (pos c m + 1)) 19 (by omega) (by omega) (by omega) (by omega) hck ?_ hTr.out
        intro hh
        have hs2 : szOf kk = 2 := by
          unfold holdsB at hh
          have : kk = 16 ∨ kk = 17 := by simp at hh; omega
          rcases this with e | e <;> rw [e] <;> rfl
        refine ⟨by omega, C.at hB (p := pos c m + 1) (by omega), ?_⟩
        have := V.cell m hlt
        rw [A.op] at this
        exact this hh
      have hcbr : cb < wr.heap.size := by have := C.blk; have := hB.size; omega
      have hck' : ∀ o, (wr.alloc o).cell? ⟨cb, co + pos c m, none⟩ = some (.int .u8 (kk : Int)) := fun o => (World.cell?_alloc_past _ _ _ hcbr).trans hck
      clear hsucc h3 A
      go_wp2_with (first | (go_at_call 41; refine (hsnd.out).mono ?_; rintro e w' ⟨rfl, cc, rfl⟩) | (go_at_call 29; refine (shapeOf_any kk (by omega) _ (hTr.out.alloc _)).mono ?_; rintro e w' ⟨rfl, cc2, rfl⟩))
      go_roundw
      case rel => exact ⟨m + 1, by omega, by rw [HS.out, HZ.out], (hB.alloc (by have := hB.size; omega) _).alloc (by have := hB.size; simp; omega) _⟩
      case measure => simp [intOf]; omega
    · have e : m = N := by omega
      subst e
      rw [V.last]
      have hdec : decide ((L : Int) < (L : Int)) = false := by simp
      go_wp2_with fail
      go_ret
      exact ⟨rfl, hB⟩

def wellAt (c : Nat → Int) (m : Nat) : Bool := if m = 0 then false else endsB (c (pos c (m - 1)))

set_option maxHeartbeats 400000 in
theorem endsWell_yes (w : World) (cb co L cap N : Nat) (c : Nat → Int) (V : VP c L N) (C : Laid w cb co L cap c) (hT : Tab w) :
    Calls Tryd.prog 34 #[.slice (some ⟨cb, co, none⟩) L cap] w fun e w' => e = .returned (.bool true) ∧ Below w.heap.size w w' := by
  have hfs := field_sz
  go_enter Tryd.func34, Tryd.ntmps34
  go_wp2
  go_loopw [3, 4] (fun b i wr => ∃ m : Nat, m ≤ N ∧ i = .int .i64 (pos c m) ∧ b = .bool (wellAt c m) ∧ Below w.heap.size w wr) (fun _ i _ => L - (intOf i).toNat)
  case atStart => exact ⟨0, by omega, rfl, rfl, Below.refl _ _⟩
  case round =>
    obtain ⟨m, hm, rfl, rfl, hB⟩ := hrel
    by_cases hlt : m < N
    · obtain ⟨kk, A, hsucc⟩ := V.at hlt
      have hck := C.at hB A.lt
      rw [A.op] at hck
      have h1 := A.lt
      have h2 := A.fits
      have h3 := A.sz
      have h4 := A.s1
      have h5 := A.s2
      have h6 := A.pos
      have h7 := A.most
      have hk := A.k
      have hTr : Hid (Tab wr) := hT.below hB
      have HS : Hid (pos c (m + 1) = pos c m + szOf kk) := hsucc
      have HZ : Hid (((pos c m + szOf kk : Nat) : Int) = (pos c m : Int) + shp (kk * 3)) := h3
      have hi1 : (pos c m : Int) < (L : Int) := by omega
      have HW : Hid (wellAt c (m + 1) = endsB (kk : Int)) := by
        show wellAt c (m + 1) = _
        unfold wellAt
        rw [if_neg (by omega), Nat.add_sub_cancel, A.op]
      clear hsucc h3 A
      go_wp2_with (first | (go_at_call 40; refine (ends_any _ _).mono ?_; rintro e w' ⟨rfl, rfl⟩) | (go_at_call 29; refine (shapeOf_any kk (by omega) _ hTr.out).mono ?_; rintro e w' ⟨rfl, cc2, rfl⟩))
      go_roundw
      case rel => exact ⟨m + 1, by omega, by rw [HS.out, HZ.out], by rw [HW.out], hB.alloc (by have := hB.size; omega) _⟩
      case measure => simp [intOf]; omega
    · have e : m = N := by omega
      subst e
      rw [V.last]
      have hw : wellAt c m = true := by
        unfold wellAt
        rw [if_neg (by have := V.one; omega)]
        exact V.stop
      rw [hw]
      go_wp2
      go_ret
      exact ⟨rfl, hB⟩
end Go.Proofs.YtebnlafjepfkdaaDoor
