import Derived.Test.YtflenkppcclclaaGreatDoorM07
import Derived.Laws.OwnMore
namespace Go.Proofs.YtflenkppcclclaaGreatDoor
open Go.RowKit

set_option maxHeartbeats 400000 in
theorem sound_yes (w : World) (cb o len cp kk : Nat) (n last : Int) (hk : kk ≤ 20) (hl : (kk : Int) ≤ last) (hlen : shp (kk * 3) ≤ (len : Int)) (h1 : 1 ≤ len) (c0 : w.cell? ⟨cb, o, none⟩ = some (.int .u8 (kk : Int)))
    (hh : holdsB (kk : Int) = true → 2 ≤ len ∧ w.cell? ⟨cb, o + 1, none⟩ = some (.int .u8 n) ∧ n < 16) (hT : Tab w) :
    Calls Tryz.prog 170 #[.slice (some ⟨cb, o, none⟩) len cp, .int .u8 last] w fun e w' => e = .returned (.bool true) ∧ ∃ c, w' = w.alloc (.cells c 179) := by
  have hfs := field_sz
  have hl1 : ¬ last < (kk : Int) := by omega
  have hl2 : decide (last < (kk : Int)) = false := by simpa using hl
  have hl3 : ¬ (len : Int) < shp (kk * 3) := by omega
  have hi0 : (0 : Int) < (len : Int) := by omega
  have hcb : cb < w.heap.size := block_lt_of_cell c0
  have HT : Hid (Tab w) := hT
  clear hT
  cases hb : holdsB (kk : Int) with
  | false =>
    clear hh
    go_enter Tryz.func170, Tryz.ntmps170
    go_wp2_with (first | (go_at_call 129; refine (shapeOf_any kk (by omega) _ HT.out).mono ?_; rintro e w' ⟨rfl, cc, rfl⟩) | (go_at_call 216; refine (holds_any _ _).mono ?_; rintro e w' ⟨rfl, rfl⟩))
    go_ret
    exact ⟨rfl, _, rfl⟩
  | true =>
    obtain ⟨g1, g2, g3⟩ := hh hb
    have hi1 : (1 : Int) < (len : Int) := by omega
    clear hh
    go_enter Tryz.func170, Tryz.ntmps170
    go_wp2_with (first | (go_at_call 129; refine (shapeOf_any kk (by omega) _ HT.out).mono ?_; rintro e w' ⟨rfl, cc, rfl⟩) | (go_at_call 216; refine (holds_any _ _).mono ?_; rintro e w' ⟨rfl, rfl⟩))
    go_ret
    exact ⟨rfl, _, rfl⟩

set_option maxHeartbeats 400000 in
theorem soundBytes_yes (w : World) (cb co L cap N : Nat) (c : Nat → Int) (V : VP c L N) (C : Laid w cb co L cap c) (hT : Tab w) :
    Calls Tryz.prog 126 #[.slice (some ⟨cb, co, none⟩) L cap, .int .u8 19] w fun e w' => e = .returned (.int .i64 L) ∧ Below w.heap.size w w' := by
  have hfs := field_sz
  have hroom := C.room
  go_enter Tryz.func126, Tryz.ntmps126
  go_wp2
  go_loopw [5] (fun i wr => ∃ m : Nat, m ≤ N ∧ i = .int .i64 (pos c m) ∧ Below w.heap.size w wr) (fun i _ => L - (intOf i).toNat)
  case atStart => exact ⟨0, by omega, rfl, Below.refl _ _⟩
  case round =>
    obtain ⟨m, hm, rfl, hB⟩ := hrel
    by_cases hlt : m < N
    · obtain ⟨kk, A, hsucc⟩ := V.at hlt
      have hck := C.at hB A.lt
      rw [A.op] at hck
      have h1 := A.lt
      have h2 := A.fits
      have h3 := A.sz
      have h4 := A.s1
      have h5 := A.s2
      have h6 := A.pos
      have h7 := A.most
      have hk := A.k
      have hTr : Hid (Tab wr) := hT.below hB
      have HS : Hid (pos c (m + 1) = pos c m + szOf kk) := hsucc
      have HZ : Hid (((pos c m + szOf kk : Nat) : Int) = (pos c m : Int) + shp (kk * 3)) := h3
      have hi1 : (pos c m : Int) < (L : Int) := by omega
      have hi2 : (pos c m : Int) ≤ (L : Int) := by omega
      have hcq : ¬ cap = pos c m := by omega
      have hdec : decide ((pos c m : Int) < (L : Int)) = true := by simpa using hi1
      have hsnd : Hid (Calls Tryz.prog 170 #[.slice (some ⟨cb, co + pos c m, none⟩) (L - pos c m) (cap - pos c m), .int .u8 19] wr fun e w' => e = .returned (.bool true) ∧ ∃ c, w' = wr.alloc (.cells c 179)) := by
        refine sound_yes wr cb _ _ _ kk (c (pos c m + 1)) 19 (by omega) (by omega) (by omega) (by omega) hck ?_ hTr.out
        intro hh
        have hs2 : szOf kk = 2 := by
          unfold holdsB at hh
          have : kk = 16 ∨ kk = 17 := by simp at hh; omega
          rcases this with e | e <;> rw [e] <;> rfl
        refine ⟨by omega, C.at hB (p := pos c m + 1) (by omega), ?_⟩
        have := V.cell m hlt
        rw [A.op] at this
        exact this hh
      have hcbr : cb < wr.heap.size := by have := C.blk; have := hB.size; omega
      have hck' : ∀ o, (wr.alloc o).cell? ⟨cb, co + pos c m, none⟩ = some (.int .u8 (kk : Int)) := fun o => (World.cell?_alloc_past _ _ _ hcbr).trans hck
      clear hsucc h3 A
      go_wp2_with (first | (go_at_call 170; refine (hsnd.out).mono ?_; rintro e w' ⟨rfl, cc, rfl⟩) | (go_at_call 129; refine (shapeOf_any kk (by omega) _ (hTr.out.alloc _)).mono ?_; rintro e w' ⟨rfl, cc2, rfl⟩))
      go_roundw
      case rel => exact ⟨m + 1, by omega, by rw [HS.out, HZ.out], (hB.alloc (by have := hB.size; omega) _).alloc (by have := hB.size; simp; omega) _⟩
      case measure => simp [intOf]; omega
    · have e : m = N := by omega
      subst e
      rw [V.last]
      have hdec : decide ((L : Int) < (L : Int)) = false := by simp
      go_wp2_with fail
      go_ret
      exact ⟨rfl, hB⟩

def wellAt (c : Nat → Int) (m : Nat) : Bool := if m = 0 then false else endsB (c (pos c (m - 1)))

set_option maxHeartbeats 400000 in
theorem endsWell_yes (w : World) (cb co L cap N : Nat) (c : Nat → Int) (V : VP c L N) (C : Laid w cb co L cap c) (hT : Tab w) :
    Calls Tryz.prog 127 #[.slice (some ⟨cb, co, none⟩) L cap] w fun e w' => e = .returned (.bool true) ∧ Below w.heap.size w w' := by
  have hfs := field_sz
  go_enter Tryz.func127, Tryz.ntmps127
  go_wp2
  go_loopw [3, 4] (fun b i wr => ∃ m : Nat, m ≤ N ∧ i = .int .i64 (pos c m) ∧ b = .bool (wellAt c m) ∧ Below w.heap.size w wr) (fun _ i _ => L - (intOf i).toNat)
  case atStart => exact ⟨0, by omega, rfl, rfl, Below.refl _ _⟩
  case round =>
    obtain ⟨m, hm, rfl, rfl, hB⟩ := hrel
    by_cases hlt : m < N
    · obtain ⟨kk, A, hsucc⟩ := V.at hlt
      have hck := C.at hB A.lt
      rw [A.op] at hck
      have h1 := A.lt
      have h2 := A.fits
      have h3 := A.sz
      have h4 := A.s1
      have h5 := A.s2
      have h6 := A.pos
      have h7 := A.most
      have hk := A.k
      have hTr : Hid (Tab wr) := hT.below hB
      have HS : Hid (pos c (m + 1) = pos c m + szOf kk) := hsucc
      have HZ : Hid (((pos c m + szOf kk : Nat) : Int) = (pos c m : Int) + shp (kk * 3)) := h3
      have hi1 : (pos c m : Int) < (L : Int) := by omega
      have HW : Hid (wellAt c (m + 1) = endsB (kk : Int)) := by
        show wellAt c (m + 1) = _
        unfold wellAt
        rw [if_neg (by omega), Nat.add_sub_cancel, A.op]
      clear hsucc h3 A
      go_wp2_with (first | (go_at_call 144; refine (ends_any _ _).mono ?_; rintro e w' ⟨rfl, rfl⟩) | (go_at_call 129; refine (shapeOf_any kk (by omega) _ hTr.out).mono ?_; rintro e w' ⟨rfl, cc2, rfl⟩))
      go_roundw
      case rel => exact ⟨m + 1, by omega, by rw [HS.out, HZ.out], by rw [HW.out], hB.alloc (by have := hB.size; omega) _⟩
      case measure => simp [intOf]; omega
    · have e : m = N := by omega
      subst e
      rw [V.last]
      have hw : wellAt c m = true := by
        unfold wellAt
        rw [if_neg (by have := V.one; omega)]
        exact V.stop
      rw [hw]
      go_wp2
      go_ret
      exact ⟨rfl, hB⟩
end Go.Proofs.YtflenkppcclclaaGreatDoor

namespace Go.Proofs.YtflenkppcclclaaGreatDoor
open Go.RowKit

/-- The first N instructions are whole, none is above z, and their cells are cells. -/
structure SP (c : Nat → Int) (L N z : Nat) : Prop where
  most : L ≤ 240
  z20 : z ≤ 20
  byte : ∀ i, i < L → 0 ≤ c i ∧ c i ≤ 255
  op : ∀ m, m < N → c (pos c m) ≤ (z : Int)
  fits : ∀ m, m < N → pos c m + szOf (c (pos c m)).toNat ≤ L
  cell : ∀ m, m < N → holdsB (c (pos c m)) = true → c (pos c m + 1) < 16

theorem SP.lt {c : Nat → Int} {L N z : Nat} (S : SP c L N z) {m : Nat} (hm : m < N) : pos c m < L := by
  have h1 := S.fits m hm
  have h2 := S.op m hm
  have h3 := S.z20
  have := (szOf_pos (c (pos c m)).toNat (by omega)).1
  omega
theorem SP.le {c : Nat → Int} {L N z : Nat} (S : SP c L N z) {m : Nat} (hm : m ≤ N) : pos c m ≤ L := by
  cases m with
  | zero => exact Nat.zero_le _
  | succ m => exact S.fits m (by omega)

structure Atg (c : Nat → Int) (L p kk z : Nat) : Prop where
  lt : p < L
  most : L ≤ 240
  op : c p = (kk : Int)
  k : kk ≤ 20
  kz : kk ≤ z
  fits : p + szOf kk ≤ L
  sz : ((p + szOf kk : Nat) : Int) = (p : Int) + shp (kk * 3)
  s1 : 1 ≤ shp (kk * 3)
  s2 : shp (kk * 3) ≤ 2
  pos : 1 ≤ szOf kk
theorem SP.at {c : Nat → Int} {L N z : Nat} (S : SP c L N z) {m : Nat} (hm : m < N) : ∃ kk, Atg c L (pos c m) kk z ∧ pos c (m + 1) = pos c m + szOf kk := by
  have h1 := S.lt hm
  have h2 := S.op m hm
  have h3 := S.byte _ h1
  have h4 := S.fits m hm
  have h5 := S.z20
  obtain ⟨a, b, d⟩ := szOf_pos (c (pos c m)).toNat (by omega)
  exact ⟨(c (pos c m)).toNat, ⟨h1, S.most, by omega, by omega, by omega, h4, by omega, by omega, by omega, a⟩, rfl⟩

/-- The instruction at p is whole, is not above z, and its cell is one. -/
def soundB (c : Nat → Int) (L z p : Nat) : Bool := decide (c p ≤ (z : Int)) && decide (p + szOf (c p).toNat ≤ L) && (!holdsB (c p) || decide (c (p + 1) < 16))
theorem SP.succ {c : Nat → Int} {L N z : Nat} (S : SP c L N z) (h : soundB c L z (pos c N) = true) : SP c L (N + 1) z := by
  unfold soundB at h
  simp only [Bool.and_eq_true, decide_eq_true_eq, Bool.or_eq_true, Bool.not_eq_true'] at h
  obtain ⟨⟨h1, h2⟩, h3⟩ := h
  refine ⟨S.most, S.z20, S.byte, fun m hm => ?_, fun m hm => ?_, fun m hm hh => ?_⟩
  all_goals
    by_cases e : m = N
    · subst e
      first | exact h1 | exact h2 | (rcases h3 with h3 | h3; · rw [h3] at hh; cases hh
                                     · exact h3)
    · first | exact S.op m (by omega) | exact S.fits m (by omega) | exact S.cell m (by omega) hh

theorem holds_two {kk : Nat} (hb : holdsB (kk : Int) = true) : szOf kk = 2 ∧ shp (kk * 3) = 2 := by
  unfold holdsB at hb
  have : kk = 16 ∨ kk = 17 := by simp at hb; omega
  rcases this with e | e <;> rw [e] <;> exact ⟨rfl, rfl⟩
theorem leads_two {kk : Nat} (hb : leadsB (kk : Int) = true) : szOf kk = 2 ∧ shp (kk * 3) = 2 := by
  unfold leadsB at hb
  have : kk = 14 ∨ kk = 15 := by simp at hb; omega
  rcases this with e | e <;> rw [e] <;> exact ⟨rfl, rfl⟩

/-- 'sound' says no. -/
theorem sound_above (w : World) (cb o len cp : Nat) (x last : Int) (hl : last < x) (h1 : 1 ≤ len) (c0 : w.cell? ⟨cb, o, none⟩ = some (.int .u8 x)) :
    Calls Tryz.prog 170 #[.slice (some ⟨cb, o, none⟩) len cp, .int .u8 last] w fun e w' => e = .returned (.bool false) ∧ Below w.heap.size w w' := by
  have hi0 : (0 : Int) < (len : Int) := by omega
  have hl2 : decide (last < x) = true := by simpa using hl
  go_enter Tryz.func170, Tryz.ntmps170
  go_wp2_with fail
  go_ret
  exact ⟨rfl, Below.refl _ _⟩
theorem sound_short (w : World) (cb o len cp kk : Nat) (last : Int) (hk : kk ≤ 20) (hl : (kk : Int) ≤ last) (hlen : (len : Int) < shp (kk * 3)) (h1 : 1 ≤ len) (c0 : w.cell? ⟨cb, o, none⟩ = some (.int .u8 (kk : Int))) (hT : Tab w) :
    Calls Tryz.prog 170 #[.slice (some ⟨cb, o, none⟩) len cp, .int .u8 last] w fun e w' => e = .returned (.bool false) ∧ Below w.heap.size w w' := by
  have hfs := field_sz
  have hi0 : (0 : Int) < (len : Int) := by omega
  have hl1 : ¬ last < (kk : Int) := by omega
  have hl2 : decide (last < (kk : Int)) = false := by simpa using hl
  have HT : Hid (Tab w) := hT
  clear hT
  go_enter Tryz.func170, Tryz.ntmps170
  go_wp2_with (go_at_call 129; refine (shapeOf_any kk (by omega) _ HT.out).mono ?_; rintro e w' ⟨rfl, cc, rfl⟩)
  go_ret
  exact ⟨rfl, (Below.refl _ _).alloc (Nat.le_refl _) _⟩
theorem sound_cell (w : World) (cb o len cp kk : Nat) (n last : Int) (hk : kk ≤ 20) (hl : (kk : Int) ≤ last) (hlen : shp (kk * 3) ≤ (len : Int)) (h2 : 2 ≤ len) (c0 : w.cell? ⟨cb, o, none⟩ = some (.int .u8 (kk : Int)))
    (hb : holdsB (kk : Int) = true) (c1 : w.cell? ⟨cb, o + 1, none⟩ = some (.int .u8 n)) (hn : 16 ≤ n) (hT : Tab w) :
    Calls Tryz.prog 170 #[.slice (some ⟨cb, o, none⟩) len cp, .int .u8 last] w fun e w' => e = .returned (.bool false) ∧ Below w.heap.size w w' := by
  have hfs := field_sz
  have hi0 : (0 : Int) < (len : Int) := by omega
  have hi1 : (1 : Int) < (len : Int) := by omega
  have hl1 : ¬ last < (kk : Int) := by omega
  have hl2 : decide (last < (kk : Int)) = false := by simpa using hl
  have hl3 : ¬ (len : Int) < shp (kk * 3) := by omega
  have hn2 : decide (n < 16) = false := by simp; omega
  have hcb : cb < w.heap.size := block_lt_of_cell c0
  have HT : Hid (Tab w) := hT
  clear hT
  go_enter Tryz.func170, Tryz.ntmps170
  go_wp2_with (first | (go_at_call 129; refine (shapeOf_any kk (by omega) _ HT.out).mono ?_; rintro e w' ⟨rfl, cc, rfl⟩) | (go_at_call 216; refine (holds_any _ _).mono ?_; rintro e w' ⟨rfl, rfl⟩))
  go_ret
  exact ⟨rfl, (Below.refl _ _).alloc (Nat.le_refl _) _⟩

/-- 'sound' at a place of the code. -/
theorem sound_gen (w : World) (cb co L cap : Nat) (c : Nat → Int) (p z : Nat) (hp : p < L) (hz : z ≤ 20) (hby : 0 ≤ c p) (C : Laid w cb co L cap c) (hT : Tab w) :
    Calls Tryz.prog 170 #[.slice (some ⟨cb, co + p, none⟩) (L - p) (cap - p), .int .u8 (z : Int)] w fun e w' => e = .returned (.bool (soundB c L z p)) ∧ Below w.heap.size w w' := by
  have c0 := C.cell p hp
  by_cases h1 : c p ≤ (z : Int)
  · obtain ⟨kk, hkk⟩ : ∃ kk : Nat, c p = (kk : Int) := ⟨(c p).toNat, by omega⟩
    obtain ⟨s1, s2, s3⟩ := szOf_pos kk (by omega)
    have hto : (c p).toNat = kk := by omega
    rw [hkk] at c0
    by_cases h2 : p + szOf kk ≤ L
    · cases hb : holdsB (kk : Int) with
      | false =>
        have e : soundB c L z p = true := by unfold soundB; rw [hto, hkk, hb]; simp; omega
        rw [e]
        refine (sound_yes w cb _ _ _ kk 0 z (by omega) (by omega) (by omega) (by omega) c0 (fun h => by rw [hb] at h; cases h) hT).mono ?_
        rintro e w' ⟨rfl, cc, rfl⟩
        exact ⟨rfl, (Below.refl _ _).alloc (Nat.le_refl _) _⟩
      | true =>
        obtain ⟨t1, t2⟩ := holds_two hb
        have c1 := C.cell (p + 1) (by omega)
        by_cases h3 : c (p + 1) < 16
        · have e : soundB c L z p = true := by unfold soundB; rw [hto, hkk, hb]; simp; omega
          rw [e]
          refine (sound_yes w cb _ _ _ kk (c (p + 1)) z (by omega) (by omega) (by omega) (by omega) c0 (fun _ => ⟨by omega, c1, h3⟩) hT).mono ?_
          rintro e w' ⟨rfl, cc, rfl⟩
          exact ⟨rfl, (Below.refl _ _).alloc (Nat.le_refl _) _⟩
        · have e : soundB c L z p = false := by unfold soundB; rw [hto, hkk, hb]; simp; omega
          rw [e]
          exact sound_cell w cb _ _ _ kk (c (p + 1)) z (by omega) (by omega) (by omega) (by omega) c0 hb c1 (by omega) hT
    · have e : soundB c L z p = false := by unfold soundB; rw [hto]; simp; omega
      rw [e]
      exact sound_short w cb _ _ _ kk z (by omega) (by omega) (by omega) (by omega) c0 hT
  · have e : soundB c L z p = false := by unfold soundB; simp; omega
    rw [e]
    exact sound_above w cb _ _ _ (c p) z (by omega) (by omega) c0

set_option maxHeartbeats 400000 in
theorem soundBytes_gen (w : World) (cb co L cap z : Nat) (c : Nat → Int) (hL : L ≤ 240) (hz : z ≤ 20) (hby : ∀ i, i < L → 0 ≤ c i ∧ c i ≤ 255) (C : Laid w cb co L cap c) (hT : Tab w) :
    Calls Tryz.prog 126 #[.slice (some ⟨cb, co, none⟩) L cap, .int .u8 (z : Int)] w fun e w' => ∃ N, SP c L N z ∧ (pos c N = L ∨ pos c N < L ∧ soundB c L z (pos c N) = false) ∧ e = .returned (.int .i64 (pos c N)) ∧ Below w.heap.size w w' := by
  have hfs := field_sz
  have hroom := C.room
  go_enter Tryz.func126, Tryz.ntmps126
  go_wp2
  go_loopw [5] (fun i wr => ∃ m : Nat, SP c L m z ∧ i = .int .i64 (pos c m) ∧ Below w.heap.size w wr) (fun i _ => L - (intOf i).toNat)
  case atStart => exact ⟨0, ⟨hL, hz, hby, fun _ h => by omega, fun _ h => by omega, fun _ h => by omega⟩, rfl, Below.refl _ _⟩
  case round =>
    obtain ⟨m, S, rfl, hB⟩ := hrel
    have hle := S.le (m := m) (Nat.le_refl _)
    by_cases hlt : pos c m < L
    · have hck := C.at hB hlt
      have hTr : Hid (Tab wr) := hT.below hB
      have hi1 : (pos c m : Int) < (L : Int) := by omega
      have hi2 : (pos c m : Int) ≤ (L : Int) := by omega
      have hcq : ¬ cap = pos c m := by omega
      have hdec : decide ((pos c m : Int) < (L : Int)) = true := by simpa using hi1
      have hsnd : Hid (Calls Tryz.prog 170 #[.slice (some ⟨cb, co + pos c m, none⟩) (L - pos c m) (cap - pos c m), .int .u8 (z : Int)] wr fun e w' => e = .returned (.bool (soundB c L z (pos c m))) ∧ Below wr.heap.size wr w') := sound_gen wr cb co L cap c _ z hlt hz (hby _ hlt).1 (C.below hB) hTr.out
      cases hs : soundB c L z (pos c m) with
      | false =>
        rw [hs] at hsnd
        go_wp2_with (go_at_call 170; refine (hsnd.out).mono ?_; rintro e w' ⟨rfl, hB2⟩)
        go_ret
        exact ⟨m, S, Or.inr ⟨hlt, hs⟩, rfl, hB.trans (hB2.mono hB.size)⟩
      | true =>
        rw [hs] at hsnd
        have S2 := S.succ hs
        obtain ⟨kk, A, hsucc⟩ := S2.at (m := m) (by omega)
        rw [A.op] at hck
        have h1 := A.lt
        have h2 := A.fits
        have h3 := A.sz
        have h4 := A.s1
        have h5 := A.s2
        have h6 := A.pos
        have h7 := A.most
        have hk := A.k
        have HS : Hid (pos c (m + 1) = pos c m + szOf kk) := hsucc
        have HZ : Hid (((pos c m + szOf kk : Nat) : Int) = (pos c m : Int) + shp (kk * 3)) := h3
        have HCK : Hid (∀ wx, Below wr.heap.size wr wx → wx.cell? ⟨cb, co + pos c m, none⟩ = some (.int .u8 (kk : Int)) ∧ Tab wx) := fun wx hx => by
          have := C.at (hB.trans (hx.mono hB.size)) hlt
          rw [A.op] at this
          exact ⟨this, hT.below (hB.trans (hx.mono hB.size))⟩
        clear hsucc h3 A S hck
        go_wp2_with (first | (go_at_call 170; refine (hsnd.out).mono ?_; rintro e wx ⟨rfl, hB2⟩; have hcx := (HCK.out wx hB2).1) | (go_at_call 129; refine (shapeOf_any kk (by omega) _ (HCK.out _ (by assumption)).2).mono ?_; rintro e w' ⟨rfl, cc2, rfl⟩))
        go_roundw
        case rel => exact ⟨m + 1, S2, by rw [HS.out, HZ.out], (hB.trans (hB2.mono hB.size)).alloc (by have := hB.size; have := hB2.size; omega) _⟩
        case measure => simp [intOf]; omega
    · have e : pos c m = L := by omega
      have hdec : decide ((L : Int) < (L : Int)) = false := by simp
      rw [e]
      go_wp2_with fail
      go_ret
      exact ⟨m, S, Or.inl e, by rw [e]; rfl, hB⟩
end Go.Proofs.YtflenkppcclclaaGreatDoor

namespace Go.Proofs.YtflenkppcclclaaGreatDoor
open Go.RowKit

set_option maxHeartbeats 400000 in
theorem endsWell_gen (w : World) (cb co L cap N z : Nat) (c : Nat → Int) (V : SP c L N z) (hN : pos c N = L) (C : Laid w cb co L cap c) (hT : Tab w) :
    Calls Tryz.prog 127 #[.slice (some ⟨cb, co, none⟩) L cap] w fun e w' => e = .returned (.bool (wellAt c N)) ∧ Below w.heap.size w w' := by
  have hfs := field_sz
  go_enter Tryz.func127, Tryz.ntmps127
  go_wp2
  go_loopw [3, 4] (fun b i wr => ∃ m : Nat, m ≤ N ∧ i = .int .i64 (pos c m) ∧ b = .bool (wellAt c m) ∧ Below w.heap.size w wr) (fun _ i _ => L - (intOf i).toNat)
  case atStart => exact ⟨0, by omega, rfl, rfl, Below.refl _ _⟩
  case round =>
    obtain ⟨m, hm, rfl, rfl, hB⟩ := hrel
    by_cases hlt : m < N
    · obtain ⟨kk, A, hsucc⟩ := V.at hlt
      have hck := C.at hB A.lt
      rw [A.op] at hck
      have h1 := A.lt
      have h2 := A.fits
      have h3 := A.sz
      have h4 := A.s1
      have h5 := A.s2
      have h6 := A.pos
      have h7 := A.most
      have hk := A.k
      have hTr : Hid (Tab wr) := hT.below hB
      have HS : Hid (pos c (m + 1) = pos c m + szOf kk) := hsucc
      have HZ : Hid (((pos c m + szOf kk : Nat) : Int) = (pos c m : Int) + shp (kk * 3)) := h3
      have hi1 : (pos c m : Int) < (L : Int) := by omega
      have HW : Hid (wellAt c (m + 1) = endsB (kk : Int)) := by
        show wellAt c (m + 1) = _
        unfold wellAt
        rw [if_neg (by omega), Nat.add_sub_cancel, A.op]
      clear hsucc h3 A
      go_wp2_with (first | (go_at_call 144; refine (ends_any _ _).mono ?_; rintro e w' ⟨rfl, rfl⟩) | (go_at_call 129; refine (shapeOf_any kk (by omega) _ hTr.out).mono ?_; rintro e w' ⟨rfl, cc2, rfl⟩))
      go_roundw
      case rel => exact ⟨m + 1, by omega, by rw [HS.out, HZ.out], by rw [HW.out], hB.alloc (by have := hB.size; omega) _⟩
      case measure => simp [intOf]; omega
    · have e : m = N := by omega
      subst e
      rw [hN]
      go_wp2
      go_ret
      exact ⟨rfl, hB⟩

/-- One of the first N instructions is a Probe. -/
def probeIn (c : Nat → Int) (N : Nat) : Bool := (List.range N).any fun t => c (pos c t) == 20
theorem probeIn_succ (c : Nat → Int) (m : Nat) : probeIn c (m + 1) = (probeIn c m || c (pos c m) == 20) := by
  unfold probeIn
  rw [List.range_succ, List.any_append]
  simp
theorem probeIn_of (c : Nat → Int) {N m : Nat} (hm : m < N) (h : c (pos c m) = 20) : probeIn c N = true := by
  unfold probeIn
  rw [List.any_eq_true]
  exact ⟨m, List.mem_range.2 hm, by simp [h]⟩
theorem probeIn_not (c : Nat → Int) {N m : Nat} (hm : m < N) (h : probeIn c N = false) : c (pos c m) ≠ 20 := fun e => by
  rw [probeIn_of c hm e] at h; cases h
theorem probeIn_ex (c : Nat → Int) {N : Nat} (h : probeIn c N = true) : ∃ m, m < N ∧ c (pos c m) = 20 := by
  unfold probeIn at h
  rw [List.any_eq_true] at h
  obtain ⟨m, hm, e⟩ := h
  exact ⟨m, List.mem_range.1 hm, by simpa using e⟩

set_option maxHeartbeats 400000 in
theorem hasProbe_gen (w : World) (cb co L cap N z : Nat) (c : Nat → Int) (V : SP c L N z) (hN : pos c N = L) (C : Laid w cb co L cap c) (hT : Tab w) :
    Calls Tryz.prog 71 #[.slice (some ⟨cb, co, none⟩) L cap] w fun e w' => e = .returned (.bool (probeIn c N)) ∧ Below w.heap.size w w' := by
  have hfs := field_sz
  go_enter Tryz.func71, Tryz.ntmps71
  go_wp2
  go_loopw [3] (fun i wr => ∃ m : Nat, m ≤ N ∧ i = .int .i64 (pos c m) ∧ probeIn c m = false ∧ Below w.heap.size w wr) (fun i _ => L - (intOf i).toNat)
  case atStart => exact ⟨0, by omega, rfl, rfl, Below.refl _ _⟩
  case round =>
    obtain ⟨m, hm, rfl, hno, hB⟩ := hrel
    by_cases hlt : m < N
    · obtain ⟨kk, A, hsucc⟩ := V.at hlt
      have hck := C.at hB A.lt
      rw [A.op] at hck
      have h1 := A.lt
      have h2 := A.fits
      have h3 := A.sz
      have h4 := A.s1
      have h5 := A.s2
      have h6 := A.pos
      have h7 := A.most
      have hk := A.k
      have hTr : Hid (Tab wr) := hT.below hB
      have HS : Hid (pos c (m + 1) = pos c m + szOf kk) := hsucc
      have HZ : Hid (((pos c m + szOf kk : Nat) : Int) = (pos c m : Int) + shp (kk * 3)) := h3
      have hi1 : (pos c m : Int) < (L : Int) := by omega
      have HP : Hid (c (pos c m) = (kk : Int)) := A.op
      clear hsucc h3 A
      cases h20 : ((kk : Int) == 20) with
      | false =>
        have HN : Hid (probeIn c (m + 1) = false) := by
          show probeIn c (m + 1) = false
          rw [probeIn_succ, hno, HP.out, h20]; rfl
        clear hno
        go_wp2_with (go_at_call 129; refine (shapeOf_any kk (by omega) _ hTr.out).mono ?_; rintro e w' ⟨rfl, cc, rfl⟩)
        go_roundw
        case rel => exact ⟨m + 1, by omega, by rw [HS.out, HZ.out], HN.out, hB.alloc (by have := hB.size; omega) _⟩
        case measure => simp [intOf]; omega
      | true =>
        go_wp2_with fail
        go_ret
        refine ⟨?_, hB⟩
        rw [probeIn_of c hlt (by rw [HP.out]; simpa using h20)]
        rfl
    · have e : m = N := by omega
      subst e
      rw [hN]
      go_wp2
      go_ret
      exact ⟨by rw [hno]; rfl, hB⟩
end Go.Proofs.YtflenkppcclclaaGreatDoor

