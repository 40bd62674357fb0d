import Derived.Test.YtflenkppcclclaaGreatDoorM09
import Derived.Test.YtflenkppcclclaaGreatDoorM07
import Derived.Test.YtflenkppcclclaaGreatDoorM08
namespace Go.Proofs.YtflenkppcclclaaGreatDoor
open Go.RowKit

/-- The m-th instruction leads where none of the N begins. -/
def badT (c : Nat → Int) (N m : Nat) : Bool := leadsB (c (pos c m)) && !started c N (c (pos c m + 1)).toNat
theorem started_ex (c : Nat → Int) {m i : Nat} (h : started c m i = true) : ∃ t, t < m ∧ pos c t = i := by
  unfold started at h
  rw [List.any_eq_true] at h
  obtain ⟨t, ht, e⟩ := h
  exact ⟨t, List.mem_range.1 ht, by simpa using e⟩
theorem started_far {c : Nat → Int} {L N z : Nat} (S : SP c L N z) {i : Nat} (h : L ≤ i) : started c N i = false := by
  cases e : started c N i with
  | false => rfl
  | true => obtain ⟨t, ht, e2⟩ := started_ex c e; have := S.lt ht; omega

/-- What 'wrongTarget' tells. -/
def WT (c : Nat → Int) (N : Nat) (r : Nat) (b : Bool) : Prop :=
  (b = false ∧ r = 0 ∧ ∀ m, m < N → badT c N m = false) ∨ (b = true ∧ ∃ t, t < N ∧ r = pos c t ∧ badT c N t = true ∧ ∀ m, m < t → badT c N m = false)

set_option maxHeartbeats 1000000 in
theorem wrongTarget_gen (w : World) (cb co L cap N z : Nat) (c : Nat → Int) (V : SP c L N z) (hN : pos c N = L) (C : Laid w cb co L cap c) (hT : Tab w) :
    Calls Tryz.prog 128 #[.slice (some ⟨cb, co, none⟩) L cap] w fun e w' => ∃ r b, WT c N r b ∧ e = .returned (.tuple #[.int .i64 (r : Nat), .bool b]) ∧ Below w.heap.size w w' := by
  have hfs := field_sz
  have hmost := V.most
  obtain ⟨w1, hmk, hh1, hB1⟩ := made w 151 4 (.bool false) 1 L Tryz.underlying151 Tryz.infoBool rfl (by omega) (by omega)
  rw [bl_none] at hh1
  have HH1 : Hid (w1.heap[w.heap.size]? = some (.cells (bl L (fun _ => false)).toArray 4 (0, 0))) := hh1
  clear hh1
  go_enter Tryz.func128, Tryz.ntmps128
  go_wp2
  clear hmk
  go_loopw [5] (fun i wr => ∃ m : Nat, m ≤ N ∧ i = .int .i64 (pos c m) ∧ wr.heap[w.heap.size]? = some (.cells (bl L (started c m)).toArray 4 (0, 0)) ∧ Below w.heap.size w wr) (fun i _ => L - (intOf i).toNat)
  case atStart => exact ⟨0, by omega, rfl, HH1.out, hB1⟩
  case round =>
    obtain ⟨m, hm, rfl, hh, hB⟩ := hrel
    by_cases hlt : m < N
    · obtain ⟨kk, A, hsucc⟩ := V.at hlt
      have hck := C.at hB A.lt
      rw [A.op] at hck
      have h1 := A.lt
      have h2 := A.fits
      have h3 := A.sz
      have h4 := A.s1
      have h5 := A.s2
      have h6 := A.pos
      have h7 := A.most
      have hk := A.k
      have HS : Hid (pos c (m + 1) = pos c m + szOf kk) := hsucc
      have HZ : Hid (((pos c m + szOf kk : Nat) : Int) = (pos c m : Int) + shp (kk * 3)) := h3
      have hi1 : (pos c m : Int) < (L : Int) := by omega
      have c1 : wr.cell? ⟨w.heap.size, pos c m, none⟩ = some (.bool (started c m (pos c m))) := by
        rw [cell_of_row wr w.heap.size _ _ _ _ hh, List.getElem?_toArray]; exact bl_get L _ _ h1
      have f1 := frozen_of_row wr w.heap.size (pos c m) _ _ hh
      have HR : Hid ((wr.setCell ⟨w.heap.size, pos c m, none⟩ (.bool true)).heap[w.heap.size]? = some (.cells (bl L (started c (m + 1))).toArray 4 (0, 0))) := row_set hh _ _ (bl_set L _ _ _ _ (fun i _ => started_succ c m i))
      have hB2 := hB.setCell (p := ⟨w.heap.size, pos c m, none⟩) (Nat.le_refl _) (.bool true)
      have hTr : Hid (Tab (wr.setCell ⟨w.heap.size, pos c m, none⟩ (.bool true))) := hT.below hB2
      have hcb := C.blk
      have hne : ¬ w.heap.size = cb := by omega
      have hck2 : (wr.setCell ⟨w.heap.size, pos c m, none⟩ (.bool true)).cell? ⟨cb, co + pos c m, none⟩ = some (.int .u8 (kk : Int)) := by
        rw [World.cell?_setCell_other _ _ _ _ (fun c => by injection c with c1 _ _; omega)]; exact hck
      have hsz := hB.size
      have hlt2 : w.heap.size < wr.heap.size := by have := (Array.getElem?_eq_some_iff.1 hh).1; exact this
      clear hsucc h3 A hh
      go_wp2_with (go_at_call 129; refine (shapeOf_any kk (by omega) _ hTr.out).mono ?_; rintro e w' ⟨rfl, cc2, rfl⟩)
      go_roundw
      case rel => exact ⟨m + 1, by omega, by rw [HS.out, HZ.out], by rw [Below.heap_alloc _ _ _ (by simpa using hlt2)]; exact HR.out, hB2.alloc (by simp; omega) _⟩
      case measure => simp [intOf]; omega
    · have e : m = N := by omega
      subst e
      rw [hN]
      clear HH1
      go_wp2
      go_loopw [6] (fun i wx => ∃ t : Nat, t ≤ m ∧ i = .int .i64 (pos c t) ∧ (∀ s, s < t → badT c m s = false) ∧ wx.heap[w.heap.size]? = some (.cells (bl L (started c m)).toArray 4 (0, 0)) ∧ Below w.heap.size w wx) (fun i _ => L - (intOf i).toNat)
      case atStart => exact ⟨0, by omega, rfl, fun _ h => by omega, hh, hB⟩
      case round =>
        clear hh hB
        obtain ⟨t, ht, rfl, hgood, hh, hB⟩ := hrel
        by_cases hlt : t < m
        · obtain ⟨kk, A, hsucc⟩ := V.at hlt
          have hck := C.at hB A.lt
          rw [A.op] at hck
          have h1 := A.lt
          have h2 := A.fits
          have h3 := A.sz
          have h4 := A.s1
          have h5 := A.s2
          have h6 := A.pos
          have h7 := A.most
          have hk := A.k
          have hop := A.op
          have HG : Hid (∀ s, s < t → badT c m s = false) := hgood
          have HS : Hid (pos c (t + 1) = pos c t + szOf kk) := hsucc
          have HZ : Hid (((pos c t + szOf kk : Nat) : Int) = (pos c t : Int) + shp (kk * 3)) := h3
          have hi1 : (pos c t : Int) < (L : Int) := by omega
          have hTr : Hid (Tab wr) := hT.below hB
          have HN : badT c m t = false → ∀ s, s < t + 1 → badT c m s = false := fun hb s hs => by
            by_cases e : s = t
            · subst e; exact hb
            · exact HG.out s (by omega)
          clear hgood
          cases hlb : leadsB (kk : Int) with
          | false =>
            have HN2 : Hid (∀ s, s < t + 1 → badT c m s = false) := HN (by unfold badT; rw [hop, hlb]; rfl)
            clear hsucc h3 A hop HN
            go_wp2_with (first | (go_at_call 143; refine (leads_any _ _).mono ?_; rintro e w' ⟨rfl, rfl⟩) | (go_at_call 129; refine (shapeOf_any kk (by omega) _ hTr.out).mono ?_; rintro e w' ⟨rfl, cc2, rfl⟩))
            go_roundw
            case rel => exact ⟨t + 1, by omega, by rw [HS.out, HZ.out], HN2.out, by rw [Below.heap_alloc _ _ _ ((Array.getElem?_eq_some_iff.1 hh).1)]; exact hh, hB.alloc (by have := hB.size; omega) _⟩
            case measure => simp [intOf]; omega
          | true =>
            have hsz2 := (leads_two hlb).1
            have hby := V.byte (pos c t + 1) (by omega)
            obtain ⟨X, hX⟩ : ∃ X : Nat, c (pos c t + 1) = (X : Int) := ⟨(c (pos c t + 1)).toNat, by omega⟩
            have hck2 := C.at hB (p := pos c t + 1) (by omega)
            rw [hX] at hck2
            have hbad : badT c m t = !started c m X := by unfold badT; rw [hop, hlb, hX]; rfl
            have hi3 : (pos c t : Int) + 1 < (L : Int) := by omega
            have hi4 : (X : Int) ≤ 255 := by omega
            have HBD : Hid (badT c m t = !started c m X) := hbad
            by_cases hXL : X < L
            · have ct : wr.cell? ⟨w.heap.size, X, none⟩ = some (.bool (started c m X)) := by
                rw [cell_of_row wr w.heap.size _ _ _ _ hh, List.getElem?_toArray, bl_get L _ _ hXL]
              have hdec : decide ((L : Int) ≤ (X : Int)) = false := by simpa using hXL
              have hi2 : (X : Int) < (L : Int) := by omega
              have hi5 : ¬ (L : Int) ≤ (X : Int) := by omega
              cases hst : started c m X with
              | true =>
                rw [hst] at ct hbad
                have HN2 : Hid (∀ s, s < t + 1 → badT c m s = false) := HN hbad
                clear hsucc h3 A hop hsz2 hX hbad HN hby
                go_wp2_with (first | (go_at_call 143; refine (leads_any _ _).mono ?_; rintro e w' ⟨rfl, rfl⟩) | (go_at_call 129; refine (shapeOf_any kk (by omega) _ hTr.out).mono ?_; rintro e w' ⟨rfl, cc2, rfl⟩))
                go_roundw
                case rel => exact ⟨t + 1, by omega, by rw [HS.out, HZ.out], HN2.out, by rw [Below.heap_alloc _ _ _ ((Array.getElem?_eq_some_iff.1 hh).1)]; exact hh, hB.alloc (by have := hB.size; omega) _⟩
                case measure => simp [intOf]; omega
              | false =>
                rw [hst] at ct hbad
                have HBD2 : Hid (badT c m t = true) := hbad
                clear hsucc h3 A hop hsz2 hX hbad HN hby
                go_wp2_with (first | (go_at_call 143; refine (leads_any _ _).mono ?_; rintro e w' ⟨rfl, rfl⟩))
                go_ret2
                exact ⟨pos c t, true, Or.inr ⟨rfl, t, hlt, rfl, HBD2.out, HG.out⟩, rfl, hB⟩
            · have hst := started_far V (i := X) (by omega)
              rw [hst] at hbad
              have HBD2 : Hid (badT c m t = true) := hbad
              have hdec : decide ((L : Int) ≤ (X : Int)) = true := by simp; omega
              have hi5 : (L : Int) ≤ (X : Int) := by omega
              clear hsucc h3 A hop hsz2 hX hbad HN hby
              go_wp2_with (first | (go_at_call 143; refine (leads_any _ _).mono ?_; rintro e w' ⟨rfl, rfl⟩))
              go_ret2
              exact ⟨pos c t, true, Or.inr ⟨rfl, t, hlt, rfl, HBD2.out, HG.out⟩, rfl, hB⟩
        · have e : t = m := by omega
          subst e
          rw [hN]
          go_wp2
          go_ret2
          exact ⟨0, false, Or.inl ⟨rfl, rfl, hgood⟩, rfl, hB⟩
end Go.Proofs.YtflenkppcclclaaGreatDoor

namespace Go.Proofs.YtflenkppcclclaaGreatDoor
open Go.RowKit

/-- Bytes as they are handed in: a list that lies in memory, or one without bytes. -/
inductive Coded (w : World) (v : Value) (L : Nat) (c : Nat → Int) : Prop
  | full (cb co cap : Nat) (hv : v = .slice (some ⟨cb, co, none⟩) L cap) (C : Laid w cb co L cap c) : Coded w v L c
  | bare (p : Option Addr) (cap : Nat) (hv : v = .slice p 0 cap) (hL : L = 0) : Coded w v L c
theorem Coded.below {w wr : World} {v : Value} {L : Nat} {c : Nat → Int} (h : Coded w v L c) (hB : Below w.heap.size w wr) : Coded wr v L c := by
  cases h with
  | full cb co cap hv C => exact .full cb co cap hv (C.below hB)
  | bare p cap hv hL => exact .bare p cap hv hL

theorem soundBytes_bare (w : World) (p : Option Addr) (cap z : Nat) :
    Calls Tryz.prog 126 #[.slice p 0 cap, .int .u8 (z : Int)] w fun e w' => e = .returned (.int .i64 0) ∧ w' = w := by
  have hdec : decide ((0 : Int) < (0 : Int)) = false := by simp
  go_enter Tryz.func126, Tryz.ntmps126
  go_wp2
  go_loopw [5] (fun i wr => i = .int .i64 0 ∧ wr = w) (fun i _ => 0)
  case atStart => exact ⟨rfl, rfl⟩
  case round =>
    obtain ⟨rfl, rfl⟩ := hrel
    go_wp2_with fail
    go_ret
    exact ⟨rfl, rfl⟩
theorem endsWell_bare (w : World) (p : Option Addr) (cap : Nat) :
    Calls Tryz.prog 127 #[.slice p 0 cap] w fun e w' => e = .returned (.bool false) ∧ w' = w := by
  have hdec : decide ((0 : Int) < (0 : Int)) = false := by simp
  go_enter Tryz.func127, Tryz.ntmps127
  go_wp2
  go_loopw [3, 4] (fun b i wr => i = .int .i64 0 ∧ b = .bool false ∧ wr = w) (fun _ i _ => 0)
  case atStart => exact ⟨rfl, rfl, rfl⟩
  case round =>
    obtain ⟨rfl, rfl, rfl⟩ := hrel
    go_wp2_with fail
    go_ret
    exact ⟨rfl, rfl⟩

/-- What 'flaw' tells of c's first L bytes. -/
def FlawIs (c : Nat → Int) (L most z r : Nat) (b : Bool) : Prop :=
  (most < L ∧ r = most ∧ b = true) ∨
  (L ≤ most ∧ ∃ N, SP c L N z ∧
    ((pos c N < L ∧ soundB c L z (pos c N) = false ∧ r = pos c N ∧ b = true) ∨
     (pos c N = L ∧ ((wellAt c N = false ∧ r = L ∧ b = true) ∨ (wellAt c N = true ∧ WT c N r b)))))

theorem flaw_bare (w : World) (p : Option Addr) (cap z : Nat) (most : Int) (hm : 0 ≤ most) :
    Calls Tryz.prog 70 #[.slice p 0 cap, .int .i64 most, .int .u8 (z : Int)] w fun e w' => e = .returned (.tuple #[.int .i64 0, .bool true]) ∧ w' = w := by
  have h80 : ¬ most < (0 : Int) := by omega
  have h80' : decide (most < (0 : Int)) = false := by simp; omega
  go_enter Tryz.func70, Tryz.ntmps70
  go_wp2_with fail
  refine (soundBytes_bare w p cap z).mono ?_
  rintro e w1 ⟨rfl, rfl⟩
  go_wp2_with fail
  refine (endsWell_bare _ p cap).mono ?_
  rintro e w2 ⟨rfl, rfl⟩
  go_wp2_with fail
  go_ret2
  exact ⟨rfl, rfl⟩

set_option maxHeartbeats 400000 in
theorem flaw_full (w : World) (cb co L cap most z : Nat) (c : Nat → Int) (hm : most ≤ 240) (hz : z ≤ 20) (hby : ∀ i, i < L → 0 ≤ c i ∧ c i ≤ 255) (C : Laid w cb co L cap c) (hT : Tab w) :
    Calls Tryz.prog 70 #[.slice (some ⟨cb, co, none⟩) L cap, .int .i64 (most : Int), .int .u8 (z : Int)] w fun e w' => ∃ r b, FlawIs c L most z r b ∧ e = .returned (.tuple #[.int .i64 (r : Nat), .bool b]) ∧ Below w.heap.size w w' := by
  by_cases hL : most < L
  · have h1 : (most : Int) < (L : Int) := by omega
    have h2 : decide ((most : Int) < (L : Int)) = true := by simpa using h1
    go_enter Tryz.func70, Tryz.ntmps70
    go_wp2_with fail
    go_ret2
    exact ⟨most, true, Or.inl ⟨hL, rfl, rfl⟩, rfl, Below.refl _ _⟩
  · have h1 : ¬ (most : Int) < (L : Int) := by omega
    have h2 : decide ((most : Int) < (L : Int)) = false := by simp; omega
    go_enter Tryz.func70, Tryz.ntmps70
    go_wp2_with fail
    refine (soundBytes_gen w cb co L cap z c (by omega) hz hby C hT).mono ?_
    rintro e w1 ⟨N, S, hend, rfl, B1⟩
    by_cases hlt : pos c N < L
    · have hi : (pos c N : Int) < (L : Int) := by omega
      have hsb : soundB c L z (pos c N) = false := by
        rcases hend with h | h
        · omega
        · exact h.2
      clear hend
      go_wp2_with fail
      go_ret2
      exact ⟨pos c N, true, Or.inr ⟨by omega, N, S, Or.inl ⟨hlt, hsb, rfl, rfl⟩⟩, rfl, B1⟩
    · have hN : pos c N = L := by
        rcases hend with h | h
        · exact h
        · omega
      clear hend
      rw [hN]
      have hLL : ¬ (L : Int) < (L : Int) := by omega
      go_wp2_with fail
      refine (endsWell_gen w1 cb co L cap N z c S hN (C.below B1) (hT.below B1)).mono ?_
      rintro e w2 ⟨rfl, B2⟩
      have B12 := B1.trans (B2.mono B1.size)
      cases hw : wellAt c N with
      | false =>
        go_wp2_with fail
        go_ret2
        exact ⟨L, true, Or.inr ⟨by omega, N, S, Or.inr ⟨hN, Or.inl ⟨hw, rfl, rfl⟩⟩⟩, rfl, B12⟩
      | true =>
        go_wp2_with fail
        refine (wrongTarget_gen w2 cb co L cap N z c S hN (C.below B12) (hT.below B12)).mono ?_
        rintro e w3 ⟨r, b, hWT, rfl, B3⟩
        go_wp2_with fail
        go_ret2
        exact ⟨r, b, Or.inr ⟨by omega, N, S, Or.inr ⟨hN, Or.inr ⟨hw, hWT⟩⟩⟩, rfl, B12.trans (B3.mono B12.size)⟩

theorem flaw_gen (w : World) (v : Value) (L most z : Nat) (c : Nat → Int) (hm : most ≤ 240) (hz : z ≤ 20) (hby : ∀ i, i < L → 0 ≤ c i ∧ c i ≤ 255) (C : Coded w v L c) (hT : Tab w) :
    Calls Tryz.prog 70 #[v, .int .i64 (most : Int), .int .u8 (z : Int)] w fun e w' => ∃ r b, FlawIs c L most z r b ∧ e = .returned (.tuple #[.int .i64 (r : Nat), .bool b]) ∧ Below w.heap.size w w' := by
  cases C with
  | full cb co cap hv C => subst hv; exact flaw_full w cb co L cap most z c hm hz hby C hT
  | bare p cap hv hL =>
    subst hv hL
    refine (flaw_bare w p cap z most (by omega)).mono ?_
    rintro e w' ⟨rfl, rfl⟩
    refine ⟨0, true, Or.inr ⟨by omega, 0, ⟨by omega, hz, fun _ h => by omega, fun _ h => by omega, fun _ h => by omega, fun _ h => by omega⟩, Or.inr ⟨rfl, Or.inl ⟨rfl, rfl, rfl⟩⟩⟩, rfl, Below.refl _ _⟩

/-- Nothing is wrong: N instructions, each of them good. -/
structure Fine (c : Nat → Int) (L N z : Nat) : Prop where
  sp : SP c L N z
  last : pos c N = L
  well : wellAt c N = true
  led : ∀ m, m < N → badT c N m = false
theorem FlawIs.fine {c : Nat → Int} {L most z r : Nat} (h : FlawIs c L most z r false) : r = 0 ∧ L ≤ most ∧ ∃ N, Fine c L N z := by
  rcases h with h | ⟨hL, N, S, h | ⟨hN, h | ⟨hw, h⟩⟩⟩
  · cases h.2.2
  · cases h.2.2.2
  · cases h.2.2
  · rcases h with h | h
    · exact ⟨h.2.1, hL, N, S, hN, hw, h.2.2⟩
    · cases h.1
theorem Fine.one {c : Nat → Int} {L N z : Nat} (F : Fine c L N z) : 0 < N := by
  cases N with
  | zero => have := F.well; cases this
  | succ n => omega
theorem Fine.pos {c : Nat → Int} {L N z : Nat} (F : Fine c L N z) : 0 < L := Nat.lt_of_le_of_lt (Nat.zero_le _) (F.sp.lt F.one)
theorem Fine.jump {c : Nat → Int} {L N z : Nat} (F : Fine c L N z) {m : Nat} (hm : m < N) (h : leadsB (c (Go.Proofs.YtflenkppcclclaaGreatDoor.pos c m)) = true) : ∃ t, t < N ∧ (Go.Proofs.YtflenkppcclclaaGreatDoor.pos c t : Int) = c (Go.Proofs.YtflenkppcclclaaGreatDoor.pos c m + 1) := by
  have hb := F.led m hm
  unfold badT at hb
  rw [h, Bool.true_and, Bool.not_eq_false'] at hb
  obtain ⟨t, ht, e⟩ := started_ex c hb
  refine ⟨t, ht, ?_⟩
  obtain ⟨kk, A, _⟩ := F.sp.at hm
  rw [A.op] at h
  have := (leads_two h).1
  have := A.fits
  have := F.sp.byte (Go.Proofs.YtflenkppcclclaaGreatDoor.pos c m + 1) (by omega)
  omega
theorem Fine.vp {c : Nat → Int} {L N : Nat} (F : Fine c L N 19) (hL : L ≤ 80) : VP c L N where
  most := hL
  one := F.one
  last := F.last
  op := fun m hm => F.sp.op m hm
  byte := F.sp.byte
  cell := F.sp.cell
  stop := by
    have := F.well
    unfold wellAt at this
    rw [if_neg (by have := F.one; omega)] at this
    exact this
  jump := fun _ hm h => F.jump hm h
theorem Fine.good {c : Nat → Int} {L N z : Nat} (F : Fine c L N z) : Good c L (fun p => ∃ m, m < N ∧ Go.Proofs.YtflenkppcclclaaGreatDoor.pos c m = p) where
  zero := ⟨0, F.one, rfl⟩
  most := F.sp.most
  lt := by
    rintro p ⟨m, hm, rfl⟩
    exact ⟨F.sp.fits m hm, by have := F.sp.op m hm; have := F.sp.z20; omega⟩
  byte := F.sp.byte
  cell := by
    rintro p ⟨m, hm, rfl⟩ h
    exact F.sp.cell m hm (by unfold holdsB; rcases h with h | h <;> rw [h] <;> rfl)
  next := by
    rintro p ⟨m, hm, rfl⟩ h0 h14 h19
    by_cases e : m = N - 1
    · have := F.well
      unfold wellAt at this
      rw [if_neg (by omega), ← e] at this
      unfold endsB at this
      simp [h0, h14, h19] at this
    · exact ⟨m + 1, by omega, rfl⟩
  jump := by
    rintro p ⟨m, hm, rfl⟩ h
    obtain ⟨t, ht, e⟩ := F.jump hm (by unfold leadsB; rcases h with h | h <;> rw [h] <;> rfl)
    exact ⟨t, ht, by omega⟩

/-- What 'CanRun' tells. -/
def CanIs (c : Nat → Int) (L : Nat) (b : Bool) : Prop :=
  (b = true ∧ L ≤ 80 ∧ ∃ N, Fine c L N 19) ∨
  (∃ r, FlawIs c L 80 19 r true ∧ ((b = true ∧ ∃ N, Fine c L N 20 ∧ probeIn c N = true) ∨ (b = false ∧ ((∃ r, FlawIs c L 240 20 r true) ∨ ∃ N, Fine c L N 20 ∧ probeIn c N = false))))

set_option maxHeartbeats 400000 in
theorem canRun_gen (w : World) (v : Value) (L : Nat) (c : Nat → Int) (hby : ∀ i, i < L → 0 ≤ c i ∧ c i ≤ 255) (C : Coded w v L c) (hT : Tab w) :
    Calls Tryz.prog 35 #[v] w fun e w' => ∃ b, CanIs c L b ∧ e = .returned (.bool b) ∧ Below w.heap.size w w' := by
  go_enter Tryz.func35, Tryz.ntmps35
  go_wp2_with fail
  refine (flaw_gen w v L 80 19 c (by omega) (by omega) hby C hT).mono ?_
  rintro e w1 ⟨r, b, hF, rfl, B1⟩
  cases b with
  | false =>
    obtain ⟨_, h1, h2⟩ := hF.fine
    go_wp2_with fail
    go_ret
    exact ⟨true, Or.inl ⟨rfl, h1, h2⟩, rfl, B1⟩
  | true =>
    go_wp2_with fail
    refine (flaw_gen w1 v L 240 20 c (by omega) (by omega) hby (C.below B1) (hT.below B1)).mono ?_
    rintro e w2 ⟨r2, b2, hF2, rfl, B2⟩
    have B12 := B1.trans (B2.mono B1.size)
    cases b2 with
    | true =>
      go_wp2_with fail
      go_ret
      exact ⟨false, Or.inr ⟨r, hF, Or.inr ⟨rfl, Or.inl ⟨_, hF2⟩⟩⟩, rfl, B12⟩
    | false =>
      obtain ⟨_, _, N, F⟩ := hF2.fine
      cases C.below B12 with
      | bare p cap hv hL => have := F.pos; omega
      | full cb co cap hv C2 =>
        subst hv
        go_wp2_with fail
        refine (hasProbe_gen w2 cb co L cap N 20 c F.sp F.last C2 (hT.below B12)).mono ?_
        rintro e w3 ⟨rfl, B3⟩
        go_wp2_with fail
        go_ret
        refine ⟨probeIn c N, Or.inr ⟨r, hF, ?_⟩, rfl, B12.trans (B3.mono B12.size)⟩
        cases hp : probeIn c N
        · exact Or.inr ⟨rfl, Or.inr ⟨N, F, hp⟩⟩
        · exact Or.inl ⟨rfl, N, F, hp⟩
end Go.Proofs.YtflenkppcclclaaGreatDoor

namespace Go.Proofs.YtflenkppcclclaaGreatDoor
open Go.RowKit

/-- One of the first m instructions is a Probe at i. -/
def prb (c : Nat → Int) (m i : Nat) : Bool := (List.range m).any fun t => pos c t == i && c (pos c t) == 20
theorem prb_succ (c : Nat → Int) (m i : Nat) : prb c (m + 1) i = (prb c m i || (pos c m == i && c (pos c m) == 20)) := by
  unfold prb
  rw [List.range_succ, List.any_append]
  simp
/-- The entries of a probed program. -/
def pent (c : Nat → Int) (m i : Nat) : Int := if prb c m i then c (i + 1) else -1
theorem pent_skip (c : Nat → Int) (m : Nat) (h : (c (pos c m) == 20) = false) : pent c (m + 1) = pent c m := by
  funext i
  unfold pent
  rw [prb_succ, h]
  simp
theorem pent_set (c : Nat → Int) (m i : Nat) (h : (c (pos c m) == 20) = true) : pent c (m + 1) i = if i = pos c m then c (pos c m + 1) else pent c m i := by
  unfold pent
  rw [prb_succ, h]
  by_cases e : i = pos c m
  · subst e; simp
  · have : (pos c m == i) = false := by rw [beq_eq_false_iff_ne]; exact fun h => e h.symm
    rw [if_neg e, this]
    simp
theorem pent_bounds {c : Nat → Int} {L N z : Nat} (S : SP c L N z) (p : Nat) : -1 ≤ pent c N p ∧ pent c N p ≤ 255 := by
  unfold pent
  cases h : prb c N p with
  | false => simp
  | true =>
    unfold prb at h
    rw [List.any_eq_true] at h
    obtain ⟨m, hm, e⟩ := h
    simp only [Bool.and_eq_true, beq_iff_eq] at e
    obtain ⟨rfl, e2⟩ := e
    have h1 := S.fits m (List.mem_range.1 hm)
    rw [e2] at h1
    have : szOf (20 : Int).toNat = 2 := rfl
    have := S.byte (pos c m + 1) (by omega)
    simp
    omega

set_option maxHeartbeats 1000000 in
theorem probeEntries_gen (w : World) (cb co L cap N z : Nat) (c : Nat → Int) (V : SP c L N z) (hN : pos c N = L) (C : Laid w cb co L cap c) (hT : Tab w) :
    Calls Tryz.prog 75 #[.slice (some ⟨cb, co, none⟩) L cap] w fun e w' => e = .returned (.slice (some ⟨w.heap.size, 0, none⟩) L L) ∧ w'.heap[w.heap.size]? = some (.cells (il L (pent c N)).toArray 3 (0, 0)) ∧ Below w.heap.size w w' := by
  have hfs := field_sz
  have hmost := V.most
  obtain ⟨w1, hmk, hh1, hB1⟩ := made w 45 3 (.int .i64 0) 8 L Tryz.underlying45 Tryz.infoInt rfl (by omega) (by omega)
  rw [il_none] at hh1
  have HH1 : Hid (w1.heap[w.heap.size]? = some (.cells (il L (fun _ => 0)).toArray 3 (0, 0))) := hh1
  clear hh1
  go_enter Tryz.func75, Tryz.ntmps75
  go_wp2
  clear hmk
  go_loopw [11] (fun i wr => ∃ k : Nat, k ≤ L ∧ i = .int .i64 k ∧ wr.heap[w.heap.size]? = some (.cells (il L (fun i => if i < k then -1 else 0)).toArray 3 (0, 0)) ∧ Below w.heap.size w wr) (fun i _ => L - (intOf i).toNat)
  case atStart => exact ⟨0, by omega, rfl, by simpa using HH1.out, hB1⟩
  case round =>
    obtain ⟨k, hk, rfl, hh, hB⟩ := hrel
    by_cases hlt : k < L
    · have hi1 : (k : Int) < (L : Int) := by omega
      have ch : wr.cell? ⟨w.heap.size, k, none⟩ = some (.int .i64 (if k < k then -1 else 0)) := by
        rw [cell_of_row wr w.heap.size _ _ _ _ hh, List.getElem?_toArray]; exact il_get L _ _ hlt
      have fh := frozen_of_row wr w.heap.size k _ _ hh
      have HR : Hid ((wr.setCell ⟨w.heap.size, k, none⟩ (.int .i64 (-1))).heap[w.heap.size]? = some (.cells (il L (fun i => if i < k + 1 then -1 else 0)).toArray 3 (0, 0))) := by
        refine row_set hh k _ (il_set L _ _ k (-1) (fun i _ => ?_))
        by_cases e : i = k
        · subst e; rw [if_pos (by omega), if_pos rfl]
        · rw [if_neg e]
          by_cases e2 : i < k
          · rw [if_pos e2, if_pos (by omega)]
          · rw [if_neg e2, if_neg (by omega)]
      have hBa := hB.setCell (p := ⟨w.heap.size, k, none⟩) (Nat.le_refl _) (.int .i64 (-1))
      clear hh
      go_wp2
      go_roundw
      case rel => exact ⟨k + 1, by omega, by go_num, HR.out, hBa⟩
      case measure => simp [intOf]; omega
    · have e : k = L := by omega
      subst e
      have HH : Hid (wr.heap[w.heap.size]? = some (.cells (il k (pent c 0)).toArray 3 (0, 0))) := by
        show wr.heap[w.heap.size]? = _
        rw [hh]
        have : il k (fun i => if i < k then -1 else 0) = il k (pent c 0) := by
          unfold il
          apply List.map_congr_left
          intro i hi
          show Value.int .i64 (if i < k then -1 else 0) = _
          rw [if_pos (List.mem_range.1 hi)]
          rfl
        rw [this]
      clear HH1 hh
      go_wp2
      go_loopw [5] (fun i wx => ∃ m : Nat, m ≤ N ∧ i = .int .i64 (pos c m) ∧ wx.heap[w.heap.size]? = some (.cells (il k (pent c m)).toArray 3 (0, 0)) ∧ Below w.heap.size w wx) (fun i _ => k - (intOf i).toNat)
      case atStart => exact ⟨0, by omega, rfl, HH.out, hB⟩
      case round =>
        clear HH hB
        obtain ⟨m, hm, rfl, hh, hB⟩ := hrel
        by_cases hlt : m < N
        · obtain ⟨kk, A, hsucc⟩ := V.at hlt
          have hck := C.at hB A.lt
          rw [A.op] at hck
          have h1 := A.lt
          have h2 := A.fits
          have h3 := A.sz
          have h4 := A.s1
          have h5 := A.s2
          have h6 := A.pos
          have h7 := A.most
          have hk2 := A.k
          have hop := A.op
          have HS : Hid (pos c (m + 1) = pos c m + szOf kk) := hsucc
          have HZ : Hid (((pos c m + szOf kk : Nat) : Int) = (pos c m : Int) + shp (kk * 3)) := h3
          have hi1 : (pos c m : Int) < (k : Int) := by omega
          have hTr : Hid (Tab wr) := hT.below hB
          have hlt2 : w.heap.size < wr.heap.size := (Array.getElem?_eq_some_iff.1 hh).1
          cases h20 : ((kk : Int) == 20) with
          | false =>
            have HR : Hid (wr.heap[w.heap.size]? = some (.cells (il k (pent c (m + 1))).toArray 3 (0, 0))) := by
              show wr.heap[w.heap.size]? = _
              rw [hh, pent_skip c m (by rw [hop]; exact h20)]
            clear hsucc h3 A hop hh
            go_wp2_with (go_at_call 129; refine (shapeOf_any kk (by omega) _ hTr.out).mono ?_; rintro e w' ⟨rfl, cc2, rfl⟩)
            go_roundw
            case rel => exact ⟨m + 1, by omega, by rw [HS.out, HZ.out], by rw [Below.heap_alloc _ _ _ hlt2]; exact HR.out, hB.alloc (by omega) _⟩
            case measure => simp [intOf]; omega
          | true =>
            have hkk : kk = 20 := by simp at h20; omega
            have hsz2 : szOf kk = 2 := by rw [hkk]; rfl
            have hck2 := C.at hB (p := pos c m + 1) (by omega)
            have hby := V.byte (pos c m + 1) (by omega)
            have hi3 : (pos c m : Int) + 1 < (k : Int) := by omega
            have ch : wr.cell? ⟨w.heap.size, pos c m, none⟩ = some (.int .i64 (pent c m (pos c m))) := by
              rw [cell_of_row wr w.heap.size _ _ _ _ hh, List.getElem?_toArray]; exact il_get k _ _ h1
            have fh := frozen_of_row wr w.heap.size (pos c m) _ _ hh
            have HR : Hid ((wr.setCell ⟨w.heap.size, pos c m, none⟩ (.int .i64 (c (pos c m + 1)))).heap[w.heap.size]? = some (.cells (il k (pent c (m + 1))).toArray 3 (0, 0))) :=
              row_set hh _ _ (il_set k _ _ _ _ (fun i _ => pent_set c m i (by rw [hop]; exact h20)))
            have hBa := hB.setCell (p := ⟨w.heap.size, pos c m, none⟩) (Nat.le_refl _) (.int .i64 (c (pos c m + 1)))
            have hTa : Hid (Tab (wr.setCell ⟨w.heap.size, pos c m, none⟩ (.int .i64 (c (pos c m + 1))))) := hT.below hBa
            have hcka := C.at hBa h1
            rw [hop] at hcka
            have hcb := C.blk
            have hb0 : 0 ≤ c (pos c m + 1) := hby.1
            have hb1 : c (pos c m + 1) ≤ 255 := hby.2
            clear hsucc h3 A hop hh hsz2 hkk hby
            go_wp2_with (go_at_call 129; refine (shapeOf_any kk (by omega) _ hTa.out).mono ?_; rintro e w' ⟨rfl, cc2, rfl⟩)
            go_roundw
            case rel => exact ⟨m + 1, by omega, by rw [HS.out, HZ.out], by rw [Below.heap_alloc _ _ _ (by simpa using hlt2)]; exact HR.out, hBa.alloc (by simp; omega) _⟩
            case measure => simp [intOf]; omega
        · have e : m = N := by omega
          subst e
          rw [hN]
          go_wp2
          go_ret
          exact ⟨rfl, hh, hB⟩

theorem entries_probed (w : World) (cb co L cap N z : Nat) (c : Nat → Int) (V : SP c L N z) (hN : pos c N = L) (hp : probeIn c N = true) (C : Laid w cb co L cap c) (hT : Tab w) :
    Calls Tryz.prog 37 #[.slice (some ⟨cb, co, none⟩) L cap] w fun e w' => ∃ g, w.heap.size ≤ g ∧ e = .returned (.slice (some ⟨g, 0, none⟩) L L) ∧ w'.heap[g]? = some (.cells (il L (pent c N)).toArray 3 (0, 0)) ∧ Below w.heap.size w w' := by
  have hprobe := hasProbe_gen w cb co L cap N z c V hN C hT
  rw [hp] at hprobe
  go_enter Tryz.func37, Tryz.ntmps37
  go_wp2_with fail
  refine hprobe.mono ?_
  rintro e w1 ⟨rfl, hB1⟩
  go_wp2_with fail
  refine (probeEntries_gen w1 cb co L cap N z c V hN (C.below hB1) (hT.below hB1)).mono ?_
  rintro e w2 ⟨rfl, hg2, hB2⟩
  go_wp2
  go_ret
  exact ⟨_, hB1.size, rfl, hg2, hB1.trans (hB2.mono hB1.size)⟩
end Go.Proofs.YtflenkppcclclaaGreatDoor

