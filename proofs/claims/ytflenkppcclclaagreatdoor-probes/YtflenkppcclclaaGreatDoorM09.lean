import Derived.Test.YtflenkppcclclaaGreatDoorM07
import Derived.Test.YtflenkppcclclaaGreatDoorM08
namespace Go.Proofs.YtflenkppcclclaaGreatDoor
open Go.RowKit

/-- Bytes as they are handed in: a list that lies in memory, or one without bytes. -/
inductive Coded (w : World) (v : Value) (L : Nat) (c : Nat → Int) : Prop
  | full (cb co cap : Nat) (hv : v = .slice (some ⟨cb, co, none⟩) L cap) (C : Laid w cb co L cap c) : Coded w v L c
  | bare (p : Option Addr) (cap : Nat) (hv : v = .slice p 0 cap) (hL : L = 0) : Coded w v L c
theorem Coded.below {w wr : World} {v : Value} {L : Nat} {c : Nat → Int} (h : Coded w v L c) (hB : Below w.heap.size w wr) : Coded wr v L c := by
  cases h with
  | full cb co cap hv C => exact .full cb co cap hv (C.below hB)
  | bare p cap hv hL => exact .bare p cap hv hL

theorem soundBytes_bare (w : World) (p : Option Addr) (cap z : Nat) :
    Calls Tryz.prog 126 #[.slice p 0 cap, .int .u8 (z : Int)] w fun e w' => e = .returned (.int .i64 0) ∧ w' = w := by
  have hdec : decide ((0 : Int) < (0 : Int)) = false := by simp
  go_enter Tryz.func126, Tryz.ntmps126
  go_wp2
  go_loopw [5] (fun i wr => i = .int .i64 0 ∧ wr = w) (fun i _ => 0)
  case atStart => exact ⟨rfl, rfl⟩
  case round =>
    obtain ⟨rfl, rfl⟩ := hrel
    go_wp2_with fail
    go_ret
    exact ⟨rfl, rfl⟩
theorem endsWell_bare (w : World) (p : Option Addr) (cap : Nat) :
    Calls Tryz.prog 127 #[.slice p 0 cap] w fun e w' => e = .returned (.bool false) ∧ w' = w := by
  have hdec : decide ((0 : Int) < (0 : Int)) = false := by simp
  go_enter Tryz.func127, Tryz.ntmps127
  go_wp2
  go_loopw [3, 4] (fun b i wr => i = .int .i64 0 ∧ b = .bool false ∧ wr = w) (fun _ i _ => 0)
  case atStart => exact ⟨rfl, rfl, rfl⟩
  case round =>
    obtain ⟨rfl, rfl, rfl⟩ := hrel
    go_wp2_with fail
    go_ret
    exact ⟨rfl, rfl⟩

/-- What 'flaw' tells of c's first L bytes. -/
def FlawIs (c : Nat → Int) (L most z r : Nat) (b : Bool) : Prop :=
  (most < L ∧ r = most ∧ b = true) ∨
  (L ≤ most ∧ ∃ N, SP c L N z ∧
    ((pos c N < L ∧ soundB c L z (pos c N) = false ∧ r = pos c N ∧ b = true) ∨
     (pos c N = L ∧ ((wellAt c N = false ∧ r = L ∧ b = true) ∨ (wellAt c N = true ∧ WT c N r b)))))

theorem flaw_bare (w : World) (p : Option Addr) (cap z : Nat) (most : Int) (hm : 0 ≤ most) :
    Calls Tryz.prog 70 #[.slice p 0 cap, .int .i64 most, .int .u8 (z : Int)] w fun e w' => e = .returned (.tuple #[.int .i64 0, .bool true]) ∧ w' = w := by
  have h80 : ¬ most < (0 : Int) := by omega
  have h80' : decide (most < (0 : Int)) = false := by simp; omega
  go_enter Tryz.func70, Tryz.ntmps70
  go_wp2_with fail
  refine (soundBytes_bare w p cap z).mono ?_
  rintro e w1 ⟨rfl, rfl⟩
  go_wp2_with fail
  refine (endsWell_bare _ p cap).mono ?_
  rintro e w2 ⟨rfl, rfl⟩
  go_wp2_with fail
  go_ret2
  exact ⟨rfl, rfl⟩

set_option maxHeartbeats 400000 in
theorem flaw_full (w : World) (cb co L cap most z : Nat) (c : Nat → Int) (hm : most ≤ 240) (hz : z ≤ 20) (hby : ∀ i, i < L → 0 ≤ c i ∧ c i ≤ 255) (C : Laid w cb co L cap c) (hT : Tab w) :
    Calls Tryz.prog 70 #[.slice (some ⟨cb, co, none⟩) L cap, .int .i64 (most : Int), .int .u8 (z : Int)] w fun e w' => ∃ r b, FlawIs c L most z r b ∧ e = .returned (.tuple #[.int .i64 (r : Nat), .bool b]) ∧ Below w.heap.size w w' := by
  by_cases hL : most < L
  · have h1 : (most : Int) < (L : Int) := by omega
    have h2 : decide ((most : Int) < (L : Int)) = true := by simpa using h1
    go_enter Tryz.func70, Tryz.ntmps70
    go_wp2_with fail
    go_ret2
    exact ⟨most, true, Or.inl ⟨hL, rfl, rfl⟩, rfl, Below.refl _ _⟩
  · have h1 : ¬ (most : Int) < (L : Int) := by omega
    have h2 : decide ((most : Int) < (L : Int)) = false := by simp; omega
    go_enter Tryz.func70, Tryz.ntmps70
    go_wp2_with fail
    refine (soundBytes_gen w cb co L cap z c (by omega) hz hby C hT).mono ?_
    rintro e w1 ⟨N, S, hend, rfl, B1⟩
    by_cases hlt : pos c N < L
    · have hi : (pos c N : Int) < (L : Int) := by omega
      have hsb : soundB c L z (pos c N) = false := by
        rcases hend with h | h
        · omega
        · exact h.2
      clear hend
      go_wp2_with fail
      go_ret2
      exact ⟨pos c N, true, Or.inr ⟨by omega, N, S, Or.inl ⟨hlt, hsb, rfl, rfl⟩⟩, rfl, B1⟩
    · have hN : pos c N = L := by
        rcases hend with h | h
        · exact h
        · omega
      clear hend
      rw [hN]
      have hLL : ¬ (L : Int) < (L : Int) := by omega
      go_wp2_with fail
      refine (endsWell_gen w1 cb co L cap N z c S hN (C.below B1) (hT.below B1)).mono ?_
      rintro e w2 ⟨rfl, B2⟩
      have B12 := B1.trans (B2.mono B1.size)
      cases hw : wellAt c N with
      | false =>
        go_wp2_with fail
        go_ret2
        exact ⟨L, true, Or.inr ⟨by omega, N, S, Or.inr ⟨hN, Or.inl ⟨hw, rfl, rfl⟩⟩⟩, rfl, B12⟩
      | true =>
        go_wp2_with fail
        refine (wrongTarget_gen w2 cb co L cap N z c S hN (C.below B12) (hT.below B12)).mono ?_
        rintro e w3 ⟨r, b, hWT, rfl, B3⟩
        go_wp2_with fail
        go_ret2
        exact ⟨r, b, Or.inr ⟨by omega, N, S, Or.inr ⟨hN, Or.inr ⟨hw, hWT⟩⟩⟩, rfl, B12.trans (B3.mono B12.size)⟩

theorem flaw_gen (w : World) (v : Value) (L most z : Nat) (c : Nat → Int) (hm : most ≤ 240) (hz : z ≤ 20) (hby : ∀ i, i < L → 0 ≤ c i ∧ c i ≤ 255) (C : Coded w v L c) (hT : Tab w) :
    Calls Tryz.prog 70 #[v, .int .i64 (most : Int), .int .u8 (z : Int)] w fun e w' => ∃ r b, FlawIs c L most z r b ∧ e = .returned (.tuple #[.int .i64 (r : Nat), .bool b]) ∧ Below w.heap.size w w' := by
  cases C with
  | full cb co cap hv C => subst hv; exact flaw_full w cb co L cap most z c hm hz hby C hT
  | bare p cap hv hL =>
    subst hv hL
    refine (flaw_bare w p cap z most (by omega)).mono ?_
    rintro e w' ⟨rfl, rfl⟩
    refine ⟨0, true, Or.inr ⟨by omega, 0, ⟨by omega, hz, fun _ h => by omega, fun _ h => by omega, fun _ h => by omega, fun _ h => by omega⟩, Or.inr ⟨rfl, Or.inl ⟨rfl, rfl, rfl⟩⟩⟩, rfl, Below.refl _ _⟩

/-- Nothing is wrong: N instructions, each of them good. -/
structure Fine (c : Nat → Int) (L N z : Nat) : Prop where
  sp : SP c L N z
  last : pos c N = L
  well : wellAt c N = true
  led : ∀ m, m < N → badT c N m = false
theorem FlawIs.fine {c : Nat → Int} {L most z r : Nat} (h : FlawIs c L most z r false) : r = 0 ∧ L ≤ most ∧ ∃ N, Fine c L N z := by
  rcases h with h | ⟨hL, N, S, h | ⟨hN, h | ⟨hw, h⟩⟩⟩
  · cases h.2.2
  · cases h.2.2.2
  · cases h.2.2
  · rcases h with h | h
    · exact ⟨h.2.1, hL, N, S, hN, hw, h.2.2⟩
    · cases h.1
theorem Fine.one {c : Nat → Int} {L N z : Nat} (F : Fine c L N z) : 0 < N := by
  cases N with
  | zero => have := F.well; cases this
  | succ n => omega
theorem Fine.pos {c : Nat → Int} {L N z : Nat} (F : Fine c L N z) : 0 < L := Nat.lt_of_le_of_lt (Nat.zero_le _) (F.sp.lt F.one)
theorem Fine.jump {c : Nat → Int} {L N z : Nat} (F : Fine c L N z) {m : Nat} (hm : m < N) (h : leadsB (c (Go.Proofs.YtflenkppcclclaaGreatDoor.pos c m)) = true) : ∃ t, t < N ∧ (Go.Proofs.YtflenkppcclclaaGreatDoor.pos c t : Int) = c (Go.Proofs.YtflenkppcclclaaGreatDoor.pos c m + 1) := by
  have hb := F.led m hm
  unfold badT at hb
  rw [h, Bool.true_and, Bool.not_eq_false'] at hb
  obtain ⟨t, ht, e⟩ := started_ex c hb
  refine ⟨t, ht, ?_⟩
  obtain ⟨kk, A, _⟩ := F.sp.at hm
  rw [A.op] at h
  have := (leads_two h).1
  have := A.fits
  have := F.sp.byte (Go.Proofs.YtflenkppcclclaaGreatDoor.pos c m + 1) (by omega)
  omega
theorem Fine.vp {c : Nat → Int} {L N : Nat} (F : Fine c L N 19) (hL : L ≤ 80) : VP c L N where
  most := hL
  one := F.one
  last := F.last
  op := fun m hm => F.sp.op m hm
  byte := F.sp.byte
  cell := F.sp.cell
  stop := by
    have := F.well
    unfold wellAt at this
    rw [if_neg (by have := F.one; omega)] at this
    exact this
  jump := fun _ hm h => F.jump hm h
theorem Fine.good {c : Nat → Int} {L N z : Nat} (F : Fine c L N z) : Good c L (fun p => ∃ m, m < N ∧ Go.Proofs.YtflenkppcclclaaGreatDoor.pos c m = p) where
  zero := ⟨0, F.one, rfl⟩
  most := F.sp.most
  lt := by
    rintro p ⟨m, hm, rfl⟩
    exact ⟨F.sp.fits m hm, by have := F.sp.op m hm; have := F.sp.z20; omega⟩
  byte := F.sp.byte
  cell := by
    rintro p ⟨m, hm, rfl⟩ h
    exact F.sp.cell m hm (by unfold holdsB; rcases h with h | h <;> rw [h] <;> rfl)
  next := by
    rintro p ⟨m, hm, rfl⟩ h0 h14 h19
    by_cases e : m = N - 1
    · have := F.well
      unfold wellAt at this
      rw [if_neg (by omega), ← e] at this
      unfold endsB at this
      simp [h0, h14, h19] at this
    · exact ⟨m + 1, by omega, rfl⟩
  jump := by
    rintro p ⟨m, hm, rfl⟩ h
    obtain ⟨t, ht, e⟩ := F.jump hm (by unfold leadsB; rcases h with h | h <;> rw [h] <;> rfl)
    exact ⟨t, ht, by omega⟩

/-- What 'CanRun' tells. -/
def CanIs (c : Nat → Int) (L : Nat) (b : Bool) : Prop :=
  (b = true ∧ L ≤ 80 ∧ ∃ N, Fine c L N 19) ∨
  (∃ r, FlawIs c L 80 19 r true ∧ ((b = true ∧ ∃ N, Fine c L N 20 ∧ probeIn c N = true) ∨ (b = false ∧ ((∃ r, FlawIs c L 240 20 r true) ∨ ∃ N, Fine c L N 20 ∧ probeIn c N = false))))

set_option maxHeartbeats 400000 in
theorem canRun_gen (w : World) (v : Value) (L : Nat) (c : Nat → Int) (hby : ∀ i, i < L → 0 ≤ c i ∧ c i ≤ 255) (C : Coded w v L c) (hT : Tab w) :
    Calls Tryz.prog 35 #[v] w fun e w' => ∃ b, CanIs c L b ∧ e = .returned (.bool b) ∧ Below w.heap.size w w' := by
  go_enter Tryz.func35, Tryz.ntmps35
  go_wp2_with fail
  refine (flaw_gen w v L 80 19 c (by omega) (by omega) hby C hT).mono ?_
  rintro e w1 ⟨r, b, hF, rfl, B1⟩
  cases b with
  | false =>
    obtain ⟨_, h1, h2⟩ := hF.fine
    go_wp2_with fail
    go_ret
    exact ⟨true, Or.inl ⟨rfl, h1, h2⟩, rfl, B1⟩
  | true =>
    go_wp2_with fail
    refine (flaw_gen w1 v L 240 20 c (by omega) (by omega) hby (C.below B1) (hT.below B1)).mono ?_
    rintro e w2 ⟨r2, b2, hF2, rfl, B2⟩
    have B12 := B1.trans (B2.mono B1.size)
    cases b2 with
    | true =>
      go_wp2_with fail
      go_ret
      exact ⟨false, Or.inr ⟨r, hF, Or.inr ⟨rfl, Or.inl ⟨_, hF2⟩⟩⟩, rfl, B12⟩
    | false =>
      obtain ⟨_, _, N, F⟩ := hF2.fine
      cases C.below B12 with
      | bare p cap hv hL => have := F.pos; omega
      | full cb co cap hv C2 =>
        subst hv
        go_wp2_with fail
        refine (hasProbe_gen w2 cb co L cap N 20 c F.sp F.last C2 (hT.below B12)).mono ?_
        rintro e w3 ⟨rfl, B3⟩
        go_wp2_with fail
        go_ret
        refine ⟨probeIn c N, Or.inr ⟨r, hF, ?_⟩, rfl, B12.trans (B3.mono B12.size)⟩
        cases hp : probeIn c N
        · exact Or.inr ⟨rfl, Or.inr ⟨N, F, hp⟩⟩
        · exact Or.inl ⟨rfl, N, F, hp⟩
end Go.Proofs.YtflenkppcclclaaGreatDoor

namespace Go.Proofs.YtflenkppcclclaaGreatDoor
open Go.RowKit

def behindB (c : Nat → Int) (t : Nat) : Bool := if t = 0 then true else endsB (c (pos c (t - 1))) || leadsB (c (pos c (t - 1)))
/-- A block begins at i, as far as the first m instructions say. -/
def bgn (c : Nat → Int) (m i : Nat) : Bool := (List.range m).any fun t => (behindB c t && pos c t == i) || (leadsB (c (pos c t)) && c (pos c t + 1) == (i : Int))
theorem bgn_succ (c : Nat → Int) (m i : Nat) : bgn c (m + 1) i = (bgn c m i || ((behindB c m && pos c m == i) || (leadsB (c (pos c m)) && c (pos c m + 1) == (i : Int)))) := by
  unfold bgn
  rw [List.range_succ, List.any_append]
  simp

set_option maxHeartbeats 1000000 in
theorem beginnings_any (w : World) (cb co L cap N : Nat) (c : Nat → Int) (V : VP c L N) (C : Laid w cb co L cap c) (hT : Tab w) :
    Calls Tryz.prog 93 #[.slice (some ⟨cb, co, none⟩) L cap] w fun e w' => e = .returned (.slice (some ⟨w.heap.size, 0, none⟩) L L) ∧ w'.heap[w.heap.size]? = some (.cells (bl L (bgn c N)).toArray 4 (0, 0)) ∧ Below w.heap.size w w' := by
  have hfs := field_sz
  have hmost := V.most
  obtain ⟨w1, hmk, hh1, hB1⟩ := made w 151 4 (.bool false) 1 L Tryz.underlying151 Tryz.infoBool rfl (by omega) (by omega)
  rw [bl_none] at hh1
  have HH1 : Hid (w1.heap[w.heap.size]? = some (.cells (bl L (fun _ => false)).toArray 4 (0, 0))) := hh1
  clear hh1
  go_enter Tryz.func93, Tryz.ntmps93
  go_wp2
  clear hmk
  go_loopw [4, 5] (fun b i wr => ∃ m : Nat, m ≤ N ∧ i = .int .i64 (pos c m) ∧ b = .bool (behindB c m) ∧ wr.heap[w.heap.size]? = some (.cells (bl L (bgn c m)).toArray 4 (0, 0)) ∧ Below w.heap.size w wr) (fun _ i _ => L - (intOf i).toNat)
  case atStart => exact ⟨0, by omega, rfl, rfl, HH1.out, hB1⟩
  case round =>
    obtain ⟨m, hm, rfl, rfl, hh, hB⟩ := hrel
    by_cases hlt : m < N
    · obtain ⟨kk, A, hsucc⟩ := V.at hlt
      have hck := C.at hB A.lt
      rw [A.op] at hck
      have h1 := A.lt
      have h2 := A.fits
      have h3 := A.sz
      have h4 := A.s1
      have h5 := A.s2
      have h6 := A.pos
      have h7 := A.most
      have hk := A.k
      have hop := A.op
      have HS : Hid (pos c (m + 1) = pos c m + szOf kk) := hsucc
      have HZ : Hid (((pos c m + szOf kk : Nat) : Int) = (pos c m : Int) + shp (kk * 3)) := h3
      have hi1 : (pos c m : Int) < (L : Int) := by omega
      have HBH : Hid (behindB c (m + 1) = (endsB (kk : Int) || leadsB (kk : Int))) := by
        show behindB c (m + 1) = _
        unfold behindB
        rw [if_neg (by omega), Nat.add_sub_cancel, hop]
      have hcb := C.blk
      have hlt2 : w.heap.size < wr.heap.size := (Array.getElem?_eq_some_iff.1 hh).1
      -- the row behind the first store
      obtain ⟨wa, hwa, hha, hBa⟩ : ∃ wa, wa = (if behindB c m then wr.setCell ⟨w.heap.size, pos c m, none⟩ (.bool true) else wr) ∧ wa.heap[w.heap.size]? = some (.cells (bl L (fun i => bgn c m i || (behindB c m && pos c m == i))).toArray 4 (0, 0)) ∧ Below w.heap.size w wa := by
        refine ⟨_, rfl, ?_, ?_⟩
        · cases hb : behindB c m
          · simp only [Bool.false_and, Bool.or_false]; exact hh
          · simp only [if_true, Bool.true_and]
            refine row_set hh _ _ (bl_set L _ _ _ _ (fun i _ => ?_))
            by_cases e : i = pos c m
            · subst e; simp
            · rw [if_neg e]; have : (pos c m == i) = false := by rw [beq_eq_false_iff_ne]; exact fun h => e h.symm
              simp [this]
        · cases hb : behindB c m
          · exact hB
          · exact hB.setCell (p := ⟨w.heap.size, pos c m, none⟩) (Nat.le_refl _) _
      have hszA : wa.heap.size = wr.heap.size := by rw [hwa]; split <;> simp
      have fa : ∀ p, wa.frozen? ⟨w.heap.size, p, none⟩ = false := fun p => frozen_of_row wa w.heap.size p _ _ hha
      have ca : ∀ p, p < L → ∃ b, wa.cell? ⟨w.heap.size, p, none⟩ = some (.bool b) := fun p hp => by
        rw [cell_of_row wa w.heap.size _ _ _ _ hha, List.getElem?_toArray, bl_get L _ _ hp]; exact ⟨_, rfl⟩
      have c1 : wr.cell? ⟨w.heap.size, pos c m, none⟩ = some (.bool (bgn c m (pos c m))) := by
        rw [cell_of_row wr w.heap.size _ _ _ _ hh, List.getElem?_toArray]; exact bl_get L _ _ h1
      have f1 := frozen_of_row wr w.heap.size (pos c m) _ _ hh
      have hcka := C.at hBa h1
      rw [hop] at hcka
      have hTa : Hid (Tab wa) := hT.below hBa
      cases hlb : leadsB (kk : Int) with
      | false =>
        have HR : Hid (wa.heap[w.heap.size]? = some (.cells (bl L (bgn c (m + 1))).toArray 4 (0, 0))) := by
          show wa.heap[w.heap.size]? = _
          rw [hha]
          have : (fun i => bgn c m i || (behindB c m && pos c m == i)) = bgn c (m + 1) := by
            funext i; rw [bgn_succ, hop, hlb]; simp
          rw [this]
        cases hbh : behindB c m with
        | false =>
          have hwr : wa = wr := by rw [hwa, hbh]; rfl
          subst hwr
          clear hsucc h3 A hop hh hha ca fa hwa
          cases hen : endsB (kk : Int)
          all_goals
            rw [hen, hlb] at HBH
            go_wp2_with (first | (go_at_call 143; refine (leads_any _ _).mono ?_; rintro e w' ⟨rfl, rfl⟩) | (go_at_call 144; refine (ends_any _ _).mono ?_; rintro e w' ⟨rfl, rfl⟩) | (go_at_call 129; refine (shapeOf_any kk (by omega) _ hTa.out).mono ?_; rintro e w' ⟨rfl, cc2, rfl⟩))
            go_roundw
            case rel => exact ⟨m + 1, by omega, by rw [HS.out, HZ.out], by rw [HBH.out]; rfl, by rw [Below.heap_alloc _ _ _ (by omega)]; exact HR.out, hBa.alloc (by have := hBa.size; omega) _⟩
            case measure => simp [intOf]; omega
        | true =>
          have hwr : wa = wr.setCell ⟨w.heap.size, pos c m, none⟩ (.bool true) := by rw [hwa, hbh]; rfl
          subst hwr
          clear hsucc h3 A hop hh hha ca fa hwa
          cases hen : endsB (kk : Int)
          all_goals
            rw [hen, hlb] at HBH
            go_wp2_with (first | (go_at_call 143; refine (leads_any _ _).mono ?_; rintro e w' ⟨rfl, rfl⟩) | (go_at_call 144; refine (ends_any _ _).mono ?_; rintro e w' ⟨rfl, rfl⟩) | (go_at_call 129; refine (shapeOf_any kk (by omega) _ hTa.out).mono ?_; rintro e w' ⟨rfl, cc2, rfl⟩))
            go_roundw
            case rel => exact ⟨m + 1, by omega, by rw [HS.out, HZ.out], by rw [HBH.out]; rfl, by rw [Below.heap_alloc _ _ _ (by omega)]; exact HR.out, hBa.alloc (by have := hBa.size; omega) _⟩
            case measure => simp [intOf]; omega
      | true =>
        obtain ⟨s, hs, hst⟩ := V.jump m hlt (by rw [hop]; exact hlb)
        have hsz2 : szOf kk = 2 := by
          unfold leadsB at hlb
          have : kk = 14 ∨ kk = 15 := by simp at hlb; omega
          rcases this with e | e <;> rw [e] <;> rfl
        have hck2 := C.at hBa (p := pos c m + 1) (by omega)
        rw [← hst] at hck2
        have hsL := V.lt hs
        have hi2 : (pos c s : Int) < (L : Int) := by omega
        have hi3 : (pos c m : Int) + 1 < (L : Int) := by omega
        have hi4 : (pos c s : Int) ≤ 255 := by omega
        obtain ⟨bs, cs⟩ := ca (pos c s) hsL
        have fs := fa (pos c s)
        have HR : Hid ((wa.setCell ⟨w.heap.size, pos c s, none⟩ (.bool true)).heap[w.heap.size]? = some (.cells (bl L (bgn c (m + 1))).toArray 4 (0, 0))) := by
          refine row_set hha _ _ (bl_set L _ _ _ _ (fun i _ => ?_))
          rw [bgn_succ, hop, hlb, ← hst]
          by_cases e : i = pos c s
          · subst e; simp
          · rw [if_neg e]
            have : ((pos c s : Int) == (i : Int)) = false := by rw [beq_eq_false_iff_ne]; omega
            simp [this]
        have hBb : Below w.heap.size w (wa.setCell ⟨w.heap.size, pos c s, none⟩ (.bool true)) := hBa.setCell (p := ⟨w.heap.size, pos c s, none⟩) (Nat.le_refl _) _
        have hckb : (wa.setCell ⟨w.heap.size, pos c s, none⟩ (.bool true)).cell? ⟨cb, co + pos c m, none⟩ = some (.int .u8 (kk : Int)) := by
          have := C.at hBb h1
          rw [hop] at this
          exact this
        have hTb : Hid (Tab (wa.setCell ⟨w.heap.size, pos c s, none⟩ (.bool true))) := hT.below hBb
        have HST : Hid ((pos c s : Int) = c (pos c m + 1)) := hst
        clear hst
        cases hbh : behindB c m with
        | false =>
          have hwr : wa = wr := by rw [hwa, hbh]; rfl
          subst hwr
          clear hsucc h3 A hop hh hha ca fa hwa
          cases hen : endsB (kk : Int)
          all_goals
            rw [hen, hlb] at HBH
            go_wp2_with (first | (go_at_call 143; refine (leads_any _ _).mono ?_; rintro e w' ⟨rfl, rfl⟩) | (go_at_call 144; refine (ends_any _ _).mono ?_; rintro e w' ⟨rfl, rfl⟩) | (go_at_call 129; refine (shapeOf_any kk (by omega) _ hTb.out).mono ?_; rintro e w' ⟨rfl, cc2, rfl⟩))
            go_roundw
            case rel => exact ⟨m + 1, by omega, by rw [HS.out, HZ.out], by rw [HBH.out]; rfl, by rw [Below.heap_alloc _ _ _ (by simp; omega)]; exact HR.out, hBb.alloc (by simp; omega) _⟩
            case measure => simp [intOf]; omega
        | true =>
          have hwr : wa = wr.setCell ⟨w.heap.size, pos c m, none⟩ (.bool true) := by rw [hwa, hbh]; rfl
          subst hwr
          clear hsucc h3 A hop hh hha ca fa hwa
          cases hen : endsB (kk : Int)
          all_goals
            rw [hen, hlb] at HBH
            go_wp2_with (first | (go_at_call 143; refine (leads_any _ _).mono ?_; rintro e w' ⟨rfl, rfl⟩) | (go_at_call 144; refine (ends_any _ _).mono ?_; rintro e w' ⟨rfl, rfl⟩) | (go_at_call 129; refine (shapeOf_any kk (by omega) _ hTb.out).mono ?_; rintro e w' ⟨rfl, cc2, rfl⟩))
            go_roundw
            case rel => exact ⟨m + 1, by omega, by rw [HS.out, HZ.out], by rw [HBH.out]; rfl, by rw [Below.heap_alloc _ _ _ (by simp; omega)]; exact HR.out, hBb.alloc (by simp; omega) _⟩
            case measure => simp [intOf]; omega
    · have e : m = N := by omega
      subst e
      rw [V.last]
      go_wp2
      go_ret
      exact ⟨rfl, hh, hB⟩
end Go.Proofs.YtflenkppcclclaaGreatDoor

