import Derived.Test.YtflenkppcclclaaGreatDoorM13
import Derived.Test.YtflenkppcclclaaGreatDoorM09
namespace Go.Proofs.YtflenkppcclclaaGreatDoor
open Go.RowKit

theorem rstarts_bare (w : World) (p : Option Addr) (cap : Nat) (probes : Bool) :
    Calls Tryz.prog 150 #[.slice p 0 cap, .bool probes] w fun e w' => e = .returned (.tuple #[.slice none 0 0, .int .i64 (-1)]) ∧ w' = w := by
  have hdec : decide ((0 : Int) < (0 : Int)) = false := by simp
  go_enter Tryz.func150, Tryz.ntmps150
  go_wp2
  go_loopw [6, 7] (fun o i wr => i = .int .i64 0 ∧ o = .slice none 0 0 ∧ wr = w) (fun _ i _ => 0)
  case atStart => exact ⟨rfl, rfl, rfl⟩
  case round =>
    obtain ⟨rfl, rfl, rfl⟩ := hrel
    go_wp2_with fail
    go_ret2
    exact ⟨rfl, rfl⟩
theorem rwrong_bare (w : World) (p : Option Addr) (cap : Nat) (most : Int) (probes : Bool) (hm : 0 ≤ most) :
    Calls Tryz.prog 147 #[.slice p 0 cap, .int .i64 most, .bool probes] w fun e w' => e = .returned (.int .i64 0) ∧ w' = w := by
  have h80 : ¬ most < (0 : Int) := by omega
  have h80' : decide (most < (0 : Int)) = false := by simp; omega
  go_enter Tryz.func147, Tryz.ntmps147
  go_wp2_with fail
  refine (rstarts_bare w p cap probes).mono ?_
  rintro e w1 ⟨rfl, rfl⟩
  go_wp2_with fail
  go_ret
  exact ⟨rfl, rfl⟩

theorem has_started (c : Nat → Int) (N X : Nat) : ((List.range N).any fun i => ((pos c i : Nat) : Int) == (X : Int)) = started c N X := by
  unfold started
  congr 1
  funext i
  rw [Bool.eq_iff_iff]
  simp
  omega

/-- What 'wrong' answers. -/
def WrongIs (c : Nat → Int) (L most : Nat) (probes : Bool) (w : World) (e : Ending) (w' : World) : Prop :=
  ∃ r b, FlawIs c L most (zOf probes) r b ∧ e = .returned (.int .i64 (if b then (r : Nat) else -1)) ∧ Below w.heap.size w w'

set_option maxHeartbeats 1000000 in
theorem rwrong_full (w : World) (cb co L cap most : Nat) (c : Nat → Int) (probes : Bool) (hm : most ≤ 240) (hby : ∀ i, i < L → 0 ≤ c i ∧ c i ≤ 255) (C : Laid w cb co L cap c) :
    Calls Tryz.prog 147 #[.slice (some ⟨cb, co, none⟩) L cap, .int .i64 (most : Int), .bool probes] w (WrongIs c L most probes w) := by
  by_cases hL : most < L
  · have h1 : (most : Int) < (L : Int) := by omega
    have h2 : decide ((most : Int) < (L : Int)) = true := by simpa using h1
    go_enter Tryz.func147, Tryz.ntmps147
    go_wp2_with fail
    go_ret
    unfold WrongIs
    exact ⟨most, true, Or.inl ⟨hL, rfl, rfl⟩, rfl, Below.refl _ _⟩
  · have h1 : ¬ (most : Int) < (L : Int) := by omega
    have h2 : decide ((most : Int) < (L : Int)) = false := by simp; omega
    have hpos := C.some'
    go_enter Tryz.func147, Tryz.ntmps147
    go_wp2_with fail
    refine (rstarts_any w cb co L cap c probes (by omega) hby C).mono ?_
    rintro e w1 ⟨N, S, B1, ⟨hlt, hsb, rfl⟩ | ⟨hN, v, hown, rfl⟩⟩
    · have hge : (0 : Int) ≤ (pos c N : Int) := by omega
      have hge' : decide ((0 : Int) ≤ (pos c N : Int)) = true := by simp
      go_wp2_with fail
      go_ret
      unfold WrongIs
      exact ⟨pos c N, true, Or.inr ⟨by omega, N, S, Or.inl ⟨hlt, hsb, rfl, rfl⟩⟩, rfl, B1⟩
    · have hN0 : 0 < N := by
        cases N with
        | zero => have : pos c 0 = 0 := rfl
                  omega
        | succ n => omega
      have hN240 := S.count
      obtain ⟨g, cp, rfl⟩ := own_form hown hN0
      have hgl := (hown.lt g rfl).1
      have hcell : ∀ i, i < N → w1.cell? ⟨g, i, none⟩ = some (.int .i64 (pos c i)) := fun i hi => (own_cell (f := fun i => (pos c i : Int)) hown hi).2
      clear hown
      obtain ⟨n, rfl⟩ : ∃ n, N = n + 1 := ⟨N - 1, by omega⟩
      have hdec' : (((n + 1 : Nat) : Int) == 0) = false := by rw [beq_eq_false_iff_ne]; omega
      have hl1 := hcell n (by omega)
      have hlp : pos c n < L := S.lt (by omega)
      have hll := (C.below B1).cell (pos c n) hlp
      have hi1 : (n : Int) < ((n + 1 : Nat) : Int) := by omega
      have hi2 : ((pos c n : Nat) : Int) < (L : Int) := by omega
      have hwell : wellAt c (n + 1) = endsB (c (pos c n)) := by unfold wellAt; rw [if_neg (by omega), Nat.add_sub_cancel]
      have hbn := S.byte _ hlp
      obtain ⟨x, hx⟩ : ∃ x, c (pos c n) = x := ⟨_, rfl⟩
      rw [hx] at hll hwell hbn
      have hb0 := hbn.1
      have hb1 := hbn.2
      cases hen : endsB x with
      | false =>
        have hz : (¬ x = 0) ∧ (¬ x = 14) ∧ (¬ x = 19) := by
          unfold endsB at hen
          simp at hen
          omega
        obtain ⟨z0, z1, z2⟩ := hz
        have y0 : (x != 0) = true := by simpa using z0
        have y1 : (x != 14) = true := by simpa using z1
        have y2 : (x != 19) = true := by simpa using z2
        have HW : Hid (wellAt c (n + 1) = false) := by rw [hen] at hwell; exact hwell
        clear hwell hen hbn hcell
        go_wp2_with fail
        go_ret
        unfold WrongIs
        exact ⟨L, true, Or.inr ⟨by omega, n + 1, S, Or.inr ⟨hN, Or.inl ⟨HW.out, rfl, rfl⟩⟩⟩, rfl, B1⟩
      | true =>
        have HW : Hid (wellAt c (n + 1) = true) := by rw [hen] at hwell; exact hwell
        have hz : x = 0 ∨ (¬ x = 0) ∧ x = 14 ∨ (¬ x = 0) ∧ (¬ x = 14) ∧ x = 19 := by
          unfold endsB at hen
          simp at hen
          omega
        have HC : Hid (∀ i, i < n + 1 → w1.cell? ⟨g, i, none⟩ = some (.int .i64 (pos c i))) := hcell
        clear hcell hwell hen hbn
        rcases hz with e | ⟨e0, e⟩ | ⟨e0, e1, e⟩
        rotate_left
        · have y0 : (x != 0) = true := by simpa using e0
          subst e
          go_wp2_with fail
          go_loopw [10] (fun i wr => ∃ t : Nat, t ≤ n + 1 ∧ i = .int .i64 t ∧ (∀ s, s < t → badT c (n + 1) s = false) ∧ wr = w1) (fun i _ => n + 1 - (intOf i).toNat)
          case atStart => exact ⟨0, by omega, rfl, fun _ h => by omega, rfl⟩
          case round =>
            obtain ⟨t, ht, rfl, hgood, hwr⟩ := hrel
            obtain rfl := hwr.symm
            by_cases hlt : t < n + 1
            · obtain ⟨kk, A, _⟩ := S.at hlt
              have ht1 := HC.out t hlt
              have hck := (C.below B1).cell (pos c t) A.lt
              rw [A.op] at hck
              have h5 := A.lt
              have h6 := A.fits
              have hop := A.op
              have hi3 : (t : Int) < ((n + 1 : Nat) : Int) := by omega
              have hi4 : ((pos c t : Nat) : Int) < (L : Int) := by omega
              have HN : badT c (n + 1) t = false → ∀ s, s < t + 1 → badT c (n + 1) s = false := fun hb s hs => by
                by_cases e : s = t
                · subst e; exact hb
                · exact hgood s (by omega)
              have HG : Hid (∀ s, s < t → badT c (n + 1) s = false) := hgood
              clear A hgood
              cases hlb : leadsB (kk : Int) with
              | false =>
                have HN2 : Hid (∀ s, s < t + 1 → badT c (n + 1) s = false) := HN (by unfold badT; rw [hop, hlb]; rfl)
                have hq : ((kk : Int) == 14) = false ∧ ((kk : Int) == 15) = false := by unfold leadsB at hlb; simpa only [Bool.or_eq_false_iff] using hlb
                obtain ⟨k14, k15⟩ := hq
                clear HN hop h6 hlb
                go_wp2_with fail
                go_roundw
                case rel => exact ⟨t + 1, by omega, by go_num, HN2.out, by first | rfl | trivial⟩
                case measure => simp [intOf]; omega
              | true =>
                have hsz2 := (leads_two hlb).1
                have hby2 := S.byte (pos c t + 1) (by omega)
                obtain ⟨X, hX⟩ : ∃ X : Nat, c (pos c t + 1) = (X : Int) := ⟨(c (pos c t + 1)).toNat, by omega⟩
                have hck2 := (C.below B1).cell (pos c t + 1) (by omega)
                rw [hX] at hck2
                have hbad : badT c (n + 1) t = !started c (n + 1) X := by unfold badT; rw [hop, hlb, hX]; rfl
                have hi5 : (pos c t : Int) + 1 < (L : Int) := by omega
                have hi6 : (X : Int) ≤ 255 := by omega
                have hhas := rhas_any w1 g cp (n + 1) (fun i => (pos c i : Int)) X (by omega) HC.out
                rw [has_started] at hhas
                have HH : Hid (Calls Tryz.prog 162 #[.slice (some ⟨g, 0, none⟩) (n + 1) cp, .int .i64 (X : Int)] w1 fun e w' => e = .returned (.bool (started c (n + 1) X)) ∧ w' = w1) := hhas
                have hq : ((kk : Int) == 14) = true ∨ ((kk : Int) == 14) = false ∧ ((kk : Int) == 15) = true := by
                  unfold leadsB at hlb
                  cases hk : ((kk : Int) == 14) with
                  | true => exact Or.inl rfl
                  | false => rw [hk] at hlb; exact Or.inr ⟨rfl, hlb⟩
                clear hhas hop hsz2 hX hby2 hlb h6
                cases hst : started c (n + 1) X with
                | true =>
                  rw [hst] at hbad HH
                  have HN2 : Hid (∀ s, s < t + 1 → badT c (n + 1) s = false) := HN hbad
                  clear HN hbad
                  rcases hq with k14 | ⟨k14, k15⟩
                  all_goals
                    go_wp2_with (go_at_call 162; refine HH.out.mono ?_; rintro e w' ⟨rfl, rfl⟩)
                    refine ⟨?_, ?measure⟩
                    (repeat apply Exists.intro)
                    refine ⟨?rel, rfl⟩
                    case rel => exact ⟨t + 1, by omega, by go_num, HN2.out, by first | rfl | trivial⟩
                    case measure => simp [intOf]; omega
                | false =>
                  rw [hst] at hbad HH
                  have HBD : Hid (badT c (n + 1) t = true) := hbad
                  clear HN hbad
                  rcases hq with k14 | ⟨k14, k15⟩
                  all_goals
                    go_wp2_with (go_at_call 162; refine HH.out.mono ?_; rintro e w' ⟨rfl, rfl⟩)
                    go_ret
                    unfold WrongIs
                    exact ⟨pos c t, true, Or.inr ⟨by omega, n + 1, S, Or.inr ⟨hN, Or.inr ⟨HW.out, Or.inr ⟨rfl, t, hlt, rfl, HBD.out, HG.out⟩⟩⟩⟩, rfl, B1⟩
            · have e : t = n + 1 := by omega
              subst e
              have HG : Hid (∀ s, s < n + 1 → badT c (n + 1) s = false) := hgood
              clear hgood
              go_wp2_with fail
              go_ret
              unfold WrongIs
              refine ⟨0, false, ?_, rfl, B1⟩
              exact Or.inr ⟨by omega, n + 1, S, Or.inr ⟨hN, Or.inr ⟨HW.out, Or.inl ⟨rfl, rfl, HG.out⟩⟩⟩⟩
        · have y0 : (x != 0) = true := by simpa using e0
          have y1 : (x != 14) = true := by simpa using e1
          subst e
          go_wp2_with fail
          go_loopw [10] (fun i wr => ∃ t : Nat, t ≤ n + 1 ∧ i = .int .i64 t ∧ (∀ s, s < t → badT c (n + 1) s = false) ∧ wr = w1) (fun i _ => n + 1 - (intOf i).toNat)
          case atStart => exact ⟨0, by omega, rfl, fun _ h => by omega, rfl⟩
          case round =>
            obtain ⟨t, ht, rfl, hgood, hwr⟩ := hrel
            obtain rfl := hwr.symm
            by_cases hlt : t < n + 1
            · obtain ⟨kk, A, _⟩ := S.at hlt
              have ht1 := HC.out t hlt
              have hck := (C.below B1).cell (pos c t) A.lt
              rw [A.op] at hck
              have h5 := A.lt
              have h6 := A.fits
              have hop := A.op
              have hi3 : (t : Int) < ((n + 1 : Nat) : Int) := by omega
              have hi4 : ((pos c t : Nat) : Int) < (L : Int) := by omega
              have HN : badT c (n + 1) t = false → ∀ s, s < t + 1 → badT c (n + 1) s = false := fun hb s hs => by
                by_cases e : s = t
                · subst e; exact hb
                · exact hgood s (by omega)
              have HG : Hid (∀ s, s < t → badT c (n + 1) s = false) := hgood
              clear A hgood
              cases hlb : leadsB (kk : Int) with
              | false =>
                have HN2 : Hid (∀ s, s < t + 1 → badT c (n + 1) s = false) := HN (by unfold badT; rw [hop, hlb]; rfl)
                have hq : ((kk : Int) == 14) = false ∧ ((kk : Int) == 15) = false := by unfold leadsB at hlb; simpa only [Bool.or_eq_false_iff] using hlb
                obtain ⟨k14, k15⟩ := hq
                clear HN hop h6 hlb
                go_wp2_with fail
                go_roundw
                case rel => exact ⟨t + 1, by omega, by go_num, HN2.out, by first | rfl | trivial⟩
                case measure => simp [intOf]; omega
              | true =>
                have hsz2 := (leads_two hlb).1
                have hby2 := S.byte (pos c t + 1) (by omega)
                obtain ⟨X, hX⟩ : ∃ X : Nat, c (pos c t + 1) = (X : Int) := ⟨(c (pos c t + 1)).toNat, by omega⟩
                have hck2 := (C.below B1).cell (pos c t + 1) (by omega)
                rw [hX] at hck2
                have hbad : badT c (n + 1) t = !started c (n + 1) X := by unfold badT; rw [hop, hlb, hX]; rfl
                have hi5 : (pos c t : Int) + 1 < (L : Int) := by omega
                have hi6 : (X : Int) ≤ 255 := by omega
                have hhas := rhas_any w1 g cp (n + 1) (fun i => (pos c i : Int)) X (by omega) HC.out
                rw [has_started] at hhas
                have HH : Hid (Calls Tryz.prog 162 #[.slice (some ⟨g, 0, none⟩) (n + 1) cp, .int .i64 (X : Int)] w1 fun e w' => e = .returned (.bool (started c (n + 1) X)) ∧ w' = w1) := hhas
                have hq : ((kk : Int) == 14) = true ∨ ((kk : Int) == 14) = false ∧ ((kk : Int) == 15) = true := by
                  unfold leadsB at hlb
                  cases hk : ((kk : Int) == 14) with
                  | true => exact Or.inl rfl
                  | false => rw [hk] at hlb; exact Or.inr ⟨rfl, hlb⟩
                clear hhas hop hsz2 hX hby2 hlb h6
                cases hst : started c (n + 1) X with
                | true =>
                  rw [hst] at hbad HH
                  have HN2 : Hid (∀ s, s < t + 1 → badT c (n + 1) s = false) := HN hbad
                  clear HN hbad
                  rcases hq with k14 | ⟨k14, k15⟩
                  all_goals
                    go_wp2_with (go_at_call 162; refine HH.out.mono ?_; rintro e w' ⟨rfl, rfl⟩)
                    refine ⟨?_, ?measure⟩
                    (repeat apply Exists.intro)
                    refine ⟨?rel, rfl⟩
                    case rel => exact ⟨t + 1, by omega, by go_num, HN2.out, by first | rfl | trivial⟩
                    case measure => simp [intOf]; omega
                | false =>
                  rw [hst] at hbad HH
                  have HBD : Hid (badT c (n + 1) t = true) := hbad
                  clear HN hbad
                  rcases hq with k14 | ⟨k14, k15⟩
                  all_goals
                    go_wp2_with (go_at_call 162; refine HH.out.mono ?_; rintro e w' ⟨rfl, rfl⟩)
                    go_ret
                    unfold WrongIs
                    exact ⟨pos c t, true, Or.inr ⟨by omega, n + 1, S, Or.inr ⟨hN, Or.inr ⟨HW.out, Or.inr ⟨rfl, t, hlt, rfl, HBD.out, HG.out⟩⟩⟩⟩, rfl, B1⟩
            · have e : t = n + 1 := by omega
              subst e
              have HG : Hid (∀ s, s < n + 1 → badT c (n + 1) s = false) := hgood
              clear hgood
              go_wp2_with fail
              go_ret
              unfold WrongIs
              refine ⟨0, false, ?_, rfl, B1⟩
              exact Or.inr ⟨by omega, n + 1, S, Or.inr ⟨hN, Or.inr ⟨HW.out, Or.inl ⟨rfl, rfl, HG.out⟩⟩⟩⟩
        · subst e
          go_wp2_with fail
          go_loopw [10] (fun i wr => ∃ t : Nat, t ≤ n + 1 ∧ i = .int .i64 t ∧ (∀ s, s < t → badT c (n + 1) s = false) ∧ wr = w1) (fun i _ => n + 1 - (intOf i).toNat)
          case atStart => exact ⟨0, by omega, rfl, fun _ h => by omega, rfl⟩
          case round =>
            obtain ⟨t, ht, rfl, hgood, hwr⟩ := hrel
            obtain rfl := hwr.symm
            by_cases hlt : t < n + 1
            · obtain ⟨kk, A, _⟩ := S.at hlt
              have ht1 := HC.out t hlt
              have hck := (C.below B1).cell (pos c t) A.lt
              rw [A.op] at hck
              have h5 := A.lt
              have h6 := A.fits
              have hop := A.op
              have hi3 : (t : Int) < ((n + 1 : Nat) : Int) := by omega
              have hi4 : ((pos c t : Nat) : Int) < (L : Int) := by omega
              have HN : badT c (n + 1) t = false → ∀ s, s < t + 1 → badT c (n + 1) s = false := fun hb s hs => by
                by_cases e : s = t
                · subst e; exact hb
                · exact hgood s (by omega)
              have HG : Hid (∀ s, s < t → badT c (n + 1) s = false) := hgood
              clear A hgood
              cases hlb : leadsB (kk : Int) with
              | false =>
                have HN2 : Hid (∀ s, s < t + 1 → badT c (n + 1) s = false) := HN (by unfold badT; rw [hop, hlb]; rfl)
                have hq : ((kk : Int) == 14) = false ∧ ((kk : Int) == 15) = false := by unfold leadsB at hlb; simpa only [Bool.or_eq_false_iff] using hlb
                obtain ⟨k14, k15⟩ := hq
                clear HN hop h6 hlb
                go_wp2_with fail
                go_roundw
                case rel => exact ⟨t + 1, by omega, by go_num, HN2.out, by first | rfl | trivial⟩
                case measure => simp [intOf]; omega
              | true =>
                have hsz2 := (leads_two hlb).1
                have hby2 := S.byte (pos c t + 1) (by omega)
                obtain ⟨X, hX⟩ : ∃ X : Nat, c (pos c t + 1) = (X : Int) := ⟨(c (pos c t + 1)).toNat, by omega⟩
                have hck2 := (C.below B1).cell (pos c t + 1) (by omega)
                rw [hX] at hck2
                have hbad : badT c (n + 1) t = !started c (n + 1) X := by unfold badT; rw [hop, hlb, hX]; rfl
                have hi5 : (pos c t : Int) + 1 < (L : Int) := by omega
                have hi6 : (X : Int) ≤ 255 := by omega
                have hhas := rhas_any w1 g cp (n + 1) (fun i => (pos c i : Int)) X (by omega) HC.out
                rw [has_started] at hhas
                have HH : Hid (Calls Tryz.prog 162 #[.slice (some ⟨g, 0, none⟩) (n + 1) cp, .int .i64 (X : Int)] w1 fun e w' => e = .returned (.bool (started c (n + 1) X)) ∧ w' = w1) := hhas
                have hq : ((kk : Int) == 14) = true ∨ ((kk : Int) == 14) = false ∧ ((kk : Int) == 15) = true := by
                  unfold leadsB at hlb
                  cases hk : ((kk : Int) == 14) with
                  | true => exact Or.inl rfl
                  | false => rw [hk] at hlb; exact Or.inr ⟨rfl, hlb⟩
                clear hhas hop hsz2 hX hby2 hlb h6
                cases hst : started c (n + 1) X with
                | true =>
                  rw [hst] at hbad HH
                  have HN2 : Hid (∀ s, s < t + 1 → badT c (n + 1) s = false) := HN hbad
                  clear HN hbad
                  rcases hq with k14 | ⟨k14, k15⟩
                  all_goals
                    go_wp2_with (go_at_call 162; refine HH.out.mono ?_; rintro e w' ⟨rfl, rfl⟩)
                    refine ⟨?_, ?measure⟩
                    (repeat apply Exists.intro)
                    refine ⟨?rel, rfl⟩
                    case rel => exact ⟨t + 1, by omega, by go_num, HN2.out, by first | rfl | trivial⟩
                    case measure => simp [intOf]; omega
                | false =>
                  rw [hst] at hbad HH
                  have HBD : Hid (badT c (n + 1) t = true) := hbad
                  clear HN hbad
                  rcases hq with k14 | ⟨k14, k15⟩
                  all_goals
                    go_wp2_with (go_at_call 162; refine HH.out.mono ?_; rintro e w' ⟨rfl, rfl⟩)
                    go_ret
                    unfold WrongIs
                    exact ⟨pos c t, true, Or.inr ⟨by omega, n + 1, S, Or.inr ⟨hN, Or.inr ⟨HW.out, Or.inr ⟨rfl, t, hlt, rfl, HBD.out, HG.out⟩⟩⟩⟩, rfl, B1⟩
            · have e : t = n + 1 := by omega
              subst e
              have HG : Hid (∀ s, s < n + 1 → badT c (n + 1) s = false) := hgood
              clear hgood
              go_wp2_with fail
              go_ret
              unfold WrongIs
              refine ⟨0, false, ?_, rfl, B1⟩
              exact Or.inr ⟨by omega, n + 1, S, Or.inr ⟨hN, Or.inr ⟨HW.out, Or.inl ⟨rfl, rfl, HG.out⟩⟩⟩⟩
end Go.Proofs.YtflenkppcclclaaGreatDoor

namespace Go.Proofs.YtflenkppcclclaaGreatDoor
open Go.RowKit

theorem SP.snd {c : Nat → Int} {L N z : Nat} (S : SP c L N z) {m : Nat} (hm : m < N) : soundB c L z (pos c m) = true := by
  unfold soundB
  have h1 := S.op m hm
  have h2 := S.fits m hm
  have h3 := S.cell m hm
  cases hb : holdsB (c (pos c m)) with
  | false => simp; exact ⟨h1, h2⟩
  | true => simp; exact ⟨⟨h1, h2⟩, h3 hb⟩
/-- There is one way to cut the bytes into instructions. -/
theorem SP.same {c : Nat → Int} {L N M z : Nat} (S : SP c L N z) (hN : pos c N = L) (S' : SP c L M z) (h : pos c M = L ∨ pos c M < L ∧ soundB c L z (pos c M) = false) : M = N := by
  rcases Nat.lt_trichotomy M N with hlt | he | hgt
  · have h1 := S.lt hlt
    rcases h with h | ⟨_, h⟩
    · omega
    · rw [S.snd hlt] at h; cases h
  · exact he
  · have := S'.lt hgt; omega
theorem SP.stop {c : Nat → Int} {L N M z : Nat} (S : SP c L N z) (hN : pos c N < L ∧ soundB c L z (pos c N) = false) (S' : SP c L M z) (h : pos c M = L ∨ pos c M < L ∧ soundB c L z (pos c M) = false) : M = N := by
  rcases Nat.lt_trichotomy M N with hlt | he | hgt
  · have h1 := S.lt hlt
    rcases h with h | ⟨_, h⟩
    · omega
    · rw [S.snd hlt] at h; cases h
  · exact he
  · rw [S'.snd hgt] at hN; cases hN.2
theorem SP.more {c : Nat → Int} {L N z y : Nat} (S : SP c L N z) (h : z ≤ y) (hy : y ≤ 20) : SP c L N y :=
  ⟨S.most, hy, S.byte, fun m hm => by have := S.op m hm; omega, S.fits, S.cell⟩
theorem WT.same {c : Nat → Int} {N r s : Nat} {b d : Bool} (h : WT c N r b) (k : WT c N s d) : r = s ∧ b = d := by
  rcases h with ⟨rfl, rfl, h⟩ | ⟨rfl, t, ht, rfl, hb, h⟩ <;> rcases k with ⟨rfl, rfl, k⟩ | ⟨rfl, u, hu, rfl, kb, k⟩
  · exact ⟨rfl, rfl⟩
  · rw [h u hu] at kb; cases kb
  · rw [k t ht] at hb; cases hb
  · refine ⟨?_, rfl⟩
    rcases Nat.lt_trichotomy t u with q | q | q
    · rw [k t q] at hb; cases hb
    · rw [q]
    · rw [h u q] at kb; cases kb
/-- 'flaw' and 'wrong' say the same. -/
theorem FlawIs.same {c : Nat → Int} {L most z r s : Nat} {b d : Bool} (h : FlawIs c L most z r b) (k : FlawIs c L most z s d) : r = s ∧ b = d := by
  rcases h with ⟨h1, rfl, rfl⟩ | ⟨h1, N, S, h⟩ <;> rcases k with ⟨k1, rfl, rfl⟩ | ⟨k1, M, T, k⟩
  · exact ⟨rfl, rfl⟩
  · omega
  · omega
  · rcases h with ⟨p1, p2, rfl, rfl⟩ | ⟨hN, h⟩ <;> rcases k with ⟨q1, q2, rfl, rfl⟩ | ⟨hM, k⟩
    · rw [S.stop ⟨p1, p2⟩ T (Or.inr ⟨q1, q2⟩)]; exact ⟨rfl, rfl⟩
    · have := S.stop ⟨p1, p2⟩ T (Or.inl hM); subst this; omega
    · have := S.same hN T (Or.inr ⟨q1, q2⟩); subst this; omega
    · have := S.same hN T (Or.inl hM)
      subst this
      rcases h with ⟨h, rfl, rfl⟩ | ⟨h, h'⟩ <;> rcases k with ⟨k, rfl, rfl⟩ | ⟨k, k'⟩
      · exact ⟨rfl, rfl⟩
      · rw [h] at k; cases k
      · rw [h] at k; cases k
      · exact h'.same k'
end Go.Proofs.YtflenkppcclclaaGreatDoor

namespace Go.Proofs.YtflenkppcclclaaGreatDoor
open Go.RowKit

theorem rwrong_gen (w : World) (v : Value) (L most : Nat) (c : Nat → Int) (probes : Bool) (hm : most ≤ 240) (hby : ∀ i, i < L → 0 ≤ c i ∧ c i ≤ 255) (C : Coded w v L c) :
    Calls Tryz.prog 147 #[v, .int .i64 (most : Int), .bool probes] w (WrongIs c L most probes w) := by
  cases C with
  | full cb co cap hv C => subst hv; exact rwrong_full w cb co L cap most c probes hm hby C
  | bare p cap hv hL =>
    subst hv hL
    refine (rwrong_bare w p cap most probes (by omega)).mono ?_
    rintro e w' ⟨rfl, rfl⟩
    exact ⟨0, true, Or.inr ⟨by omega, 0, ⟨by omega, by unfold zOf; split <;> omega, fun _ h => by omega, fun _ h => by omega, fun _ h => by omega, fun _ h => by omega⟩, Or.inr ⟨rfl, Or.inl ⟨rfl, rfl, rfl⟩⟩⟩, rfl, Below.refl _ _⟩

set_option maxHeartbeats 400000 in
theorem rprobed_any (w : World) (cb co L cap N : Nat) (c : Nat → Int) (S : SP c L N 20) (hN : pos c N = L) (C : Laid w cb co L cap c) :
    Calls Tryz.prog 151 #[.slice (some ⟨cb, co, none⟩) L cap] w fun e w' => e = .returned (.bool (probeIn c N)) ∧ Below w.heap.size w w' := by
  have hpos := C.some'
  have hN0 : 0 < N := by
    cases N with
    | zero => have : pos c 0 = 0 := rfl
              omega
    | succ n => omega
  have hN240 := S.count
  go_enter Tryz.func151, Tryz.ntmps151
  go_wp2_with fail
  refine (rstarts_any w cb co L cap c true S.most S.byte C).mono ?_
  rintro e w1 ⟨M, S', B1, ⟨hlt, hsb, rfl⟩ | ⟨hM, v, hown, rfl⟩⟩
  · have := S.same hN S' (Or.inr ⟨hlt, hsb⟩)
    subst this
    omega
  · have := S.same hN S' (Or.inl hM)
    subst this
    obtain ⟨g, cp, rfl⟩ := own_form hown hN0
    have HC : Hid (∀ i, i < M → w1.cell? ⟨g, i, none⟩ = some (.int .i64 (pos c i))) := fun i hi => (own_cell (f := fun i => (pos c i : Int)) hown hi).2
    clear hown
    go_wp2_with fail
    go_loopw [5] (fun i wr => ∃ t : Nat, t ≤ M ∧ i = .int .i64 t ∧ probeIn c t = false ∧ wr = w1) (fun i _ => M - (intOf i).toNat)
    case atStart => exact ⟨0, by omega, rfl, rfl, rfl⟩
    case round =>
      obtain ⟨t, ht, rfl, hno, hwr⟩ := hrel
      obtain rfl := hwr.symm
      by_cases hlt : t < M
      · obtain ⟨kk, A, _⟩ := S.at hlt
        have ht1 := HC.out t hlt
        have hck := (C.below B1).cell (pos c t) A.lt
        rw [A.op] at hck
        have h5 := A.lt
        have hop := A.op
        have hi3 : (t : Int) < (M : Int) := by omega
        have hi4 : ((pos c t : Nat) : Int) < (L : Int) := by omega
        have hk := A.k
        clear A
        cases h20 : ((kk : Int) == 20) with
        | false =>
          have HN : Hid (probeIn c (t + 1) = false) := by
            show probeIn c (t + 1) = false
            rw [probeIn_succ, hno, hop, h20]; rfl
          clear hno hop
          go_wp2_with fail
          go_roundw
          case rel => exact ⟨t + 1, by omega, by go_num, HN.out, by first | rfl | trivial⟩
          case measure => simp [intOf]; omega
        | true =>
          have HN : Hid (probeIn c M = true) := probeIn_of c hlt (by rw [hop]; simpa using h20)
          clear hno hop
          go_wp2_with fail
          go_ret
          exact ⟨by rw [HN.out]; rfl, B1⟩
      · have e : t = M := by omega
        subst e
        have HN : Hid (probeIn c t = false) := hno
        clear hno
        go_wp2_with fail
        go_ret
        exact ⟨by rw [HN.out]; rfl, B1⟩
end Go.Proofs.YtflenkppcclclaaGreatDoor

