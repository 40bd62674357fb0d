import Derived.Test.YtflenkppcclclaaGreatDoorM14
namespace Go.Proofs.YtflenkppcclclaaGreatDoor
open Go.RowKit

theorem below_drewN {B : Nat} {a w : World} (h : Below B a w) (n : Nat) : Below B a (w.drewN n) := ⟨h.os, h.tape, h.output, h.size, h.block⟩
theorem own_drewN {w : World} {B e size n : Nat} {v : Value} {xs : List Value} (h : w.ownsRow B e size v n xs) (q : Nat) : (w.drewN q).ownsRow B e size v n xs := h
theorem own_lower {w : World} {B D e size n : Nat} {v : Value} {xs : List Value} (h : w.ownsRow B e size v n xs) (hle : D ≤ B) : w.ownsRow D e size v n xs :=
  ⟨h.1, h.2.imp id fun ⟨g, cap, cur, hv, hg, r⟩ => ⟨g, cap, cur, hv, Nat.le_trans hle hg, r⟩⟩
/-- A block begins at the t-th instruction, as far as what is ahead of it and the first k say. -/
def rbegAt (c : Nat → Int) (t k : Nat) : Bool := behindB c t || (List.range k).any fun k => leadsB (c (pos c k)) && c (pos c k + 1) == ((pos c t : Nat) : Int)
theorem rbegAt_succ (c : Nat → Int) (t k : Nat) : rbegAt c t (k + 1) = (rbegAt c t k || (leadsB (c (pos c k)) && c (pos c k + 1) == ((pos c t : Nat) : Int))) := by
  unfold rbegAt
  rw [List.range_succ, List.any_append]
  simp [Bool.or_assoc]
def blkl (c : Nat → Int) (N m : Nat) : List Value := ((List.range m).filter fun t => rbegAt c t N).map fun t => .int .i64 (pos c t)
def cntR (c : Nat → Int) (N m : Nat) : Nat := ((List.range m).filter fun t => rbegAt c t N).length
theorem cntR_le (c : Nat → Int) (N m : Nat) : cntR c N m ≤ m := by
  unfold cntR
  have := List.length_filter_le (fun t => rbegAt c t N) (List.range m)
  simpa using this
theorem blk_skip {c : Nat → Int} {N t : Nat} (h : rbegAt c t N = false) : blkl c N (t + 1) = blkl c N t ∧ cntR c N (t + 1) = cntR c N t := by
  unfold blkl cntR
  rw [List.range_succ, List.filter_append]
  simp [h]
theorem blk_take {c : Nat → Int} {N t : Nat} (h : rbegAt c t N = true) : blkl c N (t + 1) = blkl c N t ++ [.int .i64 (pos c t)] ∧ cntR c N (t + 1) = cntR c N t + 1 := by
  unfold blkl cntR
  rw [List.range_succ, List.filter_append]
  simp [h]

set_option maxRecDepth 100000 in
set_option maxHeartbeats 4000000 in
theorem rblocks_any (w : World) (cb co L cap N : Nat) (c : Nat → Int) (S : SP c L N 20) (hN : pos c N = L) (C : Laid w cb co L cap c) :
    Calls Tryz.prog 148 #[.slice (some ⟨cb, co, none⟩) L cap] w fun e w' => ∃ v, w'.ownsRow w.heap.size 3 1 v (cntR c N N) (blkl c N N) ∧ e = .returned v ∧ Below w.heap.size w w' := by
  obtain ⟨i, hi, hz0, hz1, hz2⟩ := info_parts Tryz.infoInt
  have hpos := C.some'
  have hN0 : 0 < N := by
    cases N with
    | zero => have : pos c 0 = 0 := rfl
              omega
    | succ n => omega
  have hN240 := S.count
  have hLm := S.most
  go_enter Tryz.func148, Tryz.ntmps148
  go_wp2_with fail
  refine (rstarts_any w cb co L cap c true S.most S.byte C).mono ?_
  rintro e w1 ⟨M, S', B1, ⟨hlt, hsb, rfl⟩ | ⟨hM, v, hown, rfl⟩⟩
  · have := S.same hN S' (Or.inr ⟨hlt, hsb⟩)
    subst this
    omega
  · have := S.same hN S' (Or.inl hM)
    subst this
    clear S' hM
    obtain ⟨g, cp, rfl⟩ := own_form hown hN0
    have hgw := (hown.lt g rfl).2
    have hw1 := B1.size
    have HC1 : Hid (∀ i, i < M → w1.cell? ⟨g, i, none⟩ = some (.int .i64 (pos c i))) := fun i hi => (own_cell (f := fun i => (pos c i : Int)) hown hi).2
    clear hown
    go_wp2_with fail
    go_loopw [5, 6] (fun o i wr => ∃ t : Nat, t ≤ M ∧ i = .int .i64 t ∧ wr.ownsRow w1.heap.size 3 1 o (cntR c M t) (blkl c M t) ∧ (∀ i, i < M → wr.cell? ⟨g, i, none⟩ = some (.int .i64 (pos c i))) ∧ Below w.heap.size w wr ∧ w1.heap.size ≤ wr.heap.size) (fun _ i _ => M - (intOf i).toNat)
    case atStart => exact ⟨0, by omega, rfl, World.ownsRow_nil _ _ _ _, HC1.out, B1, Nat.le_refl _⟩
    case round =>
      clear HC1
      obtain ⟨t, ht, rfl, hown, hcell, hB, hsz1⟩ := hrel
      have HO : Hid (wr.ownsRow w1.heap.size 3 1 u5 (cntR c M t) (blkl c M t)) := hown
      have HC : Hid (∀ i, i < M → wr.cell? ⟨g, i, none⟩ = some (.int .i64 (pos c i))) := hcell
      clear hcell
      have hsz := hB.size
      by_cases hlt : t < M
      · have hi1 : (t : Int) < (M : Int) := by omega
        clear hown
        by_cases h0 : t = 0
        · have d0 : ((t : Int) == 0) = true := by simp; omega
          have d1 : ¬ (0 : Int) < (t : Int) := by omega
          have d1' : decide ((0 : Int) < (t : Int)) = false := by simp; omega
          have HB0 : Hid (rbegAt c t 0 = true) := by
            show rbegAt c t 0 = true
            unfold rbegAt behindB
            rw [if_pos h0]; rfl
          clear h0
          go_wp2_with fail
          go_loopw [7, 9] (fun b i wx => ∃ k nd : Nat, k ≤ M ∧ i = .int .i64 k ∧ b = .bool (rbegAt c t k) ∧ wx = wr.drewN nd) (fun _ i _ => M - (intOf i).toNat)
          case atStart => exact ⟨0, 0, by omega, rfl, by first | exact congrArg Value.bool HB0.out.symm | rw [HB0.out], rfl⟩
          case round =>
            obtain ⟨k, nd, hk, rfl, rfl, rfl⟩ := hrel
            by_cases hkl : k < M
            · obtain ⟨kk, A, _⟩ := S.at hkl
              have ht2 := (HC.out k hkl)
              have ht3 := (HC.out t hlt)
              have hck := (C.below hB).cell (pos c k) A.lt
              rw [A.op] at hck
              have h5 := A.lt
              have h6 := A.fits
              have hop := A.op
              have hi3 : (k : Int) < (M : Int) := by omega
              have hi4 : ((pos c k : Nat) : Int) < (L : Int) := by omega
              have hi7 : (t : Int) < (M : Int) := by omega
              clear A
              cases hbk : rbegAt c t k with
              | true =>
                have HN : Hid (rbegAt c t (k + 1) = true) := by
                  show rbegAt c t (k + 1) = true
                  rw [rbegAt_succ, hbk]; rfl
                clear hop h6
                go_wp2_with fail
                go_quiet (fail)
                go_wp2_with fail
                go_roundw
                case rel => exact ⟨k + 1, nd + nq, by omega, by go_num, by rw [HN.out], rfl⟩
                case measure => simp [intOf]; omega
              | false =>
                cases hlb : leadsB (kk : Int) with
                | false =>
                  have HN : Hid (rbegAt c t (k + 1) = false) := by
                    show rbegAt c t (k + 1) = false
                    rw [rbegAt_succ, hbk, hop, hlb]; rfl
                  have hq : ((kk : Int) == 14) = false ∧ ((kk : Int) == 15) = false := by unfold leadsB at hlb; simpa only [Bool.or_eq_false_iff] using hlb
                  obtain ⟨k14, k15⟩ := hq
                  clear hop h6 hlb
                  go_wp2_with fail
                  go_quiet (fail)
                  go_wp2_with fail
                  go_roundw
                  case rel => exact ⟨k + 1, nd + nq, by omega, by go_num, by rw [HN.out], rfl⟩
                  case measure => simp [intOf]; omega
                | true =>
                  have hsz2 := (leads_two hlb).1
                  have hby2 := S.byte (pos c k + 1) (by omega)
                  obtain ⟨X, hX⟩ : ∃ X : Nat, c (pos c k + 1) = (X : Int) := ⟨(c (pos c k + 1)).toNat, by omega⟩
                  have hck2 := (C.below hB).cell (pos c k + 1) (by omega)
                  rw [hX] at hck2
                  have hi5 : (pos c k : Int) + 1 < (L : Int) := by omega
                  have hi6 : (X : Int) ≤ 255 := by omega
                  have HN : Hid (rbegAt c t (k + 1) = ((X : Int) == ((pos c t : Nat) : Int))) := by
                    show rbegAt c t (k + 1) = _
                    rw [rbegAt_succ, hbk, hop, hlb, hX]; simp
                  have hq : ((kk : Int) == 14) = true ∨ ((kk : Int) == 14) = false ∧ ((kk : Int) == 15) = true := by
                    unfold leadsB at hlb
                    cases hk : ((kk : Int) == 14) with
                    | true => exact Or.inl rfl
                    | false => rw [hk] at hlb; exact Or.inr ⟨rfl, hlb⟩
                  clear hop hsz2 hX hby2 hlb h6
                  rcases hq with k14 | ⟨k14, k15⟩
                  all_goals
                    go_wp2_with fail
                    go_quiet (fail)
                    go_wp2_with fail
                    go_roundw
                    case rel => exact ⟨k + 1, nd + nq, by omega, by go_num, by rw [HN.out], rfl⟩
                    case measure => simp [intOf]; omega
            · have e : k = M := by omega
              subst e
              have ht3 := (HC.out t hlt)
              have hi7 : (t : Int) < (k : Int) := by omega
              cases hbk : rbegAt c t k with
              | false =>
                have HN : Hid (blkl c k (t + 1) = blkl c k t ∧ cntR c k (t + 1) = cntR c k t) := blk_skip hbk
                go_wp2_with fail
                go_roundw
                case rel => exact ⟨t + 1, by omega, by go_num, by rw [HN.out.1, HN.out.2]; exact HO.out, HC.out, below_drewN hB _, hsz1⟩
                case measure => simp [intOf]; omega
              | true =>
                have HN : Hid (blkl c k (t + 1) = blkl c k t ++ [.int .i64 (pos c t)] ∧ cntR c k (t + 1) = cntR c k t + 1) := blk_take hbk
                have hcle := cntR_le c k t
                go_wp2_with (at_builtin; refine wpList_append_own_at _ rfl (.tmp 87) (.tmp 92) 45 rfl w1.heap.size 3 i (.int .i64 0) 1 8 Tryz.underlying45 hi hz0 hz1 hz2 rfl (by decide) _ (cntR c k t) _ rfl ((own_drewN HO.out _).alloc _) ⟨_, 0, none⟩ 1 1 [.int .i64 (pos c t)] rfl rfl (cell_one_new _ _ _) ?c2 (by unfold maxLen; omega) (by omega) (by simp; omega) ?_)
                case c2 => intro u hu; simp at hu; subst hu; rfl
                intro v' w2 hown' hgrow _ hat
                have hB2 := ((below_drewN hB nd).alloc (by simpa using hsz) (.cells #[.int .i64 (pos c t)] 3)).grown hgrow (by simp; omega) (fun j hj => by have := (HO.out.lt j hj).1; omega)
                have HO1 : Hid (w2.ownsRow w1.heap.size 3 1 v' (cntR c k (t + 1)) (blkl c k (t + 1))) := by
                  show w2.ownsRow w1.heap.size 3 1 v' (cntR c k (t + 1)) (blkl c k (t + 1))
                  rw [HN.out.1, HN.out.2]; exact hown'
                have HC1 : Hid (∀ i, i < k → w2.cell? ⟨g, i, none⟩ = some (.int .i64 (pos c i))) := fun i hi => by
                  refine hgrow.cell (a := ⟨g, i, none⟩) ?_ (own_ne HO.out hgw)
                  rw [World.cell?_alloc_past _ _ _ (by simpa using Nat.lt_of_lt_of_le hgw hsz1)]
                  exact HC.out i hi
                have hs2 : w1.heap.size ≤ w2.heap.size := by have := hgrow.size; simp at this; omega
                clear hown' hgrow hat
                go_wp2_with fail
                go_roundw
                case rel => exact ⟨t + 1, by omega, by go_num, HO1.out, HC1.out, hB2, hs2⟩
                case measure => simp [intOf]; omega
        · obtain ⟨s, rfl⟩ : ∃ s, t = s + 1 := ⟨t - 1, by omega⟩
          have d0 : (((s + 1 : Nat) : Int) == 0) = false := by rw [beq_eq_false_iff_ne]; omega
          have d1 : (0 : Int) < ((s + 1 : Nat) : Int) := by omega
          have hsl := HC.out s (by omega)
          have hsp := S.lt (m := s) (by omega)
          have hsc := (C.below hB).cell (pos c s) hsp
          have hi8 : (s : Int) < (M : Int) := by omega
          have hi9 : ((pos c s : Nat) : Int) < (L : Int) := by omega
          have hb0 : rbegAt c (s + 1) 0 = (endsB (c (pos c s)) || leadsB (c (pos c s))) := by
            unfold rbegAt behindB
            rw [if_neg (by omega), Nat.add_sub_cancel]; simp
          obtain ⟨x, hx⟩ : ∃ x, c (pos c s) = x := ⟨_, rfl⟩
          rw [hx] at hsc hb0
          clear h0 hx
          cases q0 : (x == 0) with
          | true =>
            have HB1 : rbegAt c (s + 1) 0 = true := by rw [hb0]; unfold endsB; rw [q0]; rfl
            have HB0 : Hid (rbegAt c (s + 1) 0 = true) := HB1
            clear HB1
            clear hb0
            go_wp2_with fail
            go_loopw [7, 9] (fun b i wx => ∃ k nd : Nat, k ≤ M ∧ i = .int .i64 k ∧ b = .bool (rbegAt c (s + 1) k) ∧ wx = wr.drewN nd) (fun _ i _ => M - (intOf i).toNat)
            case atStart => exact ⟨0, 0, by omega, rfl, by first | exact congrArg Value.bool HB0.out.symm | rw [HB0.out], rfl⟩
            case round =>
              obtain ⟨k, nd, hk, rfl, rfl, rfl⟩ := hrel
              by_cases hkl : k < M
              · obtain ⟨kk, A, _⟩ := S.at hkl
                have ht2 := (HC.out k hkl)
                have ht3 := (HC.out (s + 1) hlt)
                have hck := (C.below hB).cell (pos c k) A.lt
                rw [A.op] at hck
                have h5 := A.lt
                have h6 := A.fits
                have hop := A.op
                have hi3 : (k : Int) < (M : Int) := by omega
                have hi4 : ((pos c k : Nat) : Int) < (L : Int) := by omega
                have hi7 : ((s + 1) : Int) < (M : Int) := by omega
                clear A
                cases hbk : rbegAt c (s + 1) k with
                | true =>
                  have HN : Hid (rbegAt c (s + 1) (k + 1) = true) := by
                    show rbegAt c (s + 1) (k + 1) = true
                    rw [rbegAt_succ, hbk]; rfl
                  clear hop h6
                  go_wp2_with fail
                  go_quiet (fail)
                  go_wp2_with fail
                  go_roundw
                  case rel => exact ⟨k + 1, nd + nq, by omega, by go_num, by rw [HN.out], rfl⟩
                  case measure => simp [intOf]; omega
                | false =>
                  cases hlb : leadsB (kk : Int) with
                  | false =>
                    have HN : Hid (rbegAt c (s + 1) (k + 1) = false) := by
                      show rbegAt c (s + 1) (k + 1) = false
                      rw [rbegAt_succ, hbk, hop, hlb]; rfl
                    have hq : ((kk : Int) == 14) = false ∧ ((kk : Int) == 15) = false := by unfold leadsB at hlb; simpa only [Bool.or_eq_false_iff] using hlb
                    obtain ⟨k14, k15⟩ := hq
                    clear hop h6 hlb
                    go_wp2_with fail
                    go_quiet (fail)
                    go_wp2_with fail
                    go_roundw
                    case rel => exact ⟨k + 1, nd + nq, by omega, by go_num, by rw [HN.out], rfl⟩
                    case measure => simp [intOf]; omega
                  | true =>
                    have hsz2 := (leads_two hlb).1
                    have hby2 := S.byte (pos c k + 1) (by omega)
                    obtain ⟨X, hX⟩ : ∃ X : Nat, c (pos c k + 1) = (X : Int) := ⟨(c (pos c k + 1)).toNat, by omega⟩
                    have hck2 := (C.below hB).cell (pos c k + 1) (by omega)
                    rw [hX] at hck2
                    have hi5 : (pos c k : Int) + 1 < (L : Int) := by omega
                    have hi6 : (X : Int) ≤ 255 := by omega
                    have HN : Hid (rbegAt c (s + 1) (k + 1) = ((X : Int) == ((pos c (s + 1) : Nat) : Int))) := by
                      show rbegAt c (s + 1) (k + 1) = _
                      rw [rbegAt_succ, hbk, hop, hlb, hX]; simp
                    have hq : ((kk : Int) == 14) = true ∨ ((kk : Int) == 14) = false ∧ ((kk : Int) == 15) = true := by
                      unfold leadsB at hlb
                      cases hk : ((kk : Int) == 14) with
                      | true => exact Or.inl rfl
                      | false => rw [hk] at hlb; exact Or.inr ⟨rfl, hlb⟩
                    clear hop hsz2 hX hby2 hlb h6
                    rcases hq with k14 | ⟨k14, k15⟩
                    all_goals
                      go_wp2_with fail
                      go_quiet (fail)
                      go_wp2_with fail
                      go_roundw
                      case rel => exact ⟨k + 1, nd + nq, by omega, by go_num, by rw [HN.out], rfl⟩
                      case measure => simp [intOf]; omega
              · have e : k = M := by omega
                subst e
                have ht3 := (HC.out (s + 1) hlt)
                have hi7 : ((s + 1) : Int) < (k : Int) := by omega
                cases hbk : rbegAt c (s + 1) k with
                | false =>
                  have HN : Hid (blkl c k ((s + 1) + 1) = blkl c k (s + 1) ∧ cntR c k ((s + 1) + 1) = cntR c k (s + 1)) := blk_skip hbk
                  go_wp2_with fail
                  go_roundw
                  case rel => exact ⟨(s + 1) + 1, by omega, by go_num, by rw [HN.out.1, HN.out.2]; exact HO.out, HC.out, below_drewN hB _, hsz1⟩
                  case measure => simp [intOf]; omega
                | true =>
                  have HN : Hid (blkl c k ((s + 1) + 1) = blkl c k (s + 1) ++ [.int .i64 (pos c (s + 1))] ∧ cntR c k ((s + 1) + 1) = cntR c k (s + 1) + 1) := blk_take hbk
                  have hcle := cntR_le c k (s + 1)
                  go_wp2_with (at_builtin; refine wpList_append_own_at _ rfl (.tmp 87) (.tmp 92) 45 rfl w1.heap.size 3 i (.int .i64 0) 1 8 Tryz.underlying45 hi hz0 hz1 hz2 rfl (by decide) _ (cntR c k (s + 1)) _ rfl ((own_drewN HO.out _).alloc _) ⟨_, 0, none⟩ 1 1 [.int .i64 (pos c (s + 1))] rfl rfl (cell_one_new _ _ _) ?c2 (by unfold maxLen; omega) (by omega) (by simp; omega) ?_)
                  case c2 => intro u hu; simp at hu; subst hu; rfl
                  intro v' w2 hown' hgrow _ hat
                  have hB2 := ((below_drewN hB nd).alloc (by simpa using hsz) (.cells #[.int .i64 (pos c (s + 1))] 3)).grown hgrow (by simp; omega) (fun j hj => by have := (HO.out.lt j hj).1; omega)
                  have HO1 : Hid (w2.ownsRow w1.heap.size 3 1 v' (cntR c k ((s + 1) + 1)) (blkl c k ((s + 1) + 1))) := by
                    show w2.ownsRow w1.heap.size 3 1 v' (cntR c k ((s + 1) + 1)) (blkl c k ((s + 1) + 1))
                    rw [HN.out.1, HN.out.2]; exact hown'
                  have HC1 : Hid (∀ i, i < k → w2.cell? ⟨g, i, none⟩ = some (.int .i64 (pos c i))) := fun i hi => by
                    refine hgrow.cell (a := ⟨g, i, none⟩) ?_ (own_ne HO.out hgw)
                    rw [World.cell?_alloc_past _ _ _ (by simpa using Nat.lt_of_lt_of_le hgw hsz1)]
                    exact HC.out i hi
                  have hs2 : w1.heap.size ≤ w2.heap.size := by have := hgrow.size; simp at this; omega
                  clear hown' hgrow hat
                  go_wp2_with fail
                  go_roundw
                  case rel => exact ⟨(s + 1) + 1, by omega, by go_num, HO1.out, HC1.out, hB2, hs2⟩
                  case measure => simp [intOf]; omega
          | false =>
          cases q1 : (x == 14) with
          | true =>
            have HB1 : rbegAt c (s + 1) 0 = true := by rw [hb0]; unfold endsB; rw [q0, q1]; rfl
            have HB0 : Hid (rbegAt c (s + 1) 0 = true) := HB1
            clear HB1
            clear hb0
            go_wp2_with fail
            go_loopw [7, 9] (fun b i wx => ∃ k nd : Nat, k ≤ M ∧ i = .int .i64 k ∧ b = .bool (rbegAt c (s + 1) k) ∧ wx = wr.drewN nd) (fun _ i _ => M - (intOf i).toNat)
            case atStart => exact ⟨0, 0, by omega, rfl, by first | exact congrArg Value.bool HB0.out.symm | rw [HB0.out], rfl⟩
            case round =>
              obtain ⟨k, nd, hk, rfl, rfl, rfl⟩ := hrel
              by_cases hkl : k < M
              · obtain ⟨kk, A, _⟩ := S.at hkl
                have ht2 := (HC.out k hkl)
                have ht3 := (HC.out (s + 1) hlt)
                have hck := (C.below hB).cell (pos c k) A.lt
                rw [A.op] at hck
                have h5 := A.lt
                have h6 := A.fits
                have hop := A.op
                have hi3 : (k : Int) < (M : Int) := by omega
                have hi4 : ((pos c k : Nat) : Int) < (L : Int) := by omega
                have hi7 : ((s + 1) : Int) < (M : Int) := by omega
                clear A
                cases hbk : rbegAt c (s + 1) k with
                | true =>
                  have HN : Hid (rbegAt c (s + 1) (k + 1) = true) := by
                    show rbegAt c (s + 1) (k + 1) = true
                    rw [rbegAt_succ, hbk]; rfl
                  clear hop h6
                  go_wp2_with fail
                  go_quiet (fail)
                  go_wp2_with fail
                  go_roundw
                  case rel => exact ⟨k + 1, nd + nq, by omega, by go_num, by rw [HN.out], rfl⟩
                  case measure => simp [intOf]; omega
                | false =>
                  cases hlb : leadsB (kk : Int) with
                  | false =>
                    have HN : Hid (rbegAt c (s + 1) (k + 1) = false) := by
                      show rbegAt c (s + 1) (k + 1) = false
                      rw [rbegAt_succ, hbk, hop, hlb]; rfl
                    have hq : ((kk : Int) == 14) = false ∧ ((kk : Int) == 15) = false := by unfold leadsB at hlb; simpa only [Bool.or_eq_false_iff] using hlb
                    obtain ⟨k14, k15⟩ := hq
                    clear hop h6 hlb
                    go_wp2_with fail
                    go_quiet (fail)
                    go_wp2_with fail
                    go_roundw
                    case rel => exact ⟨k + 1, nd + nq, by omega, by go_num, by rw [HN.out], rfl⟩
                    case measure => simp [intOf]; omega
                  | true =>
                    have hsz2 := (leads_two hlb).1
                    have hby2 := S.byte (pos c k + 1) (by omega)
                    obtain ⟨X, hX⟩ : ∃ X : Nat, c (pos c k + 1) = (X : Int) := ⟨(c (pos c k + 1)).toNat, by omega⟩
                    have hck2 := (C.below hB).cell (pos c k + 1) (by omega)
                    rw [hX] at hck2
                    have hi5 : (pos c k : Int) + 1 < (L : Int) := by omega
                    have hi6 : (X : Int) ≤ 255 := by omega
                    have HN : Hid (rbegAt c (s + 1) (k + 1) = ((X : Int) == ((pos c (s + 1) : Nat) : Int))) := by
                      show rbegAt c (s + 1) (k + 1) = _
                      rw [rbegAt_succ, hbk, hop, hlb, hX]; simp
                    have hq : ((kk : Int) == 14) = true ∨ ((kk : Int) == 14) = false ∧ ((kk : Int) == 15) = true := by
                      unfold leadsB at hlb
                      cases hk : ((kk : Int) == 14) with
                      | true => exact Or.inl rfl
                      | false => rw [hk] at hlb; exact Or.inr ⟨rfl, hlb⟩
                    clear hop hsz2 hX hby2 hlb h6
                    rcases hq with k14 | ⟨k14, k15⟩
                    all_goals
                      go_wp2_with fail
                      go_quiet (fail)
                      go_wp2_with fail
                      go_roundw
                      case rel => exact ⟨k + 1, nd + nq, by omega, by go_num, by rw [HN.out], rfl⟩
                      case measure => simp [intOf]; omega
              · have e : k = M := by omega
                subst e
                have ht3 := (HC.out (s + 1) hlt)
                have hi7 : ((s + 1) : Int) < (k : Int) := by omega
                cases hbk : rbegAt c (s + 1) k with
                | false =>
                  have HN : Hid (blkl c k ((s + 1) + 1) = blkl c k (s + 1) ∧ cntR c k ((s + 1) + 1) = cntR c k (s + 1)) := blk_skip hbk
                  go_wp2_with fail
                  go_roundw
                  case rel => exact ⟨(s + 1) + 1, by omega, by go_num, by rw [HN.out.1, HN.out.2]; exact HO.out, HC.out, below_drewN hB _, hsz1⟩
                  case measure => simp [intOf]; omega
                | true =>
                  have HN : Hid (blkl c k ((s + 1) + 1) = blkl c k (s + 1) ++ [.int .i64 (pos c (s + 1))] ∧ cntR c k ((s + 1) + 1) = cntR c k (s + 1) + 1) := blk_take hbk
                  have hcle := cntR_le c k (s + 1)
                  go_wp2_with (at_builtin; refine wpList_append_own_at _ rfl (.tmp 87) (.tmp 92) 45 rfl w1.heap.size 3 i (.int .i64 0) 1 8 Tryz.underlying45 hi hz0 hz1 hz2 rfl (by decide) _ (cntR c k (s + 1)) _ rfl ((own_drewN HO.out _).alloc _) ⟨_, 0, none⟩ 1 1 [.int .i64 (pos c (s + 1))] rfl rfl (cell_one_new _ _ _) ?c2 (by unfold maxLen; omega) (by omega) (by simp; omega) ?_)
                  case c2 => intro u hu; simp at hu; subst hu; rfl
                  intro v' w2 hown' hgrow _ hat
                  have hB2 := ((below_drewN hB nd).alloc (by simpa using hsz) (.cells #[.int .i64 (pos c (s + 1))] 3)).grown hgrow (by simp; omega) (fun j hj => by have := (HO.out.lt j hj).1; omega)
                  have HO1 : Hid (w2.ownsRow w1.heap.size 3 1 v' (cntR c k ((s + 1) + 1)) (blkl c k ((s + 1) + 1))) := by
                    show w2.ownsRow w1.heap.size 3 1 v' (cntR c k ((s + 1) + 1)) (blkl c k ((s + 1) + 1))
                    rw [HN.out.1, HN.out.2]; exact hown'
                  have HC1 : Hid (∀ i, i < k → w2.cell? ⟨g, i, none⟩ = some (.int .i64 (pos c i))) := fun i hi => by
                    refine hgrow.cell (a := ⟨g, i, none⟩) ?_ (own_ne HO.out hgw)
                    rw [World.cell?_alloc_past _ _ _ (by simpa using Nat.lt_of_lt_of_le hgw hsz1)]
                    exact HC.out i hi
                  have hs2 : w1.heap.size ≤ w2.heap.size := by have := hgrow.size; simp at this; omega
                  clear hown' hgrow hat
                  go_wp2_with fail
                  go_roundw
                  case rel => exact ⟨(s + 1) + 1, by omega, by go_num, HO1.out, HC1.out, hB2, hs2⟩
                  case measure => simp [intOf]; omega
          | false =>
          cases q2 : (x == 15) with
          | true =>
            have HB1 : rbegAt c (s + 1) 0 = true := by rw [hb0]; unfold endsB leadsB; rw [q0, q1, q2]; simp
            have HB0 : Hid (rbegAt c (s + 1) 0 = true) := HB1
            clear HB1
            clear hb0
            go_wp2_with fail
            go_loopw [7, 9] (fun b i wx => ∃ k nd : Nat, k ≤ M ∧ i = .int .i64 k ∧ b = .bool (rbegAt c (s + 1) k) ∧ wx = wr.drewN nd) (fun _ i _ => M - (intOf i).toNat)
            case atStart => exact ⟨0, 0, by omega, rfl, by first | exact congrArg Value.bool HB0.out.symm | rw [HB0.out], rfl⟩
            case round =>
              obtain ⟨k, nd, hk, rfl, rfl, rfl⟩ := hrel
              by_cases hkl : k < M
              · obtain ⟨kk, A, _⟩ := S.at hkl
                have ht2 := (HC.out k hkl)
                have ht3 := (HC.out (s + 1) hlt)
                have hck := (C.below hB).cell (pos c k) A.lt
                rw [A.op] at hck
                have h5 := A.lt
                have h6 := A.fits
                have hop := A.op
                have hi3 : (k : Int) < (M : Int) := by omega
                have hi4 : ((pos c k : Nat) : Int) < (L : Int) := by omega
                have hi7 : ((s + 1) : Int) < (M : Int) := by omega
                clear A
                cases hbk : rbegAt c (s + 1) k with
                | true =>
                  have HN : Hid (rbegAt c (s + 1) (k + 1) = true) := by
                    show rbegAt c (s + 1) (k + 1) = true
                    rw [rbegAt_succ, hbk]; rfl
                  clear hop h6
                  go_wp2_with fail
                  go_quiet (fail)
                  go_wp2_with fail
                  go_roundw
                  case rel => exact ⟨k + 1, nd + nq, by omega, by go_num, by rw [HN.out], rfl⟩
                  case measure => simp [intOf]; omega
                | false =>
                  cases hlb : leadsB (kk : Int) with
                  | false =>
                    have HN : Hid (rbegAt c (s + 1) (k + 1) = false) := by
                      show rbegAt c (s + 1) (k + 1) = false
                      rw [rbegAt_succ, hbk, hop, hlb]; rfl
                    have hq : ((kk : Int) == 14) = false ∧ ((kk : Int) == 15) = false := by unfold leadsB at hlb; simpa only [Bool.or_eq_false_iff] using hlb
                    obtain ⟨k14, k15⟩ := hq
                    clear hop h6 hlb
                    go_wp2_with fail
                    go_quiet (fail)
                    go_wp2_with fail
                    go_roundw
                    case rel => exact ⟨k + 1, nd + nq, by omega, by go_num, by rw [HN.out], rfl⟩
                    case measure => simp [intOf]; omega
                  | true =>
                    have hsz2 := (leads_two hlb).1
                    have hby2 := S.byte (pos c k + 1) (by omega)
                    obtain ⟨X, hX⟩ : ∃ X : Nat, c (pos c k + 1) = (X : Int) := ⟨(c (pos c k + 1)).toNat, by omega⟩
                    have hck2 := (C.below hB).cell (pos c k + 1) (by omega)
                    rw [hX] at hck2
                    have hi5 : (pos c k : Int) + 1 < (L : Int) := by omega
                    have hi6 : (X : Int) ≤ 255 := by omega
                    have HN : Hid (rbegAt c (s + 1) (k + 1) = ((X : Int) == ((pos c (s + 1) : Nat) : Int))) := by
                      show rbegAt c (s + 1) (k + 1) = _
                      rw [rbegAt_succ, hbk, hop, hlb, hX]; simp
                    have hq : ((kk : Int) == 14) = true ∨ ((kk : Int) == 14) = false ∧ ((kk : Int) == 15) = true := by
                      unfold leadsB at hlb
                      cases hk : ((kk : Int) == 14) with
                      | true => exact Or.inl rfl
                      | false => rw [hk] at hlb; exact Or.inr ⟨rfl, hlb⟩
                    clear hop hsz2 hX hby2 hlb h6
                    rcases hq with k14 | ⟨k14, k15⟩
                    all_goals
                      go_wp2_with fail
                      go_quiet (fail)
                      go_wp2_with fail
                      go_roundw
                      case rel => exact ⟨k + 1, nd + nq, by omega, by go_num, by rw [HN.out], rfl⟩
                      case measure => simp [intOf]; omega
              · have e : k = M := by omega
                subst e
                have ht3 := (HC.out (s + 1) hlt)
                have hi7 : ((s + 1) : Int) < (k : Int) := by omega
                cases hbk : rbegAt c (s + 1) k with
                | false =>
                  have HN : Hid (blkl c k ((s + 1) + 1) = blkl c k (s + 1) ∧ cntR c k ((s + 1) + 1) = cntR c k (s + 1)) := blk_skip hbk
                  go_wp2_with fail
                  go_roundw
                  case rel => exact ⟨(s + 1) + 1, by omega, by go_num, by rw [HN.out.1, HN.out.2]; exact HO.out, HC.out, below_drewN hB _, hsz1⟩
                  case measure => simp [intOf]; omega
                | true =>
                  have HN : Hid (blkl c k ((s + 1) + 1) = blkl c k (s + 1) ++ [.int .i64 (pos c (s + 1))] ∧ cntR c k ((s + 1) + 1) = cntR c k (s + 1) + 1) := blk_take hbk
                  have hcle := cntR_le c k (s + 1)
                  go_wp2_with (at_builtin; refine wpList_append_own_at _ rfl (.tmp 87) (.tmp 92) 45 rfl w1.heap.size 3 i (.int .i64 0) 1 8 Tryz.underlying45 hi hz0 hz1 hz2 rfl (by decide) _ (cntR c k (s + 1)) _ rfl ((own_drewN HO.out _).alloc _) ⟨_, 0, none⟩ 1 1 [.int .i64 (pos c (s + 1))] rfl rfl (cell_one_new _ _ _) ?c2 (by unfold maxLen; omega) (by omega) (by simp; omega) ?_)
                  case c2 => intro u hu; simp at hu; subst hu; rfl
                  intro v' w2 hown' hgrow _ hat
                  have hB2 := ((below_drewN hB nd).alloc (by simpa using hsz) (.cells #[.int .i64 (pos c (s + 1))] 3)).grown hgrow (by simp; omega) (fun j hj => by have := (HO.out.lt j hj).1; omega)
                  have HO1 : Hid (w2.ownsRow w1.heap.size 3 1 v' (cntR c k ((s + 1) + 1)) (blkl c k ((s + 1) + 1))) := by
                    show w2.ownsRow w1.heap.size 3 1 v' (cntR c k ((s + 1) + 1)) (blkl c k ((s + 1) + 1))
                    rw [HN.out.1, HN.out.2]; exact hown'
                  have HC1 : Hid (∀ i, i < k → w2.cell? ⟨g, i, none⟩ = some (.int .i64 (pos c i))) := fun i hi => by
                    refine hgrow.cell (a := ⟨g, i, none⟩) ?_ (own_ne HO.out hgw)
                    rw [World.cell?_alloc_past _ _ _ (by simpa using Nat.lt_of_lt_of_le hgw hsz1)]
                    exact HC.out i hi
                  have hs2 : w1.heap.size ≤ w2.heap.size := by have := hgrow.size; simp at this; omega
                  clear hown' hgrow hat
                  go_wp2_with fail
                  go_roundw
                  case rel => exact ⟨(s + 1) + 1, by omega, by go_num, HO1.out, HC1.out, hB2, hs2⟩
                  case measure => simp [intOf]; omega
          | false =>
          cases q3 : (x == 19) with
          | true =>
            have HB1 : rbegAt c (s + 1) 0 = true := by rw [hb0]; unfold endsB; rw [q0, q1, q3]; rfl
            have HB0 : Hid (rbegAt c (s + 1) 0 = true) := HB1
            clear HB1
            clear hb0
            go_wp2_with fail
            go_loopw [7, 9] (fun b i wx => ∃ k nd : Nat, k ≤ M ∧ i = .int .i64 k ∧ b = .bool (rbegAt c (s + 1) k) ∧ wx = wr.drewN nd) (fun _ i _ => M - (intOf i).toNat)
            case atStart => exact ⟨0, 0, by omega, rfl, by first | exact congrArg Value.bool HB0.out.symm | rw [HB0.out], rfl⟩
            case round =>
              obtain ⟨k, nd, hk, rfl, rfl, rfl⟩ := hrel
              by_cases hkl : k < M
              · obtain ⟨kk, A, _⟩ := S.at hkl
                have ht2 := (HC.out k hkl)
                have ht3 := (HC.out (s + 1) hlt)
                have hck := (C.below hB).cell (pos c k) A.lt
                rw [A.op] at hck
                have h5 := A.lt
                have h6 := A.fits
                have hop := A.op
                have hi3 : (k : Int) < (M : Int) := by omega
                have hi4 : ((pos c k : Nat) : Int) < (L : Int) := by omega
                have hi7 : ((s + 1) : Int) < (M : Int) := by omega
                clear A
                cases hbk : rbegAt c (s + 1) k with
                | true =>
                  have HN : Hid (rbegAt c (s + 1) (k + 1) = true) := by
                    show rbegAt c (s + 1) (k + 1) = true
                    rw [rbegAt_succ, hbk]; rfl
                  clear hop h6
                  go_wp2_with fail
                  go_quiet (fail)
                  go_wp2_with fail
                  go_roundw
                  case rel => exact ⟨k + 1, nd + nq, by omega, by go_num, by rw [HN.out], rfl⟩
                  case measure => simp [intOf]; omega
                | false =>
                  cases hlb : leadsB (kk : Int) with
                  | false =>
                    have HN : Hid (rbegAt c (s + 1) (k + 1) = false) := by
                      show rbegAt c (s + 1) (k + 1) = false
                      rw [rbegAt_succ, hbk, hop, hlb]; rfl
                    have hq : ((kk : Int) == 14) = false ∧ ((kk : Int) == 15) = false := by unfold leadsB at hlb; simpa only [Bool.or_eq_false_iff] using hlb
                    obtain ⟨k14, k15⟩ := hq
                    clear hop h6 hlb
                    go_wp2_with fail
                    go_quiet (fail)
                    go_wp2_with fail
                    go_roundw
                    case rel => exact ⟨k + 1, nd + nq, by omega, by go_num, by rw [HN.out], rfl⟩
                    case measure => simp [intOf]; omega
                  | true =>
                    have hsz2 := (leads_two hlb).1
                    have hby2 := S.byte (pos c k + 1) (by omega)
                    obtain ⟨X, hX⟩ : ∃ X : Nat, c (pos c k + 1) = (X : Int) := ⟨(c (pos c k + 1)).toNat, by omega⟩
                    have hck2 := (C.below hB).cell (pos c k + 1) (by omega)
                    rw [hX] at hck2
                    have hi5 : (pos c k : Int) + 1 < (L : Int) := by omega
                    have hi6 : (X : Int) ≤ 255 := by omega
                    have HN : Hid (rbegAt c (s + 1) (k + 1) = ((X : Int) == ((pos c (s + 1) : Nat) : Int))) := by
                      show rbegAt c (s + 1) (k + 1) = _
                      rw [rbegAt_succ, hbk, hop, hlb, hX]; simp
                    have hq : ((kk : Int) == 14) = true ∨ ((kk : Int) == 14) = false ∧ ((kk : Int) == 15) = true := by
                      unfold leadsB at hlb
                      cases hk : ((kk : Int) == 14) with
                      | true => exact Or.inl rfl
                      | false => rw [hk] at hlb; exact Or.inr ⟨rfl, hlb⟩
                    clear hop hsz2 hX hby2 hlb h6
                    rcases hq with k14 | ⟨k14, k15⟩
                    all_goals
                      go_wp2_with fail
                      go_quiet (fail)
                      go_wp2_with fail
                      go_roundw
                      case rel => exact ⟨k + 1, nd + nq, by omega, by go_num, by rw [HN.out], rfl⟩
                      case measure => simp [intOf]; omega
              · have e : k = M := by omega
                subst e
                have ht3 := (HC.out (s + 1) hlt)
                have hi7 : ((s + 1) : Int) < (k : Int) := by omega
                cases hbk : rbegAt c (s + 1) k with
                | false =>
                  have HN : Hid (blkl c k ((s + 1) + 1) = blkl c k (s + 1) ∧ cntR c k ((s + 1) + 1) = cntR c k (s + 1)) := blk_skip hbk
                  go_wp2_with fail
                  go_roundw
                  case rel => exact ⟨(s + 1) + 1, by omega, by go_num, by rw [HN.out.1, HN.out.2]; exact HO.out, HC.out, below_drewN hB _, hsz1⟩
                  case measure => simp [intOf]; omega
                | true =>
                  have HN : Hid (blkl c k ((s + 1) + 1) = blkl c k (s + 1) ++ [.int .i64 (pos c (s + 1))] ∧ cntR c k ((s + 1) + 1) = cntR c k (s + 1) + 1) := blk_take hbk
                  have hcle := cntR_le c k (s + 1)
                  go_wp2_with (at_builtin; refine wpList_append_own_at _ rfl (.tmp 87) (.tmp 92) 45 rfl w1.heap.size 3 i (.int .i64 0) 1 8 Tryz.underlying45 hi hz0 hz1 hz2 rfl (by decide) _ (cntR c k (s + 1)) _ rfl ((own_drewN HO.out _).alloc _) ⟨_, 0, none⟩ 1 1 [.int .i64 (pos c (s + 1))] rfl rfl (cell_one_new _ _ _) ?c2 (by unfold maxLen; omega) (by omega) (by simp; omega) ?_)
                  case c2 => intro u hu; simp at hu; subst hu; rfl
                  intro v' w2 hown' hgrow _ hat
                  have hB2 := ((below_drewN hB nd).alloc (by simpa using hsz) (.cells #[.int .i64 (pos c (s + 1))] 3)).grown hgrow (by simp; omega) (fun j hj => by have := (HO.out.lt j hj).1; omega)
                  have HO1 : Hid (w2.ownsRow w1.heap.size 3 1 v' (cntR c k ((s + 1) + 1)) (blkl c k ((s + 1) + 1))) := by
                    show w2.ownsRow w1.heap.size 3 1 v' (cntR c k ((s + 1) + 1)) (blkl c k ((s + 1) + 1))
                    rw [HN.out.1, HN.out.2]; exact hown'
                  have HC1 : Hid (∀ i, i < k → w2.cell? ⟨g, i, none⟩ = some (.int .i64 (pos c i))) := fun i hi => by
                    refine hgrow.cell (a := ⟨g, i, none⟩) ?_ (own_ne HO.out hgw)
                    rw [World.cell?_alloc_past _ _ _ (by simpa using Nat.lt_of_lt_of_le hgw hsz1)]
                    exact HC.out i hi
                  have hs2 : w1.heap.size ≤ w2.heap.size := by have := hgrow.size; simp at this; omega
                  clear hown' hgrow hat
                  go_wp2_with fail
                  go_roundw
                  case rel => exact ⟨(s + 1) + 1, by omega, by go_num, HO1.out, HC1.out, hB2, hs2⟩
                  case measure => simp [intOf]; omega
          | false =>
            have HB1 : rbegAt c (s + 1) 0 = false := by rw [hb0]; unfold endsB leadsB; rw [q0, q1, q2, q3]; rfl
            have HB0 : Hid (rbegAt c (s + 1) 0 = false) := HB1
            clear HB1
            clear hb0
            go_wp2_with fail
            go_loopw [7, 9] (fun b i wx => ∃ k nd : Nat, k ≤ M ∧ i = .int .i64 k ∧ b = .bool (rbegAt c (s + 1) k) ∧ wx = wr.drewN nd) (fun _ i _ => M - (intOf i).toNat)
            case atStart => exact ⟨0, 0, by omega, rfl, by first | exact congrArg Value.bool HB0.out.symm | rw [HB0.out], rfl⟩
            case round =>
              obtain ⟨k, nd, hk, rfl, rfl, rfl⟩ := hrel
              by_cases hkl : k < M
              · obtain ⟨kk, A, _⟩ := S.at hkl
                have ht2 := (HC.out k hkl)
                have ht3 := (HC.out (s + 1) hlt)
                have hck := (C.below hB).cell (pos c k) A.lt
                rw [A.op] at hck
                have h5 := A.lt
                have h6 := A.fits
                have hop := A.op
                have hi3 : (k : Int) < (M : Int) := by omega
                have hi4 : ((pos c k : Nat) : Int) < (L : Int) := by omega
                have hi7 : ((s + 1) : Int) < (M : Int) := by omega
                clear A
                cases hbk : rbegAt c (s + 1) k with
                | true =>
                  have HN : Hid (rbegAt c (s + 1) (k + 1) = true) := by
                    show rbegAt c (s + 1) (k + 1) = true
                    rw [rbegAt_succ, hbk]; rfl
                  clear hop h6
                  go_wp2_with fail
                  go_quiet (fail)
                  go_wp2_with fail
                  go_roundw
                  case rel => exact ⟨k + 1, nd + nq, by omega, by go_num, by rw [HN.out], rfl⟩
                  case measure => simp [intOf]; omega
                | false =>
                  cases hlb : leadsB (kk : Int) with
                  | false =>
                    have HN : Hid (rbegAt c (s + 1) (k + 1) = false) := by
                      show rbegAt c (s + 1) (k + 1) = false
                      rw [rbegAt_succ, hbk, hop, hlb]; rfl
                    have hq : ((kk : Int) == 14) = false ∧ ((kk : Int) == 15) = false := by unfold leadsB at hlb; simpa only [Bool.or_eq_false_iff] using hlb
                    obtain ⟨k14, k15⟩ := hq
                    clear hop h6 hlb
                    go_wp2_with fail
                    go_quiet (fail)
                    go_wp2_with fail
                    go_roundw
                    case rel => exact ⟨k + 1, nd + nq, by omega, by go_num, by rw [HN.out], rfl⟩
                    case measure => simp [intOf]; omega
                  | true =>
                    have hsz2 := (leads_two hlb).1
                    have hby2 := S.byte (pos c k + 1) (by omega)
                    obtain ⟨X, hX⟩ : ∃ X : Nat, c (pos c k + 1) = (X : Int) := ⟨(c (pos c k + 1)).toNat, by omega⟩
                    have hck2 := (C.below hB).cell (pos c k + 1) (by omega)
                    rw [hX] at hck2
                    have hi5 : (pos c k : Int) + 1 < (L : Int) := by omega
                    have hi6 : (X : Int) ≤ 255 := by omega
                    have HN : Hid (rbegAt c (s + 1) (k + 1) = ((X : Int) == ((pos c (s + 1) : Nat) : Int))) := by
                      show rbegAt c (s + 1) (k + 1) = _
                      rw [rbegAt_succ, hbk, hop, hlb, hX]; simp
                    have hq : ((kk : Int) == 14) = true ∨ ((kk : Int) == 14) = false ∧ ((kk : Int) == 15) = true := by
                      unfold leadsB at hlb
                      cases hk : ((kk : Int) == 14) with
                      | true => exact Or.inl rfl
                      | false => rw [hk] at hlb; exact Or.inr ⟨rfl, hlb⟩
                    clear hop hsz2 hX hby2 hlb h6
                    rcases hq with k14 | ⟨k14, k15⟩
                    all_goals
                      go_wp2_with fail
                      go_quiet (fail)
                      go_wp2_with fail
                      go_roundw
                      case rel => exact ⟨k + 1, nd + nq, by omega, by go_num, by rw [HN.out], rfl⟩
                      case measure => simp [intOf]; omega
              · have e : k = M := by omega
                subst e
                have ht3 := (HC.out (s + 1) hlt)
                have hi7 : ((s + 1) : Int) < (k : Int) := by omega
                cases hbk : rbegAt c (s + 1) k with
                | false =>
                  have HN : Hid (blkl c k ((s + 1) + 1) = blkl c k (s + 1) ∧ cntR c k ((s + 1) + 1) = cntR c k (s + 1)) := blk_skip hbk
                  go_wp2_with fail
                  go_roundw
                  case rel => exact ⟨(s + 1) + 1, by omega, by go_num, by rw [HN.out.1, HN.out.2]; exact HO.out, HC.out, below_drewN hB _, hsz1⟩
                  case measure => simp [intOf]; omega
                | true =>
                  have HN : Hid (blkl c k ((s + 1) + 1) = blkl c k (s + 1) ++ [.int .i64 (pos c (s + 1))] ∧ cntR c k ((s + 1) + 1) = cntR c k (s + 1) + 1) := blk_take hbk
                  have hcle := cntR_le c k (s + 1)
                  go_wp2_with (at_builtin; refine wpList_append_own_at _ rfl (.tmp 87) (.tmp 92) 45 rfl w1.heap.size 3 i (.int .i64 0) 1 8 Tryz.underlying45 hi hz0 hz1 hz2 rfl (by decide) _ (cntR c k (s + 1)) _ rfl ((own_drewN HO.out _).alloc _) ⟨_, 0, none⟩ 1 1 [.int .i64 (pos c (s + 1))] rfl rfl (cell_one_new _ _ _) ?c2 (by unfold maxLen; omega) (by omega) (by simp; omega) ?_)
                  case c2 => intro u hu; simp at hu; subst hu; rfl
                  intro v' w2 hown' hgrow _ hat
                  have hB2 := ((below_drewN hB nd).alloc (by simpa using hsz) (.cells #[.int .i64 (pos c (s + 1))] 3)).grown hgrow (by simp; omega) (fun j hj => by have := (HO.out.lt j hj).1; omega)
                  have HO1 : Hid (w2.ownsRow w1.heap.size 3 1 v' (cntR c k ((s + 1) + 1)) (blkl c k ((s + 1) + 1))) := by
                    show w2.ownsRow w1.heap.size 3 1 v' (cntR c k ((s + 1) + 1)) (blkl c k ((s + 1) + 1))
                    rw [HN.out.1, HN.out.2]; exact hown'
                  have HC1 : Hid (∀ i, i < k → w2.cell? ⟨g, i, none⟩ = some (.int .i64 (pos c i))) := fun i hi => by
                    refine hgrow.cell (a := ⟨g, i, none⟩) ?_ (own_ne HO.out hgw)
                    rw [World.cell?_alloc_past _ _ _ (by simpa using Nat.lt_of_lt_of_le hgw hsz1)]
                    exact HC.out i hi
                  have hs2 : w1.heap.size ≤ w2.heap.size := by have := hgrow.size; simp at this; omega
                  clear hown' hgrow hat
                  go_wp2_with fail
                  go_roundw
                  case rel => exact ⟨(s + 1) + 1, by omega, by go_num, HO1.out, HC1.out, hB2, hs2⟩
                  case measure => simp [intOf]; omega
      · have e : t = M := by omega
        subst e
        clear HO
        go_wp2_with fail
        go_ret
        exact ⟨_, own_lower hown hw1, rfl, hB⟩
end Go.Proofs.YtflenkppcclclaaGreatDoor

