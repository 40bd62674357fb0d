import Derived.Test.YtebnlafjepfkdaaDoorTgt
namespace Go.Proofs.YtebnlafjepfkdaaDoor
open Go.RowKit

def behindB (c : Nat → Int) (t : Nat) : Bool := if t = 0 then true else endsB (c (pos c (t - 1))) || leadsB (c (pos c (t - 1)))
/-- A block begins at i, as far as the first m instructions say. -/
def bgn (c : Nat → Int) (m i : Nat) : Bool := (List.range m).any fun t => (behindB c t && pos c t == i) || (leadsB (c (pos c t)) && c (pos c t + 1) == (i : Int))
theorem bgn_succ (c : Nat → Int) (m i : Nat) : bgn c (m + 1) i = (bgn c m i || ((behindB c m && pos c m == i) || (leadsB (c (pos c m)) && c (pos c m + 1) == (i : Int)))) := by
  unfold bgn
  rw [List.range_succ, List.any_append]
  simp

set_option maxHeartbeats 1000000 in
theorem beginnings_any (w : World) (cb co L cap N : Nat) (c : Nat → Int) (V : VP c L N) (C : Laid w cb co L cap c) (hT : Tab w) :
    Calls Tryd.prog 27 #[.slice (some ⟨cb, co, none⟩) L cap] w fun e w' => e = .returned (.slice (some ⟨w.heap.size, 0, none⟩) L L) ∧ w'.heap[w.heap.size]? = some (.cells (bl L (bgn c N)).toArray 4 (0, 0)) ∧ Below w.heap.size w w' := by
  have hfs := field_sz
  have hmost := V.most
  obtain ⟨w1, hmk, hh1, hB1⟩ := made w 60 4 (.bool false) 1 L Tryd.underlying60 Tryd.infoBool rfl (by omega) (by omega)
  rw [bl_none] at hh1
  have HH1 : Hid (w1.heap[w.heap.size]? = some (.cells (bl L (fun _ => false)).toArray 4 (0, 0))) := hh1
  clear hh1
  go_enter Tryd.func27, Tryd.ntmps27
  go_wp2
  clear hmk
  go_loopw [4, 5] (fun b i wr => ∃ m : Nat, m ≤ N ∧ i = .int .i64 (pos c m) ∧ b = .bool (behindB c m) ∧ wr.heap[w.heap.size]? = some (.cells (bl L (bgn c m)).toArray 4 (0, 0)) ∧ Below w.heap.size w wr) (fun _ i _ => L - (intOf i).toNat)
  case atStart => exact ⟨0, by omega, rfl, rfl, HH1.out, hB1⟩
  case round =>
    obtain ⟨m, hm, rfl, rfl, hh, hB⟩ := hrel
    by_cases hlt : m < N
    · obtain ⟨kk, A, hsucc⟩ := V.at hlt
      have hck := C.at hB A.lt
      rw [A.op] at hck
      have h1 := A.lt
      have h2 := A.fits
      have h3 := A.sz
      have h4 := A.s1
      have h5 := A.s2
      have h6 := A.pos
      have h7 := A.most
      have hk := A.k
      have hop := A.op
      have HS : Hid (pos c (m + 1) = pos c m + szOf kk) := hsucc
      have HZ : Hid (((pos c m + szOf kk : Nat) : Int) = (pos c m : Int) + shp (kk * 3)) := h3
      have hi1 : (pos c m : Int) < (L : Int) := by omega
      have HBH : Hid (behindB c (m + 1) = (endsB (kk : Int) || leadsB (kk : Int))) := by
        show behindB c (m + 1) = _
        unfold behindB
        rw [if_neg (by omega), Nat.add_sub_cancel, hop]
      have hcb := C.blk
      have hlt2 : w.heap.size < wr.heap.size := (Array.getElem?_eq_some_iff.1 hh).1
      -- the row behind the first store
      obtain ⟨wa, hwa, hha, hBa⟩ : ∃ wa, wa = (if behindB c m then wr.setCell ⟨w.heap.size, pos c m, none⟩ (.bool true) else wr) ∧ wa.heap[w.heap.size]? = some (.cells (bl L (fun i => bgn c m i || (behindB c m && pos c m == i))).toArray 4 (0, 0)) ∧ Below w.heap.size w wa := by
        refine ⟨_, rfl, ?_, ?_⟩
        · cases hb : behindB c m
          · simp only [Bool.false_and, Bool.or_false]; exact hh
          · simp only [if_true, Bool.true_and]
            refine row_set hh _ _ (bl_set L _ _ _ _ (fun i _ => ?_))
            by_cases e : i = pos c m
            · subst e; simp
            · rw [if_neg e]; have : (pos c m == i) = false := by rw [beq_eq_false_iff_ne]; exact fun h => e h.symm
              simp [this]
        · cases hb : behindB c m
          · exact hB
          · exact hB.setCell (p := ⟨w.heap.size, pos c m, none⟩) (Nat.le_refl _) _
      have hszA : wa.heap.size = wr.heap.size := by rw [hwa]; split <;> simp
      have fa : ∀ p, wa.frozen? ⟨w.heap.size, p, none⟩ = false := fun p => frozen_of_row wa w.heap.size p _ _ hha
      have ca : ∀ p, p < L → ∃ b, wa.cell? ⟨w.heap.size, p, none⟩ = some (.bool b) := fun p hp => by
        rw [cell_of_row wa w.heap.size _ _ _ _ hha, List.getElem?_toArray, bl_get L _ _ hp]; exact ⟨_, rfl⟩
      have c1 : wr.cell? ⟨w.heap.size, pos c m, none⟩ = some (.bool (bgn c m (pos c m))) := by
        rw [cell_of_row wr w.heap.size _ _ _ _ hh, List.getElem?_toArray]; exact bl_get L _ _ h1
      have f1 := frozen_of_row wr w.heap.size (pos c m) _ _ hh
      have hcka := C.at hBa h1
      rw [hop] at hcka
      have hTa : Hid (Tab wa) := hT.below hBa
      cases hlb : leadsB (kk : Int) with
      | false =>
        have HR : Hid (wa.heap[w.heap.size]? = some (.cells (bl L (bgn c (m + 1))).toArray 4 (0, 0))) := by
          show wa.heap[w.heap.size]? = _
          rw [hha]
          have : (fun i => bgn c m i || (behindB c m && pos c m == i)) = bgn c (m + 1) := by
            funext i; rw [bgn_succ, hop, hlb]; simp
          rw [this]
        cases hbh : behindB c m with
        | false =>
          have hwr : wa = wr := by rw [hwa, hbh]; rfl
          subst hwr
          clear hsucc h3 A hop hh hha ca fa hwa
          cases hen : endsB (kk : Int)
          all_goals
            rw [hen, hlb] at HBH
            go_wp2_with (first | (go_at_call 30; refine (leads_any _ _).mono ?_; rintro e w' ⟨rfl, rfl⟩) | (go_at_call 40; refine (ends_any _ _).mono ?_; rintro e w' ⟨rfl, rfl⟩) | (go_at_call 29; refine (shapeOf_any kk (by omega) _ hTa.out).mono ?_; rintro e w' ⟨rfl, cc2, rfl⟩))
            go_roundw
            case rel => exact ⟨m + 1, by omega, by rw [HS.out, HZ.out], by rw [HBH.out]; rfl, by rw [Below.heap_alloc _ _ _ (by omega)]; exact HR.out, hBa.alloc (by have := hBa.size; omega) _⟩
            case measure => simp [intOf]; omega
        | true =>
          have hwr : wa = wr.setCell ⟨w.heap.size, pos c m, none⟩ (.bool true) := by rw [hwa, hbh]; rfl
          subst hwr
          clear hsucc h3 A hop hh hha ca fa hwa
          cases hen : endsB (kk : Int)
          all_goals
            rw [hen, hlb] at HBH
            go_wp2_with (first | (go_at_call 30; refine (leads_any _ _).mono ?_; rintro e w' ⟨rfl, rfl⟩) | (go_at_call 40; refine (ends_any _ _).mono ?_; rintro e w' ⟨rfl, rfl⟩) | (go_at_call 29; refine (shapeOf_any kk (by omega) _ hTa.out).mono ?_; rintro e w' ⟨rfl, cc2, rfl⟩))
            go_roundw
            case rel => exact ⟨m + 1, by omega, by rw [HS.out, HZ.out], by rw [HBH.out]; rfl, by rw [Below.heap_alloc _ _ _ (by omega)]; exact HR.out, hBa.alloc (by have := hBa.size; omega) _⟩
            case measure => simp [intOf]; omega
      | true =>
        obtain ⟨s, hs, hst⟩ := V.jump m hlt (by rw [hop]; exact hlb)
        have hsz2 : szOf kk = 2 := by
          unfold leadsB at hlb
          have : kk = 14 ∨ kk = 15 := by simp at hlb; omega
          rcases this with e | e <;> rw [e] <;> rfl
        have hck2 := C.at hBa (p := pos c m + 1) (by omega)
        rw [← hst] at hck2
        have hsL := V.lt hs
        have hi2 : (pos c s : Int) < (L : Int) := by omega
        have hi3 : (pos c m : Int) + 1 < (L : Int) := by omega
        have hi4 : (pos c s : Int) ≤ 255 := by omega
        obtain ⟨bs, cs⟩ := ca (pos c s) hsL
        have fs := fa (pos c s)
        have HR : Hid ((wa.setCell ⟨w.heap.size, pos c s, none⟩ (.bool true)).heap[w.heap.size]? = some (.cells (bl L (bgn c (m + 1))).toArray 4 (0, 0))) := by
          refine row_set hha _ _ (bl_set L _ _ _ _ (fun i _ => ?_))
          rw [bgn_succ, hop, hlb, ← hst]
          by_cases e : i = pos c s
          · subst e; simp
          · rw [if_neg e]
            have : ((pos c s : Int) == (i : Int)) = false := by rw [beq_eq_false_iff_ne]; omega
            simp [this]
        have hBb : Below w.heap.size w (wa.setCell ⟨w.heap.size, pos c s, none⟩ (.bool true)) := hBa.setCell (p := ⟨w.heap.size, pos c s, none⟩) (Nat.le_refl _) _
        have hckb : (wa.setCell ⟨w.heap.size, pos c s, none⟩ (.bool true)).cell? ⟨cb, co + pos c m, none⟩ = some (.int .u8 (kk : Int)) := by
          have := C.at hBb h1
          rw [hop] at this
          exact this
        have hTb : Hid (Tab (wa.setCell ⟨w.heap.size, pos c s, none⟩ (.bool true))) := hT.below hBb
        have HST : Hid ((pos c s : Int) = c (pos c m + 1)) := hst
        clear hst
        cases hbh : behindB c m with
        | false =>
          have hwr : wa = wr := by rw [hwa, hbh]; rfl
          subst hwr
          clear hsucc h3 A hop hh hha ca fa hwa
          cases hen : endsB (kk : Int)
          all_goals
            rw [hen, hlb] at HBH
            go_wp2_with (first | (go_at_call 30; refine (leads_any _ _).mono ?_; rintro e w' ⟨rfl, rfl⟩) | (go_at_call 40; refine (ends_any _ _).mono ?_; rintro e w' ⟨rfl, rfl⟩) | (go_at_call 29; refine (shapeOf_any kk (by omega) _ hTb.out).mono ?_; rintro e w' ⟨rfl, cc2, rfl⟩))
            go_roundw
            case rel => exact ⟨m + 1, by omega, by rw [HS.out, HZ.out], by rw [HBH.out]; rfl, by rw [Below.heap_alloc _ _ _ (by simp; omega)]; exact HR.out, hBb.alloc (by simp; omega) _⟩
            case measure => simp [intOf]; omega
        | true =>
          have hwr : wa = wr.setCell ⟨w.heap.size, pos c m, none⟩ (.bool true) := by rw [hwa, hbh]; rfl
          subst hwr
          clear hsucc h3 A hop hh hha ca fa hwa
          cases hen : endsB (kk : Int)
          all_goals
            rw [hen, hlb] at HBH
            go_wp2_with (first | (go_at_call 30; refine (leads_any _ _).mono ?_; rintro e w' ⟨rfl, rfl⟩) | (go_at_call 40; refine (ends_any _ _).mono ?_; rintro e w' ⟨rfl, rfl⟩) | (go_at_call 29; refine (shapeOf_any kk (by omega) _ hTb.out).mono ?_; rintro e w' ⟨rfl, cc2, rfl⟩))
            go_roundw
            case rel => exact ⟨m + 1, by omega, by rw [HS.out, HZ.out], by rw [HBH.out]; rfl, by rw [Below.heap_alloc _ _ _ (by simp; omega)]; exact HR.out, hBb.alloc (by simp; omega) _⟩
            case measure => simp [intOf]; omega
    · have e : m = N := by omega
      subst e
      rw [V.last]
      go_wp2
      go_ret
      exact ⟨rfl, hh, hB⟩
end Go.Proofs.YtebnlafjepfkdaaDoor
