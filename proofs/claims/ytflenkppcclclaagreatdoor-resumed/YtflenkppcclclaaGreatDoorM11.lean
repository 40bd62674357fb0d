import Derived.Test.YtflenkppcclclaaGreatDoorM10
import Derived.Test.YtflenkppcclclaaGreatDoorM08
import Derived.BigQuiet
namespace Go.Proofs.YtflenkppcclclaaGreatDoor
open Go.RowKit

/-- Where in the probed code stands what begins at p: its Probe, if it has one, ... -/
def qOf (f : Nat → Bool) (p : Nat) : Nat := p + 2 * cntB f p
/-- ... and the byte p itself. -/
def rOf (f : Nat → Bool) (p : Nat) : Nat := p + 2 * cntB f (p + 1)

theorem cntB_succ (f : Nat → Bool) (p : Nat) : cntB f (p + 1) = cntB f p + if f p then 1 else 0 := rfl
theorem q_zero (f : Nat → Bool) : qOf f 0 = 0 := rfl
theorem r_yes {f : Nat → Bool} {p : Nat} (h : f p = true) : rOf f p = qOf f p + 2 := by
  unfold rOf qOf; rw [cntB_succ, h, if_pos rfl]; omega
theorem r_no {f : Nat → Bool} {p : Nat} (h : f p = false) : rOf f p = qOf f p := by
  unfold rOf qOf; rw [cntB_succ, h]; simp
theorem q_succ (f : Nat → Bool) (p : Nat) : qOf f (p + 1) = rOf f p + 1 := by unfold rOf qOf; omega
theorem q_le_r (f : Nat → Bool) (p : Nat) : qOf f p ≤ rOf f p := by
  cases h : f p
  · rw [r_no h]; omega
  · rw [r_yes h]; omega
theorem q_mono (f : Nat → Bool) (p : Nat) : ∀ d, qOf f p ≤ qOf f (p + d)
  | 0 => Nat.le_refl _
  | d + 1 => by have := q_mono f p d; have := q_le_r f (p + d); rw [← Nat.add_assoc, q_succ]; omega
theorem q_le {f : Nat → Bool} {p r : Nat} (h : p ≤ r) : qOf f p ≤ qOf f r := by
  have := q_mono f p (r - p); rw [show p + (r - p) = r by omega] at this; exact this

/-- p is the second byte of an instruction that leads. -/
def sndL (c : Nat → Int) (N p : Nat) : Bool := (List.range N).any fun t => leadsB (c (pos c t)) && pos c t + 1 == p
/-- The byte p, as it stands in the probed code. -/
def tr (c : Nat → Int) (N p : Nat) : Int := if sndL c N p then c p + 2 * cntB (bgn c N) (c p).toNat else c p

def pcode (c : Nat → Int) (N : Nat) : Nat → List Int
  | 0 => []
  | p + 1 => pcode c N p ++ ((if bgn c N p then [20, (cntB (bgn c N) p : Int)] else []) ++ [tr c N p])
def pfrom (c : Nat → Int) (N : Nat) : Nat → List Int
  | 0 => []
  | p + 1 => pfrom c N p ++ ((if bgn c N p then [-1, -1] else []) ++ [(p : Int)])
theorem pcode_len (c : Nat → Int) (N : Nat) : ∀ p, (pcode c N p).length = qOf (bgn c N) p
  | 0 => rfl
  | p + 1 => by
    unfold pcode
    rw [List.length_append, List.length_append, pcode_len c N p, q_succ]
    cases h : bgn c N p
    · rw [r_no h]; simp
    · rw [r_yes h]; simp
theorem pfrom_len (c : Nat → Int) (N : Nat) : ∀ p, (pfrom c N p).length = qOf (bgn c N) p
  | 0 => rfl
  | p + 1 => by
    unfold pfrom
    rw [List.length_append, List.length_append, pfrom_len c N p, q_succ]
    cases h : bgn c N p
    · rw [r_no h]; simp
    · rw [r_yes h]; simp

theorem pcode_pre (c : Nat → Int) (N p : Nat) : ∀ d, ∀ j, j < qOf (bgn c N) p → (pcode c N (p + d))[j]? = (pcode c N p)[j]?
  | 0, _, _ => rfl
  | d + 1, j, hj => by
    rw [← Nat.add_assoc]
    show (pcode c N (p + d) ++ _)[j]? = _
    rw [List.getElem?_append_left (by rw [pcode_len]; have := q_mono (bgn c N) p d; omega)]
    exact pcode_pre c N p d j hj
theorem pfrom_pre (c : Nat → Int) (N p : Nat) : ∀ d, ∀ j, j < qOf (bgn c N) p → (pfrom c N (p + d))[j]? = (pfrom c N p)[j]?
  | 0, _, _ => rfl
  | d + 1, j, hj => by
    rw [← Nat.add_assoc]
    show (pfrom c N (p + d) ++ _)[j]? = _
    rw [List.getElem?_append_left (by rw [pfrom_len]; have := q_mono (bgn c N) p d; omega)]
    exact pfrom_pre c N p d j hj
theorem pcode_at (c : Nat → Int) (N : Nat) {p L : Nat} (h : p < L) (j : Nat) (hj : j < qOf (bgn c N) (p + 1)) : (pcode c N L)[j]? = (pcode c N p ++ ((if bgn c N p then [20, (cntB (bgn c N) p : Int)] else []) ++ [tr c N p]))[j]? := by
  have := pcode_pre c N (p + 1) (L - (p + 1)) j hj
  rw [show p + 1 + (L - (p + 1)) = L by omega] at this
  exact this
theorem pfrom_at (c : Nat → Int) (N : Nat) {p L : Nat} (h : p < L) (j : Nat) (hj : j < qOf (bgn c N) (p + 1)) : (pfrom c N L)[j]? = (pfrom c N p ++ ((if bgn c N p then [-1, -1] else []) ++ [(p : Int)]))[j]? := by
  have := pfrom_pre c N (p + 1) (L - (p + 1)) j hj
  rw [show p + 1 + (L - (p + 1)) = L by omega] at this
  exact this

theorem pcode_r (c : Nat → Int) (N : Nat) {p L : Nat} (h : p < L) : (pcode c N L)[rOf (bgn c N) p]? = some (tr c N p) := by
  rw [pcode_at c N h _ (by rw [q_succ]; omega), List.getElem?_append_right (by rw [pcode_len]; exact q_le_r _ _), pcode_len]
  cases hb : bgn c N p
  · rw [r_no hb, Nat.sub_self]; rfl
  · rw [r_yes hb, Nat.add_sub_cancel_left]; rfl
theorem pcode_q (c : Nat → Int) (N : Nat) {p L : Nat} (h : p < L) (hb : bgn c N p = true) : (pcode c N L)[qOf (bgn c N) p]? = some 20 ∧ (pcode c N L)[qOf (bgn c N) p + 1]? = some (cntB (bgn c N) p : Int) := by
  constructor
  · rw [pcode_at c N h _ (by rw [q_succ, r_yes hb]; omega), List.getElem?_append_right (by rw [pcode_len]; omega), pcode_len, hb, Nat.sub_self]; rfl
  · rw [pcode_at c N h _ (by rw [q_succ, r_yes hb]; omega), List.getElem?_append_right (by rw [pcode_len]; omega), pcode_len, hb, Nat.add_sub_cancel_left]; rfl
theorem pfrom_r (c : Nat → Int) (N : Nat) {p L : Nat} (h : p < L) : (pfrom c N L)[rOf (bgn c N) p]? = some (p : Int) := by
  rw [pfrom_at c N h _ (by rw [q_succ]; omega), List.getElem?_append_right (by rw [pfrom_len]; exact q_le_r _ _), pfrom_len]
  cases hb : bgn c N p
  · rw [r_no hb, Nat.sub_self]; rfl
  · rw [r_yes hb, Nat.add_sub_cancel_left]; rfl
theorem pfrom_q (c : Nat → Int) (N : Nat) {p L : Nat} (h : p < L) (hb : bgn c N p = true) : (pfrom c N L)[qOf (bgn c N) p]? = some (-1) ∧ (pfrom c N L)[qOf (bgn c N) p + 1]? = some (-1) := by
  constructor
  · rw [pfrom_at c N h _ (by rw [q_succ, r_yes hb]; omega), List.getElem?_append_right (by rw [pfrom_len]; omega), pfrom_len, hb, Nat.sub_self]; rfl
  · rw [pfrom_at c N h _ (by rw [q_succ, r_yes hb]; omega), List.getElem?_append_right (by rw [pfrom_len]; omega), pfrom_len, hb, Nat.add_sub_cancel_left]; rfl

/-- The probed code. -/
def pc (c : Nat → Int) (N L : Nat) (j : Nat) : Int := (pcode c N L).getD j 0
def pf (c : Nat → Int) (N L : Nat) (j : Nat) : Int := (pfrom c N L).getD j 0
theorem pc_r (c : Nat → Int) (N : Nat) {p L : Nat} (h : p < L) : pc c N L (rOf (bgn c N) p) = tr c N p := by unfold pc; rw [List.getD_eq_getElem?_getD, pcode_r c N h]; rfl
theorem pc_q (c : Nat → Int) (N : Nat) {p L : Nat} (h : p < L) (hb : bgn c N p = true) : pc c N L (qOf (bgn c N) p) = 20 ∧ pc c N L (qOf (bgn c N) p + 1) = (cntB (bgn c N) p : Int) := by
  obtain ⟨h1, h2⟩ := pcode_q c N h hb
  unfold pc
  rw [List.getD_eq_getElem?_getD, List.getD_eq_getElem?_getD, h1, h2]
  exact ⟨rfl, rfl⟩

/-- Instructions do not overlap. -/
theorem VP.gap {c : Nat → Int} {L N : Nat} (V : VP c L N) {t m : Nat} (h : t < m) (hm : m ≤ N) : pos c t + szOf (c (pos c t)).toNat ≤ pos c m := by
  have := V.mono (m := t + 1) (m - (t + 1)) (by omega)
  rw [show t + 1 + (m - (t + 1)) = m by omega] at this
  have e : pos c (t + 1) = pos c t + szOf (c (pos c t)).toNat := rfl
  omega
theorem VP.inj {c : Nat → Int} {L N : Nat} (V : VP c L N) {t m : Nat} (ht : t < N) (hm : m < N) (h : pos c t = pos c m) : t = m := by
  rcases Nat.lt_trichotomy t m with q | q | q
  · have h1 := V.gap q (by omega); obtain ⟨kk, A, _⟩ := V.at ht; have := A.pos; rw [A.op] at h1; rw [Int.toNat_natCast] at h1; omega
  · exact q
  · have h1 := V.gap q (by omega); obtain ⟨kk, A, _⟩ := V.at hm; have := A.pos; rw [A.op] at h1; rw [Int.toNat_natCast] at h1; omega
/-- Inside an instruction none begins. -/
theorem VP.inside {c : Nat → Int} {L N : Nat} (V : VP c L N) {t m : Nat} (ht : t < N) (hm : m < N) (h2 : szOf (c (pos c m)).toNat = 2) : pos c t ≠ pos c m + 1 := by
  intro h
  rcases Nat.lt_trichotomy t m with q | q | q
  · have h1 := V.gap q (by omega); omega
  · subst q; omega
  · have h1 := V.gap q (by omega); omega
/-- A block begins where an instruction does. -/
theorem VP.begins {c : Nat → Int} {L N : Nat} (V : VP c L N) {i : Nat} (h : bgn c N i = true) : ∃ t, t < N ∧ pos c t = i := by
  unfold bgn at h
  rw [List.any_eq_true] at h
  obtain ⟨t, ht, e⟩ := h
  have ht' := List.mem_range.1 ht
  simp only [Bool.or_eq_true, Bool.and_eq_true, beq_iff_eq] at e
  rcases e with ⟨_, e⟩ | ⟨e1, e2⟩
  · exact ⟨t, ht', e⟩
  · obtain ⟨s, hs, e3⟩ := V.jump t ht' e1
    exact ⟨s, hs, by omega⟩
theorem VP.leadsTo {c : Nat → Int} {L N : Nat} (_ : VP c L N) {m t : Nat} (hm : m < N) (hl : leadsB (c (pos c m)) = true) (e : c (pos c m + 1) = (t : Int)) : bgn c N t = true := by
  unfold bgn
  rw [List.any_eq_true]
  exact ⟨m, List.mem_range.2 hm, by rw [hl, e]; simp⟩
theorem VP.first {c : Nat → Int} {L N : Nat} (V : VP c L N) : bgn c N 0 = true := by
  unfold bgn
  rw [List.any_eq_true]
  exact ⟨0, List.mem_range.2 V.one, by simp [behindB, pos]⟩
theorem VP.noBlock {c : Nat → Int} {L N : Nat} (V : VP c L N) {m : Nat} (hm : m < N) (h2 : szOf (c (pos c m)).toNat = 2) : bgn c N (pos c m + 1) = false := by
  cases h : bgn c N (pos c m + 1) with
  | false => rfl
  | true => obtain ⟨t, ht, e⟩ := V.begins h; exact absurd e (V.inside ht hm h2)
theorem leads_size {k : Int} (h : leadsB k = true) : szOf k.toNat = 2 := by
  unfold leadsB at h
  simp at h
  rcases h with h | h <;> rw [h] <;> rfl
theorem VP.trOp {c : Nat → Int} {L N : Nat} (V : VP c L N) {m : Nat} (hm : m < N) : tr c N (pos c m) = c (pos c m) := by
  unfold tr
  have : sndL c N (pos c m) = false := by
    cases h : sndL c N (pos c m) with
    | false => rfl
    | true =>
      unfold sndL at h
      rw [List.any_eq_true] at h
      obtain ⟨t, ht, e⟩ := h
      simp only [Bool.and_eq_true, beq_iff_eq] at e
      exact absurd e.2.symm (V.inside hm (List.mem_range.1 ht) (leads_size e.1))
  rw [this]; rfl
theorem VP.trSnd {c : Nat → Int} {L N : Nat} (V : VP c L N) {m : Nat} (hm : m < N) (h2 : szOf (c (pos c m)).toNat = 2) : tr c N (pos c m + 1) = if leadsB (c (pos c m)) then c (pos c m + 1) + 2 * cntB (bgn c N) (c (pos c m + 1)).toNat else c (pos c m + 1) := by
  unfold tr
  have : sndL c N (pos c m + 1) = leadsB (c (pos c m)) := by
    cases h : leadsB (c (pos c m)) with
    | true => unfold sndL; rw [List.any_eq_true]; exact ⟨m, List.mem_range.2 hm, by rw [h]; simp⟩
    | false =>
      cases h' : sndL c N (pos c m + 1) with
      | false => rfl
      | true =>
        unfold sndL at h'
        rw [List.any_eq_true] at h'
        obtain ⟨t, ht, e⟩ := h'
        simp only [Bool.and_eq_true, beq_iff_eq] at e
        have := V.inj (List.mem_range.1 ht) hm (by omega)
        subst this
        rw [h] at e; cases e.1
  rw [this]
theorem cnt_mono (f : Nat → Bool) (p : Nat) : ∀ d, cntB f p ≤ cntB f (p + d)
  | 0 => Nat.le_refl _
  | d + 1 => by have := cnt_mono f p d; rw [← Nat.add_assoc, cntB_succ]; omega
theorem VP.q_next {c : Nat → Int} {L N : Nat} (V : VP c L N) {m : Nat} (hm : m < N) : qOf (bgn c N) (pos c (m + 1)) = rOf (bgn c N) (pos c m) + szOf (c (pos c m)).toNat ∧ cntB (bgn c N) (pos c (m + 1)) = cntB (bgn c N) (pos c m + 1) := by
  have e : pos c (m + 1) = pos c m + szOf (c (pos c m)).toNat := rfl
  obtain ⟨kk, A, _⟩ := V.at hm
  have hk := A.k
  obtain ⟨s1, s2, _⟩ := szOf_pos (c (pos c m)).toNat (by rw [A.op, Int.toNat_natCast]; omega)
  rw [e]
  by_cases h : szOf (c (pos c m)).toNat = 2
  · have hb := V.noBlock hm h
    have e2 : cntB (bgn c N) (pos c m + 1 + 1) = cntB (bgn c N) (pos c m + 1) := by show cntB _ (pos c m + 1) + (if bgn c N (pos c m + 1) then 1 else 0) = _; rw [hb]; simp
    rw [h, show pos c m + 2 = pos c m + 1 + 1 by omega]
    refine ⟨?_, e2⟩
    rw [q_succ]; unfold rOf; omega
  · have h1 : szOf (c (pos c m)).toNat = 1 := by omega
    rw [h1]
    exact ⟨q_succ _ _, rfl⟩
theorem VP.r_snd {c : Nat → Int} {L N : Nat} (V : VP c L N) {m : Nat} (hm : m < N) (h2 : szOf (c (pos c m)).toNat = 2) : rOf (bgn c N) (pos c m + 1) = rOf (bgn c N) (pos c m) + 1 := by
  rw [r_no (V.noBlock hm h2), q_succ]
theorem VP.pLen' {c : Nat → Int} {L N : Nat} (V : VP c L N) : qOf (bgn c N) L ≤ 240 := by
  have := cntB_le (bgn c N) L
  have := V.most
  unfold qOf; omega
end Go.Proofs.YtflenkppcclclaaGreatDoor

namespace Go.Proofs.YtflenkppcclclaaGreatDoor
open Go.RowKit

theorem u8_wrap {x : Int} (h0 : 0 ≤ x) (h1 : x ≤ 255) : IntKind.u8.wrap x = x := by
  simp [IntKind.wrap, IntKind.signed, IntKind.bits]
  omega

set_option maxHeartbeats 1000000 in
theorem moved_any (w : World) (t : Nat) (G L : Nat) (f : Nat → Int) (hh : w.heap[G]? = some (.cells (il L f).toArray 3 (0, 0))) (ht : t < L) (hL : L ≤ 80) (hf0 : 0 ≤ f t) (hf1 : f t ≤ t) (hT : Tab w) :
    Calls Tryz.prog 200 #[.int .u8 (t : Int), .slice (some ⟨G, 0, none⟩) L L] w fun e w' => e = .returned (.int .u8 ((t : Int) + 2 * f t)) ∧ ∃ cc, w' = w.drew.alloc (.cells cc 179) := by
  have hfs := field_sz
  have hc : w.cell? ⟨G, t, none⟩ = some (.int .i64 (f t)) := by
    rw [cell_of_row w G _ _ _ _ hh, List.getElem?_toArray]; exact il_get L _ _ ht
  have hlt : G < w.heap.size := (Array.getElem?_eq_some_iff.1 hh).1
  have hi1 : (t : Int) < (L : Int) := by omega
  have HT : Hid (Tab w.drew) := fun k hk => hT k hk
  have ht0 : (0 : Int) ≤ (t : Int) := by omega
  have HV : Hid (IntKind.u8.wrap ((t : Int) + IntKind.u8.wrap (IntKind.i64.wrap (f t * shp 60))) = (t : Int) + 2 * f t) := by
    show IntKind.u8.wrap ((t : Int) + IntKind.u8.wrap (IntKind.i64.wrap (f t * shp 60))) = _
    have e : shp 60 = 2 := rfl
    have e2 : IntKind.i64.wrap (f t * 2) = f t * 2 := by
      simp [IntKind.wrap, IntKind.signed, IntKind.bits]
      omega
    rw [e, e2, u8_wrap (x := f t * 2) (by omega) (by omega), u8_wrap (by omega) (by omega)]
    omega
  clear hh hT
  go_enter Tryz.func200, Tryz.ntmps200
  go_wp2_with fail
  go_region_with (go_at_call 129; refine (shapeOf_any 20 (by omega) _ HT.out).mono ?_; rintro e w' ⟨rfl, cc2, rfl⟩)
  all_goals
    go_wp2
    go_ret
    exact ⟨congrArg (fun x => Ending.returned (.int .u8 x)) HV.out, _, rfl⟩

/-- What the m-th instruction adds to the probed code. -/
def addC (c : Nat → Int) (N m : Nat) : List Int := if szOf (c (pos c m)).toNat = 2 then (if leadsB (c (pos c m)) then [c (pos c m), c (pos c m + 1) + 2 * cntB (bgn c N) (c (pos c m + 1)).toNat] else [c (pos c m), c (pos c m + 1)]) else [c (pos c m)]
theorem VP.pcode_next {c : Nat → Int} {L N : Nat} (V : VP c L N) {m : Nat} (hm : m < N) :
    pcode c N (pos c (m + 1)) = (pcode c N (pos c m) ++ (if bgn c N (pos c m) then [20, (cntB (bgn c N) (pos c m) : Int)] else [])) ++ addC c N m ∧
    pfrom c N (pos c (m + 1)) = (pfrom c N (pos c m) ++ (if bgn c N (pos c m) then [-1, -1] else [])) ++ froms (pos c m) (szOf (c (pos c m)).toNat) := by
  have e : pos c (m + 1) = pos c m + szOf (c (pos c m)).toNat := rfl
  obtain ⟨kk, A, _⟩ := V.at hm
  have hk := A.k
  obtain ⟨s1, s2, _⟩ := szOf_pos (c (pos c m)).toNat (by rw [A.op, Int.toNat_natCast]; omega)
  rw [e]
  by_cases h : szOf (c (pos c m)).toNat = 2
  · have hb := V.noBlock hm h
    unfold addC
    rw [h, if_pos rfl, show pos c m + 2 = pos c m + 1 + 1 by omega]
    constructor
    · rw [pcode, pcode, hb, V.trOp hm, V.trSnd hm h]
      cases leadsB (c (pos c m)) <;> simp
    · rw [pfrom, pfrom, hb]
      simp [froms, List.range_succ]
  · have h1 : szOf (c (pos c m)).toNat = 1 := by omega
    unfold addC
    rw [if_neg h, h1]
    constructor
    · rw [pcode, V.trOp hm]; simp
    · rw [pfrom]
      simp [froms, List.range_succ]

theorem below_of_kept {n base W : Nat} {w w2 wr : World} (h : Below n w w2) (k : Kept base W w2 wr) (h1 : n ≤ W) (h2 : W < base) : Below n w wr :=
  ⟨k.os.trans h.os, k.tape.trans h.tape, k.output.trans h.output, Nat.le_trans h.size k.size, fun i hi => (k.block i (by omega) (by omega)).trans (h.block i hi)⟩
end Go.Proofs.YtflenkppcclclaaGreatDoor

