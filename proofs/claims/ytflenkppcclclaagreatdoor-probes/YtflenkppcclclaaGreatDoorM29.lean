import Derived.Test.YtflenkppcclclaaGreatDoorM28
import Derived.Deep.RegionLaw
namespace Go.Proofs.YtflenkppcclclaaGreatDoor
open Go.RowKit

theorem Tryz.infoBytes : (Tryz.prog.info? 25).map (fun i => (i.zero, i.size, i.bytes)) = some (some (.slice none 0 0), 1, 24) := by kernel_rfl
theorem Tryz.infoInts : (Tryz.prog.info? 45).map (fun i => (i.zero, i.size, i.bytes)) = some (some (.slice none 0 0), 1, 24) := by kernel_rfl

/-- What changes a block that is none of the book's leaves the book alone. -/
theorem BK.other {base M : Nat} {w w' : World} {F : Nat → Value} {X : Nat → List Value} (h : BK base M w F X) {g : Nat} (hg : w.grownBy w' (some g)) (ho : Out5 M F g) : BK base M w' F X where
  cell := fun r hr => hg.cell (a := ⟨M, r, none⟩) (h.cell r hr) (fun c => by injection c with c; exact ho.1 c.symm)
  thaw := fun j => by rw [World.frozen?_of_block (w := w) (a := ⟨M, j, none⟩) (hg.block M (Nat.lt_of_lt_of_le h.lt h.le) (fun c => by injection c with c; exact ho.1 c.symm))]; exact h.thaw j
  own := fun r hr => (h.own r hr).kept hg (Or.inr (ho.2 r hr))
  apart := h.apart
  lt := h.lt
  le := Nat.le_trans h.le hg.size
theorem BD.other {M : Nat} {w w' : World} {F : Nat → Value} {X : Nat → List Value} (d : BD M w F X) {g : Nat} (hg : w.grownBy w' (some g)) (hnew : ∀ u, Rec X u → u.ownBlock ≠ some g) : BD M w' F X :=
  d.keep hg.size (fun _ _ h => h) (fun v k hv hk hl _ => hg.block k hl (fun c => hnew v hv (by rw [hk, c])))

def overAt (c : Nat → Int) (L k i : Nat) : Int := if i < k then 251 else lentAt c L i
theorem over_set (c : Nat → Int) (L k n : Nat) : (bytesL (overAt c L k) n).set k (.int .u8 251) = bytesL (overAt c L (k + 1)) n := by
  apply List.ext_getElem?
  intro j
  by_cases hj : j < n
  · have h1 := bytesL_get (overAt c L k) hj
    have h2 := bytesL_get (overAt c L (k + 1)) hj
    rw [List.getElem?_set, h2]
    by_cases e : k = j
    · subst e
      rw [if_pos rfl, if_pos (by rw [bytesL_len]; exact hj)]
      unfold overAt
      rw [if_pos (by omega)]
    · rw [if_neg e, h1]
      unfold overAt
      by_cases h : j < k
      · rw [if_pos h, if_pos (by omega)]
      · rw [if_neg h, if_neg (by omega)]
  · rw [List.getElem?_eq_none (by simp [bytesL_len]; omega), List.getElem?_eq_none (by rw [bytesL_len]; omega)]
theorem over_zero (c : Nat → Int) (L n : Nat) : bytesL (overAt c L 0) n = bytesL (lentAt c L) n := by
  unfold bytesL
  apply List.map_congr_left
  intro i _
  show Value.int .u8 (overAt c L 0 i) = Value.int .u8 (lentAt c L i)
  unfold overAt
  rw [if_neg (by omega)]
theorem over_all (c : Nat → Int) (L : Nat) {w : World} {base g n cap : Nat} (h : w.ownsRow base 5 1 (.slice (some ⟨g, 0, none⟩) n cap) n (bytesL (overAt c L n) n)) (hn : 0 < n) : Coded w (.slice (some ⟨g, 0, none⟩) n cap) n (fun _ => 251) := by
  rcases h.2 with ⟨hv, _⟩ | ⟨g', cap', cur, hv, _, hh, hle, hcap, _, _⟩
  · cases hv
  · simp only [Value.slice.injEq, Option.some.injEq, Addr.mk.injEq, and_true, true_and] at hv
    obtain ⟨rfl, rfl⟩ := hv
    refine .full g 0 cap rfl ⟨fun i hi => ?_, hle, by unfold maxLen at hcap; omega, hn⟩
    rw [Nat.zero_add, h.cellAt i (by omega), bytesL_get _ hi]
    unfold overAt
    rw [if_pos hi]

set_option maxHeartbeats 2000000 in
set_option maxRecDepth 100000 in
theorem whole_any (base M : Nat) (w : World) (F : Nat → Value) (X : Nat → List Value) (h : BK base M w F X) (d : BD M w F X) (g cap L : Nat) (c : Nat → Int) (v : Value)
    (hg : w.ownsRow base 5 1 (.slice (some ⟨g, 0, none⟩) (L + 8) cap) (L + 8) (bytesL (lentAt c L) (L + 8))) (hgo : Out5 M F g) (hnew : ∀ u, Rec X u → u.ownBlock ≠ some g) (C : Coded w v L c) (hvg : 0 < L → v.ownBlock ≠ some g)
    (hL : L + 8 ≤ 140737488355328) (hX : ((X 8).length + 1) * 24 ≤ 140737488355328) :
    Calls Tryz.prog 105 #[.pointer (some ⟨M, 0, none⟩), .slice (some ⟨g, 0, none⟩) (L + 8) cap, v] w fun e w' => e = .returned (.bool true) ∧ ∃ F', BK base M w' F' (upd X 8 (X 8 ++ [.slice (some ⟨g, 0, none⟩) (L + 8) cap])) ∧ BD M w' F' (upd X 8 (X 8 ++ [.slice (some ⟨g, 0, none⟩) (L + 8) cap])) ∧ Kept base M w w' := by
  obtain ⟨i, hi, hz0, hz1, hz2⟩ := info_parts Tryz.infoBytes
  have hgb : base ≤ g ∧ g < w.heap.size := hg.lt g rfl
  have HB : Hid (∀ wr, w.grownBy wr (some g) → BK base M wr F X) := fun wr s => h.other s hgo
  have HD : Hid (∀ wr, w.grownBy wr (some g) → BD M wr F X) := fun wr s => d.other s hnew
  have HC : Hid (∀ wr, w.grownBy wr (some g) → ∀ k, k < L → ∃ cb co capc, v = .slice (some ⟨cb, co, none⟩) L capc ∧ wr.cell? ⟨cb, co + k, none⟩ = some (.int .u8 (c k))) := by
    intro wr s k hk
    cases C with
    | bare p cap hv hL0 => omega
    | full cb co capc hv C =>
      exact ⟨cb, co, capc, hv, s.cell (a := ⟨cb, co + k, none⟩) (C.cell k hk) (fun e => hvg (by omega) (by rw [hv]; exact e))⟩
  obtain ⟨pv, capv, hvf⟩ : ∃ p cap, v = .slice p L cap := by
    cases C with
    | bare p cap hv hL0 => exact ⟨p, cap, by rw [hv, hL0]⟩
    | full cb co capc hv C => exact ⟨_, _, hv⟩
  subst hvf
  have HG0 : Hid (w.ownsRow base 5 1 (.slice (some ⟨g, 0, none⟩) (L + 8) cap) (L + 8) (bytesL (overAt c L 0) (L + 8))) := by show w.ownsRow _ _ _ _ _ _; rw [over_zero]; exact hg
  have hle := h.le
  have hlt := h.lt
  clear h d C hg
  go_enter Tryz.func105, Tryz.ntmps105
  go_wp2_with fail
  go_loopw [7, 8, 9] (fun ok k _ wr => ∃ q : Nat, q ≤ L + 8 ∧ ok = .bool true ∧ k = .int .i64 q ∧ wr.ownsRow base 5 1 (.slice (some ⟨g, 0, none⟩) (L + 8) cap) (L + 8) (bytesL (overAt c L q) (L + 8)) ∧ w.grownBy wr (some g)) (fun _ k _ _ => (L + 8) - (intOf k).toNat)
  case atStart => exact ⟨0, by omega, rfl, rfl, HG0.out, ⟨rfl, rfl, rfl, Nat.le_refl _, fun _ _ _ => rfl⟩⟩
  case round =>
    clear HG0
    obtain ⟨q, hq, rfl, rfl, hown, hgr⟩ := hrel
    by_cases hql : q < L + 8
    · have cg : wr.cell? ⟨g, q, none⟩ = some (.int .u8 (lentAt c L q)) := by
        rw [hown.cellAt q (by omega), bytesL_get _ hql]
        unfold overAt
        rw [if_neg (by omega)]
      have fg := hown.frozenAt q
      obtain ⟨hown2, hgr2⟩ := hown.stored q (.int .u8 251)
      rw [over_set c L q (L + 8)] at hown2
      have HN : Hid ((wr.setCell ⟨g, q, none⟩ (.int .u8 251)).ownsRow base 5 1 (.slice (some ⟨g, 0, none⟩) (L + 8) cap) (L + 8) (bytesL (overAt c L (q + 1)) (L + 8)) ∧ w.grownBy (wr.setCell ⟨g, q, none⟩ (.int .u8 251)) (some g)) :=
        ⟨hown2, ⟨hgr2.os.trans hgr.os, hgr2.tape.trans hgr.tape, hgr2.output.trans hgr.output, Nat.le_trans hgr.size hgr2.size, fun k hk hne => (hgr2.block k (Nat.lt_of_lt_of_le hk hgr.size) hne).trans (hgr.block k hk hne)⟩⟩
      have hi1 : (q : Int) < (L : Int) + 8 := by omega
      by_cases hc : q < L
      · obtain ⟨cb, co, capc, hv, cl⟩ := HC.out wr hgr q hc
        simp only [Value.slice.injEq] at hv
        obtain ⟨rfl, _, rfl⟩ := hv
        have el : lentAt c L q = c q := by unfold lentAt; rw [if_pos hc]
        rw [el] at cg
        have hi2 : (q : Int) < (L : Int) := by omega
        clear hown hown2 hgr2 el hgr
        generalize c q = cq at *
        go_wp2_with fail
        go_roundw
        case rel => exact ⟨q + 1, by omega, by first | rfl | simp, by go_num, HN.out.1, HN.out.2⟩
        case measure => simp [intOf]; omega
      · have el : lentAt c L q = 252 := by unfold lentAt; rw [if_neg hc]
        rw [el] at cg
        have hi2 : ¬ (q : Int) < (L : Int) := by omega
        clear hown hown2 hgr2 el hgr
        go_wp2_with fail
        go_roundw
        case rel => exact ⟨q + 1, by omega, by first | rfl | simp, by go_num, HN.out.1, HN.out.2⟩
        case measure => simp [intOf]; omega
    · have e : q = L + 8 := by omega
      subst e
      have hB := HB.out wr hgr
      have hD := HD.out wr hgr
      have hCd := over_all c L hown (by omega)
      have c8 := hB.cell 8 (by omega)
      have f8 := hB.thaw 8
      have hnn : ¬ (L : Int) + 8 < (L : Int) + 8 := by omega
      have HBB : Hid (BK base M wr F X) := hB
      have HO8 : Hid (wr.ownsRow base 25 1 (F 8) (X 8).length (X 8)) := hB.own 8 (by omega)
      have hsz := hgr.size
      have HFIN : Hid (BD M wr F X ∧ Coded wr (.slice (some ⟨g, 0, none⟩) (L + 8) cap) (L + 8) (fun _ => 251) ∧ w.grownBy wr (some g)) := ⟨hD, hCd, hgr⟩
      obtain ⟨n8, hn8⟩ : ∃ n, (X 8).length = n := ⟨_, rfl⟩
      rw [hn8] at hX HO8
      clear hB hD hCd hown hgr
      go_wp2_with (at_builtin; refine wpList_append_own_at _ rfl (.tmp 40) (.tmp 42) 59 rfl base 25 i (.slice none 0 0) 1 24 Tryz.underlying59 hi hz0 hz1 hz2 rfl (by decide) _ n8 _ rfl (HO8.out.alloc _) ⟨_, 0, none⟩ 1 1 [.slice (some ⟨g, 0, none⟩) (L + 8) cap] rfl rfl (cell_one_new _ _ _) ?c2 (by unfold maxLen; omega) (by omega) (by simp; omega) ?_)
      case c2 => first | rfl | (intro u hu; simp at hu; subst hu; rfl)
      intro v' w1 hown' hgrow _ hat
      have hBA := HBB.out.below ((Below.refl wr.heap.size wr).alloc (Nat.le_refl _) (.cells #[.slice (some ⟨g, 0, none⟩) (L + 8) cap] 25))
      have hDA := HFIN.out.1.below ((Below.refl wr.heap.size wr).alloc (Nat.le_refl _) (.cells #[.slice (some ⟨g, 0, none⟩) (L + 8) cap] 25))
      have hatA : v'.ownBlock = (F 8).ownBlock ∨ v'.ownBlock = some (wr.alloc (.cells #[.slice (some ⟨g, 0, none⟩) (L + 8) cap] 25)).heap.size := by simpa using hat
      have R := hBA.grow 8 (by omega) v' [.slice (some ⟨g, 0, none⟩) (L + 8) cap] hgrow (by rw [hn8]; exact hown') hatA
      have D := hDA.grow 8 (by omega) v' hgrow hatA
      have hne : some M ≠ (F 8).ownBlock := own_ne (hBA.own 8 (by omega)) hlt
      have hoG : Out5 M (upd F 8 v') g := hgo.grow (w := wr.alloc (.cells #[.slice (some ⟨g, 0, none⟩) (L + 8) cap] 25)) (by omega) (by simp; omega) hatA
      have hcD : Coded (w1.setCell ⟨M, 8, none⟩ v') (.slice (some ⟨g, 0, none⟩) (L + 8) cap) (L + 8) (fun _ => 251) := HFIN.out.2.1.keep (fun k hk hl => by
        obtain rfl : g = k := by simpa [Value.ownBlock] using hk
        rw [heap_setCell_other _ ⟨M, 8, none⟩ _ _ hgo.1, hgrow.block g (by simp; omega) (fun c => hgo.2 8 (by omega) c.symm), Below.heap_alloc _ _ _ hl])
      have D2 := D.addLent (.slice (some ⟨g, 0, none⟩) (L + 8) cap) (L + 8) (by omega) hcD (fun k hk => by
        obtain rfl : g = k := by simpa [Value.ownBlock] using hk
        exact ⟨by have := hgrow.size; simp at this ⊢; omega, hoG⟩)
      have hv1 : w1.cell? ⟨M, 8, none⟩ = some (F 8) := hgrow.cell (a := ⟨M, 8, none⟩) (hBA.cell 8 (by omega)) hne
      have hf1 : w1.frozen? ⟨M, 8, none⟩ = false := by
        rw [World.frozen?_of_block (w := wr.alloc (.cells #[.slice (some ⟨g, 0, none⟩) (L + 8) cap] 25)) (a := ⟨M, 8, none⟩) (hgrow.block M (Nat.lt_of_lt_of_le hBA.lt hBA.le) hne)]
        exact hBA.thaw 8
      have K : Kept base M w (w1.setCell ⟨M, 8, none⟩ v') := by
        obtain ⟨_, _, hgr⟩ := HFIN.out
        have k1 : Kept base M w wr := ⟨hgr.os, hgr.tape, hgr.output, hgr.size, fun k hk _ => hgr.block k (by omega) (fun c => by injection c with c; omega)⟩
        exact (k1.trans (Kept.alloc wr (by omega) _)).trans ((kept_grown (M := M) (hBA.own 8 (by omega)) hBA.le hgrow).trans (Kept.set base M w1 8 v'))
      obtain ⟨g', cap', hv'⟩ := own_form hown' (by omega)
      have HALL : Hid (∃ F', BK base M (w1.setCell ⟨M, 8, none⟩ v') F' (upd X 8 (X 8 ++ [.slice (some ⟨g, 0, none⟩) (L + 8) cap])) ∧ BD M (w1.setCell ⟨M, 8, none⟩ v') F' (upd X 8 (X 8 ++ [.slice (some ⟨g, 0, none⟩) (L + 8) cap])) ∧ Kept base M w (w1.setCell ⟨M, 8, none⟩ v')) := ⟨_, R, D2, K⟩
      rw [hv'] at HALL ⊢
      clear R D D2 K hown' hgrow hat hatA hBA hDA hcD HFIN HBB HO8 hv'
      go_wp2
      go_ret
      exact ⟨rfl, HALL.out⟩
end Go.Proofs.YtflenkppcclclaaGreatDoor

namespace Go.Proofs.YtflenkppcclclaaGreatDoor
open Go.RowKit

/-- 'append' of a row of one's own, as one step of a region that draws. -/
theorem step_append_own {P : Program} {ops : Array Oper} {o : Oper} {a : Act} {w : World} {K : Act → World → Prop} {Q : Exit → Act → World → Prop} {E : Prop}
    (hgd : o.guard = none) (s x : Operand) (t : TypeId) (ho : o.op = .call { callee := .builtin .append, args := #[s, x], argTypes := #[t, t] })
    (base : Nat) (e : TypeId) (i : TypeInfo) (z : Value) (size bytes : Nat) (ht : P.underlying t = some (.slice e)) (hi : P.info? e = some i) (hz : i.zero = some z)
    (hsize : i.size = size) (hby : i.bytes = bytes) (hzs : z.cells.size = size) (hsz : 0 < size)
    (v : Value) (n : Nat) (xs : List Value) (hs : a.eval s = v) (hown : w.ownsRow base e size v n xs)
    (ad : Addr) (m c : Nat) (news : List Value) (hx : a.eval x = .slice (some ad) m c) (hl : news.length = m * size) (hnews : ∀ j u, news[j]? = some u → w.cell? (ad.add j) = some u) (h1 : ∀ u ∈ news, u.oneCell' = true)
    (h63 : n + m ≤ maxLen) (hbytes : (n + m) * bytes ≤ 140737488355328) (hbase : base ≤ w.heap.size)
    (h : ∀ v' w', w'.ownsRow base e size v' (n + m) (xs ++ news) → w.grownBy w' v.ownBlock → (v'.ownBlock = v.ownBlock ∨ v'.ownBlock = some w.heap.size) → K (a.put o.dst v') w') :
    if Region.wanted o (yielded ops a.tmps) = true then Oper.wp P o a w K Q else E := by
  have hw : Region.wanted o (yielded ops a.tmps) = true := by simp [Region.wanted, hgd]
  rw [if_pos hw]
  obtain ⟨v', w', hr, h2, h3, _, h5⟩ := run_append_own_at (P := P) w base t o.type e i z size bytes ht hi hz hsize hby hzs hsz v n xs hown ad m c news hl hnews h1 h63 hbytes hbase
  unfold Oper.wp
  simp [execOp, ho, resolve, invoke, builtin, hs, hx, hr, Result.andThen]
  exact h v' w' h2 h3 h5

theorem World.grownBy.trans' {a b c : World} {row : Option Nat} (h : a.grownBy b row) (k : b.grownBy c row) : a.grownBy c row :=
  ⟨k.os.trans h.os, k.tape.trans h.tape, k.output.trans h.output, Nat.le_trans h.size k.size, fun i hi hne => (k.block i (Nat.lt_of_lt_of_le hi h.size) hne).trans (h.block i hi hne)⟩

/-- A list whose first k places hold what its owner wrote. -/
def PR (w : World) (u : Value) (k : Nat) (f : Nat → Int) (t : Int → Value) : Prop :=
  (u = .slice none 0 0 ∧ k = 0) ∨ ∃ g cap, u = .slice (some ⟨g, 0, none⟩) k cap ∧ g < w.heap.size ∧ k ≤ cap ∧ cap ≤ 9223372036854775807 ∧ ∀ j, j < k → w.cell? ⟨g, j, none⟩ = some (t (f j))
theorem PR.of {w : World} {base : Nat} {e : TypeId} {u : Value} {k : Nat} {f : Nat → Int} {t : Int → Value} (h : w.ownsRow base e 1 u k ((List.range k).map fun j => t (f j))) : PR w u k f t := by
  rcases h.2 with ⟨hv, h0⟩ | ⟨g, cap, cur, hv, hb, hh, hle, hcap, hcs, htake⟩
  · exact Or.inl ⟨hv, h0⟩
  · refine Or.inr ⟨g, cap, hv, (Array.getElem?_eq_some_iff.1 hh).1, hle, by unfold maxLen at hcap; omega, fun j hj => ?_⟩
    have := (hv ▸ h).cellAt j (by omega)
    rw [this]
    simp [List.getElem?_range hj]
theorem PR.coded {w : World} {u : Value} {k : Nat} {f : Nat → Int} (h : PR w u k f (Value.int .u8)) : Coded w u k f := by
  rcases h with ⟨rfl, rfl⟩ | ⟨g, cap, rfl, hg, hle, hcap, hc⟩
  · exact .bare none 0 rfl rfl
  · by_cases h0 : k = 0
    · subst h0; exact .bare _ cap rfl rfl
    · exact .full g 0 cap rfl ⟨fun i hi => by rw [Nat.zero_add]; exact hc i hi, hle, hcap, by omega⟩
theorem PR.ncoded {w : World} {u : Value} {k : Nat} {f : Nat → Int} (h : PR w u k f (Value.int .i64)) : NCoded w u k f := by
  rcases h with ⟨rfl, rfl⟩ | ⟨g, cap, rfl, hg, hle, hcap, hc⟩
  · exact .bare none 0 rfl rfl
  · by_cases h0 : k = 0
    · subst h0; exact .bare _ cap rfl rfl
    · exact .full g 0 cap rfl (fun i hi => by rw [Nat.zero_add]; exact hc i hi) hle hcap (by omega)
/-- What is appended to v leaves alone what its owner wrote, in v's block too. -/
theorem PR.keep {w w' : World} {u v : Value} {k n : Nat} {f : Nat → Int} {t : Int → Value} {news : List Value} (h : PR w u k f t) (hg : w.grownBy w' v.ownBlock)
    (hnews : ∀ i x, news[i]? = some x → x = t (f (n + i)))
    (hk : ∀ g j x, v.ownBlock = some g → w.cell? ⟨g, j, none⟩ = some x → w'.cell? ⟨g, j, none⟩ = some x ∨ (n ≤ j ∧ w'.cell? ⟨g, j, none⟩ = news[j - n]? ∧ j - n < news.length)) : PR w' u k f t := by
  rcases h with h | ⟨g, cap, hu, hgl, hle, hcap, hc⟩
  · exact Or.inl h
  · refine Or.inr ⟨g, cap, hu, Nat.lt_of_lt_of_le hgl hg.size, hle, hcap, fun j hj => ?_⟩
    by_cases e : v.ownBlock = some g
    · rcases hk g j _ e (hc j hj) with q | ⟨q1, q2, q3⟩
      · exact q
      · rw [q2]
        have := hnews (j - n) _ (List.getElem?_eq_getElem q3)
        rw [List.getElem?_eq_getElem q3, this, show n + (j - n) = j by omega]
    · exact hg.cell (a := ⟨g, j, none⟩) (hc j hj) (fun c => e c.symm)
theorem PR.alloc {w : World} {u : Value} {k : Nat} {f : Nat → Int} {t : Int → Value} (h : PR w u k f t) (o : Obj) : PR (w.alloc o) u k f t := by
  rcases h with h | ⟨g, cap, hu, hgl, hle, hcap, hc⟩
  · exact Or.inl h
  · exact Or.inr ⟨g, cap, hu, by simp; omega, hle, hcap, fun j hj => (World.cell?_alloc_past _ _ _ hgl).trans (hc j hj)⟩
theorem PR.block {w : World} {u : Value} {k : Nat} {f : Nat → Int} {t : Int → Value} (h : PR w u k f t) {g : Nat} (hg : u.ownBlock = some g) : g < w.heap.size := by
  rcases h with ⟨rfl, _⟩ | ⟨g', cap, rfl, hgl, _⟩
  · cases hg
  · have : g' = g := by simpa [Value.ownBlock] using hg
    omega
theorem BK.out {base M : Nat} {w w' : World} {F : Nat → Value} {X : Nat → List Value} (h : BK base M w F X) {row : Option Nat} (hg : w.grownBy w' row) (ho : ∀ g, row = some g → Out5 M F g) : BK base M w' F X := by
  cases row with
  | none => exact h.same hg.size (fun k hk => hg.block k hk (fun c => by cases c))
  | some g => exact h.other hg (ho g rfl)
theorem BD.out {M : Nat} {w w' : World} {F : Nat → Value} {X : Nat → List Value} (d : BD M w F X) {row : Option Nat} (hg : w.grownBy w' row) (hnew : ∀ u g, Rec X u → row = some g → u.ownBlock ≠ some g) : BD M w' F X :=
  d.keep hg.size (fun _ _ h => h) (fun v k hv hk hl _ => hg.block k hl (fun c => hnew v k hv c.symm hk))
theorem BD.addBytes {M : Nat} {w : World} {F : Nat → Value} {X : Nat → List Value} (d : BD M w F X) (m : Nat) (hm : m ≤ (X 4).length) (vs : List Value) (ns : List Value) (hns : ns = List.replicate vs.length (Value.int .i64 (m : Int)))
    (h : ∀ v ∈ vs, ∃ n : Nat, n ≤ 9223372036854775807 ∧ Coded w v n (fun k => digS m k) ∧ Aw M F w v) : BD M w F (upd (upd X 0 (X 0 ++ vs)) 4 (X 4 ++ ns)) where
  bytes := by
    rw [upd_same, upd_other _ _ (show (0 : Nat) ≠ 4 by omega), upd_same]
    intro i u hu
    have hl := d.len04
    by_cases hi : i < (X 0).length
    · rw [List.getElem?_append_left hi] at hu
      obtain ⟨m', n, h1, h2, h3, h4, h5⟩ := d.bytes i u hu
      exact ⟨m', n, by rw [List.getElem?_append_left (by omega)]; exact h1, by rw [List.length_append]; omega, h3, h4, h5⟩
    · rw [List.getElem?_append_right (by omega)] at hu
      obtain ⟨n, h1, h2, h3⟩ := h u (List.mem_of_getElem? hu)
      refine ⟨m, n, ?_, by rw [List.length_append]; omega, h1, h2, h3⟩
      have hlt := (List.getElem?_eq_some_iff.1 hu).1
      rw [List.getElem?_append_right (by omega), hns, List.getElem?_replicate, if_pos (by omega)]
  numbers := by rw [upd_other _ _ (show (1 : Nat) ≠ 4 by omega), upd_other _ _ (show (1 : Nat) ≠ 0 by omega), upd_other _ _ (show (5 : Nat) ≠ 4 by omega), upd_other _ _ (show (5 : Nat) ≠ 0 by omega)]; exact d.numbers
  lent := by rw [upd_other _ _ (show (8 : Nat) ≠ 4 by omega), upd_other _ _ (show (8 : Nat) ≠ 0 by omega)]; exact d.lent
  none2 := by rw [upd_other _ _ (show (2 : Nat) ≠ 4 by omega), upd_other _ _ (show (2 : Nat) ≠ 0 by omega)]; exact d.none2
  none3 := by rw [upd_other _ _ (show (3 : Nat) ≠ 4 by omega), upd_other _ _ (show (3 : Nat) ≠ 0 by omega)]; exact d.none3
  none9 := by rw [upd_other _ _ (show (9 : Nat) ≠ 4 by omega), upd_other _ _ (show (9 : Nat) ≠ 0 by omega)]; exact d.none9
  len04 := by
    rw [upd_same, upd_other _ _ (show (0 : Nat) ≠ 4 by omega), upd_same, List.length_append, List.length_append, hns, List.length_replicate, d.len04]
  len15 := by rw [upd_other _ _ (show (1 : Nat) ≠ 4 by omega), upd_other _ _ (show (1 : Nat) ≠ 0 by omega), upd_other _ _ (show (5 : Nat) ≠ 4 by omega), upd_other _ _ (show (5 : Nat) ≠ 0 by omega)]; exact d.len15
end Go.Proofs.YtflenkppcclclaaGreatDoor

