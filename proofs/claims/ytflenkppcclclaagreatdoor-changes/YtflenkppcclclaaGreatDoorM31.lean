import Derived.Test.YtflenkppcclclaaGreatDoorM30
namespace Go.Proofs.YtflenkppcclclaaGreatDoor
open Go.RowKit

def intsL (c : Nat → Int) (L : Nat) : List Value := (List.range L).map fun i => Value.int .i64 (c i)
theorem intsL_len (c : Nat → Int) (L : Nat) : (intsL c L).length = L := by unfold intsL; simp
theorem fill_setI (f : Nat → Int) (xs : List Value) (q : Nat) (hq : q < xs.length) : (intsL f q ++ xs.drop q).set q (.int .i64 (f q)) = intsL f (q + 1) ++ xs.drop (q + 1) := by
  have hl := intsL_len f q
  rw [List.set_append_right _ _ (by omega), hl, Nat.sub_self]
  have hd : xs.drop q = xs[q] :: xs.drop (q + 1) := List.drop_eq_getElem_cons hq
  rw [hd, List.set_cons_zero]
  have : intsL f (q + 1) = intsL f q ++ [.int .i64 (f q)] := by unfold intsL; rw [List.range_succ, List.map_append]; rfl
  rw [this, List.append_assoc]; rfl
theorem intsL_add1 (f : Nat → Int) (n : Nat) : intsL f n ++ [.int .i64 (f n)] = intsL f (n + 1) := by unfold intsL; rw [List.range_succ, List.map_append]; rfl
theorem intsL_add2 (f : Nat → Int) (n : Nat) : intsL f n ++ [.int .i64 (f n), .int .i64 (f (n + 1))] = intsL f (n + 2) := by
  rw [← intsL_add1 f (n + 1), ← intsL_add1 f n, List.append_assoc]; rfl
theorem intsL_add3 (f : Nat → Int) (n : Nat) : intsL f n ++ [.int .i64 (f n), .int .i64 (f (n + 1)), .int .i64 (f (n + 2))] = intsL f (n + 3) := by
  rw [← intsL_add1 f (n + 2), ← intsL_add2 f n, List.append_assoc]; rfl
theorem BD.addNumbers {M : Nat} {w : World} {F : Nat → Value} {X : Nat → List Value} (d : BD M w F X) (m : Int) (vs : List Value) (ns : List Value) (hns : ns = List.replicate vs.length (Value.int .i64 m))
    (h : ∀ v ∈ vs, ∃ n : Nat, n ≤ 9223372036854775807 ∧ NCoded w v n (fun _ => m) ∧ Aw M F w v) : BD M w F (upd (upd X 1 (X 1 ++ vs)) 5 (X 5 ++ ns)) where
  bytes := by rw [upd_other _ _ (show (0 : Nat) ≠ 5 by omega), upd_other _ _ (show (0 : Nat) ≠ 1 by omega), upd_other _ _ (show (4 : Nat) ≠ 5 by omega), upd_other _ _ (show (4 : Nat) ≠ 1 by omega)]; exact d.bytes
  numbers := by
    rw [upd_same, upd_other _ _ (show (1 : Nat) ≠ 5 by omega), upd_same]
    intro i u hu
    have hl := d.len15
    by_cases hi : i < (X 1).length
    · rw [List.getElem?_append_left hi] at hu
      obtain ⟨m', n, h1, h3, h4, h5⟩ := d.numbers i u hu
      exact ⟨m', n, by rw [List.getElem?_append_left (by omega)]; exact h1, h3, h4, h5⟩
    · rw [List.getElem?_append_right (by omega)] at hu
      obtain ⟨n, h1, h2, h3⟩ := h u (List.mem_of_getElem? hu)
      refine ⟨m, n, ?_, h1, h2, h3⟩
      have hlt := (List.getElem?_eq_some_iff.1 hu).1
      rw [List.getElem?_append_right (by omega), hns, List.getElem?_replicate, if_pos (by omega)]
  lent := by rw [upd_other _ _ (show (8 : Nat) ≠ 5 by omega), upd_other _ _ (show (8 : Nat) ≠ 1 by omega)]; exact d.lent
  none2 := by rw [upd_other _ _ (show (2 : Nat) ≠ 5 by omega), upd_other _ _ (show (2 : Nat) ≠ 1 by omega)]; exact d.none2
  none3 := by rw [upd_other _ _ (show (3 : Nat) ≠ 5 by omega), upd_other _ _ (show (3 : Nat) ≠ 1 by omega)]; exact d.none3
  none9 := by rw [upd_other _ _ (show (9 : Nat) ≠ 5 by omega), upd_other _ _ (show (9 : Nat) ≠ 1 by omega)]; exact d.none9
  len04 := by rw [upd_other _ _ (show (0 : Nat) ≠ 5 by omega), upd_other _ _ (show (0 : Nat) ≠ 1 by omega), upd_other _ _ (show (4 : Nat) ≠ 5 by omega), upd_other _ _ (show (4 : Nat) ≠ 1 by omega)]; exact d.len04
  len15 := by
    rw [upd_same, upd_other _ _ (show (1 : Nat) ≠ 5 by omega), upd_same, List.length_append, List.length_append, hns, List.length_replicate, d.len15]

set_option maxHeartbeats 1500000 in
set_option maxRecDepth 100000 in
theorem ownNumbers_any (base M : Nat) (w : World) (F : Nat → Value) (X : Nat → List Value) (h : BK base M w F X) (d : BD M w F X) (v : Value) (n : Nat) (xs : List Value) (hv : w.ownsRow base 3 1 v n xs) (hn : n ≤ 1000)
    (hvo : ∀ g, v.ownBlock = some g → Out5 M F g) (hnew : ∀ u g, Rec X u → v.ownBlock = some g → u.ownBlock ≠ some g) (hX0 : ((X 1).length + 4) * 24 ≤ 140737488355328) :
    Calls Tryz.prog 104 #[.pointer (some ⟨M, 0, none⟩), v] w fun e w' => e = .returned (.tuple #[]) ∧ ∃ F' vs ns, vs.length = 4 ∧ ns.length = 4 ∧ BK base M w' F' (upd (upd X 1 (X 1 ++ vs)) 5 (X 5 ++ ns)) ∧ BD M w' F' (upd (upd X 1 (X 1 ++ vs)) 5 (X 5 ++ ns)) ∧ Kept base M w w' ∧ (∀ k, k < w.heap.size → Out5 M F k → v.ownBlock ≠ some k → w'.heap[k]? = w.heap[k]?)  ∧ (∀ k, k < w.heap.size → Out5 M F k → Out5 M F' k) ∧ (∀ u ∈ vs, ∀ k, u.ownBlock = some k → v.ownBlock = some k ∨ w.heap.size ≤ k) := by
  obtain ⟨i, hi, hz0, hz1, hz2⟩ := info_parts Tryz.infoInt
  obtain ⟨ib, hib, hzb0, hzb1, hzb2⟩ := info_parts Tryz.infoInts
  obtain ⟨ii, hii, hzi0, hzi1, hzi2⟩ := info_parts Tryz.infoInt
  obtain ⟨pv, capv, hvf⟩ : ∃ p cap, v = .slice p n cap := by
    rcases hv.2 with ⟨e, h0⟩ | ⟨g, cap, cur, hv, _⟩
    · exact ⟨none, 0, by rw [h0]; exact e⟩
    · exact ⟨_, _, hv⟩
  subst hvf
  obtain ⟨a4, cap4, hF4⟩ := h.head 5 (by omega)
  have c4 := h.cell 5 (by omega)
  rw [hF4] at c4
  obtain ⟨m, hm⟩ : ∃ m, (X 5).length = m := ⟨_, rfl⟩
  rw [hm] at c4
  have hlen := d.len15
  have hxl : xs.length = n := by have := hv.1; omega
  have hm60 : m ≤ 4611686018427387904 := by omega
  have HB : Hid (BK base M w F X) := h
  have HDt : Hid (BD M w F X) := d
  have HV0 : Hid (w.ownsRow base 3 1 (.slice pv n capv) n xs) := hv
  have HM : Hid ((X 5).length = m) := hm
  have HF4 : Hid (F 5 = .slice a4 (X 5).length cap4) := hF4
  have hle := h.le
  have hlt := h.lt
  have hvb : ∀ k, (Value.slice pv n capv).ownBlock = some k → ¬ k < base := fun k hk => by have := (hv.lt k hk).1; omega
  clear h d hv hm hF4
  go_enter Tryz.func104, Tryz.ntmps104
  go_wp2_with fail
  generalize (-2 : Int) - (m : Int) = z at *
  go_loopw [5] (fun k wr => ∃ q : Nat, q ≤ n ∧ k = .int .i64 q ∧ wr.ownsRow base 3 1 (.slice pv n capv) n (intsL (fun _ => z) q ++ xs.drop q) ∧ w.grownBy wr (Value.slice pv n capv).ownBlock) (fun k _ => n - (intOf k).toNat)
  case atStart => exact ⟨0, by omega, rfl, HV0.out, ⟨rfl, rfl, rfl, Nat.le_refl _, fun _ _ _ => rfl⟩⟩
  case round =>
    clear HV0
    obtain ⟨q, hq, rfl, hown, hgr⟩ := hrel
    by_cases hql : q < n
    · obtain ⟨g, cap, hf⟩ := own_form hown (by omega)
      simp only [Value.slice.injEq] at hf
      obtain ⟨rfl, _, rfl⟩ := hf
      obtain ⟨x, hx⟩ : ∃ x, (intsL (fun _ => z) q ++ xs.drop q)[q]? = some x := ⟨_, List.getElem?_eq_getElem (by rw [List.length_append, intsL_len, List.length_drop]; omega)⟩
      have cg : wr.cell? ⟨g, q, none⟩ = some x := by rw [hown.cellAt q (by omega), hx]
      have fg := hown.frozenAt q
      obtain ⟨hown2, hgr2⟩ := hown.stored q (.int .i64 (z))
      rw [fill_setI (fun _ => z) xs q (by omega)] at hown2
      have HN : Hid ((wr.setCell ⟨g, q, none⟩ (.int .i64 (z))).ownsRow base 3 1 (.slice (some ⟨g, 0, none⟩) n capv) n (intsL (fun _ => z) (q + 1) ++ xs.drop (q + 1)) ∧ w.grownBy (wr.setCell ⟨g, q, none⟩ (.int .i64 (z))) (Value.slice (some ⟨g, 0, none⟩) n capv).ownBlock) := ⟨hown2, World.grownBy.trans' hgr hgr2⟩
      have hi1 : (q : Int) < (n : Int) := by omega
      clear hown hown2 hgr2 hgr hx
      go_wp2_with fail
      go_roundw
      case rel => exact ⟨q + 1, by omega, by go_num, HN.out.1, HN.out.2⟩
      case measure => simp [intOf]; omega
    · have e : q = n := by omega
      subst e
      have hown' : wr.ownsRow base 3 1 (.slice pv q capv) q (intsL (fun _ => z) q) := by
        have : xs.drop q = [] := List.drop_eq_nil_of_le (by omega)
        rw [this, List.append_nil] at hown
        exact hown
      have HO : Hid (wr.ownsRow base 3 1 (.slice pv q capv) q (intsL (fun _ => z) q)) := hown'
      have HG : Hid (w.grownBy wr (Value.slice pv q capv).ownBlock) := hgr
      have hsz := hgr.size
      have hnn : ¬ (q : Int) < (q : Int) := by omega
      have HA1 : Hid (intsL (fun _ => z) q ++ [.int .i64 (z)] = intsL (fun _ => z) (q + 1)) := intsL_add1 _ _
      have HA2 : Hid (intsL (fun _ => z) q ++ [.int .i64 (z), .int .i64 z] = intsL (fun _ => z) (q + 2)) := intsL_add2 _ _
      have HA3 : Hid (intsL (fun _ => z) q ++ [.int .i64 (z), .int .i64 z, .int .i64 z] = intsL (fun _ => z) (q + 3)) := intsL_add3 _ _
      obtain ⟨P, hP⟩ : ∃ P : Nat → Int, P = fun _ => z := ⟨_, rfl⟩
      rw [← hP] at HO HA1 HA2 HA3
      have HP : Hid (P = fun _ => z) := hP
      clear hown hown' hgr hP
      generalize hl0 : intsL P q = pl at *
      have HL0 : Hid (intsL P q = pl) := hl0
      clear hl0
      go_wp2_with (at_builtin; refine wpList_append_keep rfl (.tmp 26) (.tmp 28) 45 rfl base 3 i (.int .i64 0) 8 Tryz.underlying45 hi hz0 hz1 hz2 rfl _ q _ rfl (HO.out.alloc _) ⟨_, 0, none⟩ 1 1 [.int .i64 z] rfl rfl (cell_one_new _ _ _) ?c2 (by unfold maxLen; omega) (by omega) (by simp; omega) (by omega) ?_)
      case c2 => first | rfl | (intro u hu; simp at hu; subst hu; rfl)
      intro v1 w1 ho1 hg1 hat1 hk1 hcl1
      obtain ⟨g1, k1, rfl⟩ := own_form ho1 (by omega)
      have G1 : w.grownBy w1 (Value.slice pv q capv).ownBlock := World.grownBy.trans' HG.out (World.grownBy.trans' (World.grownBy_alloc wr _ _) hg1)
      rw [HA1.out] at ho1
      have p1 : PR w1 (.slice (some ⟨g1, 0, none⟩) (q + 1) k1) (q + 1) P (Value.int .i64) := PR.of ho1
      have o1 : Out5 M F g1 := by
        rcases hat1 with e | e
        · exact hvo g1 e.symm
        · have : g1 = wr.heap.size + 1 := by simpa [Value.ownBlock] using e
          exact HB.out.fresh (by omega)
      have HO1 : Hid (w1.ownsRow base 3 1 (.slice pv q capv) q pl) := hk1
      have HP1 : Hid (PR w1 (.slice (some ⟨g1, 0, none⟩) (q + 1) k1) (q + 1) P (Value.int .i64)) := p1
      have HG1 : Hid (w.grownBy w1 (Value.slice pv q capv).ownBlock) := G1
      have HX1 : Hid (Out5 M F g1) := o1
      have HW1 : Hid (∀ k, (Value.slice (some ⟨g1, 0, none⟩) (q + 1) k1).ownBlock = some k → (Value.slice pv q capv).ownBlock = some k ∨ w.heap.size ≤ k) := by
        intro k hk
        rcases hat1 with e | e
        · exact Or.inl (by rw [← e]; exact hk)
        · have e' : g1 = wr.heap.size + 1 := by simpa [Value.ownBlock] using e
          have : g1 = k := by simpa [Value.ownBlock] using hk
          right; omega
      have hs1 := G1.size
      clear ho1 hg1 hat1 hk1 hcl1 G1 p1 o1 HG HO
      go_wp2_with (at_builtin; refine wpList_append_keep rfl (.tmp 30) (.tmp 33) 45 rfl base 3 i (.int .i64 0) 8 Tryz.underlying45 hi hz0 hz1 hz2 rfl _ q _ rfl (HO1.out.alloc _) ⟨_, 0, none⟩ 2 2 [.int .i64 z, .int .i64 z] rfl rfl (cells_new _ _ _) ?c2 (by unfold maxLen; omega) (by omega) (by simp; omega) (by omega) ?_)
      case c2 => first | exact ⟨rfl, rfl⟩ | (intro u hu; simp at hu; rcases hu with rfl | rfl <;> rfl)
      intro v2 w2 ho2 hg2 hat2 hk2 hcl2
      obtain ⟨g2, k2, rfl⟩ := own_form ho2 (by omega)
      have G2 : w.grownBy w2 (Value.slice pv q capv).ownBlock := World.grownBy.trans' HG1.out (World.grownBy.trans' (World.grownBy_alloc w1 _ _) hg2)
      rw [HA2.out] at ho2
      have p2 : PR w2 (.slice (some ⟨g2, 0, none⟩) (q + 2) k2) (q + 2) P (Value.int .i64) := PR.of ho2
      have p1 : PR w2 (.slice (some ⟨g1, 0, none⟩) (q + 1) k1) (q + 1) P (Value.int .i64) := (HP1.out.alloc _).keep hg2 (fun j x hx => by
        match j, hx with
        | 0, hx => simp at hx; rw [HP.out]; exact hx.symm
        | 1, hx => simp at hx; rw [HP.out]; exact hx.symm
        | j + 2, hx => simp at hx) hcl2
      have o2 : Out5 M F g2 := by
        rcases hat2 with e | e
        · exact hvo g2 e.symm
        · have : g2 = w1.heap.size + 1 := by simpa [Value.ownBlock] using e
          exact HB.out.fresh (by omega)
      have HO2 : Hid (w2.ownsRow base 3 1 (.slice pv q capv) q pl) := hk2
      have HP2 : Hid (PR w2 (.slice (some ⟨g1, 0, none⟩) (q + 1) k1) (q + 1) P (Value.int .i64) ∧ PR w2 (.slice (some ⟨g2, 0, none⟩) (q + 2) k2) (q + 2) P (Value.int .i64)) := ⟨p1, p2⟩
      have HG2 : Hid (w.grownBy w2 (Value.slice pv q capv).ownBlock) := G2
      have HX2 : Hid (Out5 M F g2) := o2
      have HW2 : Hid (∀ k, (Value.slice (some ⟨g2, 0, none⟩) (q + 2) k2).ownBlock = some k → (Value.slice pv q capv).ownBlock = some k ∨ w.heap.size ≤ k) := by
        intro k hk
        rcases hat2 with e | e
        · exact Or.inl (by rw [← e]; exact hk)
        · have e' : g2 = w1.heap.size + 1 := by simpa [Value.ownBlock] using e
          have : g2 = k := by simpa [Value.ownBlock] using hk
          right; omega
      have hs2 := G2.size
      clear ho2 hg2 hat2 hk2 hcl2 G2 p1 p2 o2 HG1 HO1 HP1
      go_wp2_with (at_builtin; refine wpList_append_keep rfl (.tmp 35) (.tmp 39) 45 rfl base 3 i (.int .i64 0) 8 Tryz.underlying45 hi hz0 hz1 hz2 rfl _ q _ rfl (HO2.out.alloc _) ⟨_, 0, none⟩ 3 3 [.int .i64 z, .int .i64 z, .int .i64 z] rfl rfl (cells_new _ _ _) ?c2 (by unfold maxLen; omega) (by omega) (by simp; omega) (by omega) ?_)
      case c2 => first | exact ⟨rfl, rfl, rfl⟩ | (intro u hu; simp at hu; rcases hu with rfl | rfl | rfl <;> rfl)
      intro v3 w3 ho3 hg3 hat3 hk3 hcl3
      obtain ⟨g3, k3, rfl⟩ := own_form ho3 (by omega)
      have G3 : w.grownBy w3 (Value.slice pv q capv).ownBlock := World.grownBy.trans' HG2.out (World.grownBy.trans' (World.grownBy_alloc w2 _ _) hg3)
      rw [HA3.out] at ho3
      have hn3 : ∀ (j : Nat) (x : Value), [Value.int .i64 z, .int .i64 z, .int .i64 z][j]? = some x → x = Value.int .i64 (P (q + j)) := fun j x hx => by
        match j, hx with
        | 0, hx => simp at hx; rw [HP.out]; exact hx.symm
        | 1, hx => simp at hx; rw [HP.out]; exact hx.symm
        | 2, hx => simp at hx; rw [HP.out]; exact hx.symm
        | j + 3, hx => simp at hx
      have p3 : PR w3 (.slice (some ⟨g3, 0, none⟩) (q + 3) k3) (q + 3) P (Value.int .i64) := PR.of ho3
      have p1 := (HP2.out.1.alloc (.cells #[.int .i64 z, .int .i64 z, .int .i64 z] 3)).keep hg3 hn3 hcl3
      have p2 := (HP2.out.2.alloc (.cells #[.int .i64 z, .int .i64 z, .int .i64 z] 3)).keep hg3 hn3 hcl3
      have p0 : PR w3 (.slice pv q capv) q P (Value.int .i64) := by
        rw [← HL0.out] at hk3
        exact PR.of hk3
      have o3 : Out5 M F g3 := by
        rcases hat3 with e | e
        · exact hvo g3 e.symm
        · have : g3 = w2.heap.size + 1 := by simpa [Value.ownBlock] using e
          exact HB.out.fresh (by omega)
      have hB3 := HB.out.out G3 hvo
      have hD3 := HDt.out.out G3 (fun u g hu hr => hnew u g hu hr)
      have HX3 : Hid (∀ u ∈ [Value.slice pv q capv, .slice (some ⟨g1, 0, none⟩) (q + 1) k1, .slice (some ⟨g2, 0, none⟩) (q + 2) k2, .slice (some ⟨g3, 0, none⟩) (q + 3) k3], ∀ g, u.ownBlock = some g → Out5 M F g) := by
        intro u hu g hg
        simp only [List.mem_cons, List.not_mem_nil, or_false] at hu
        rcases hu with rfl | rfl | rfl | rfl
        · exact hvo g hg
        · have : g1 = g := by simpa [Value.ownBlock] using hg
          rw [← this]; exact HX1.out
        · have : g2 = g := by simpa [Value.ownBlock] using hg
          rw [← this]; exact HX2.out
        · have : g3 = g := by simpa [Value.ownBlock] using hg
          rw [← this]; exact o3
      have HP3 : Hid (∀ u ∈ [Value.slice pv q capv, .slice (some ⟨g1, 0, none⟩) (q + 1) k1, .slice (some ⟨g2, 0, none⟩) (q + 2) k2, .slice (some ⟨g3, 0, none⟩) (q + 3) k3], ∃ k, k ≤ 2000 ∧ PR w3 u k P (Value.int .i64)) := by
        intro u hu
        simp only [List.mem_cons, List.not_mem_nil, or_false] at hu
        rcases hu with rfl | rfl | rfl | rfl
        · exact ⟨q, by omega, p0⟩
        · exact ⟨q + 1, by omega, p1⟩
        · exact ⟨q + 2, by omega, p2⟩
        · exact ⟨q + 3, by omega, p3⟩
      have HNW : Hid (∀ u ∈ [Value.slice pv q capv, .slice (some ⟨g1, 0, none⟩) (q + 1) k1, .slice (some ⟨g2, 0, none⟩) (q + 2) k2, .slice (some ⟨g3, 0, none⟩) (q + 3) k3], ∀ k, u.ownBlock = some k → (Value.slice pv q capv).ownBlock = some k ∨ w.heap.size ≤ k) := by
        intro u hu k hk
        simp only [List.mem_cons, List.not_mem_nil, or_false] at hu
        rcases hu with rfl | rfl | rfl | rfl
        · exact Or.inl hk
        · exact HW1.out k hk
        · exact HW2.out k hk
        · rcases hat3 with e | e
          · exact Or.inl (by rw [← e]; exact hk)
          · have e' : g3 = w2.heap.size + 1 := by simpa [Value.ownBlock] using e
            have : g3 = k := by simpa [Value.ownBlock] using hk
            right; omega
      have K3 : Kept base M w w3 := ⟨G3.os, G3.tape, G3.output, G3.size, fun k hk hkM => G3.block k (by omega) (fun c => (hvb k c.symm) hk)⟩
      have HB3 : Hid (BK base M w3 F X) := hB3
      have HD3 : Hid (BD M w3 F X) := hD3
      have HK3 : Hid (Kept base M w w3) := K3
      have HR3 : Hid (∀ k, k < w.heap.size → Out5 M F k → (Value.slice pv q capv).ownBlock ≠ some k → w3.heap[k]? = w.heap[k]?) := fun k hk _ hne => G3.block k hk (fun c => hne c.symm)
      have HO0 : Hid (w3.ownsRow base 45 1 (F 1) (X 1).length (X 1)) := hB3.own 1 (by omega)
      have c0 := hB3.cell 1 (by omega)
      have f0 := hB3.thaw 1
      have hs3 := G3.size
      obtain ⟨n0, hn0⟩ : ∃ n0, (X 1).length = n0 := ⟨_, rfl⟩
      rw [hn0] at HO0 hX0
      have hX4 : (m + 4) * 8 ≤ 140737488355328 := by have := HM.out; omega
      have HN0 : Hid ((X 1).length = n0) := hn0
      have hlen2 := hlen
      clear ho3 hg3 hat3 hk3 hcl3 G3 p0 p1 p2 p3 o3 HG2 HO2 HP2 hB3 hD3 K3 hn0 hlen hn3
      go_wp2_with (at_builtin; refine wpList_append_own_at _ rfl (.tmp 45) (.tmp 50) 60 rfl base 45 ib (.slice none 0 0) 1 24 Tryz.underlying60 hib hzb0 hzb1 hzb2 rfl (by decide) _ n0 _ rfl (HO0.out.alloc _) ⟨_, 0, none⟩ 4 4 [.slice pv q capv, .slice (some ⟨g1, 0, none⟩) (q + 1) k1, .slice (some ⟨g2, 0, none⟩) (q + 2) k2, .slice (some ⟨g3, 0, none⟩) (q + 3) k3] rfl rfl (cells_new _ _ _) ?c2 (by unfold maxLen; omega) (by omega) (by simp; omega) ?_)
      case c2 => first | exact ⟨rfl, rfl, rfl, rfl⟩ | (intro u hu; simp at hu; rcases hu with rfl | rfl | rfl | rfl <;> rfl)
      intro v4 w4 ho4 hg4 _ hat4
      obtain ⟨g4, k4, rfl⟩ := own_form ho4 (by omega)
      have hat4 : (Value.slice (some ⟨g4, 0, none⟩) (n0 + 4) k4).ownBlock = (F 1).ownBlock ∨ (Value.slice (some ⟨g4, 0, none⟩) (n0 + 4) k4).ownBlock = some (World.alloc w3 (.cells #[.slice pv q capv, .slice (some ⟨g1, 0, none⟩) (q + 1) k1, .slice (some ⟨g2, 0, none⟩) (q + 2) k2, .slice (some ⟨g3, 0, none⟩) (q + 3) k3] 45)).heap.size := by rw [World.size_alloc]; exact hat4
      have hBA := HB3.out.below ((Below.refl w3.heap.size w3).alloc (Nat.le_refl _) (.cells #[.slice pv q capv, .slice (some ⟨g1, 0, none⟩) (q + 1) k1, .slice (some ⟨g2, 0, none⟩) (q + 2) k2, .slice (some ⟨g3, 0, none⟩) (q + 3) k3] 45))
      have hDA := HD3.out.below ((Below.refl w3.heap.size w3).alloc (Nat.le_refl _) (.cells #[.slice pv q capv, .slice (some ⟨g1, 0, none⟩) (q + 1) k1, .slice (some ⟨g2, 0, none⟩) (q + 2) k2, .slice (some ⟨g3, 0, none⟩) (q + 3) k3] 45))
      have R4 := hBA.grow 1 (by omega) _ [.slice pv q capv, .slice (some ⟨g1, 0, none⟩) (q + 1) k1, .slice (some ⟨g2, 0, none⟩) (q + 2) k2, .slice (some ⟨g3, 0, none⟩) (q + 3) k3] hg4 (by rw [HN0.out]; exact ho4) hat4
      have D4 := hDA.grow 1 (by omega) _ hg4 hat4
      have hne : some M ≠ (F 1).ownBlock := own_ne (hBA.own 1 (by omega)) hlt
      have hv4 : w4.cell? ⟨M, 1, none⟩ = some (F 1) := hg4.cell (a := ⟨M, 1, none⟩) (hBA.cell 1 (by omega)) hne
      have hf4 : w4.frozen? ⟨M, 1, none⟩ = false := by
        rw [World.frozen?_of_block (w := World.alloc w3 (.cells #[.slice pv q capv, .slice (some ⟨g1, 0, none⟩) (q + 1) k1, .slice (some ⟨g2, 0, none⟩) (q + 2) k2, .slice (some ⟨g3, 0, none⟩) (q + 3) k3] 45)) (a := ⟨M, 1, none⟩) (hg4.block M (Nat.lt_of_lt_of_le hBA.lt hBA.le) hne)]
        exact hBA.thaw 1
      have K4 : Kept base M w (w4.setCell ⟨M, 1, none⟩ (.slice (some ⟨g4, 0, none⟩) (n0 + 4) k4)) := (HK3.out.trans (Kept.alloc w3 (by omega) _)).trans ((kept_grown (M := M) (hBA.own 1 (by omega)) hBA.le hg4).trans (Kept.set base M w4 1 _))
      have P4 : ∀ u ∈ [Value.slice pv q capv, .slice (some ⟨g1, 0, none⟩) (q + 1) k1, .slice (some ⟨g2, 0, none⟩) (q + 2) k2, .slice (some ⟨g3, 0, none⟩) (q + 3) k3], (∃ k, k ≤ 2000 ∧ PR (w4.setCell ⟨M, 1, none⟩ (.slice (some ⟨g4, 0, none⟩) (n0 + 4) k4)) u k P (Value.int .i64)) ∧ ∀ g, u.ownBlock = some g → Out5 M (upd F 1 (.slice (some ⟨g4, 0, none⟩) (n0 + 4) k4)) g := by
        intro u hu
        obtain ⟨k, hk, hp⟩ := HP3.out u hu
        have hO := HX3.out u hu
        refine ⟨⟨k, hk, (hp.alloc (.cells #[.slice pv q capv, .slice (some ⟨g1, 0, none⟩) (q + 1) k1, .slice (some ⟨g2, 0, none⟩) (q + 2) k2, .slice (some ⟨g3, 0, none⟩) (q + 3) k3] 45)).away (by have := hg4.size; simp at this ⊢; omega) (fun g hg hl => ?_)⟩, fun g hg => (hO g hg).grow (w := World.alloc w3 (.cells #[.slice pv q capv, .slice (some ⟨g1, 0, none⟩) (q + 1) k1, .slice (some ⟨g2, 0, none⟩) (q + 2) k2, .slice (some ⟨g3, 0, none⟩) (q + 3) k3] 45)) (by omega) (by have := hp.block hg; simp; omega) hat4⟩
        rw [heap_setCell_other _ ⟨M, 1, none⟩ _ _ (hO g hg).1]
        exact hg4.block g hl (fun c => (hO g hg).2 1 (by omega) c.symm)
      have c4' := R4.cell 5 (by omega)
      rw [upd_other _ _ (show (5 : Nat) ≠ 1 by omega), HF4.out, HM.out] at c4'
      have f4' := R4.thaw 5
      have o4' := R4.own 5 (by omega)
      rw [upd_other _ _ (show (5 : Nat) ≠ 1 by omega), upd_other _ _ (show (5 : Nat) ≠ 1 by omega), HF4.out, HM.out] at o4'
      have HO4 : Hid ((w4.setCell ⟨M, 1, none⟩ (.slice (some ⟨g4, 0, none⟩) (n0 + 4) k4)).ownsRow base 3 1 (.slice a4 m cap4) m (X 5)) := o4'
      have HR4 : Hid (BK base M (w4.setCell ⟨M, 1, none⟩ (.slice (some ⟨g4, 0, none⟩) (n0 + 4) k4)) (upd F 1 (.slice (some ⟨g4, 0, none⟩) (n0 + 4) k4)) (upd X 1 (X 1 ++ [.slice pv q capv, .slice (some ⟨g1, 0, none⟩) (q + 1) k1, .slice (some ⟨g2, 0, none⟩) (q + 2) k2, .slice (some ⟨g3, 0, none⟩) (q + 3) k3]))) := R4
      have HD4 : Hid (BD M (w4.setCell ⟨M, 1, none⟩ (.slice (some ⟨g4, 0, none⟩) (n0 + 4) k4)) (upd F 1 (.slice (some ⟨g4, 0, none⟩) (n0 + 4) k4)) X) := D4
      have HK4 : Hid (Kept base M w (w4.setCell ⟨M, 1, none⟩ (.slice (some ⟨g4, 0, none⟩) (n0 + 4) k4))) := K4
      have HR4' : Hid (∀ k, k < w.heap.size → Out5 M F k → (Value.slice pv q capv).ownBlock ≠ some k → (w4.setCell ⟨M, 1, none⟩ (.slice (some ⟨g4, 0, none⟩) (n0 + 4) k4)).heap[k]? = w.heap[k]?) := fun k hk ho hne => by
        rw [heap_setCell_other _ ⟨M, 1, none⟩ _ _ ho.1, hg4.block k (by simp; omega) (fun c => ho.2 1 (by omega) c.symm), Below.heap_alloc w3 _ k (by omega)]
        exact HR3.out k hk ho hne
      have HP4 : Hid (∀ u ∈ [Value.slice pv q capv, .slice (some ⟨g1, 0, none⟩) (q + 1) k1, .slice (some ⟨g2, 0, none⟩) (q + 2) k2, .slice (some ⟨g3, 0, none⟩) (q + 3) k3], (∃ k, k ≤ 2000 ∧ PR (w4.setCell ⟨M, 1, none⟩ (.slice (some ⟨g4, 0, none⟩) (n0 + 4) k4)) u k P (Value.int .i64)) ∧ ∀ g, u.ownBlock = some g → Out5 M (upd F 1 (.slice (some ⟨g4, 0, none⟩) (n0 + 4) k4)) g) := P4
      have HU4 : Hid (∀ k, k < w.heap.size → Out5 M F k → Out5 M (upd F 1 (.slice (some ⟨g4, 0, none⟩) (n0 + 4) k4)) k) := fun k hk ho => ho.grow (w := World.alloc w3 (.cells #[.slice pv q capv, .slice (some ⟨g1, 0, none⟩) (q + 1) k1, .slice (some ⟨g2, 0, none⟩) (q + 2) k2, .slice (some ⟨g3, 0, none⟩) (q + 3) k3] 45)) (by omega) (by simp; omega) hat4
      have hs4 : base ≤ w4.heap.size := by have := R4.le; simpa using this
      clear ho4 hg4 hat4 hBA hDA R4 D4 K4 P4 o4' HB3 HD3 HK3 HP3 HX3 HO0
      go_wp2_with fail
      generalize hnf : Value.slice (some ⟨g4, 0, none⟩) (n0 + 4) k4 = nf at *
      generalize w4.setCell ⟨M, 1, none⟩ nf = w5 at *
      have hs5 := HR4.out.le
      have H6 : Hid (∀ (o : Obj) (w6 : World), (w5.drew.alloc o).grownBy w6 (Value.slice a4 m cap4).ownBlock → w6.cell? ⟨M, 5, none⟩ = some (.slice a4 m cap4) ∧ w6.frozen? ⟨M, 5, none⟩ = false) := by
        intro o w6 hg6
        have hb := HR4.out.below (((Below.refl w5.heap.size w5).drew).alloc (Nat.le_refl _) o)
        have hne6 : some M ≠ (Value.slice a4 m cap4).ownBlock := own_ne HO4.out hlt
        have e4 : (w5.drew.alloc o).cell? ⟨M, 5, none⟩ = some (.slice a4 m cap4) := (World.cell?_alloc_past _ _ _ (by show M < w5.heap.size; omega)).trans c4'
        refine ⟨hg6.cell (a := ⟨M, 5, none⟩) e4 hne6, ?_⟩
        rw [World.frozen?_of_block (w := w5.drew.alloc o) (a := ⟨M, 5, none⟩) (hg6.block M (by simp; omega) hne6)]
        exact hb.thaw 5
      have HFIN : Hid (∀ (o : Obj) (v6 : Value) (w6 : World), w6.ownsRow base 3 1 v6 (m + 4) (X 5 ++ [.int .i64 z, .int .i64 z, .int .i64 z, .int .i64 z]) → (w5.drew.alloc o).grownBy w6 (Value.slice a4 m cap4).ownBlock → (v6.ownBlock = (Value.slice a4 m cap4).ownBlock ∨ v6.ownBlock = some (w5.drew.alloc o).heap.size) →
          ∃ F' vs ns, vs.length = 4 ∧ ns.length = 4 ∧ BK base M (w6.setCell ⟨M, 5, none⟩ v6) F' (upd (upd X 1 (X 1 ++ vs)) 5 (X 5 ++ ns)) ∧ BD M (w6.setCell ⟨M, 5, none⟩ v6) F' (upd (upd X 1 (X 1 ++ vs)) 5 (X 5 ++ ns)) ∧ Kept base M w (w6.setCell ⟨M, 5, none⟩ v6) ∧ (∀ k, k < w.heap.size → Out5 M F k → (Value.slice pv q capv).ownBlock ≠ some k → (w6.setCell ⟨M, 5, none⟩ v6).heap[k]? = w.heap[k]?) ∧ (∀ k, k < w.heap.size → Out5 M F k → Out5 M F' k) ∧ (∀ u ∈ vs, ∀ k, u.ownBlock = some k → (Value.slice pv q capv).ownBlock = some k ∨ w.heap.size ≤ k)) := by
        intro o v6 w6 ho6 hg6 hat6
        have hB5 := HR4.out.below (((Below.refl w5.heap.size w5).drew).alloc (Nat.le_refl _) o)
        have hD5 := HD4.out.below (((Below.refl w5.heap.size w5).drew).alloc (Nat.le_refl _) o)
        have eF : upd F 1 nf 5 = .slice a4 m cap4 := by rw [upd_other _ _ (show (5 : Nat) ≠ 1 by omega), HF4.out, HM.out]
        have eX : upd X 1 (X 1 ++ [Value.slice pv q capv, .slice (some ⟨g1, 0, none⟩) (q + 1) k1, .slice (some ⟨g2, 0, none⟩) (q + 2) k2, .slice (some ⟨g3, 0, none⟩) (q + 3) k3]) 5 = X 5 := upd_other _ _ (show (5 : Nat) ≠ 1 by omega)
        have R6 := hB5.grow 5 (by omega) v6 [.int .i64 z, .int .i64 z, .int .i64 z, .int .i64 z] (by rw [eF]; exact hg6) (by rw [eX, HM.out]; exact ho6) (by rw [eF]; exact hat6)
        have D6 := hD5.grow 5 (by omega) v6 (by rw [eF]; exact hg6) (by rw [eF]; exact hat6)
        rw [eX] at R6
        have D7 := D6.addNumbers z [Value.slice pv q capv, .slice (some ⟨g1, 0, none⟩) (q + 1) k1, .slice (some ⟨g2, 0, none⟩) (q + 2) k2, .slice (some ⟨g3, 0, none⟩) (q + 3) k3] [.int .i64 z, .int .i64 z, .int .i64 z, .int .i64 z] rfl (by
          intro u hu
          obtain ⟨⟨k, hk, hp⟩, hO⟩ := HP4.out u hu
          have hO6 : ∀ g, u.ownBlock = some g → Out5 M (upd (upd F 1 nf) 5 v6) g := fun g hg => (hO g hg).grow (w := w5.drew.alloc o) (by omega) (by have := hp.block hg; simp; omega) (by rw [eF]; exact hat6)
          have hp6 : PR (w6.setCell ⟨M, 5, none⟩ v6) u k P (Value.int .i64) := by
            refine hp.away (by have := hg6.size; simp at this ⊢; omega) (fun g hg hl => ?_)
            rw [heap_setCell_other _ ⟨M, 5, none⟩ _ _ (hO g hg).1, hg6.block g (by simp; omega) (fun c => (hO g hg).2 5 (by omega) (by rw [eF]; exact c.symm)), Below.heap_alloc w5.drew o g hl]
            rfl
          refine ⟨k, by omega, ?_, fun g hg => ⟨hp6.block hg, hO6 g hg⟩⟩
          have := hp6.ncoded
          rw [HP.out] at this
          exact this)
        refine ⟨_, _, _, rfl, rfl, R6, D7, ?_, ?_, fun k hk ho => (HU4.out k hk ho).grow (w := w5.drew.alloc o) (by omega) (by have := HK4.out.size; simp; omega) (by rw [eF]; exact hat6), HNW.out⟩
        rotate_left
        · intro k hk ho hne
          rw [heap_setCell_other _ ⟨M, 5, none⟩ _ _ ho.1, hg6.block k (by have := HK4.out.size; simp; omega) (fun c => ho.2 5 (by omega) (by rw [HF4.out, HM.out]; exact c.symm)), Below.heap_alloc w5.drew o k (by have := HK4.out.size; show k < w5.heap.size; omega)]
          exact HR4'.out k hk ho hne
        have kA : Kept base M w5 (w5.drew.alloc o) := (Kept.refl base M w5).drewA o hs5
        exact (HK4.out.trans kA).trans ((kept_grown (M := M) (by rw [← eF]; have := hB5.own 5 (by omega); rw [eX] at this; exact this) hB5.le hg6).trans (Kept.set base M w6 5 v6))
      have HO5 : Hid (w5.drew.ownsRow base 3 1 (.slice a4 m cap4) m (X 5)) := HO4.out
      have hM5 : M < w5.heap.size := by omega
      clear HR4 HD4 HK4 HP4 HO4 HB HDt hvo hnew hvb
      go_region_law (refine step_append_own rfl (.tmp 59) (.tmp 64) 45 rfl base 3 ii (.int .i64 0) 1 8 Tryz.underlying45 hii hzi0 hzi1 hzi2 rfl (by decide) (.slice a4 m cap4) m (X 5) (by simp [Act.eval]) (HO5.out.alloc _) ⟨w5.heap.size, 0, none⟩ 4 4 [.int .i64 z, .int .i64 z, .int .i64 z, .int .i64 z] (by simp [Act.eval]) rfl (cells_new _ _ _) (by intro u hu; simp at hu; subst hu; rfl) (by unfold maxLen; omega) (by omega) (by simp; omega) ?_; intro v6 w6 ho6 hg6 hat6; obtain ⟨g6, k6, rfl⟩ := own_form ho6 (by omega); obtain ⟨c6, f6⟩ := H6.out _ w6 hg6; have HALL : Hid _ := HFIN.out _ _ w6 ho6 hg6 hat6; clear ho6 hg6 hat6)
      all_goals
        go_wp2
        go_end0
        exact ⟨rfl, HALL.out⟩
end Go.Proofs.YtflenkppcclclaaGreatDoor

namespace Go.Proofs.YtflenkppcclclaaGreatDoor
open Go.RowKit

/-- Where a number first stands in a row. -/
def PlaceIs (l : Nat → Int) (n : Nat) (x r : Int) : Prop := (∃ i : Nat, i < n ∧ l i = x ∧ (∀ j, j < i → l j ≠ x) ∧ r = i) ∨ ((∀ j, j < n → l j ≠ x) ∧ r = -1)

theorem place_any (w : World) (v : Value) (n : Nat) (l : Nat → Int) (C : NCoded w v n l) (hn : n ≤ 1000) (x : Int) :
    Calls Tryz.prog 149 #[v, .int .i64 x] w fun e w' => w' = w ∧ ∃ r, PlaceIs l n x r ∧ e = .returned (.int .i64 r) := by
  cases C with
  | bare p cap hv hL =>
    subst hv hL
    have HR : Hid (PlaceIs l 0 x (-1)) := Or.inr ⟨fun j h => by omega, rfl⟩
    go_enter Tryz.func149, Tryz.ntmps149
    go_wp2_with fail
    go_loopw [5] (fun i wr => i = .int .i64 0 ∧ wr = w) (fun _ _ => 0)
    case atStart => exact ⟨rfl, rfl⟩
    case round =>
      obtain ⟨rfl, rfl⟩ := hrel
      go_wp2_with fail
      go_ret
      exact ⟨rfl, _, HR.out, rfl⟩
  | full g o cap hv hc hr hr' h0 =>
    subst hv
    have HC : Hid (∀ i, i < n → w.cell? ⟨g, o + i, none⟩ = some (.int .i64 (l i))) := hc
    clear hc
    go_enter Tryz.func149, Tryz.ntmps149
    go_wp2_with fail
    go_loopw [5] (fun i wr => ∃ k : Nat, k ≤ n ∧ i = .int .i64 k ∧ (∀ j, j < k → l j ≠ x) ∧ wr = w) (fun i _ => n - (intOf i).toNat)
    case atStart => exact ⟨0, by omega, rfl, fun j h => by omega, rfl⟩
    case round =>
      obtain ⟨k, hk, rfl, hne, rfl⟩ := hrel
      by_cases hkn : k < n
      · have ck := HC.out k hkn
        have hi1 : (k : Int) < (n : Int) := by omega
        by_cases hx : l k = x
        · have HR : Hid (PlaceIs l n x (k : Int)) := Or.inl ⟨k, hkn, hx, hne, rfl⟩
          rw [hx] at ck
          clear hne hx
          go_wp2_with fail
          go_ret
          exact ⟨rfl, _, HR.out, rfl⟩
        · have hb : (l k == x) = false := by rw [beq_eq_false_iff_ne]; exact hx
          have HN : Hid (∀ j, j < k + 1 → l j ≠ x) := fun j hj => by
            by_cases e : j = k
            · subst e; exact hx
            · exact hne j (by omega)
          clear hne
          generalize l k = y at *
          go_wp2_with fail
          go_roundw
          case rel => exact ⟨k + 1, by omega, by go_num, HN.out, by first | rfl | trivial⟩
          case measure => simp [intOf]; omega
      · have e : k = n := by omega
        subst e
        have HR : Hid (PlaceIs l k x (-1)) := Or.inr ⟨hne, rfl⟩
        have hnn : ¬ (k : Int) < (k : Int) := by omega
        clear hne
        go_wp2_with fail
        go_ret
        exact ⟨rfl, _, HR.out, rfl⟩

/-- Two rows with the same numbers. -/
theorem sameNumbers_any (w : World) (u v : Value) (n : Nat) (l : Nat → Int) (C : NCoded w u n l) (D : NCoded w v n l) (hn : n ≤ 1000) :
    Calls Tryz.prog 103 #[u, v] w fun e w' => Sm w w' ∧ e = .returned (.bool true) := by
  cases C with
  | bare p cap hv hL =>
    subst hv hL
    obtain ⟨q, cap2, rfl⟩ : ∃ q c, v = .slice q 0 c := by
      cases D with
      | bare p cap hv _ => exact ⟨_, _, hv⟩
      | full g o cap hv hc hr hr' h0 => omega
    clear D
    go_enter Tryz.func103, Tryz.ntmps103
    go_wp2_with fail
    go_loopw [5] (fun i wr => i = .int .i64 0 ∧ wr = w) (fun _ _ => 0)
    case atStart => exact ⟨rfl, rfl⟩
    case round =>
      obtain ⟨rfl, rfl⟩ := hrel
      go_wp2_with fail
      go_ret
      exact ⟨Sm.refl _, rfl⟩
  | full g o cap hv hc hr hr' h0 =>
    subst hv
    cases D with
    | bare p cap hv hL => omega
    | full g2 o2 cap2 hv2 hc2 hr2 hr2' _ =>
      subst hv2
      have HC : Hid (∀ i, i < n → w.cell? ⟨g, o + i, none⟩ = some (.int .i64 (l i))) := hc
      have HC2 : Hid (∀ i, i < n → w.cell? ⟨g2, o2 + i, none⟩ = some (.int .i64 (l i))) := hc2
      clear hc hc2
      go_enter Tryz.func103, Tryz.ntmps103
      go_wp2_with fail
      go_loopw [5] (fun i wr => ∃ k : Nat, k ≤ n ∧ i = .int .i64 k ∧ Sm w wr) (fun i _ => n - (intOf i).toNat)
      case atStart => exact ⟨0, by omega, rfl, Sm.refl _⟩
      case round =>
        obtain ⟨k, hk, rfl, hS⟩ := hrel
        have HS : Hid (Sm w wr) := hS
        by_cases hkn : k < n
        · have ck : wr.cell? ⟨g, o + k, none⟩ = some (.int .i64 (l k)) := (World.cell?_of_block (w := w) (a := ⟨g, o + k, none⟩) (by rw [hS.heap])).trans (HC.out k hkn)
          have ck2 : wr.cell? ⟨g2, o2 + k, none⟩ = some (.int .i64 (l k)) := (World.cell?_of_block (w := w) (a := ⟨g2, o2 + k, none⟩) (by rw [hS.heap])).trans (HC2.out k hkn)
          clear hS
          have hi1 : (k : Int) < (n : Int) := by omega
          generalize l k = y at *
          go_wp2_with fail
          go_quiet (fail)
          go_wp2_with fail
          go_roundw
          case rel => exact ⟨k + 1, by omega, by go_num, HS.out.drewN _⟩
          case measure => simp [intOf]; omega
        · have e : k = n := by omega
          subst e
          have hnn : ¬ (k : Int) < (k : Int) := by omega
          clear hS
          go_wp2_with fail
          go_ret
          exact ⟨HS.out, rfl⟩
end Go.Proofs.YtflenkppcclclaaGreatDoor

