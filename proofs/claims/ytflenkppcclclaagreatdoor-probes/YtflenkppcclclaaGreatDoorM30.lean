import Derived.Test.YtflenkppcclclaaGreatDoorM29
namespace Go.Proofs.YtflenkppcclclaaGreatDoor
open Go.RowKit

theorem fill_set (f : Nat → Int) (xs : List Value) (q : Nat) (hq : q < xs.length) : (bytesL f q ++ xs.drop q).set q (.int .u8 (f q)) = bytesL f (q + 1) ++ xs.drop (q + 1) := by
  have hl := bytesL_len f q
  rw [List.set_append_right _ _ (by omega), hl, Nat.sub_self]
  have hd : xs.drop q = xs[q] :: xs.drop (q + 1) := List.drop_eq_getElem_cons hq
  rw [hd, List.set_cons_zero]
  have : bytesL f (q + 1) = bytesL f q ++ [.int .u8 (f q)] := by unfold bytesL; rw [List.range_succ, List.map_append]; rfl
  rw [this, List.append_assoc]; rfl
theorem bytesL_add1 (f : Nat → Int) (n : Nat) : bytesL f n ++ [.int .u8 (f n)] = bytesL f (n + 1) := by unfold bytesL; rw [List.range_succ, List.map_append]; rfl
theorem bytesL_add2 (f : Nat → Int) (n : Nat) : bytesL f n ++ [.int .u8 (f n), .int .u8 (f (n + 1))] = bytesL f (n + 2) := by
  rw [← bytesL_add1 f (n + 1), ← bytesL_add1 f n, List.append_assoc]; rfl
theorem bytesL_add3 (f : Nat → Int) (n : Nat) : bytesL f n ++ [.int .u8 (f n), .int .u8 (f (n + 1)), .int .u8 (f (n + 2))] = bytesL f (n + 3) := by
  rw [← bytesL_add1 f (n + 2), ← bytesL_add2 f n, List.append_assoc]; rfl

theorem PR.away {w w' : World} {u : Value} {k : Nat} {f : Nat → Int} {t : Int → Value} (h : PR w u k f t) (hs : w.heap.size ≤ w'.heap.size) (hb : ∀ g, u.ownBlock = some g → g < w.heap.size → w'.heap[g]? = w.heap[g]?) : PR w' u k f t := by
  rcases h with h | ⟨g, cap, hu, hgl, hle, hcap, hc⟩
  · exact Or.inl h
  · exact Or.inr ⟨g, cap, hu, by omega, hle, hcap, fun j hj => (World.cell?_of_block (w := w) (a := ⟨g, j, none⟩) (hb g (by rw [hu]; rfl) hgl)).trans (hc j hj)⟩
theorem Kept.drewA {B M : Nat} {w w' : World} (h : Kept B M w w') (o : Obj) (hB : B ≤ w'.heap.size) : Kept B M w (w'.drew.alloc o) :=
  ⟨h.os, h.tape, h.output, by have := h.size; simp; omega, fun k hk hm => (Below.heap_alloc w'.drew o k (by show k < w'.heap.size; omega)).trans (h.block k hk hm)⟩
theorem BK.fresh {base M : Nat} {w : World} {F : Nat → Value} {X : Nat → List Value} (h : BK base M w F X) {g : Nat} (hg : w.heap.size ≤ g) : Out5 M F g :=
  ⟨by have := h.lt; have := h.le; omega, fun r hr c => by have := ((h.own r hr).lt g c).2; omega⟩

set_option maxHeartbeats 1500000 in
set_option maxRecDepth 100000 in
theorem ownBytes_any (base M : Nat) (w : World) (F : Nat → Value) (X : Nat → List Value) (h : BK base M w F X) (d : BD M w F X) (v : Value) (n : Nat) (xs : List Value) (hv : w.ownsRow base 5 1 v n xs) (hn : n ≤ 1000)
    (hvo : ∀ g, v.ownBlock = some g → Out5 M F g) (hnew : ∀ u g, Rec X u → v.ownBlock = some g → u.ownBlock ≠ some g) (hX0 : ((X 0).length + 4) * 24 ≤ 140737488355328) :
    Calls Tryz.prog 101 #[.pointer (some ⟨M, 0, none⟩), v] w fun e w' => e = .returned (.tuple #[]) ∧ ∃ F' vs ns, vs.length = 4 ∧ ns.length = 4 ∧ BK base M w' F' (upd (upd X 0 (X 0 ++ vs)) 4 (X 4 ++ ns)) ∧ BD M w' F' (upd (upd X 0 (X 0 ++ vs)) 4 (X 4 ++ ns)) ∧ Kept base M w w' ∧ (∀ k, k < w.heap.size → Out5 M F k → v.ownBlock ≠ some k → w'.heap[k]? = w.heap[k]?)  ∧ (∀ k, k < w.heap.size → Out5 M F k → Out5 M F' k) ∧ (∀ u ∈ vs, ∀ k, u.ownBlock = some k → v.ownBlock = some k ∨ w.heap.size ≤ k) := by
  obtain ⟨i, hi, hz0, hz1, hz2⟩ := info_parts Tryz.infoU8
  obtain ⟨ib, hib, hzb0, hzb1, hzb2⟩ := info_parts Tryz.infoBytes
  obtain ⟨ii, hii, hzi0, hzi1, hzi2⟩ := info_parts Tryz.infoInt
  obtain ⟨pv, capv, hvf⟩ : ∃ p cap, v = .slice p n cap := by
    rcases hv.2 with ⟨e, h0⟩ | ⟨g, cap, cur, hv, _⟩
    · exact ⟨none, 0, by rw [h0]; exact e⟩
    · exact ⟨_, _, hv⟩
  subst hvf
  obtain ⟨a4, cap4, hF4⟩ := h.head 4 (by omega)
  have c4 := h.cell 4 (by omega)
  rw [hF4] at c4
  obtain ⟨m, hm⟩ : ∃ m, (X 4).length = m := ⟨_, rfl⟩
  rw [hm] at c4
  have hlen := d.len04
  have hxl : xs.length = n := by have := hv.1; omega
  have hm60 : m ≤ 4611686018427387904 := by omega
  have HB : Hid (BK base M w F X) := h
  have HDt : Hid (BD M w F X) := d
  have HV0 : Hid (w.ownsRow base 5 1 (.slice pv n capv) n xs) := hv
  have HM : Hid ((X 4).length = m) := hm
  have HF4 : Hid (F 4 = .slice a4 (X 4).length cap4) := hF4
  have hle := h.le
  have hlt := h.lt
  have hvb : ∀ k, (Value.slice pv n capv).ownBlock = some k → ¬ k < base := fun k hk => by have := (hv.lt k hk).1; omega
  clear h d hv hm hF4
  go_enter Tryz.func101, Tryz.ntmps101
  go_wp2_with fail
  go_loopw [5] (fun k wr => ∃ q : Nat, q ≤ n ∧ k = .int .i64 q ∧ wr.ownsRow base 5 1 (.slice pv n capv) n (bytesL (digS m) q ++ xs.drop q) ∧ w.grownBy wr (Value.slice pv n capv).ownBlock) (fun k _ => n - (intOf k).toNat)
  case atStart => exact ⟨0, by omega, rfl, HV0.out, ⟨rfl, rfl, rfl, Nat.le_refl _, fun _ _ _ => rfl⟩⟩
  case round =>
    clear HV0
    obtain ⟨q, hq, rfl, hown, hgr⟩ := hrel
    by_cases hql : q < n
    · obtain ⟨g, cap, hf⟩ := own_form hown (by omega)
      simp only [Value.slice.injEq] at hf
      obtain ⟨rfl, _, rfl⟩ := hf
      obtain ⟨x, hx⟩ : ∃ x, (bytesL (digS m) q ++ xs.drop q)[q]? = some x := ⟨_, List.getElem?_eq_getElem (by rw [List.length_append, bytesL_len, List.length_drop]; omega)⟩
      have cg : wr.cell? ⟨g, q, none⟩ = some x := by rw [hown.cellAt q (by omega), hx]
      have fg := hown.frozenAt q
      obtain ⟨hown2, hgr2⟩ := hown.stored q (.int .u8 (digS m q))
      rw [fill_set (digS m) xs q (by omega)] at hown2
      have HN : Hid ((wr.setCell ⟨g, q, none⟩ (.int .u8 (digS m q))).ownsRow base 5 1 (.slice (some ⟨g, 0, none⟩) n capv) n (bytesL (digS m) (q + 1) ++ xs.drop (q + 1)) ∧ w.grownBy (wr.setCell ⟨g, q, none⟩ (.int .u8 (digS m q))) (Value.slice (some ⟨g, 0, none⟩) n capv).ownBlock) := ⟨hown2, World.grownBy.trans' hgr hgr2⟩
      have hi1 : (q : Int) < (n : Int) := by omega
      have HDG : Hid (∀ wy, Calls Tryz.prog 58 #[.int .i64 (m : Int), .int .i64 (q : Int)] wy fun e w' => e = .returned (.int .u8 (digS m q)) ∧ w' = wy) := fun wy => digit_any m q (by omega) (by omega) wy
      clear hown hown2 hgr2 hgr hx
      generalize digS m q = dg at *
      go_wp2_with (go_at_call 58; refine (HDG.out _).mono ?_; rintro e w' ⟨rfl, rfl⟩)
      go_roundw
      case rel => exact ⟨q + 1, by omega, by go_num, HN.out.1, HN.out.2⟩
      case measure => simp [intOf]; omega
    · have e : q = n := by omega
      subst e
      have hown' : wr.ownsRow base 5 1 (.slice pv q capv) q (bytesL (digS m) q) := by
        have : xs.drop q = [] := List.drop_eq_nil_of_le (by omega)
        rw [this, List.append_nil] at hown
        exact hown
      have HO : Hid (wr.ownsRow base 5 1 (.slice pv q capv) q (bytesL (digS m) q)) := hown'
      have HG : Hid (w.grownBy wr (Value.slice pv q capv).ownBlock) := hgr
      have hsz := hgr.size
      have hnn : ¬ (q : Int) < (q : Int) := by omega
      have HD0 : Hid (∀ wy, Calls Tryz.prog 58 #[.int .i64 (m : Int), .int .i64 (q : Int)] wy fun e w' => e = .returned (.int .u8 (digS m q)) ∧ w' = wy) := fun wy => digit_any m q (by omega) (by omega) wy
      have HD1 : Hid (∀ wy, Calls Tryz.prog 58 #[.int .i64 (m : Int), .int .i64 ((q : Int) + 1)] wy fun e w' => e = .returned (.int .u8 (digS m (q + 1))) ∧ w' = wy) := fun wy => digit_any m (q + 1) (by omega) (by omega) wy
      have HD2 : Hid (∀ wy, Calls Tryz.prog 58 #[.int .i64 (m : Int), .int .i64 ((q : Int) + 2)] wy fun e w' => e = .returned (.int .u8 (digS m (q + 2))) ∧ w' = wy) := fun wy => digit_any m (q + 2) (by omega) (by omega) wy
      have HA1 : Hid (bytesL (digS m) q ++ [.int .u8 (digS m q)] = bytesL (digS m) (q + 1)) := bytesL_add1 _ _
      have HA2 : Hid (bytesL (digS m) q ++ [.int .u8 (digS m q), .int .u8 (digS m (q + 1))] = bytesL (digS m) (q + 2)) := bytesL_add2 _ _
      have HA3 : Hid (bytesL (digS m) q ++ [.int .u8 (digS m q), .int .u8 (digS m (q + 1)), .int .u8 (digS m (q + 2))] = bytesL (digS m) (q + 3)) := bytesL_add3 _ _
      obtain ⟨P, hP⟩ : ∃ P : Nat → Int, P = digS m := ⟨_, rfl⟩
      rw [← hP] at HO HD0 HD1 HD2 HA1 HA2 HA3
      have HP : Hid (P = digS m) := hP
      clear hown hown' hgr hP
      generalize hl0 : bytesL P q = pl at *
      have HL0 : Hid (bytesL P q = pl) := hl0
      clear hl0
      go_wp2_with fail
      refine (HD0.out _).mono ?_
      rintro e w' ⟨rfl, hw'⟩
      obtain rfl := hw'.symm
      go_wp2_with (at_builtin; refine wpList_append_keep rfl (.tmp 30) (.tmp 34) 25 rfl base 5 i (.int .u8 0) 1 Tryz.underlying25 hi hz0 hz1 hz2 rfl _ q _ rfl (HO.out.alloc _) ⟨_, 0, none⟩ 1 1 [.int .u8 (P q)] rfl rfl (cell_one_new _ _ _) ?c2 (by unfold maxLen; omega) (by omega) (by simp; omega) (by omega) ?_)
      case c2 => first | rfl | (intro u hu; simp at hu; subst hu; rfl)
      intro v1 w1 ho1 hg1 hat1 hk1 hcl1
      obtain ⟨g1, k1, rfl⟩ := own_form ho1 (by omega)
      have G1 : w.grownBy w1 (Value.slice pv q capv).ownBlock := World.grownBy.trans' HG.out (World.grownBy.trans' (World.grownBy_alloc wr _ _) hg1)
      rw [HA1.out] at ho1
      have p1 : PR w1 (.slice (some ⟨g1, 0, none⟩) (q + 1) k1) (q + 1) P (Value.int .u8) := PR.of ho1
      have o1 : Out5 M F g1 := by
        rcases hat1 with e | e
        · exact hvo g1 e.symm
        · have : g1 = wr.heap.size + 1 := by simpa [Value.ownBlock] using e
          exact HB.out.fresh (by omega)
      have HO1 : Hid (w1.ownsRow base 5 1 (.slice pv q capv) q pl) := hk1
      have HP1 : Hid (PR w1 (.slice (some ⟨g1, 0, none⟩) (q + 1) k1) (q + 1) P (Value.int .u8)) := p1
      have HG1 : Hid (w.grownBy w1 (Value.slice pv q capv).ownBlock) := G1
      have HX1 : Hid (Out5 M F g1) := o1
      have HW1 : Hid (∀ k, (Value.slice (some ⟨g1, 0, none⟩) (q + 1) k1).ownBlock = some k → (Value.slice pv q capv).ownBlock = some k ∨ w.heap.size ≤ k) := by
        intro k hk
        rcases hat1 with e | e
        · exact Or.inl (by rw [← e]; exact hk)
        · have e' : g1 = wr.heap.size + 1 := by simpa [Value.ownBlock] using e
          have : g1 = k := by simpa [Value.ownBlock] using hk
          right; omega
      have hs1 := G1.size
      clear ho1 hg1 hat1 hk1 hcl1 G1 p1 o1 HG HO
      go_wp2_with fail
      refine (HD0.out _).mono ?_
      rintro e w' ⟨rfl, hw'⟩
      obtain rfl := hw'.symm
      go_wp2_with fail
      refine (HD1.out _).mono ?_
      rintro e w' ⟨rfl, hw'⟩
      obtain rfl := hw'.symm
      go_wp2_with (at_builtin; refine wpList_append_keep rfl (.tmp 36) (.tmp 44) 25 rfl base 5 i (.int .u8 0) 1 Tryz.underlying25 hi hz0 hz1 hz2 rfl _ q _ rfl (HO1.out.alloc _) ⟨_, 0, none⟩ 2 2 [.int .u8 (P q), .int .u8 (P (q + 1))] rfl rfl (cells_new _ _ _) ?c2 (by unfold maxLen; omega) (by omega) (by simp; omega) (by omega) ?_)
      case c2 => first | exact ⟨rfl, rfl⟩ | (intro u hu; simp at hu; rcases hu with rfl | rfl <;> rfl)
      intro v2 w2 ho2 hg2 hat2 hk2 hcl2
      obtain ⟨g2, k2, rfl⟩ := own_form ho2 (by omega)
      have G2 : w.grownBy w2 (Value.slice pv q capv).ownBlock := World.grownBy.trans' HG1.out (World.grownBy.trans' (World.grownBy_alloc w1 _ _) hg2)
      rw [HA2.out] at ho2
      have p2 : PR w2 (.slice (some ⟨g2, 0, none⟩) (q + 2) k2) (q + 2) P (Value.int .u8) := PR.of ho2
      have p1 : PR w2 (.slice (some ⟨g1, 0, none⟩) (q + 1) k1) (q + 1) P (Value.int .u8) := (HP1.out.alloc _).keep hg2 (fun j x hx => by
        match j, hx with
        | 0, hx => simp at hx; exact hx.symm
        | 1, hx => simp at hx; exact hx.symm
        | j + 2, hx => simp at hx) hcl2
      have o2 : Out5 M F g2 := by
        rcases hat2 with e | e
        · exact hvo g2 e.symm
        · have : g2 = w1.heap.size + 1 := by simpa [Value.ownBlock] using e
          exact HB.out.fresh (by omega)
      have HO2 : Hid (w2.ownsRow base 5 1 (.slice pv q capv) q pl) := hk2
      have HP2 : Hid (PR w2 (.slice (some ⟨g1, 0, none⟩) (q + 1) k1) (q + 1) P (Value.int .u8) ∧ PR w2 (.slice (some ⟨g2, 0, none⟩) (q + 2) k2) (q + 2) P (Value.int .u8)) := ⟨p1, p2⟩
      have HG2 : Hid (w.grownBy w2 (Value.slice pv q capv).ownBlock) := G2
      have HX2 : Hid (Out5 M F g2) := o2
      have HW2 : Hid (∀ k, (Value.slice (some ⟨g2, 0, none⟩) (q + 2) k2).ownBlock = some k → (Value.slice pv q capv).ownBlock = some k ∨ w.heap.size ≤ k) := by
        intro k hk
        rcases hat2 with e | e
        · exact Or.inl (by rw [← e]; exact hk)
        · have e' : g2 = w1.heap.size + 1 := by simpa [Value.ownBlock] using e
          have : g2 = k := by simpa [Value.ownBlock] using hk
          right; omega
      have hs2 := G2.size
      clear ho2 hg2 hat2 hk2 hcl2 G2 p1 p2 o2 HG1 HO1 HP1
      go_wp2_with fail
      refine (HD0.out _).mono ?_
      rintro e w' ⟨rfl, hw'⟩
      obtain rfl := hw'.symm
      go_wp2_with fail
      refine (HD1.out _).mono ?_
      rintro e w' ⟨rfl, hw'⟩
      obtain rfl := hw'.symm
      go_wp2_with fail
      refine (HD2.out _).mono ?_
      rintro e w' ⟨rfl, hw'⟩
      obtain rfl := hw'.symm
      go_wp2_with (at_builtin; refine wpList_append_keep rfl (.tmp 46) (.tmp 58) 25 rfl base 5 i (.int .u8 0) 1 Tryz.underlying25 hi hz0 hz1 hz2 rfl _ q _ rfl (HO2.out.alloc _) ⟨_, 0, none⟩ 3 3 [.int .u8 (P q), .int .u8 (P (q + 1)), .int .u8 (P (q + 2))] rfl rfl (cells_new _ _ _) ?c2 (by unfold maxLen; omega) (by omega) (by simp; omega) (by omega) ?_)
      case c2 => first | exact ⟨rfl, rfl, rfl⟩ | (intro u hu; simp at hu; rcases hu with rfl | rfl | rfl <;> rfl)
      intro v3 w3 ho3 hg3 hat3 hk3 hcl3
      obtain ⟨g3, k3, rfl⟩ := own_form ho3 (by omega)
      have G3 : w.grownBy w3 (Value.slice pv q capv).ownBlock := World.grownBy.trans' HG2.out (World.grownBy.trans' (World.grownBy_alloc w2 _ _) hg3)
      rw [HA3.out] at ho3
      have hn3 : ∀ (j : Nat) (x : Value), [Value.int .u8 (P q), .int .u8 (P (q + 1)), .int .u8 (P (q + 2))][j]? = some x → x = Value.int .u8 (P (q + j)) := fun j x hx => by
        match j, hx with
        | 0, hx => simp at hx; exact hx.symm
        | 1, hx => simp at hx; exact hx.symm
        | 2, hx => simp at hx; exact hx.symm
        | j + 3, hx => simp at hx
      have p3 : PR w3 (.slice (some ⟨g3, 0, none⟩) (q + 3) k3) (q + 3) P (Value.int .u8) := PR.of ho3
      have p1 := (HP2.out.1.alloc (.cells #[.int .u8 (P q), .int .u8 (P (q + 1)), .int .u8 (P (q + 2))] 5)).keep hg3 hn3 hcl3
      have p2 := (HP2.out.2.alloc (.cells #[.int .u8 (P q), .int .u8 (P (q + 1)), .int .u8 (P (q + 2))] 5)).keep hg3 hn3 hcl3
      have p0 : PR w3 (.slice pv q capv) q P (Value.int .u8) := by
        rw [← HL0.out] at hk3
        exact PR.of hk3
      have o3 : Out5 M F g3 := by
        rcases hat3 with e | e
        · exact hvo g3 e.symm
        · have : g3 = w2.heap.size + 1 := by simpa [Value.ownBlock] using e
          exact HB.out.fresh (by omega)
      have hB3 := HB.out.out G3 hvo
      have hD3 := HDt.out.out G3 (fun u g hu hr => hnew u g hu hr)
      have HX3 : Hid (∀ u ∈ [Value.slice pv q capv, .slice (some ⟨g1, 0, none⟩) (q + 1) k1, .slice (some ⟨g2, 0, none⟩) (q + 2) k2, .slice (some ⟨g3, 0, none⟩) (q + 3) k3], ∀ g, u.ownBlock = some g → Out5 M F g) := by
        intro u hu g hg
        simp only [List.mem_cons, List.not_mem_nil, or_false] at hu
        rcases hu with rfl | rfl | rfl | rfl
        · exact hvo g hg
        · have : g1 = g := by simpa [Value.ownBlock] using hg
          rw [← this]; exact HX1.out
        · have : g2 = g := by simpa [Value.ownBlock] using hg
          rw [← this]; exact HX2.out
        · have : g3 = g := by simpa [Value.ownBlock] using hg
          rw [← this]; exact o3
      have HP3 : Hid (∀ u ∈ [Value.slice pv q capv, .slice (some ⟨g1, 0, none⟩) (q + 1) k1, .slice (some ⟨g2, 0, none⟩) (q + 2) k2, .slice (some ⟨g3, 0, none⟩) (q + 3) k3], ∃ k, k ≤ 2000 ∧ PR w3 u k P (Value.int .u8)) := by
        intro u hu
        simp only [List.mem_cons, List.not_mem_nil, or_false] at hu
        rcases hu with rfl | rfl | rfl | rfl
        · exact ⟨q, by omega, p0⟩
        · exact ⟨q + 1, by omega, p1⟩
        · exact ⟨q + 2, by omega, p2⟩
        · exact ⟨q + 3, by omega, p3⟩
      have HNW : Hid (∀ u ∈ [Value.slice pv q capv, .slice (some ⟨g1, 0, none⟩) (q + 1) k1, .slice (some ⟨g2, 0, none⟩) (q + 2) k2, .slice (some ⟨g3, 0, none⟩) (q + 3) k3], ∀ k, u.ownBlock = some k → (Value.slice pv q capv).ownBlock = some k ∨ w.heap.size ≤ k) := by
        intro u hu k hk
        simp only [List.mem_cons, List.not_mem_nil, or_false] at hu
        rcases hu with rfl | rfl | rfl | rfl
        · exact Or.inl hk
        · exact HW1.out k hk
        · exact HW2.out k hk
        · rcases hat3 with e | e
          · exact Or.inl (by rw [← e]; exact hk)
          · have e' : g3 = w2.heap.size + 1 := by simpa [Value.ownBlock] using e
            have : g3 = k := by simpa [Value.ownBlock] using hk
            right; omega
      have K3 : Kept base M w w3 := ⟨G3.os, G3.tape, G3.output, G3.size, fun k hk hkM => G3.block k (by omega) (fun c => (hvb k c.symm) hk)⟩
      have HB3 : Hid (BK base M w3 F X) := hB3
      have HD3 : Hid (BD M w3 F X) := hD3
      have HK3 : Hid (Kept base M w w3) := K3
      have HR3 : Hid (∀ k, k < w.heap.size → Out5 M F k → (Value.slice pv q capv).ownBlock ≠ some k → w3.heap[k]? = w.heap[k]?) := fun k hk _ hne => G3.block k hk (fun c => hne c.symm)
      have HO0 : Hid (w3.ownsRow base 25 1 (F 0) (X 0).length (X 0)) := hB3.own 0 (by omega)
      have c0 := hB3.cell 0 (by omega)
      have f0 := hB3.thaw 0
      have hs3 := G3.size
      obtain ⟨n0, hn0⟩ : ∃ n0, (X 0).length = n0 := ⟨_, rfl⟩
      rw [hn0] at HO0 hX0
      have hX4 : (m + 4) * 8 ≤ 140737488355328 := by have := HM.out; omega
      have HN0 : Hid ((X 0).length = n0) := hn0
      have hlen2 := hlen
      clear ho3 hg3 hat3 hk3 hcl3 G3 p0 p1 p2 p3 o3 HG2 HO2 HP2 hB3 hD3 K3 hn0 hlen hn3
      go_wp2_with (at_builtin; refine wpList_append_own_at _ rfl (.tmp 64) (.tmp 69) 59 rfl base 25 ib (.slice none 0 0) 1 24 Tryz.underlying59 hib hzb0 hzb1 hzb2 rfl (by decide) _ n0 _ rfl (HO0.out.alloc _) ⟨_, 0, none⟩ 4 4 [.slice pv q capv, .slice (some ⟨g1, 0, none⟩) (q + 1) k1, .slice (some ⟨g2, 0, none⟩) (q + 2) k2, .slice (some ⟨g3, 0, none⟩) (q + 3) k3] rfl rfl (cells_new _ _ _) ?c2 (by unfold maxLen; omega) (by omega) (by simp; omega) ?_)
      case c2 => first | exact ⟨rfl, rfl, rfl, rfl⟩ | (intro u hu; simp at hu; rcases hu with rfl | rfl | rfl | rfl <;> rfl)
      intro v4 w4 ho4 hg4 _ hat4
      obtain ⟨g4, k4, rfl⟩ := own_form ho4 (by omega)
      have hat4 : (Value.slice (some ⟨g4, 0, none⟩) (n0 + 4) k4).ownBlock = (F 0).ownBlock ∨ (Value.slice (some ⟨g4, 0, none⟩) (n0 + 4) k4).ownBlock = some (World.alloc w3 (.cells #[.slice pv q capv, .slice (some ⟨g1, 0, none⟩) (q + 1) k1, .slice (some ⟨g2, 0, none⟩) (q + 2) k2, .slice (some ⟨g3, 0, none⟩) (q + 3) k3] 25)).heap.size := by rw [World.size_alloc]; exact hat4
      have hBA := HB3.out.below ((Below.refl w3.heap.size w3).alloc (Nat.le_refl _) (.cells #[.slice pv q capv, .slice (some ⟨g1, 0, none⟩) (q + 1) k1, .slice (some ⟨g2, 0, none⟩) (q + 2) k2, .slice (some ⟨g3, 0, none⟩) (q + 3) k3] 25))
      have hDA := HD3.out.below ((Below.refl w3.heap.size w3).alloc (Nat.le_refl _) (.cells #[.slice pv q capv, .slice (some ⟨g1, 0, none⟩) (q + 1) k1, .slice (some ⟨g2, 0, none⟩) (q + 2) k2, .slice (some ⟨g3, 0, none⟩) (q + 3) k3] 25))
      have R4 := hBA.grow 0 (by omega) _ [.slice pv q capv, .slice (some ⟨g1, 0, none⟩) (q + 1) k1, .slice (some ⟨g2, 0, none⟩) (q + 2) k2, .slice (some ⟨g3, 0, none⟩) (q + 3) k3] hg4 (by rw [HN0.out]; exact ho4) hat4
      have D4 := hDA.grow 0 (by omega) _ hg4 hat4
      have hne : some M ≠ (F 0).ownBlock := own_ne (hBA.own 0 (by omega)) hlt
      have hv4 : w4.cell? ⟨M, 0, none⟩ = some (F 0) := hg4.cell (a := ⟨M, 0, none⟩) (hBA.cell 0 (by omega)) hne
      have hf4 : w4.frozen? ⟨M, 0, none⟩ = false := by
        rw [World.frozen?_of_block (w := World.alloc w3 (.cells #[.slice pv q capv, .slice (some ⟨g1, 0, none⟩) (q + 1) k1, .slice (some ⟨g2, 0, none⟩) (q + 2) k2, .slice (some ⟨g3, 0, none⟩) (q + 3) k3] 25)) (a := ⟨M, 0, none⟩) (hg4.block M (Nat.lt_of_lt_of_le hBA.lt hBA.le) hne)]
        exact hBA.thaw 0
      have K4 : Kept base M w (w4.setCell ⟨M, 0, none⟩ (.slice (some ⟨g4, 0, none⟩) (n0 + 4) k4)) := (HK3.out.trans (Kept.alloc w3 (by omega) _)).trans ((kept_grown (M := M) (hBA.own 0 (by omega)) hBA.le hg4).trans (Kept.set base M w4 0 _))
      have P4 : ∀ u ∈ [Value.slice pv q capv, .slice (some ⟨g1, 0, none⟩) (q + 1) k1, .slice (some ⟨g2, 0, none⟩) (q + 2) k2, .slice (some ⟨g3, 0, none⟩) (q + 3) k3], (∃ k, k ≤ 2000 ∧ PR (w4.setCell ⟨M, 0, none⟩ (.slice (some ⟨g4, 0, none⟩) (n0 + 4) k4)) u k P (Value.int .u8)) ∧ ∀ g, u.ownBlock = some g → Out5 M (upd F 0 (.slice (some ⟨g4, 0, none⟩) (n0 + 4) k4)) g := by
        intro u hu
        obtain ⟨k, hk, hp⟩ := HP3.out u hu
        have hO := HX3.out u hu
        refine ⟨⟨k, hk, (hp.alloc (.cells #[.slice pv q capv, .slice (some ⟨g1, 0, none⟩) (q + 1) k1, .slice (some ⟨g2, 0, none⟩) (q + 2) k2, .slice (some ⟨g3, 0, none⟩) (q + 3) k3] 25)).away (by have := hg4.size; simp at this ⊢; omega) (fun g hg hl => ?_)⟩, fun g hg => (hO g hg).grow (w := World.alloc w3 (.cells #[.slice pv q capv, .slice (some ⟨g1, 0, none⟩) (q + 1) k1, .slice (some ⟨g2, 0, none⟩) (q + 2) k2, .slice (some ⟨g3, 0, none⟩) (q + 3) k3] 25)) (by omega) (by have := hp.block hg; simp; omega) hat4⟩
        rw [heap_setCell_other _ ⟨M, 0, none⟩ _ _ (hO g hg).1]
        exact hg4.block g hl (fun c => (hO g hg).2 0 (by omega) c.symm)
      have c4' := R4.cell 4 (by omega)
      rw [upd_other _ _ (show (4 : Nat) ≠ 0 by omega), HF4.out, HM.out] at c4'
      have f4' := R4.thaw 4
      have o4' := R4.own 4 (by omega)
      rw [upd_other _ _ (show (4 : Nat) ≠ 0 by omega), upd_other _ _ (show (4 : Nat) ≠ 0 by omega), HF4.out, HM.out] at o4'
      have HO4 : Hid ((w4.setCell ⟨M, 0, none⟩ (.slice (some ⟨g4, 0, none⟩) (n0 + 4) k4)).ownsRow base 3 1 (.slice a4 m cap4) m (X 4)) := o4'
      have HR4 : Hid (BK base M (w4.setCell ⟨M, 0, none⟩ (.slice (some ⟨g4, 0, none⟩) (n0 + 4) k4)) (upd F 0 (.slice (some ⟨g4, 0, none⟩) (n0 + 4) k4)) (upd X 0 (X 0 ++ [.slice pv q capv, .slice (some ⟨g1, 0, none⟩) (q + 1) k1, .slice (some ⟨g2, 0, none⟩) (q + 2) k2, .slice (some ⟨g3, 0, none⟩) (q + 3) k3]))) := R4
      have HD4 : Hid (BD M (w4.setCell ⟨M, 0, none⟩ (.slice (some ⟨g4, 0, none⟩) (n0 + 4) k4)) (upd F 0 (.slice (some ⟨g4, 0, none⟩) (n0 + 4) k4)) X) := D4
      have HK4 : Hid (Kept base M w (w4.setCell ⟨M, 0, none⟩ (.slice (some ⟨g4, 0, none⟩) (n0 + 4) k4))) := K4
      have HR4' : Hid (∀ k, k < w.heap.size → Out5 M F k → (Value.slice pv q capv).ownBlock ≠ some k → (w4.setCell ⟨M, 0, none⟩ (.slice (some ⟨g4, 0, none⟩) (n0 + 4) k4)).heap[k]? = w.heap[k]?) := fun k hk ho hne => by
        rw [heap_setCell_other _ ⟨M, 0, none⟩ _ _ ho.1, hg4.block k (by simp; omega) (fun c => ho.2 0 (by omega) c.symm), Below.heap_alloc w3 _ k (by omega)]
        exact HR3.out k hk ho hne
      have HP4 : Hid (∀ u ∈ [Value.slice pv q capv, .slice (some ⟨g1, 0, none⟩) (q + 1) k1, .slice (some ⟨g2, 0, none⟩) (q + 2) k2, .slice (some ⟨g3, 0, none⟩) (q + 3) k3], (∃ k, k ≤ 2000 ∧ PR (w4.setCell ⟨M, 0, none⟩ (.slice (some ⟨g4, 0, none⟩) (n0 + 4) k4)) u k P (Value.int .u8)) ∧ ∀ g, u.ownBlock = some g → Out5 M (upd F 0 (.slice (some ⟨g4, 0, none⟩) (n0 + 4) k4)) g) := P4
      have HU4 : Hid (∀ k, k < w.heap.size → Out5 M F k → Out5 M (upd F 0 (.slice (some ⟨g4, 0, none⟩) (n0 + 4) k4)) k) := fun k hk ho => ho.grow (w := World.alloc w3 (.cells #[.slice pv q capv, .slice (some ⟨g1, 0, none⟩) (q + 1) k1, .slice (some ⟨g2, 0, none⟩) (q + 2) k2, .slice (some ⟨g3, 0, none⟩) (q + 3) k3] 25)) (by omega) (by simp; omega) hat4
      have hs4 : base ≤ w4.heap.size := by have := R4.le; simpa using this
      clear ho4 hg4 hat4 hBA hDA R4 D4 K4 P4 o4' HB3 HD3 HK3 HP3 HX3 HO0
      go_wp2_with fail
      generalize hnf : Value.slice (some ⟨g4, 0, none⟩) (n0 + 4) k4 = nf at *
      generalize w4.setCell ⟨M, 0, none⟩ nf = w5 at *
      have hs5 := HR4.out.le
      have H6 : Hid (∀ (o : Obj) (w6 : World), (w5.drew.alloc o).grownBy w6 (Value.slice a4 m cap4).ownBlock → w6.cell? ⟨M, 4, none⟩ = some (.slice a4 m cap4) ∧ w6.frozen? ⟨M, 4, none⟩ = false) := by
        intro o w6 hg6
        have hb := HR4.out.below (((Below.refl w5.heap.size w5).drew).alloc (Nat.le_refl _) o)
        have hne6 : some M ≠ (Value.slice a4 m cap4).ownBlock := own_ne HO4.out hlt
        have e4 : (w5.drew.alloc o).cell? ⟨M, 4, none⟩ = some (.slice a4 m cap4) := (World.cell?_alloc_past _ _ _ (by show M < w5.heap.size; omega)).trans c4'
        refine ⟨hg6.cell (a := ⟨M, 4, none⟩) e4 hne6, ?_⟩
        rw [World.frozen?_of_block (w := w5.drew.alloc o) (a := ⟨M, 4, none⟩) (hg6.block M (by simp; omega) hne6)]
        exact hb.thaw 4
      have HFIN : Hid (∀ (o : Obj) (v6 : Value) (w6 : World), w6.ownsRow base 3 1 v6 (m + 4) (X 4 ++ [.int .i64 (m : Int), .int .i64 (m : Int), .int .i64 (m : Int), .int .i64 (m : Int)]) → (w5.drew.alloc o).grownBy w6 (Value.slice a4 m cap4).ownBlock → (v6.ownBlock = (Value.slice a4 m cap4).ownBlock ∨ v6.ownBlock = some (w5.drew.alloc o).heap.size) →
          ∃ F' vs ns, vs.length = 4 ∧ ns.length = 4 ∧ BK base M (w6.setCell ⟨M, 4, none⟩ v6) F' (upd (upd X 0 (X 0 ++ vs)) 4 (X 4 ++ ns)) ∧ BD M (w6.setCell ⟨M, 4, none⟩ v6) F' (upd (upd X 0 (X 0 ++ vs)) 4 (X 4 ++ ns)) ∧ Kept base M w (w6.setCell ⟨M, 4, none⟩ v6) ∧ (∀ k, k < w.heap.size → Out5 M F k → (Value.slice pv q capv).ownBlock ≠ some k → (w6.setCell ⟨M, 4, none⟩ v6).heap[k]? = w.heap[k]?) ∧ (∀ k, k < w.heap.size → Out5 M F k → Out5 M F' k) ∧ (∀ u ∈ vs, ∀ k, u.ownBlock = some k → (Value.slice pv q capv).ownBlock = some k ∨ w.heap.size ≤ k)) := by
        intro o v6 w6 ho6 hg6 hat6
        have hB5 := HR4.out.below (((Below.refl w5.heap.size w5).drew).alloc (Nat.le_refl _) o)
        have hD5 := HD4.out.below (((Below.refl w5.heap.size w5).drew).alloc (Nat.le_refl _) o)
        have eF : upd F 0 nf 4 = .slice a4 m cap4 := by rw [upd_other _ _ (show (4 : Nat) ≠ 0 by omega), HF4.out, HM.out]
        have eX : upd X 0 (X 0 ++ [Value.slice pv q capv, .slice (some ⟨g1, 0, none⟩) (q + 1) k1, .slice (some ⟨g2, 0, none⟩) (q + 2) k2, .slice (some ⟨g3, 0, none⟩) (q + 3) k3]) 4 = X 4 := upd_other _ _ (show (4 : Nat) ≠ 0 by omega)
        have R6 := hB5.grow 4 (by omega) v6 [.int .i64 (m : Int), .int .i64 (m : Int), .int .i64 (m : Int), .int .i64 (m : Int)] (by rw [eF]; exact hg6) (by rw [eX, HM.out]; exact ho6) (by rw [eF]; exact hat6)
        have D6 := hD5.grow 4 (by omega) v6 (by rw [eF]; exact hg6) (by rw [eF]; exact hat6)
        rw [eX] at R6
        have D7 := D6.addBytes m (by rw [HM.out]; exact Nat.le_refl _) [Value.slice pv q capv, .slice (some ⟨g1, 0, none⟩) (q + 1) k1, .slice (some ⟨g2, 0, none⟩) (q + 2) k2, .slice (some ⟨g3, 0, none⟩) (q + 3) k3] [.int .i64 (m : Int), .int .i64 (m : Int), .int .i64 (m : Int), .int .i64 (m : Int)] rfl (by
          intro u hu
          obtain ⟨⟨k, hk, hp⟩, hO⟩ := HP4.out u hu
          have hO6 : ∀ g, u.ownBlock = some g → Out5 M (upd (upd F 0 nf) 4 v6) g := fun g hg => (hO g hg).grow (w := w5.drew.alloc o) (by omega) (by have := hp.block hg; simp; omega) (by rw [eF]; exact hat6)
          have hp6 : PR (w6.setCell ⟨M, 4, none⟩ v6) u k P (Value.int .u8) := by
            refine hp.away (by have := hg6.size; simp at this ⊢; omega) (fun g hg hl => ?_)
            rw [heap_setCell_other _ ⟨M, 4, none⟩ _ _ (hO g hg).1, hg6.block g (by simp; omega) (fun c => (hO g hg).2 4 (by omega) (by rw [eF]; exact c.symm)), Below.heap_alloc w5.drew o g hl]
            rfl
          refine ⟨k, by omega, ?_, fun g hg => ⟨hp6.block hg, hO6 g hg⟩⟩
          have := hp6.coded
          rw [HP.out] at this
          exact this)
        refine ⟨_, _, _, rfl, rfl, R6, D7, ?_, ?_, fun k hk ho => (HU4.out k hk ho).grow (w := w5.drew.alloc o) (by omega) (by have := HK4.out.size; simp; omega) (by rw [eF]; exact hat6), HNW.out⟩
        rotate_left
        · intro k hk ho hne
          rw [heap_setCell_other _ ⟨M, 4, none⟩ _ _ ho.1, hg6.block k (by have := HK4.out.size; simp; omega) (fun c => ho.2 4 (by omega) (by rw [HF4.out, HM.out]; exact c.symm)), Below.heap_alloc w5.drew o k (by have := HK4.out.size; show k < w5.heap.size; omega)]
          exact HR4'.out k hk ho hne
        have kA : Kept base M w5 (w5.drew.alloc o) := (Kept.refl base M w5).drewA o hs5
        exact (HK4.out.trans kA).trans ((kept_grown (M := M) (by rw [← eF]; have := hB5.own 4 (by omega); rw [eX] at this; exact this) hB5.le hg6).trans (Kept.set base M w6 4 v6))
      have HO5 : Hid (w5.drew.ownsRow base 3 1 (.slice a4 m cap4) m (X 4)) := HO4.out
      have hM5 : M < w5.heap.size := by omega
      clear HR4 HD4 HK4 HP4 HO4 HB HDt hvo hnew hvb
      go_region_law (refine step_append_own rfl (.tmp 78) (.tmp 83) 45 rfl base 3 ii (.int .i64 0) 1 8 Tryz.underlying45 hii hzi0 hzi1 hzi2 rfl (by decide) (.slice a4 m cap4) m (X 4) (by simp [Act.eval]) (HO5.out.alloc _) ⟨w5.heap.size, 0, none⟩ 4 4 [.int .i64 (m : Int), .int .i64 (m : Int), .int .i64 (m : Int), .int .i64 (m : Int)] (by simp [Act.eval]) rfl (cells_new _ _ _) (by intro u hu; simp at hu; subst hu; rfl) (by unfold maxLen; omega) (by omega) (by simp; omega) ?_; intro v6 w6 ho6 hg6 hat6; obtain ⟨g6, k6, rfl⟩ := own_form ho6 (by omega); obtain ⟨c6, f6⟩ := H6.out _ w6 hg6; have HALL : Hid _ := HFIN.out _ _ w6 ho6 hg6 hat6; clear ho6 hg6 hat6)
      all_goals
        go_wp2
        go_end0
        exact ⟨rfl, HALL.out⟩
end Go.Proofs.YtflenkppcclclaaGreatDoor

