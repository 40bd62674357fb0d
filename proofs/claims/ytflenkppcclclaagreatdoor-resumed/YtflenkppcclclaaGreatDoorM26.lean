import Derived.Test.YtflenkppcclclaaGreatDoorM25
namespace Go.Proofs.YtflenkppcclclaaGreatDoor
open Go.RowKit

theorem HuntTo.then {U : Nat → Prop} {H : Nat} {g : PG} {h1 h2 : HS} {w w1 w2 : World} (p : HuntTo U H g h1 w w1) (q : HuntTo (Gr U w w1) H g h2 w1 w2) : HuntTo U H g h2 w w2 := by
  obtain ⟨d, hd, hu⟩ := q.hu
  refine ⟨p.fr.trans q.fr, d, hd, ?_⟩
  rw [gr_gr p.fr.size q.fr.size] at hu
  exact hu
theorem HuntTo.of {U : Nat → Prop} {d : HD} {g : PG} {h : HS} {w w' : World} (p : HU w U d g h) (b : Below w.heap.size w w') : HuntTo U d.H g h w w' := ⟨Fr.below b, d, rfl, p.gr b⟩
/-- The line's letter is laid behind the others. -/
theorem came_fin {w : World} {U : Nat → Prop} {d : HD} {g : PG} {h : HS} (p : HU w U d g h) (b : Bool) (t : ByteArray) (x : Int) (hx : x = letter b) : ∀ v' w6, w6.ownsRow 0 5 1 v' (h.hist.length + 1) (ccells h.hist ++ [.int .u8 x]) →
    (w.alloc (.cells #[.int .u8 x] 5)).grownBy w6 d.vc.ownBlock → (v'.ownBlock = d.vc.ownBlock ∨ v'.ownBlock = some (w.alloc (.cells #[.int .u8 x] 5)).heap.size) →
    (w6.cell? ⟨d.H, 9, none⟩ = some d.vc ∧ w6.frozen? ⟨d.H, 9, none⟩ = false) ∧ HuntTo U d.H g { h with hist := h.hist ++ [(b, t)] } w (w6.setCell ⟨d.H, 9, none⟩ v') := by
  subst hx
  intro v' w6 ho hg hat
  have hne : some d.H ≠ d.vc.ownBlock := fun c => p.nc _ c.symm rfl
  have b2 : Below w.heap.size w (w.alloc (.cells #[.int .u8 (letter b)] 5)) := (Below.refl _ _).alloc (Nat.le_refl _) _
  have p2 := p.gr b2
  refine ⟨grown_cell p2 hg hne 9 (by omega), ?_, { d with vc := v' }, rfl, ?_⟩
  · exact ((Fr.below b2).same (Fr.grown hg (fun k e => p.inU k (Or.inr (Or.inr (Or.inr e)))))).same (Fr.set (p.inU _ (Or.inl rfl)) 9 v')
  · have := p2.grewC b t v' hg ho hat
    rw [gr_gr b2.size hg.size] at this
    rw [gr_size (World.size_setCell w6 _ _)]
    exact this

/-- What 'find' makes of a fault. -/
def findS (h : HS) (t : ByteArray) (f q : Int) : HS × Int := if h.found.any (sameCr f q) then (h, 0) else ({ h with found := h.found ++ [⟨t, f, q⟩], hist := h.hist ++ [(false, t)] }, 99)
set_option maxHeartbeats 1000000 in
theorem find_any {w : World} {U : Nat → Prop} {d : HD} {g : PG} {h : HS} (p : HU w U d g h) (t : ByteArray) (f q : Int) (hn : h.found.length ≤ 1000000) (hn2 : h.hist.length ≤ 1000000) :
    Calls Tryz.prog 123 #[.pointer (some ⟨d.H, 0, none⟩), .agg #[.string t, .int .i64 f, .int .i64 q]] w fun e w' => e = .returned (.int .u8 (findS h t f q).2) ∧ HuntTo U d.H g (findS h t f q).1 w w' := by
  have B0 : Below w.heap.size w (w.alloc (.cells #[.string t, .int .i64 f, .int .i64 q] 42)) := (Below.refl _ _).alloc (Nat.le_refl _) _
  have p0 := p.gr B0
  have H1 : Hid (Calls Tryz.prog 166 #[.pointer (some ⟨d.H, 8, none⟩), .func (.func 165) #[] #[.pointer (some ⟨w.heap.size, 0, none⟩)]] (w.alloc (.cells #[.string t, .int .i64 f, .int .i64 q] 42)) fun e w' => e = .returned (.bool (h.found.any (sameCr f q))) ∧ Below (w.alloc (.cells #[.string t, .int .i64 f, .int .i64 q] 42)).heap.size (w.alloc (.cells #[.string t, .int .i64 f, .int .i64 q] 42)) w') :=
    lcHas_any p0 w.heap.size f q (by simp) (by rw [World.cell?_alloc_new]; rfl) (by rw [World.cell?_alloc_new]; rfl)
  have hz0 : (w.alloc (.cells #[.string t, .int .i64 f, .int .i64 q] 42)).heap.size = w.heap.size + 1 := by simp
  have hHne : d.H ≠ w.heap.size := by have := p.lt _ (p.inU _ (Or.inl rfl)); omega
  obtain ⟨iu, hiu, hzu0, hzu1, hzu2⟩ := u8info
  unfold findS
  cases hany : h.found.any (sameCr f q) with
  | true =>
    rw [if_pos rfl]
    rw [hany] at H1
    have HP : Hid (HU w U d g h) := p
    clear p p0
    go_enter Tryz.func123, Tryz.ntmps123
    go_wp2_with fail
    refine H1.out.mono ?_
    rintro e w1 ⟨rfl, B1⟩
    go_wp2_with fail
    go_ret
    rw [hz0] at B1
    exact ⟨rfl, HuntTo.of HP.out (B0.trans (B1.mono (by omega)))⟩
  | false =>
    rw [if_neg (by decide)]
    rw [hany] at H1
    have HP : Hid (HU w U d g h) := p
    clear p p0
    go_enter Tryz.func123, Tryz.ntmps123
    go_wp2_with fail
    refine H1.out.mono ?_
    rintro e w1 ⟨rfl, B1⟩
    rw [hz0] at B1
    have B01 := B0.trans (B1.mono (by omega))
    have hbk : w1.heap[w.heap.size]? = some (.cells #[.string t, .int .i64 f, .int .i64 q] 42 (0, 0)) := (B1.block _ (by omega)).trans (heap_alloc_new w _)
    have i0 : w1.cell? ⟨w.heap.size, 0, none⟩ = some (.string t) := cell_of_row _ _ _ _ _ _ hbk
    have i1 : w1.cell? ⟨w.heap.size, 1, none⟩ = some (.int .i64 f) := cell_of_row _ _ _ _ _ _ hbk
    have i2 : w1.cell? ⟨w.heap.size, 2, none⟩ = some (.int .i64 q) := cell_of_row _ _ _ _ _ _ hbk
    have B01d : Below w.heap.size w w1.drew := B01.drew
    have HT1 : Hid (HuntTo U d.H g h w w1.drew) := HuntTo.of HP.out B01d
    have H2 : Hid (Calls Tryz.prog 167 #[.pointer (some ⟨d.H, 8, none⟩), .agg #[.string t, .int .i64 f, .int .i64 q]] w1.drew fun e w' => e = .returned (.tuple #[]) ∧ HuntTo (Gr U w w1.drew) d.H g { h with found := h.found ++ [⟨t, f, q⟩] } w1.drew w') := lcAdd_any (HP.out.gr B01d) t f q hn
    clear B1 B01 B01d hbk B0 H1
    go_wp2_with fail
    go_region_with (go_at_call 167; refine H2.out.mono ?_; rintro e w2 ⟨rfl, hT2⟩)
    obtain ⟨fr2, d2, hd2, p2⟩ := hT2
    have HT2 : Hid (HuntTo U d.H g { h with found := h.found ++ [⟨t, f, q⟩] } w w2) := HT1.out.then ⟨fr2, d2, hd2, p2⟩
    rw [gr_gr HT1.out.fr.size fr2.size] at p2
    have HC : Hid _ := came_fin p2 false t 99 rfl
    have c9 : w2.cell? ⟨d.H, 9, none⟩ = some d2.vc := hd2 ▸ p2.cell 9 (by omega)
    have hHl : d.H < w2.heap.size := hd2 ▸ p2.lt _ (p2.inU _ (Or.inl rfl))
    have hrc := p2.rc
    rw [hd2] at HC
    clear fr2 p2 H2 HT1 hd2
    go_wp2_with (at_builtin; refine wpList_append_own_at _ rfl (.tmp 21) (.tmp 22) 25 rfl 0 5 iu (.int .u8 0) 1 1 Tryz.underlying25 hiu hzu0 hzu1 hzu2 rfl (by decide) _ h.hist.length _ rfl (hrc.alloc _) ⟨w2.heap.size, 0, none⟩ 1 1 [.int .u8 99] rfl rfl (cell_one_new _ _ _) ?c2 (by unfold maxLen; omega) (by omega) (by omega) ?_)
    case c2 => first | rfl | (intro u hu; simp at hu; subst hu; rfl)
    intro v6 w6 ho6 hg6 _ hat6
    obtain ⟨⟨c6, f6⟩, hfin⟩ := HC.out v6 w6 ho6 hg6 (by simpa using hat6)
    have HALL : Hid _ := HT2.out.then hfin
    obtain ⟨g6, k6, rfl⟩ := own_form ho6 (by omega)
    clear ho6 hg6 hat6 hfin HC hrc c9
    go_wp2
    go_ret
    exact ⟨rfl, HALL.out⟩
end Go.Proofs.YtflenkppcclclaaGreatDoor

namespace Go.Proofs.YtflenkppcclclaaGreatDoor
open Go.RowKit

/-! What is kept. -/
def in0 : Inp := ⟨⟨#[]⟩, fun _ => 0⟩
/-- The block in which the j-th cover lies. -/
structure Covs (w : World) (G : Nat → Nat) (l : List Inp) : Prop where
  cell : ∀ j, j < l.length → ∀ p, p < 64 → w.cell? ⟨G j, p, none⟩ = some (.int .u8 ((l.getD j in0).cov p))
  lt : ∀ j, j < l.length → G j < w.heap.size
theorem has_any (w : World) (t : ByteArray) (gc p : Nat) (b x : Int) (hp : p < 64) (hx : w.cell? ⟨gc, p, none⟩ = some (.int .u8 x)) (cx : Cls x) (cb : Cls b) :
    Calls Tryz.prog 79 #[.agg #[.string t, .slice (some ⟨gc, 0, none⟩) 64 64], .int .i64 p, .int .u8 b] w fun e w' => e = .returned (.bool (hasB x b)) ∧ Below w.heap.size w w' := by
  have hp' : (p : Int) < 64 := by omega
  have hl : gc < w.heap.size := World.block_lt_of_cell? w ⟨gc, p, none⟩ hx
  have hb := and_cls0 cx cb
  go_enter Tryz.func79, Tryz.ntmps79
  go_wp2
  go_ret
  refine ⟨?_, (Below.refl _ _).alloc (Nat.le_refl _) _⟩
  congr 2
  cases h : hasB x b with
  | true =>
    have : bits .and .u8 x b ≠ 0 := fun c => by rw [hb.1 c] at h; cases h
    simp [this]
  | false => rw [hb.2 h]; rfl
theorem isNew1_tells (w : World) (P Q : Nat) (p : Nat) (b : Int) (hp : p < 64) (cb : Cls b) (G : Nat → Nat) (l : List Inp) (hC : Covs w G l) (hl : ∀ k ∈ l, ∀ q, Cls (k.cov q)) (hP : w.cell? ⟨P, 0, none⟩ = some (.int .i64 (p : Nat))) (hQ : w.cell? ⟨Q, 0, none⟩ = some (.int .u8 b)) :
    Tells 214 #[.pointer (some ⟨P, 0, none⟩), .pointer (some ⟨Q, 0, none⟩)] l.length (fun j => .agg #[.string (l.getD j in0).text, .slice (some ⟨G j, 0, none⟩) 64 64]) (fun j => hasB ((l.getD j in0).cov p) b) w := by
  intro W j hj hW
  have hPl : P < w.heap.size := World.block_lt_of_cell? w ⟨P, 0, none⟩ hP
  have hQl : Q < w.heap.size := World.block_lt_of_cell? w ⟨Q, 0, none⟩ hQ
  have c1 := (hW.cell (p := ⟨P, 0, none⟩) hPl).trans hP
  have c2 := (hW.cell (p := ⟨Q, 0, none⟩) hQl).trans hQ
  have c3 := (hW.cell (p := ⟨G j, p, none⟩) (hC.lt j hj)).trans (hC.cell j hj p hp)
  have cx : Cls ((l.getD j in0).cov p) := by
    rw [List.getD_eq_getElem?_getD, List.getElem?_eq_getElem hj, Option.getD_some]
    exact hl _ (List.getElem_mem hj) p
  have hs := hW.size
  have hP' : P < W.heap.size := by omega
  have hQ' : Q < W.heap.size := by omega
  have HB : Hid (Below w.heap.size w W) := hW
  dsimp only
  generalize l.getD j in0 = k at c3 cx ⊢
  generalize G j = gj at c3 ⊢
  clear hW hC hl hP hQ hPl hQl
  have c3' : (W.alloc (.cells #[.string k.text, .slice (some ⟨gj, 0, none⟩) 64 64] 122)).cell? ⟨gj, p, none⟩ = some (.int .u8 (k.cov p)) := (World.cell?_alloc_past _ _ _ (World.block_lt_of_cell? W ⟨gj, p, none⟩ c3)).trans c3
  go_enter Tryz.func214, Tryz.ntmps214
  go_wp2_with fail
  refine (has_any _ k.text gj p b _ hp c3' cx cb).mono ?_
  rintro e w1 ⟨rfl, B1⟩
  have hz : (W.alloc (.cells #[.string k.text, .slice (some ⟨gj, 0, none⟩) 64 64] 122)).heap.size = W.heap.size + 1 := by simp
  rw [hz] at B1
  have HB1 : Hid (Below w.heap.size w w1) := (HB.out.alloc hs _).trans (B1.mono (by omega))
  clear B1
  go_wp2_with fail
  go_ret
  exact ⟨rfl, HB1.out⟩
theorem isNew1_enters : ∀ args w, (callFunc 214 args).run Tryz.prog w = .ok (.enter 214 args) w := enters_of Tryz.func214 (by kernel_rfl) rfl
theorem HU.covs {w : World} {U : Nat → Prop} {d : HD} {g : PG} {h : HS} (p : HU w U d g h) : ∃ G : Nat → Nat, Covs w G h.kept ∧ ∀ j, j < h.kept.length → d.xk[2 * j]? = some (.string (h.kept.getD j in0).text) ∧ d.xk[2 * j + 1]? = some (.slice (some ⟨G j, 0, none⟩) 64 64) ∧ ¬ d.Wr (G j) ∧ U (G j) := by
  have H : ∀ j : Nat, ∃ gj, j < h.kept.length → d.xk[2 * j]? = some (.string (h.kept.getD j in0).text) ∧ d.xk[2 * j + 1]? = some (.slice (some ⟨gj, 0, none⟩) 64 64) ∧ (∀ q, q < 64 → w.cell? ⟨gj, q, none⟩ = some (.int .u8 ((h.kept.getD j in0).cov q))) ∧ ¬ d.Wr gj ∧ U gj := by
    intro j
    by_cases hj : j < h.kept.length
    · obtain ⟨h1, b, h2, h3, h4, h5⟩ := p.kept j _ (List.getElem?_eq_getElem hj)
      refine ⟨b, fun _ => ?_⟩
      rw [List.getD_eq_getElem?_getD, List.getElem?_eq_getElem hj, Option.getD_some]
      exact ⟨h1, h2, h3, h4, h5⟩
    · exact ⟨0, fun c => absurd c hj⟩
  obtain ⟨G, hG⟩ := Classical.axiomOfChoice H
  exact ⟨G, ⟨fun j hj => (hG j hj).2.2.1, fun j hj => p.lt _ (hG j hj).2.2.2.2⟩, fun j hj => ⟨(hG j hj).1, (hG j hj).2.1, (hG j hj).2.2.2⟩⟩
theorem Covs.below {w w' : World} {G : Nat → Nat} {l : List Inp} (h : Covs w G l) (b : Below w.heap.size w w') : Covs w' G l :=
  ⟨fun j hj p hp => (b.cell (p := ⟨G j, p, none⟩) (h.lt j hj)).trans (h.cell j hj p hp), fun j hj => Nat.lt_of_lt_of_le (h.lt j hj) b.size⟩
/-- The kept inputs, as a list in memory. -/
structure KRow (w : World) (v : Value) (G : Nat → Nat) (l : List Inp) : Prop where
  form : (v = .slice none 0 0 ∧ l = []) ∨ ∃ b cap, v = .slice (some ⟨b, 0, none⟩) l.length cap ∧ b < w.heap.size ∧ l.length ≤ 9223372036854775807 ∧ cap ≤ 9223372036854775807 ∧ l.length ≤ cap ∧ (∀ j, j < l.length → w.cell? ⟨b, j * 2, none⟩ = some (.string (l.getD j in0).text)) ∧ ∀ j, j < l.length → w.cell? ⟨b, j * 2 + 1, none⟩ = some (.slice (some ⟨G j, 0, none⟩) 64 64)
  covs : Covs w G l
theorem HU.krow {w : World} {U : Nat → Prop} {d : HD} {g : PG} {h : HS} (p : HU w U d g h) : ∃ G, KRow w d.vk G h.kept := by
  obtain ⟨G, hC, hG⟩ := p.covs
  refine ⟨G, ?_, hC⟩
  rcases own_form0 p.rk with ⟨hv, hn⟩ | ⟨b, cap, hv, hb, hcap, hnc, hc⟩
  · exact Or.inl ⟨hv, List.eq_nil_of_length_eq_zero hn⟩
  · unfold maxLen at hcap
    refine Or.inr ⟨b, cap, hv, hb, by omega, hcap, hnc, fun j hj => ?_, fun j hj => ?_⟩
    · rw [show j * 2 = 2 * j by omega]; exact hc _ _ (hG j hj).1
    · rw [show j * 2 + 1 = 2 * j + 1 by omega]; exact hc _ _ (hG j hj).2.1
theorem KRow.below {w w' : World} {v : Value} {G : Nat → Nat} {l : List Inp} (h : KRow w v G l) (b : Below w.heap.size w w') : KRow w' v G l := by
  refine ⟨?_, h.covs.below b⟩
  rcases h.form with c | ⟨b', cap, h1, h2, h3, h3', h3'', h4, h5⟩
  · exact Or.inl c
  · exact Or.inr ⟨b', cap, h1, Nat.lt_of_lt_of_le h2 b.size, h3, h3', h3'', fun j hj => (b.cell (p := ⟨b', j * 2, none⟩) h2).trans (h4 j hj), fun j hj => (b.cell (p := ⟨b', j * 2 + 1, none⟩) h2).trans (h5 j hj)⟩
set_option maxHeartbeats 1000000 in
theorem liHas_any (w : World) (H : Nat) (v : Value) (G : Nat → Nat) (l : List Inp) (c7 : w.cell? ⟨H, 7, none⟩ = some v) (K : KRow w v G l) (gf : Nat) (lb : Array Value) (eg : ∀ args w, (callFunc gf args).run Tryz.prog w = .ok (.enter gf args) w) (p : Nat → Bool)
    (hp : Tells gf lb l.length (fun j => .agg #[.string (l.getD j in0).text, .slice (some ⟨G j, 0, none⟩) 64 64]) p w) :
    Calls Tryz.prog 215 #[.pointer (some ⟨H, 7, none⟩), .func (.func gf) #[] lb] w fun e w' => e = .returned (.bool ((List.range l.length).any p)) ∧ Below w.heap.size w w' := by
  rcases K.form with ⟨rfl, rfl⟩ | ⟨b, cap, rfl, hb, hn, _, _, h0, h1⟩
  · clear K hp
    go_enter Tryz.func215, Tryz.ntmps215
    go_wp2_with fail
    refine (cfIn_none _ _ _ _).mono ?_
    rintro e w1 ⟨rfl, hw⟩
    obtain rfl := hw.symm
    go_wp2_with fail
    go_ret
    exact ⟨rfl, Below.refl _ _⟩
  · have HC : Hid (Calls Tryz.prog 234 #[.slice (some ⟨b, 0, none⟩) l.length cap, .func (.func gf) #[] lb] w fun e w' => e = .returned (.bool ((List.range l.length).any p)) ∧ Below w.heap.size w w') := cfIn_any gf lb eg b l.length cap _ _ p w hp hn hb h0 h1
    generalize (List.range l.length).any p = r at HC ⊢
    clear K hp h0 h1
    generalize l.length = n at *
    go_enter Tryz.func215, Tryz.ntmps215
    go_wp2_with fail
    refine HC.out.mono ?_
    rintro e w1 ⟨rfl, B1⟩
    go_wp2_with fail
    go_ret
    exact ⟨rfl, B1⟩

theorem cell_new1 (w : World) (x : Value) (t : TypeId) (n : Nat) (hn : w.heap.size = n) : (w.alloc (.cells #[x] t)).cell? ⟨n, 0, none⟩ = some x := by
  subst hn
  rw [World.cell?_alloc_new]
  rfl
/-- So far there was nothing new. -/
def oldTo (l : List Inp) (cov : Nat → Int) (k : Nat) : Prop := ∀ q, q < k → cov q ≠ 0 → (l.any fun i => hasB (i.cov q) (cov q)) = true
theorem new_at {l : List Inp} {cov : Nat → Int} {k : Nat} (hk : k < 64) (h0 : cov k ≠ 0) (h : (l.any fun i => hasB (i.cov k) (cov k)) = false) : newS l cov = true := by
  unfold newS
  refine List.any_eq_true.2 ⟨k, List.mem_range.2 hk, ?_⟩
  rw [h]; simp [h0]
theorem new_none {l : List Inp} {cov : Nat → Int} (h : oldTo l cov 64) : newS l cov = false := by
  unfold newS
  rw [List.any_eq_false]
  intro q hq c
  simp only [Bool.and_eq_true, decide_eq_true_eq, Bool.not_eq_true'] at c
  rw [h q (List.mem_range.1 hq) c.1] at c
  cases c.2
set_option maxHeartbeats 2000000 in
theorem isNew_any (w : World) (H : Nat) (v : Value) (G : Nat → Nat) (l : List Inp) (c7 : w.cell? ⟨H, 7, none⟩ = some v) (hH : H < w.heap.size) (K : KRow w v G l) (hl : ∀ k ∈ l, ∀ q, Cls (k.cov q)) (gc : Nat) (cov : Nat → Int) (hcov : ∀ p, Cls (cov p)) (hc : ∀ p, p < 64 → w.cell? ⟨gc, p, none⟩ = some (.int .u8 (cov p))) :
    Calls Tryz.prog 168 #[.pointer (some ⟨H, 0, none⟩), .slice (some ⟨gc, 0, none⟩) 64 64] w fun e w' => e = .returned (.bool (newS l cov)) ∧ Below w.heap.size w w' := by
  have hgl : gc < w.heap.size := World.block_lt_of_cell? w ⟨gc, 0, none⟩ (hc 0 (by omega))
  have HK : Hid (KRow w v G l) := K
  have HL : Hid (∀ k ∈ l, ∀ q, Cls (k.cov q)) := hl
  have HCV : Hid (∀ p, Cls (cov p)) := hcov
  have HC : Hid (∀ p, p < 64 → w.cell? ⟨gc, p, none⟩ = some (.int .u8 (cov p))) := hc
  have H7 : Hid (w.cell? ⟨H, 7, none⟩ = some v) := c7
  clear K hl hcov hc c7
  go_enter Tryz.func168, Tryz.ntmps168
  go_wp2_with fail
  go_loopw [5, 6, 7, 10] (fun _ _ _ i wr => ∃ k : Nat, k ≤ 64 ∧ i = .int .i64 k ∧ Below w.heap.size w wr ∧ oldTo l cov k) (fun _ _ _ i _ => 64 - (intOf i).toNat)
  case atStart => exact ⟨0, by omega, rfl, Below.refl _ _, fun q hq => by omega⟩
  case round =>
    obtain ⟨k, hk, rfl, B, hold⟩ := hrel
    by_cases hlt : k < 64
    · have hi1 : (k : Int) < 64 := by omega
      have ck := (B.cell (p := ⟨gc, k, none⟩) hgl).trans (HC.out k hlt)
      have HB : Hid (Below w.heap.size w wr) := B
      have HO : Hid (oldTo l cov k) := hold
      have hs := B.size
      clear B hold
      by_cases h0 : cov k = 0
      · rw [h0] at ck
        go_wp2_with fail
        go_roundw
        case rel => exact ⟨k + 1, by omega, by go_num, (HB.out.alloc hs _).alloc (by simp; omega) _, fun q hq hq0 => if e : q = k then absurd (e ▸ h0) hq0 else HO.out q (by omega) hq0⟩
        case measure => simp [intOf]; omega
      · have cvk := HCV.out k
        have hcd : decide (cov k = 0) = false := by simp [h0]
        have B2 : Below w.heap.size w ((wr.alloc (.cells #[.int .i64 (k : Int)] 3)).alloc (.cells #[.int .u8 (cov k)] 5)) := (HB.out.alloc hs _).alloc (by simp; omega) _
        have K2 := HK.out.below B2
        have T2 : Tells 214 #[.pointer (some ⟨wr.heap.size, 0, none⟩), .pointer (some ⟨wr.heap.size + 1, 0, none⟩)] l.length (fun j => .agg #[.string (l.getD j in0).text, .slice (some ⟨G j, 0, none⟩) 64 64]) (fun j => hasB ((l.getD j in0).cov k) (cov k)) ((wr.alloc (.cells #[.int .i64 (k : Int)] 3)).alloc (.cells #[.int .u8 (cov k)] 5)) :=
          isNew1_tells _ wr.heap.size (wr.heap.size + 1) k (cov k) hlt cvk G l K2.covs HL.out (by rw [World.cell?_alloc_past _ _ _ (by simp), World.cell?_alloc_new]; rfl)
            (cell_new1 _ _ _ _ (by simp))
        have HH : Hid (Calls Tryz.prog 215 #[.pointer (some ⟨H, 7, none⟩), .func (.func 214) #[] #[.pointer (some ⟨wr.heap.size, 0, none⟩), .pointer (some ⟨wr.heap.size + 1, 0, none⟩)]] ((wr.alloc (.cells #[.int .i64 (k : Int)] 3)).alloc (.cells #[.int .u8 (cov k)] 5)) fun e w' => e = .returned (.bool ((List.range l.length).any fun j => hasB ((l.getD j in0).cov k) (cov k))) ∧ Below ((wr.alloc (.cells #[.int .i64 (k : Int)] 3)).alloc (.cells #[.int .u8 (cov k)] 5)).heap.size ((wr.alloc (.cells #[.int .i64 (k : Int)] 3)).alloc (.cells #[.int .u8 (cov k)] 5)) w') :=
          liHas_any _ H v G l ((B2.cell (p := ⟨H, 7, none⟩) hH).trans H7.out) K2 214 _ isNew1_enters _ T2
        rw [any_range l in0 (fun i => hasB (i.cov k) (cov k))] at HH
        have HB2 : Hid (Below w.heap.size w ((wr.alloc (.cells #[.int .i64 (k : Int)] 3)).alloc (.cells #[.int .u8 (cov k)] 5))) := B2
        have hz2 : ((wr.alloc (.cells #[.int .i64 (k : Int)] 3)).alloc (.cells #[.int .u8 (cov k)] 5)).heap.size = wr.heap.size + 1 + 1 := by simp
        clear K2 T2 B2
        cases hany : (l.any fun i => hasB (i.cov k) (cov k)) with
        | true =>
          rw [hany] at HH
          go_wp2_with fail
          refine HH.out.mono ?_
          rintro e w1 ⟨rfl, B1⟩
          rw [hz2] at B1
          have HB3 : Hid (Below w.heap.size w w1) := HB2.out.trans (B1.mono (by omega))
          clear B1
          go_wp2_with fail
          go_roundw
          case rel => exact ⟨k + 1, by omega, by go_num, HB3.out, fun q hq hq0 => if e : q = k then e ▸ hany else HO.out q (by omega) hq0⟩
          case measure => simp [intOf]; omega
        | false =>
          rw [hany] at HH
          go_wp2_with fail
          refine HH.out.mono ?_
          rintro e w1 ⟨rfl, B1⟩
          rw [hz2] at B1
          have HB3 : Hid (Below w.heap.size w w1) := HB2.out.trans (B1.mono (by omega))
          clear B1
          go_wp2_with fail
          go_ret
          exact ⟨by rw [new_at hlt h0 hany]; rfl, HB3.out⟩
    · obtain rfl : k = 64 := by omega
      go_wp2_with fail
      go_ret
      exact ⟨by rw [new_none hold]; rfl, B⟩
end Go.Proofs.YtflenkppcclclaaGreatDoor

