import Derived.Test.YtflenkppcclclaaGreatDoorM26
namespace Go.Proofs.YtflenkppcclclaaGreatDoor
open Go.RowKit

theorem KRow.head {w : World} {v : Value} {G : Nat → Nat} {l : List Inp} (h : KRow w v G l) : ∃ ao cap, v = .slice ao l.length cap ∧ l.length ≤ 9223372036854775807 := by
  rcases h.form with ⟨rfl, rfl⟩ | ⟨b, cap, rfl, _, hn, _⟩
  · exact ⟨none, 0, rfl, by simp⟩
  · exact ⟨_, _, rfl, hn⟩
theorem liLen_any (w : World) (H : Nat) (v : Value) (G : Nat → Nat) (l : List Inp) (c7 : w.cell? ⟨H, 7, none⟩ = some v) (K : KRow w v G l) :
    Calls Tryz.prog 68 #[.pointer (some ⟨H, 7, none⟩)] w fun e w' => e = .returned (.int .i64 (l.length : Nat)) ∧ w' = w := by
  obtain ⟨ao, cap, rfl, hn⟩ := K.head
  clear K
  generalize l.length = n at *
  go_enter Tryz.func68, Tryz.ntmps68
  go_wp2
  go_ret
  exact ⟨rfl, rfl⟩
theorem liAt_any (w : World) (H : Nat) (v : Value) (G : Nat → Nat) (l : List Inp) (c7 : w.cell? ⟨H, 7, none⟩ = some v) (K : KRow w v G l) (n : Nat) (hn : n < l.length) :
    Calls Tryz.prog 69 #[.pointer (some ⟨H, 7, none⟩), .int .i64 (n : Nat)] w fun e w' => e = .returned (.agg #[.string (l.getD n in0).text, .slice (some ⟨G n, 0, none⟩) 64 64]) ∧ Below w.heap.size w w' := by
  rcases K.form with ⟨rfl, rfl⟩ | ⟨b, cap, rfl, hb, hm, _, _, h0, h1⟩
  · simp at hn
  · have c0 := h0 n hn
    have c1 := h1 n hn
    have hn' : (n : Int) < (l.length : Int) := by omega
    have hH : H < w.heap.size := World.block_lt_of_cell? w ⟨H, 7, none⟩ c7
    clear K h0 h1
    generalize l.length = m at *
    generalize (l.getD n in0).text = t at *
    generalize G n = gn at *
    go_enter Tryz.func69, Tryz.ntmps69
    go_wp2
    refine bodyPost_ret (v := .agg #[.string t, .slice (some ⟨gn, 0, none⟩) 64 64]) ?_ rfl ⟨rfl, ?_⟩
    · simp [results, Tryz.results69, go_sem]
    · exact (Below.refl _ _).alloc (Nat.le_refl _) _

set_option maxHeartbeats 1000000 in
theorem liAdd_any {w : World} {U : Nat → Prop} {d : HD} {g : PG} {h : HS} (p : HU w U d g h) (t : ByteArray) (cov : Nat → Int) (cg : Nat) (hcg : ∀ p, p < 64 → w.cell? ⟨cg, p, none⟩ = some (.int .u8 (cov p))) (hcu : U cg) (hcw : ¬ d.Wr cg) (hn : h.kept.length ≤ 1000000) :
    Calls Tryz.prog 169 #[.pointer (some ⟨d.H, 7, none⟩), .agg #[.string t, .slice (some ⟨cg, 0, none⟩) 64 64]] w fun e w' => e = .returned (.tuple #[]) ∧ HuntTo U d.H g { h with kept := h.kept ++ [⟨t, cov⟩] } w w' := by
  obtain ⟨i, hi, hz0, hz1, hz2⟩ := info_of infoIn
  have c0 : w.cell? ⟨d.H, 7, none⟩ = some d.vk := p.cell 7 (by omega)
  have f0 := p.thaw 7
  have hH : d.H < w.heap.size := p.lt _ (p.inU _ (Or.inl rfl))
  have hne : some d.H ≠ d.vk.ownBlock := fun c => (p.nk _ c.symm).1 rfl
  have b2 : Below w.heap.size w ((w.alloc (.cells #[.string t, .slice (some ⟨cg, 0, none⟩) 64 64] 122)).alloc (.cells #[.string t, .slice (some ⟨cg, 0, none⟩) 64 64] 122)) := ((Below.refl _ _).alloc (Nat.le_refl _) _).alloc (by simp) _
  have p2 := p.gr b2
  have HF : Hid (∀ v' w6, w6.ownsRow 0 122 2 v' (h.kept.length + 1) (d.xk ++ [.string t, .slice (some ⟨cg, 0, none⟩) 64 64]) → ((w.alloc (.cells #[.string t, .slice (some ⟨cg, 0, none⟩) 64 64] 122)).alloc (.cells #[.string t, .slice (some ⟨cg, 0, none⟩) 64 64] 122)).grownBy w6 d.vk.ownBlock → (v'.ownBlock = d.vk.ownBlock ∨ v'.ownBlock = some ((w.alloc (.cells #[.string t, .slice (some ⟨cg, 0, none⟩) 64 64] 122)).alloc (.cells #[.string t, .slice (some ⟨cg, 0, none⟩) 64 64] 122)).heap.size) →
      (w6.cell? ⟨d.H, 7, none⟩ = some d.vk ∧ w6.frozen? ⟨d.H, 7, none⟩ = false) ∧ HuntTo U d.H g { h with kept := h.kept ++ [⟨t, cov⟩] } w (w6.setCell ⟨d.H, 7, none⟩ v')) := by
    intro v' w6 ho hg hat
    refine ⟨grown_cell p2 hg hne 7 (by omega), ?_, { d with vk := v', xk := d.xk ++ [.string t, .slice (some ⟨cg, 0, none⟩) 64 64] }, rfl, ?_⟩
    · exact ((Fr.below b2).same (Fr.grown hg (fun k e => p.inU k (Or.inr (Or.inl e))))).same (Fr.set (p.inU _ (Or.inl rfl)) 7 v')
    · have := p2.grewK t cov cg (fun q hq => (b2.cell (p := ⟨cg, q, none⟩) (p.lt _ hcu)).trans (hcg q hq)) (Or.inl hcu) hcw v' hg ho hat
      rw [gr_gr b2.size hg.size] at this
      rw [gr_size (World.size_setCell w6 _ _)]
      exact this
  have hrk := p2.rk
  clear p p2 b2 hcg hcu hcw
  go_enter Tryz.func169, Tryz.ntmps169
  go_wp2_with fail
  go_region_law (refine step_append_row rfl (.tmp 8) (.tmp 10) 88 rfl 0 122 i _ 2 40 Tryz.underlying88 hi hz0 hz1 hz2 rfl (by decide) d.vk h.kept.length d.xk (by simp [Act.eval]) (own_keep hrk (fun _ _ => rfl)) ⟨w.heap.size + 1, 0, none⟩ 1 1 [.string t, .slice (some ⟨cg, 0, none⟩) 64 64] (by simp [Act.eval]) rfl (cells_of_newd (w.alloc (.cells #[.string t, .slice (some ⟨cg, 0, none⟩) 64 64] 122)) [.string t, .slice (some ⟨cg, 0, none⟩) 64 64] 122 (w.heap.size + 1) (by simp)) (by intro u hu; simp at hu; rcases hu with rfl | rfl <;> rfl) (by unfold maxLen; omega) (by omega) (by omega) ?_; intro v6 w6 ho6 hg6 hat6; obtain ⟨g6, k6, rfl⟩ := own_form ho6 (by omega); obtain ⟨⟨c6, f6⟩, hfin⟩ := HF.out _ w6 ho6 ⟨hg6.os, hg6.tape, hg6.output, hg6.size, hg6.block⟩ hat6; have HALL : Hid _ := hfin; clear ho6 hg6 hat6 hfin)
  all_goals
    go_wp2
    go_end0
    exact ⟨rfl, HALL.out⟩

/-- What 'keep' makes of an input that is done. -/
def keepS (h : HS) (t : ByteArray) (cov : Nat → Int) : HS × Int := if 30 ≤ h.kept.length ∨ newS h.kept cov = false then (h, 0) else ({ h with kept := h.kept ++ [⟨t, cov⟩], hist := h.hist ++ [(true, t)] }, 113)
set_option maxHeartbeats 1000000 in
set_option maxRecDepth 100000 in
theorem keep_any {w : World} {U : Nat → Prop} {d : HD} {g : PG} {h : HS} (p : HU w U d g h) (hl : ∀ k ∈ h.kept, ∀ q, Cls (k.cov q)) (t : ByteArray) (cov : Nat → Int) (hcov : ∀ q, Cls (cov q)) (cg : Nat) (hcg : ∀ p, p < 64 → w.cell? ⟨cg, p, none⟩ = some (.int .u8 (cov p))) (hcu : U cg) (hcw : ¬ d.Wr cg) (hn : h.kept.length ≤ 1000000) (hn2 : h.hist.length ≤ 1000000) :
    Calls Tryz.prog 124 #[.pointer (some ⟨d.H, 0, none⟩), .agg #[.string t, .slice (some ⟨cg, 0, none⟩) 64 64]] w fun e w' => e = .returned (.int .u8 (keepS h t cov).2) ∧ HuntTo U d.H g (keepS h t cov).1 w w' := by
  have B0 : Below w.heap.size w (w.alloc (.cells #[.string t, .slice (some ⟨cg, 0, none⟩) 64 64] 122)) := (Below.refl _ _).alloc (Nat.le_refl _) _
  have p0 := p.gr B0
  have hH : d.H < w.heap.size := p.lt _ (p.inU _ (Or.inl rfl))
  have hz0 : (w.alloc (.cells #[.string t, .slice (some ⟨cg, 0, none⟩) 64 64] 122)).heap.size = w.heap.size + 1 := by simp
  obtain ⟨G, K⟩ := p0.krow
  have H1 : Hid (Calls Tryz.prog 68 #[.pointer (some ⟨d.H, 7, none⟩)] (w.alloc (.cells #[.string t, .slice (some ⟨cg, 0, none⟩) 64 64] 122)) fun e w' => e = .returned (.int .i64 (h.kept.length : Nat)) ∧ w' = (w.alloc (.cells #[.string t, .slice (some ⟨cg, 0, none⟩) 64 64] 122))) := liLen_any _ _ _ G _ (p0.cell 7 (by omega)) K
  have H2 : Hid (Calls Tryz.prog 168 #[.pointer (some ⟨d.H, 0, none⟩), .slice (some ⟨cg, 0, none⟩) 64 64] (w.alloc (.cells #[.string t, .slice (some ⟨cg, 0, none⟩) 64 64] 122)) fun e w' => e = .returned (.bool (newS h.kept cov)) ∧ Below (w.alloc (.cells #[.string t, .slice (some ⟨cg, 0, none⟩) 64 64] 122)).heap.size (w.alloc (.cells #[.string t, .slice (some ⟨cg, 0, none⟩) 64 64] 122)) w') :=
    isNew_any _ d.H _ G _ (p0.cell 7 (by omega)) (by rw [hz0]; omega) K hl cg cov hcov (fun q hq => (B0.cell (p := ⟨cg, q, none⟩) (p.lt _ hcu)).trans (hcg q hq))
  obtain ⟨iu, hiu, hzu0, hzu1, hzu2⟩ := u8info
  unfold keepS
  have HP : Hid (HU w U d g h) := p
  have HB0 : Hid (Below w.heap.size w (w.alloc (.cells #[.string t, .slice (some ⟨cg, 0, none⟩) 64 64] 122))) := B0
  have HCG : Hid ((∀ p, p < 64 → w.cell? ⟨cg, p, none⟩ = some (.int .u8 (cov p))) ∧ U cg ∧ ¬ d.Wr cg) := ⟨hcg, hcu, hcw⟩
  clear p p0 K B0 hcg hcu hcw hl hcov
  by_cases h30 : 30 ≤ h.kept.length
  · rw [if_pos (Or.inl h30)]
    generalize h.kept.length = nk at *
    have hi30 : (30 : Int) ≤ (nk : Int) := by omega
    go_enter Tryz.func124, Tryz.ntmps124
    go_wp2_with fail
    refine H1.out.mono ?_
    rintro e w1 ⟨rfl, hw⟩
    obtain rfl := hw.symm
    go_wp2_with fail
    go_ret
    exact ⟨rfl, HuntTo.of HP.out HB0.out⟩
  · have hi30 : ¬ (30 : Int) ≤ (h.kept.length : Int) := by omega
    cases hnew : newS h.kept cov with
    | false =>
      rw [if_pos (Or.inr rfl)]
      rw [hnew] at H2
      generalize h.kept.length = nk at *
      go_enter Tryz.func124, Tryz.ntmps124
      go_wp2_with fail
      refine H1.out.mono ?_
      rintro e w1 ⟨rfl, hw⟩
      obtain rfl := hw.symm
      go_wp2_with fail
      refine H2.out.mono ?_
      rintro e w2 ⟨rfl, B2⟩
      rw [hz0] at B2
      go_wp2_with fail
      go_ret
      exact ⟨rfl, HuntTo.of HP.out (HB0.out.trans (B2.mono (by omega)))⟩
    | true =>
      rw [if_neg (fun c => c.elim h30 (fun e => by cases e))]
      rw [hnew] at H2
      have HN : Hid (h.kept.length ≤ 1000000) := hn
      generalize hnk : h.kept.length = nk at H1 hi30 hn
      have HNK : Hid (h.kept.length = nk) := hnk
      clear hnk h30
      go_enter Tryz.func124, Tryz.ntmps124
      go_wp2_with fail
      refine H1.out.mono ?_
      rintro e w1 ⟨rfl, hw⟩
      obtain rfl := hw.symm
      go_wp2_with fail
      refine H2.out.mono ?_
      rintro e w2 ⟨rfl, B2⟩
      rw [hz0] at B2
      have B02 := HB0.out.trans (B2.mono (by omega))
      have hbk : w2.heap[w.heap.size]? = some (.cells #[.string t, .slice (some ⟨cg, 0, none⟩) 64 64] 122 (0, 0)) := (B2.block _ (by omega)).trans (heap_alloc_new w _)
      have i0 : w2.cell? ⟨w.heap.size, 0, none⟩ = some (.string t) := cell_of_row _ _ _ _ _ _ hbk
      have i1 : w2.cell? ⟨w.heap.size, 1, none⟩ = some (.slice (some ⟨cg, 0, none⟩) 64 64) := cell_of_row _ _ _ _ _ _ hbk
      have B02d : Below w.heap.size w w2.drew := B02.drew
      have HT1 : Hid (HuntTo U d.H g h w w2.drew) := HuntTo.of HP.out B02d
      have H3 : Hid (Calls Tryz.prog 169 #[.pointer (some ⟨d.H, 7, none⟩), .agg #[.string t, .slice (some ⟨cg, 0, none⟩) 64 64]] w2.drew fun e w' => e = .returned (.tuple #[]) ∧ HuntTo (Gr U w w2.drew) d.H g { h with kept := h.kept ++ [⟨t, cov⟩] } w2.drew w') :=
        liAdd_any (HP.out.gr B02d) t cov cg (fun q hq => (B02d.cell (p := ⟨cg, q, none⟩) (HP.out.lt _ HCG.out.2.1)).trans (HCG.out.1 q hq)) (Or.inl HCG.out.2.1) HCG.out.2.2 HN.out
      clear B2 B02 B02d hbk H1 H2
      go_wp2_with fail
      go_region_with (go_at_call 169; refine H3.out.mono ?_; rintro e w3 ⟨rfl, hT2⟩)
      obtain ⟨fr2, d2, hd2, p2⟩ := hT2
      have HT2 : Hid (HuntTo U d.H g { h with kept := h.kept ++ [⟨t, cov⟩] } w w3) := HT1.out.then ⟨fr2, d2, hd2, p2⟩
      rw [gr_gr HT1.out.fr.size fr2.size] at p2
      have HC : Hid _ := came_fin p2 true t 113 rfl
      have c9 : w3.cell? ⟨d.H, 9, none⟩ = some d2.vc := hd2 ▸ p2.cell 9 (by omega)
      have hHl : d.H < w3.heap.size := hd2 ▸ p2.lt _ (p2.inU _ (Or.inl rfl))
      have hrc := p2.rc
      rw [hd2] at HC
      clear fr2 p2 H3 HT1 hd2
      go_wp2_with (at_builtin; refine wpList_append_own_at _ rfl (.tmp 26) (.tmp 27) 25 rfl 0 5 iu (.int .u8 0) 1 1 Tryz.underlying25 hiu hzu0 hzu1 hzu2 rfl (by decide) _ h.hist.length _ rfl (hrc.alloc _) ⟨w3.heap.size, 0, none⟩ 1 1 [.int .u8 113] rfl rfl (cell_one_new _ _ _) ?c2 (by unfold maxLen; omega) (by omega) (by omega) ?_)
      case c2 => first | rfl | (intro u hu; simp at hu; subst hu; rfl)
      intro v6 w6 ho6 hg6 _ hat6
      obtain ⟨⟨c6, f6⟩, hfin⟩ := HC.out v6 w6 ho6 hg6 (by simpa using hat6)
      have HALL : Hid _ := HT2.out.then hfin
      obtain ⟨g6, k6, rfl⟩ := own_form ho6 (by omega)
      clear ho6 hg6 hat6 hfin HC hrc c9
      go_wp2
      go_ret
      exact ⟨rfl, HALL.out⟩
end Go.Proofs.YtflenkppcclclaaGreatDoor

