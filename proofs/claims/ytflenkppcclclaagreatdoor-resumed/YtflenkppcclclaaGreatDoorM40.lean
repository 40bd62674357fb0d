import Derived.Test.YtflenkppcclclaaGreatDoorM39
import Derived.Test.YtflenkppcclclaaGreatDoorM28
import Derived.Test.YtflenkppcclclaaGreatDoorM31
namespace Go.Proofs.YtflenkppcclclaaGreatDoor
open Go.RowKit

/-! A prowl among other things in memory: it lies in U's blocks, all from 'lo' on. -/
structure Prw (lo : Nat) (U : Nat → Prop) (H : Nat) (g : PG) (h : HS) (w : World) : Prop where
  hg : ∃ d, d.H = H ∧ HG w U d g h
  lo : ∀ k, U k → lo ≤ k
theorem Prw.lt {lo : Nat} {U : Nat → Prop} {H : Nat} {g : PG} {h : HS} {w : World} (p : Prw lo U H g h w) : ∀ k, U k → k < w.heap.size := by
  obtain ⟨d, _, G⟩ := p.hg
  exact G.hu.lt
theorem Prw.lo' {lo : Nat} {U : Nat → Prop} {H : Nat} {g : PG} {h : HS} {w : World} (p : Prw lo U H g h w) : lo ≤ w.heap.size := by
  obtain ⟨d, _, G⟩ := p.hg
  have h1 := G.hu.lt _ G.hu.inC
  have h2 := p.lo _ G.hu.inC
  omega
/-- What leaves its blocks alone leaves it alone. -/
theorem Prw.keep {lo : Nat} {U : Nat → Prop} {H : Nat} {g : PG} {h : HS} {w w' : World} (p : Prw lo U H g h w) (hb : ∀ k, U k → w'.heap[k]? = w.heap[k]?) (hs : w.heap.size ≤ w'.heap.size) (hT : Tab w') (hM : Mrk w') : Prw lo U H g h w' := by
  obtain ⟨d, hd, G⟩ := p.hg
  exact ⟨⟨d, hd, G.hu.keep hb (fun _ x => x) (fun k hk => Nat.lt_of_lt_of_le (G.hu.lt k hk) hs) G.hu.low, G.ok, G.inv, G.pos, hT, hM⟩, p.lo⟩
theorem Prw.below {lo : Nat} {U : Nat → Prop} {H : Nat} {g : PG} {h : HS} {w w' : World} (p : Prw lo U H g h w) (b : Below w.heap.size w w') : Prw lo U H g h w' := by
  obtain ⟨d, hd, G⟩ := p.hg
  exact p.keep (fun k hk => b.block k (G.hu.lt k hk)) b.size (G.tab.below b) (G.mrk.below b G.mrk.two)
theorem Prw.tab {lo : Nat} {U : Nat → Prop} {H : Nat} {g : PG} {h : HS} {w : World} (p : Prw lo U H g h w) : Tab w ∧ Mrk w := by
  obtain ⟨d, _, G⟩ := p.hg
  exact ⟨G.tab, G.mrk⟩
theorem Prw.inv {lo : Nat} {U : Nat → Prop} {H : Nat} {g : PG} {h : HS} {w : World} (p : Prw lo U H g h w) : Hinv g.R h := by
  obtain ⟨d, _, G⟩ := p.hg
  exact G.inv
theorem Prw.ok {lo : Nat} {U : Nat → Prop} {H : Nat} {g : PG} {h : HS} {w : World} (p : Prw lo U H g h w) : PGok g := by
  obtain ⟨d, _, G⟩ := p.hg
  exact G.ok
theorem Prw.wide {lo lo' : Nat} {U : Nat → Prop} {H : Nat} {g : PG} {h : HS} {w : World} (p : Prw lo U H g h w) (hl : lo' ≤ lo) : Prw lo' U H g h w := ⟨p.hg, fun k hk => Nat.le_trans hl (p.lo k hk)⟩
theorem Prw.other {lo lo2 : Nat} {U V : Nat → Prop} {H H2 : Nat} {g g2 : PG} {h h2 : HS} {w w' : World} (p : Prw lo U H g h w) (q : Prw lo2 V H2 g2 h2 w') (f : Fr V w w') (hd : ∀ k, U k → ¬ V k) : Prw lo U H g h w' := p.keep (fun k hk => f.block k (p.lt k hk) (hd k hk)) f.size q.tab.1 q.tab.2
theorem Made.pw {w w' : World} {g : PG} {h : HS} {H : Nat} (m : Made w g h H w') : ∃ U, Prw w.heap.size U H g h w' := by
  obtain ⟨U, d, hd, G, hU⟩ := m.hg
  exact ⟨U, ⟨d, hd, G⟩, hU⟩
theorem Fr.low {U : Nat → Prop} {lo : Nat} {w w' : World} (f : Fr U w w') (hU : ∀ k, U k → lo ≤ k) (hl : lo ≤ w.heap.size) : Below lo w w' :=
  ⟨f.os, f.tape, f.output, f.size, fun k hk => f.block k (by omega) (fun c => by have := hU k c; omega)⟩
/-- Go. -/
theorem gone_cnt {g : PG} {h : HS} (c : Hcnt h) (n : Nat) : Hcnt (h.gone g n) ∧ (h.gone g n).tries ≤ h.tries + n := by
  unfold HS.gone
  split
  · obtain ⟨c1, c2⟩ := c.go (R := g.R) n
    exact ⟨c1, by omega⟩
  · exact ⟨c, by omega⟩
theorem Prw.goes {lo : Nat} {U : Nat → Prop} {H : Nat} {g : PG} {h : HS} {w : World} (p : Prw lo U H g h w) (c : Hcnt h) (n : Nat) (h1 : 1 ≤ n) (h2 : n ≤ 2000) (ht : h.tries + n ≤ 1000000) :
    Calls Tryz.prog 21 #[.pointer (some ⟨H, 0, none⟩), .int .i64 (n : Nat)] w fun e w' => e = .returned (.int .i64 (if 0 < h.kept.length then 0 else 4)) ∧ (Fr U w w' ∧ Prw lo (Gr U w w') H g (h.gone g n) w') := by
  obtain ⟨d, rfl, G⟩ := p.hg
  refine (xGo_any G n h1 h2 (fun k hk => ?_)).mono ?_
  · obtain ⟨c1, c2⟩ := c.go (R := g.R) k
    exact c1.sz (by omega)
  rintro e w' ⟨rfl, t⟩
  have q := t.ht G
  obtain ⟨d', hd', p'⟩ := t.hu
  have hio : Hinv g.R (h.gone g n) ∧ Hpos (h.gone g n) := by
    unfold HS.gone
    split
    · rename_i hk
      exact ⟨G.inv.go g.rok n, (Hpos.go G.pos G.inv g.rok hk n).1⟩
    · exact ⟨G.inv, G.pos⟩
  refine ⟨rfl, t.fr, ⟨d', hd', p', G.ok, hio.1, hio.2, q.tab, q.mrk⟩, fun k hk => ?_⟩
  rcases hk with c | c
  · exact p.lo k c
  · have := p.lo'; omega
theorem Prw.status {lo : Nat} {U : Nat → Prop} {H : Nat} {g : PG} {h : HS} {w : World} (p : Prw lo U H g h w) :
    Calls Tryz.prog 22 #[.pointer (some ⟨H, 0, none⟩)] w fun e w' => e = .returned (.agg #[.int .i64 h.tries, .int .i64 h.hangs, .int .i64 h.entry, .int .i64 h.changes]) ∧ Below w.heap.size w w' := by
  obtain ⟨d, rfl, G⟩ := p.hg
  exact xStatus_any G.hu

theorem Prw.kh {lo : Nat} {U : Nat → Prop} {H : Nat} {g : PG} {h : HS} {w : World} (p : Prw lo U H g h w) : ∃ v G, KH w H v G h.kept := by
  obtain ⟨d, rfl, G⟩ := p.hg
  obtain ⟨G', K⟩ := G.hu.kh (inv_cls g.rok G.inv)
  exact ⟨_, _, K⟩
theorem xSeen_any (w : World) (H : Nat) (v : Value) (G : Nat → Nat) (l : List Inp) (K : KH w H v G l) :
    Calls Tryz.prog 19 #[.pointer (some ⟨H, 0, none⟩)] w fun e w' => e = .returned (.slice (some ⟨w.heap.size, 0, none⟩) 64 64) ∧ w'.heap[w.heap.size]? = some (.cells (rowL (seenN l)).toArray 5 (0, 0)) ∧ Below w.heap.size w w' := by
  have H0 : Hid (Calls Tryz.prog 33 #[.pointer (some ⟨H, 0, none⟩)] w fun e w' => e = .returned (.pointer (some ⟨H, 0, none⟩)) ∧ w' = w) := its_any w H
  have H1 : Hid (Calls Tryz.prog 39 #[.pointer (some ⟨H, 0, none⟩)] w fun e w' => e = .returned (.slice (some ⟨w.heap.size, 0, none⟩) 64 64) ∧ w'.heap[w.heap.size]? = some (.cells (rowL (seenN l)).toArray 5 (0, 0)) ∧ Below w.heap.size w w') := seen_any w H v G l K
  clear K
  go_enter Tryz.func19, Tryz.ntmps19
  go_wp2_with fail
  refine H0.out.mono ?_
  rintro e w1 ⟨rfl, hw⟩
  obtain rfl := hw.symm
  go_wp2_with fail
  refine H1.out.mono ?_
  rintro e w2 ⟨rfl, hr, hb⟩
  have HR : Hid (w2.heap[w.heap.size]? = some (.cells (rowL (seenN l)).toArray 5 (0, 0)) ∧ Below w.heap.size w w2) := ⟨hr, hb⟩
  clear hr hb H1 H0
  go_wp2_with fail
  go_ret
  exact ⟨rfl, HR.out.1, HR.out.2⟩
theorem xKept_any (w : World) (H : Nat) (v : Value) (G : Nat → Nat) (l : List Inp) (K : KH w H v G l) (hl : l.length ≤ 1000) :
    Calls Tryz.prog 16 #[.pointer (some ⟨H, 0, none⟩)] w fun e w' => e = .returned (.slice (some ⟨w.heap.size, 0, none⟩) l.length l.length) ∧ w'.heap[w.heap.size]? = some (.cells (txtL l.length (fun j => (l.getD j in0).text)).toArray 9 (0, 0)) ∧ Below w.heap.size w w' := by
  have H0 : Hid (Calls Tryz.prog 33 #[.pointer (some ⟨H, 0, none⟩)] w fun e w' => e = .returned (.pointer (some ⟨H, 0, none⟩)) ∧ w' = w) := its_any w H
  have H1 : Hid (Calls Tryz.prog 34 #[.pointer (some ⟨H, 0, none⟩)] w fun e w' => e = .returned (.slice (some ⟨w.heap.size, 0, none⟩) l.length l.length) ∧ w'.heap[w.heap.size]? = some (.cells (txtL l.length (fun j => (l.getD j in0).text)).toArray 9 (0, 0)) ∧ Below w.heap.size w w') := hKept_any w H v G l K hl
  clear K
  generalize txtL l.length (fun j => (l.getD j in0).text) = X at *
  generalize l.length = n at *
  go_enter Tryz.func16, Tryz.ntmps16
  go_wp2_with fail
  refine H0.out.mono ?_
  rintro e w1 ⟨rfl, hw⟩
  obtain rfl := hw.symm
  go_wp2_with fail
  refine H1.out.mono ?_
  rintro e w2 ⟨rfl, hr, hb⟩
  have HR : Hid (w2.heap[w.heap.size]? = some (.cells X.toArray 9 (0, 0)) ∧ Below w.heap.size w w2) := ⟨hr, hb⟩
  clear hr hb H1 H0
  go_wp2_with fail
  go_ret
  exact ⟨rfl, HR.out.1, HR.out.2⟩
theorem Prw.crashes {lo : Nat} {U : Nat → Prop} {H : Nat} {g : PG} {h : HS} {w : World} (p : Prw lo U H g h w) (hl : h.found.length ≤ 1000000) :
    Calls Tryz.prog 18 #[.pointer (some ⟨H, 0, none⟩)] w fun e w' => (∃ v, e = .returned v ∧ CL w' v h.found) ∧ Below w.heap.size w w' := by
  have H0 : Hid (Calls Tryz.prog 33 #[.pointer (some ⟨H, 0, none⟩)] w fun e w' => e = .returned (.pointer (some ⟨H, 0, none⟩)) ∧ w' = w) := its_any w H
  have H1 : Hid (Calls Tryz.prog 38 #[.pointer (some ⟨H, 0, none⟩)] w fun e w' => (∃ v, e = .returned v ∧ CL w' v h.found) ∧ Below w.heap.size w w') := by
    obtain ⟨d, rfl, G⟩ := p.hg
    exact hCrashes_any G.hu hl
  clear p hl
  go_enter Tryz.func18, Tryz.ntmps18
  go_wp2_with fail
  refine H0.out.mono ?_
  rintro e w1 ⟨rfl, hw⟩
  obtain rfl := hw.symm
  go_wp2_with fail
  refine H1.out.mono ?_
  rintro e w1 ⟨⟨v1, rfl, hc1⟩, B1⟩
  have hf := hc1.form
  have HR : Hid (CL w1 v1 h.found ∧ Below w.heap.size w w1) := ⟨hc1, B1⟩
  clear hc1 B1 H0 H1
  rcases hf with ⟨rfl, _⟩ | ⟨b', cap', rfl, _⟩
  · go_wp2_with fail
    go_ret
    exact ⟨⟨_, rfl, HR.out.1⟩, HR.out.2⟩
  · go_wp2_with fail
    go_ret
    exact ⟨⟨_, rfl, HR.out.1⟩, HR.out.2⟩
end Go.Proofs.YtflenkppcclclaaGreatDoor

namespace Go.Proofs.YtflenkppcclclaaGreatDoor
open Go.RowKit

/-! What a run can show: its fault and its place are small numbers. -/
theorem misfit_bd (d t l : Int) : 0 ≤ misfitS d t l ∧ misfitS d t l ≤ 3 := by
  unfold misfitS
  split
  · omega
  · split <;> omega
theorem do_faults (σ : St) (k : Nat) (n : Int) (h0 : 0 ≤ n) (h1 : n ≤ 255) (h : 0 ≤ σ.fault ∧ σ.fault < 300) : 0 ≤ (doS σ k n).fault ∧ (doS σ k n).fault < 300 := by
  unfold doS
  dsimp only
  unfold putS fin
  repeat' split
  all_goals first | exact h | (dsimp only; omega)
theorem adv_faults (σ : St) (k : Nat) (n fuel : Int) (h0 : 0 ≤ n) (h1 : n ≤ 255) (h : 0 ≤ σ.fault ∧ σ.fault < 300) : 0 ≤ (advS σ k n fuel).fault ∧ (advS σ k n fuel).fault < 300 := by
  unfold advS
  split
  · exact h
  split
  · show 0 ≤ (0 : Int) ∧ (0 : Int) < 300; omega
  split
  · have := misfit_bd σ.stack.length (shp (k * 3 + 1)) (shp (k * 3 + 2))
    show 0 ≤ misfitS _ _ _ ∧ misfitS _ _ _ < 300
    omega
  · exact do_faults _ _ _ h0 h1 h
theorem do_places (σ : St) (k : Nat) (n : Int) : (doS σ k n).place = σ.place := by
  unfold doS
  dsimp only
  unfold putS fin
  repeat' split
  all_goals rfl
theorem adv_places (σ : St) (k : Nat) (n fuel : Int) : (advS σ k n fuel).place = σ.place := by
  unfold advS
  split
  · rfl
  split
  · rfl
  split
  · rfl
  · exact do_places _ _ _
theorem after_ok {c ent : Nat → Int} {L : Nat} {Start : Nat → Prop} {fuel : Int} {inp : ByteArray} (hG : Good c L Start) (hE : ∀ p, p < L → -1 ≤ ent p ∧ ent p ≤ 255) (hi : inp.size ≤ 24) (hf : 0 ≤ fuel) : ∀ n, (∀ m, m < n → (after c ent fuel (ρ0 inp) m).σ.ended = false) →
    Inv L Start fuel (after c ent fuel (ρ0 inp) n) ∧ (0 ≤ (after c ent fuel (ρ0 inp) n).σ.fault ∧ (after c ent fuel (ρ0 inp) n).σ.fault < 300) ∧ (0 ≤ (after c ent fuel (ρ0 inp) n).σ.place ∧ (after c ent fuel (ρ0 inp) n).σ.place < 400)
  | 0, _ => by
    refine ⟨⟨Int.le_refl 0, ?_, fun _ => hG.zero, Nat.zero_le 32, hi, Nat.zero_le 16, Int.le_refl 0, hf, fun _ => Int.le_refl 0, Int.le_refl 0, ?_⟩, ⟨Int.le_refl 0, ?_⟩, ⟨Int.le_refl 0, ?_⟩⟩
    · show (0 : Int) ≤ 300; omega
    · show (0 : Int) ≤ 256; omega
    · show (0 : Int) < 300; omega
    · show (0 : Int) < 400; omega
  | n + 1, h => by
    obtain ⟨i1, f1, _⟩ := after_ok hG hE hi hf n (fun m hm => h m (by omega))
    have he := h n (by omega)
    have i2 := (advS_inv hG hE i1 he).1
    have sb := second_bounds hG (i1.start he)
    refine ⟨i2, adv_faults _ _ _ _ sb.1 sb.2 f1, ?_⟩
    have e : (after c ent fuel (ρ0 inp) (n + 1)).σ.place = (after c ent fuel (ρ0 inp) n).σ.next := adv_places _ _ _ _
    rw [e]
    have := i1.next0
    have := i1.nextL
    omega
theorem PGok.fok {g : PG} (ok : PGok g) : FOk g.R := by
  have key : ∀ s : ByteArray, s.size ≤ 24 → (0 ≤ (g.R s).fault ∧ (g.R s).fault < 300) ∧ 0 ≤ (g.R s).place ∧ (g.R s).place < 400 := by
    intro s hs
    unfold PG.R shows
    split
    · rename_i h
      have hx := Classical.choose_spec h
      have := after_ok ok.vp.good (fun p hp => ent_bounds _ g.L p hp ok.vp.most) hs (by have := ok.fuel0; omega : (0 : Int) ≤ g.fuel) _ hx.2
      exact this.2
    · exact ⟨⟨by decide, by decide⟩, by decide, by decide⟩
  exact ⟨fun s hs => (key s hs).1, fun s hs => (key s hs).2⟩
/-- All is small. -/
theorem Hinv.sz {g : PG} {h : HS} (p : Hinv g.R h) (ok : PGok g) (ht : h.tries ≤ 1000000) (hh : h.hangs ≤ 1000000) : Hsz h := ⟨by omega, by omega, by have := p.most; omega, by have := found_le p ok.fok; omega, by have := hist_le p ok.fok; omega⟩
end Go.Proofs.YtflenkppcclclaaGreatDoor

namespace Go.Proofs.YtflenkppcclclaaGreatDoor
open Go.RowKit

/-! A prowl as the laws make it. -/
def fold24 (s : ByteArray) : ByteArray := if 24 < s.size then s.extract 0 24 else s
theorem fold_size (s : ByteArray) : (fold24 s).size ≤ 24 := short_size' s
/-- Texts that came in. -/
structure TX (w : World) (v : Value) (l : List ByteArray) : Prop where
  form : ∃ (ao : Option Addr) (cap : Nat), v = .slice ao l.length cap ∧ l.length ≤ 9223372036854775807 ∧ ∀ j, j < l.length → ∃ b off, ao = some ⟨b, off, none⟩ ∧ b < w.heap.size ∧ w.cell? ⟨b, off + j, none⟩ = some (.string (l.getD j ⟨#[]⟩))
  len : ∀ s ∈ l, s.size ≤ 9223372036854775807
theorem TX.below {w w' : World} {v : Value} {l : List ByteArray} (h : TX w v l) (b : Below w.heap.size w w') : TX w' v l := by
  obtain ⟨⟨ao, cap, h1, h2, h3⟩, h4⟩ := h
  refine ⟨⟨ao, cap, h1, h2, fun j hj => ?_⟩, h4⟩
  obtain ⟨b', off, e1, e2, e3⟩ := h3 j hj
  exact ⟨b', off, e1, Nat.lt_of_lt_of_le e2 b.size, (b.cell (p := ⟨b', off + j, none⟩) e2).trans e3⟩
/-- The first inputs, folded. -/
def folded (l : List ByteArray) : List ByteArray := (l.take 8).map fold24
theorem folded_len (l : List ByteArray) : (folded l).length ≤ 8 := by unfold folded; rw [List.length_map, List.length_take]; omega
theorem folded_size (l : List ByteArray) : ∀ s ∈ folded l, s.size ≤ 24 := by
  intro s hs
  unfold folded at hs
  obtain ⟨t, _, rfl⟩ := List.mem_map.1 hs
  exact fold_size t
noncomputable def frS (g : PG) (l : List ByteArray) (seed : Int) (n : Nat) : HS := (triesS g.R (HS.zero seed) (folded l)).gone g n
theorem fr_cnt (g : PG) (l : List ByteArray) (seed : Int) (n : Nat) : Hcnt (frS g l seed n) ∧ (frS g l seed n).tries ≤ 8 + n := by
  obtain ⟨c1, c2⟩ := (hcnt_zero seed).tries (R := g.R) (folded l)
  obtain ⟨d1, d2⟩ := gone_cnt (g := g) c1 n
  have := folded_len l
  refine ⟨d1, ?_⟩
  have e : (HS.zero seed).tries = 0 := rfl
  unfold frS
  omega
theorem fr_replays (g : PG) (l : List ByteArray) (seed : Int) (n : Nat) : Replays g.R (frS g l seed n) := by
  have h1 := Replays.tries (R := g.R) (folded l) _ (replays_zero g.R seed)
  unfold frS HS.gone
  split
  · exact h1.go n
  · exact h1
theorem SL.of_own {w : World} {base : Nat} {v : Value} {l : List ByteArray} (h : w.ownsRow base 9 1 v l.length (l.map Value.string)) : SL w v l := by
  refine ⟨?_⟩
  rcases own_form0 h with ⟨hv, hn⟩ | ⟨b, cap, hv, hb, hcap, hnc, hc⟩
  · exact Or.inl ⟨hv, List.eq_nil_of_length_eq_zero hn⟩
  · refine Or.inr ⟨b, cap, hv, hb, by unfold maxLen at hcap; omega, fun j hj => hc j _ ?_⟩
    rw [List.getElem?_map, List.getElem?_eq_getElem hj, List.getD_eq_getElem?_getD, List.getElem?_eq_getElem hj]
    rfl
/-- What 'fresh' gives. -/
structure FrPost (w : World) (g : PG) (h : HS) (e : Ending) (w' : World) : Prop where
  bel : Below w.heap.size w w'
  ans : ∃ H U, e = .returned (.pointer (some ⟨H, 0, none⟩)) ∧ Prw w.heap.size U H g h w'
theorem folded_take (l : List ByteArray) (k : Nat) (hk : k < l.length) (h8 : k < 8) : (folded l).take (k + 1) = (folded l).take k ++ [fold24 (l.getD k ⟨#[]⟩)] ∧ k < (folded l).length := by
  have hk' : k < (folded l).length := by unfold folded; rw [List.length_map, List.length_take]; omega
  refine ⟨?_, hk'⟩
  have e : (folded l)[k]? = some (fold24 (l.getD k ⟨#[]⟩)) := by
    unfold folded
    rw [List.getElem?_map, List.getElem?_take, if_pos h8, List.getElem?_eq_getElem hk, List.getD_eq_getElem?_getD, List.getElem?_eq_getElem hk]
    rfl
  rw [List.getElem?_eq_getElem hk'] at e
  injection e with e
  rw [List.take_succ_eq_append_getElem hk', e]
set_option maxHeartbeats 4000000 in
set_option maxRecDepth 100000 in
theorem kfresh_any (w : World) (v : Value) (L : Nat) (c : Nat → Int) (hby : ∀ i, i < L → 0 ≤ c i ∧ c i ≤ 255) (C : Coded w v L c) (hT : Tab w) (hM : Mrk w) {c' : Nat → Int} {L' N' : Nat} (P : ProgOf c L c' L' N')
    (tv : Value) (l : List ByteArray) (X : TX w tv l) (seed : Int) (s0 : 0 ≤ seed) (s1 : seed ≤ 18446744073709551615) (fuel : Int) (f0 : -9223372036854775808 ≤ fuel) (f1 : fuel ≤ 9223372036854775807) (tries : Int) (t0 : -9223372036854775808 ≤ tries) (t1 : tries ≤ 9223372036854775807) :
    Calls Tryz.prog 13 #[v, tv, .int .u64 seed, .int .i64 fuel, .int .i64 tries] w (FrPost w ⟨c', L', N', 1 + kpickS fuel 200⟩ (frS ⟨c', L', N', 1 + kpickS fuel 200⟩ l seed (kpickS tries 600).toNat)) := by
  obtain ⟨i, hi, hz0, hz1, hz2⟩ := info_of infoStr
  have hp1 := kpick_bd fuel 200 (by omega)
  have hp2 := kpick_bd tries 600 (by omega)
  have HPK : Hid (∀ W, Calls Tryz.prog 15 #[.int .i64 fuel, .int .i64 200] W fun e w' => e = .returned (.int .i64 (kpickS fuel 200)) ∧ w' = W) := fun W => kpick_any fuel 200 f0 f1 (by omega) (by omega) W
  have HPT : Hid (∀ W, Calls Tryz.prog 15 #[.int .i64 tries, .int .i64 600] W fun e w' => e = .returned (.int .i64 (kpickS tries 600)) ∧ w' = W) := fun W => kpick_any tries 600 t0 t1 (by omega) (by omega) W
  have ok : PGok ⟨c', L', N', 1 + kpickS fuel 200⟩ := ⟨P.vp, by show 1 ≤ 1 + kpickS fuel 200; omega, by show 1 + kpickS fuel 200 ≤ 500; omega⟩
  have HKP : Hid (∀ W, Below w.heap.size w W → Calls Tryz.prog 14 #[v] W fun e w' => Below w.heap.size w w' ∧ Below W.heap.size W w' ∧ ∃ cb co cap, Laid w' cb co L' cap c' ∧ e = .returned (.slice (some ⟨cb, co, none⟩) L' cap)) := fun W b =>
    (kprogram_at W v L c hby (C.below b) (hT.below b) P).mono fun e w' ⟨x, y⟩ => ⟨b.trans (x.mono b.size), x, y⟩
  have HN : Hid (∀ W cb co cap v, Below w.heap.size w W → Laid W cb co L' cap c' → SL W v (folded l) → Calls Tryz.prog 29 #[.slice (some ⟨cb, co, none⟩) L' cap, v, .int .u64 seed, .int .i64 (1 + kpickS fuel 200)] W fun e w' => ∃ H U, e = .returned (.tuple #[.pointer (some ⟨H, 0, none⟩), .int .i64 0]) ∧ Below w.heap.size w w' ∧ Prw w.heap.size U H ⟨c', L', N', 1 + kpickS fuel 200⟩ (triesS (PG.R ⟨c', L', N', 1 + kpickS fuel 200⟩) (HS.zero seed) (folded l)) w') := fun W cb co cap v b Cl S => by
    have hm2 := (hM.all b).two
    refine (xNew_any W cb co cap ⟨c', L', N', 1 + kpickS fuel 200⟩ ok Cl v (folded l) S (folded_len l) (folded_size l) seed s0 s1 (hT.below b) (hM.all b) (by omega)).mono ?_
    rintro e w' ⟨H, rfl, m⟩
    obtain ⟨U, pw⟩ := m.pw
    exact ⟨H, U, rfl, b.trans (m.bel.mono b.size), pw.wide b.size⟩
  obtain ⟨ao, cp, rfl, hlen, hcell⟩ := X.form
  have HX : Hid (∀ W k, Below w.heap.size w W → k < l.length → ∃ b off, ao = some ⟨b, off, none⟩ ∧ b < W.heap.size ∧ W.cell? ⟨b, off + k, none⟩ = some (.string (l.getD k ⟨#[]⟩))) := fun W k bb hk => by
    obtain ⟨b, off, e1, e2, e3⟩ := hcell k hk
    exact ⟨b, off, e1, Nat.lt_of_lt_of_le e2 bb.size, (bb.cell (p := ⟨b, off + k, none⟩) e2).trans e3⟩
  have HSH : Hid (∀ W k, k < l.length → Calls Tryz.prog 31 #[.string (l.getD k ⟨#[]⟩), .int .i64 24] W fun e w' => e = .returned (.string (fold24 (l.getD k ⟨#[]⟩))) ∧ w' = W) := fun W k hk => short_any _ (by
    rw [List.getD_eq_getElem?_getD, List.getElem?_eq_getElem hk, Option.getD_some]
    exact X.len _ (List.getElem_mem hk)) W
  have HFT : Hid (∀ k, k < l.length → k < 8 → (folded l).take (k + 1) = (folded l).take k ++ [fold24 (l.getD k ⟨#[]⟩)] ∧ k < (folded l).length) := fun k h1 h2 => folded_take l k h1 h2
  have HFE : Hid (∀ k, k ≤ l.length → k ≤ 8 → (k = l.length ∨ k = 8) → (folded l).take k = folded l ∧ (folded l).length = k) := fun k h1 h2 h3 => by
    have e : (folded l).length = k := by unfold folded; rw [List.length_map, List.length_take]; omega
    exact ⟨List.take_of_length_le (by omega), e⟩
  have HGO : Hid (∀ W U H, Prw w.heap.size U H ⟨c', L', N', 1 + kpickS fuel 200⟩ (triesS (PG.R ⟨c', L', N', 1 + kpickS fuel 200⟩) (HS.zero seed) (folded l)) W → ∀ n : Nat, 1 ≤ n → n ≤ 600 → Calls Tryz.prog 21 #[.pointer (some ⟨H, 0, none⟩), .int .i64 (n : Nat)] W fun e w' => e = .returned (.int .i64 (if 0 < (triesS (PG.R ⟨c', L', N', 1 + kpickS fuel 200⟩) (HS.zero seed) (folded l)).kept.length then 0 else 4)) ∧ (Below w.heap.size W w' ∧ ∃ U', Prw w.heap.size U' H ⟨c', L', N', 1 + kpickS fuel 200⟩ (frS ⟨c', L', N', 1 + kpickS fuel 200⟩ l seed n) w')) := fun W U H p n h1 h2 => by
    obtain ⟨c1, c2⟩ := (hcnt_zero seed).tries (R := PG.R ⟨c', L', N', 1 + kpickS fuel 200⟩) (folded l)
    have h8 := folded_len l
    have e0 : (HS.zero seed).tries = 0 := rfl
    refine (p.goes c1 n h1 (by omega) (by omega)).mono ?_
    rintro e w' ⟨rfl, f, q⟩
    exact ⟨rfl, f.low p.lo p.lo', _, q⟩
  have HKK : Hid (∀ W U H h, Prw w.heap.size U H ⟨c', L', N', 1 + kpickS fuel 200⟩ h W → Calls Tryz.prog 16 #[.pointer (some ⟨H, 0, none⟩)] W fun e w' => e = .returned (.slice (some ⟨W.heap.size, 0, none⟩) h.kept.length h.kept.length) ∧ Below W.heap.size W w') := fun W U H h p => by
    obtain ⟨vk, G, K⟩ := p.kh
    exact (xKept_any W H vk G h.kept K (by have := p.inv.most; omega)).mono fun e w' ⟨x, _, z⟩ => ⟨x, z⟩
  have HZ : Hid (frS ⟨c', L', N', 1 + kpickS fuel 200⟩ l seed 0 = triesS (PG.R ⟨c', L', N', 1 + kpickS fuel 200⟩) (HS.zero seed) (folded l)) := by
    show HS.gone _ _ _ = _
    unfold HS.gone
    split <;> rfl
  have HK0 : Hid (¬ 0 < (triesS (PG.R ⟨c', L', N', 1 + kpickS fuel 200⟩) (HS.zero seed) (folded l)).kept.length → ∀ n, (frS ⟨c', L', N', 1 + kpickS fuel 200⟩ l seed n).kept.length = 0) := fun h n => by
    unfold frS HS.gone
    rw [if_neg h]
    omega
  clear C hT hM P X hcell ok s0 s1 f0 f1 t0 t1 hby
  generalize hG : (⟨c', L', N', 1 + kpickS fuel 200⟩ : PG) = g at *
  obtain ⟨h0, hh0⟩ : ∃ h0, triesS g.R (HS.zero seed) (folded l) = h0 := ⟨_, rfl⟩
  rw [hh0] at HN HGO HZ HK0
  obtain ⟨hF, hhF⟩ : ∃ hF, frS g l seed (kpickS tries 600).toNat = hF := ⟨_, rfl⟩
  rw [hhF]
  have HHF : Hid (frS g l seed (kpickS tries 600).toNat = hF) := hhF
  clear hhF hh0 hG
  generalize kpickS fuel 200 = pk at *
  generalize kpickS tries 600 = pt at *
  generalize hn : l.length = n at *
  go_enter Tryz.func13, Tryz.ntmps13
  go_wp2_with fail
  go_loopw [11, 12] (fun lv iv wr => ∃ k : Nat, k ≤ n ∧ k ≤ 8 ∧ iv = .int .i64 k ∧ wr.ownsRow w.heap.size 9 1 lv k (((folded l).take k).map Value.string) ∧ Below w.heap.size w wr) (fun _ iv _ => 8 - (intOf iv).toNat)
  case atStart => exact ⟨0, by omega, by omega, rfl, World.ownsRow_nil _ _ _ _, Below.refl _ _⟩
  case round =>
    obtain ⟨k, hkn, hk8, rfl, hrow, BB⟩ := hrel
    obtain ⟨la, lc, rfl⟩ := own_slice hrow
    have HB : Hid (Below w.heap.size w wr) := BB
    have HR : Hid (wr.ownsRow w.heap.size 9 1 (.slice la k lc) k (((folded l).take k).map Value.string)) := hrow
    have hsz := BB.size
    clear BB hrow
    by_cases hlt : k < n ∧ k < 8
    · have hi1 : (k : Int) < (n : Int) := by omega
      have hi2 : (k : Int) < 8 := by omega
      obtain ⟨b, off, rfl, hbl, ck⟩ := HX.out wr k HB.out (by omega)
      obtain ⟨hft, hfl⟩ := HFT.out k (by omega) (by omega)
      have H1 : Hid (Calls Tryz.prog 31 #[.string (l.getD k ⟨#[]⟩), .int .i64 24] wr fun e w' => e = .returned (.string (fold24 (l.getD k ⟨#[]⟩))) ∧ w' = wr) := HSH.out wr k (by omega)
      have HFF : Hid ((folded l).take (k + 1) = (folded l).take k ++ [fold24 (l.getD k ⟨#[]⟩)]) := hft
      have HLT : Hid (k < n ∧ k < 8) := hlt
      clear hft hfl hlt
      generalize fold24 (l.getD k ⟨#[]⟩) = fk at *
      generalize l.getD k ⟨#[]⟩ = sk at *
      go_wp2_with fail
      refine H1.out.mono ?_
      rintro e w1 ⟨rfl, hw⟩
      obtain rfl := hw.symm
      clear H1 ck
      go_wp2_with (at_builtin; refine wpList_append_own _ rfl _ _ 26 rfl w.heap.size 9 i _ 1 16 Tryz.underlying26 hi hz0 hz1 hz2 rfl (by decide) (.slice la k lc) k (((folded l).take k).map Value.string) rfl (HR.out.alloc (.cells #[.string fk] 9)) ⟨wr.heap.size, 0, none⟩ 1 1 [.string fk] rfl rfl (cells_of_new wr [.string fk] 9) (by intro u hu; simp at hu; rcases hu with rfl; rfl) (by unfold maxLen; omega) (by omega) (by simp; omega) ?_)
      intro v6 w6 ho6 hg6 hat6
      obtain ⟨a6, c6, rfl⟩ := own_slice ho6
      have HO6 : Hid (w6.ownsRow w.heap.size 9 1 (.slice a6 (k + 1) c6) (k + 1) (((folded l).take (k + 1)).map Value.string) ∧ Below w.heap.size w w6) := by
        refine ⟨by rw [HFF.out, List.map_append, List.map_take]; exact ho6, ?_⟩
        have hlb : ∀ k', Value.ownBlock (.slice la k lc) = some k' → w.heap.size ≤ k' := fun k' hk' => (HR.out.lt k' hk').1
        exact (HB.out.alloc hsz _).grown hg6 (by simp; omega) hlb
      clear ho6 hg6 hat6
      go_wp2_with fail
      go_roundw
      case rel => exact ⟨k + 1, by have := HLT.out; omega, by have := HLT.out; omega, by go_num, HO6.out.1, HO6.out.2⟩
      case measure => have := HLT.out; simp [intOf]; omega
    · obtain ⟨e1, e2⟩ := HFE.out k hkn hk8 (by omega)
      have HS : Hid (SL wr (.slice la k lc) (folded l)) := SL.of_own (base := w.heap.size) (by rw [e2, ← e1]; have := HR.out; rw [e1] at this ⊢; exact this)
      have hcase : (¬ (k : Int) < (n : Int)) ∨ ((k : Int) < (n : Int) ∧ ¬ (k : Int) < 8) := by omega
      clear hlt e1 e2 HR HX HSH HFT HFE hkn hk8 hlen
      rcases hcase with hi1 | ⟨hi1, hi2⟩
      all_goals
        go_wp2_with fail
        refine (HKP.out wr HB.out).mono ?_
        rintro e w2 ⟨B2, b2, cb, co, cap, C2, rfl⟩
        have HNN : Hid (Calls Tryz.prog 29 #[.slice (some ⟨cb, co, none⟩) L' cap, .slice la k lc, .int .u64 seed, .int .i64 (1 + pk)] w2 fun e w' => ∃ H U, e = .returned (.tuple #[.pointer (some ⟨H, 0, none⟩), .int .i64 0]) ∧ Below w.heap.size w w' ∧ Prw w.heap.size U H g h0 w') := HN.out w2 cb co cap (.slice la k lc) B2 C2 (HS.out.below b2)
        clear B2 b2 C2
        go_wp2_with fail
        refine (HPK.out w2).mono ?_
        rintro e w3 ⟨rfl, hw⟩
        obtain rfl := hw.symm
        go_wp2_with fail
        refine HNN.out.mono ?_
        rintro e w4 ⟨H, U, rfl, B4, pw4⟩
        have HPW : Hid (Below w.heap.size w w4 ∧ Prw w.heap.size U H g h0 w4) := ⟨B4, pw4⟩
        clear HNN B4 pw4
        go_wp2_with fail
        refine (HPT.out w4).mono ?_
        rintro e w5 ⟨rfl, hw⟩
        obtain rfl := hw.symm
        by_cases hpt : 0 < pt
        · obtain ⟨m, rfl⟩ : ∃ m : Nat, pt = m := ⟨pt.toNat, by omega⟩
          have HG1 := HGO.out w4 U H HPW.out.2 m (by omega) (by omega)
          have hF' : frS g l seed m = hF := by have := HHF.out; rwa [Int.toNat_natCast] at this
          by_cases hk : 0 < h0.kept.length
          · rw [if_pos hk, hF'] at HG1
            have HG2 : Hid (Calls Tryz.prog 21 #[.pointer (some ⟨H, 0, none⟩), .int .i64 (m : Nat)] w4 fun e w' => e = .returned (.int .i64 0) ∧ (Below w.heap.size w4 w' ∧ ∃ U', Prw w.heap.size U' H g hF w')) := HG1
            clear HG1 hF' hk
            go_wp2_with fail
            refine HG2.out.mono ?_
            rintro e w6 ⟨rfl, B6, U6, pw6⟩
            have HP6 : Hid (Below w.heap.size w w6 ∧ Prw w.heap.size U6 H g hF w6) := ⟨HPW.out.1.trans B6, pw6⟩
            clear B6 pw6 HG2
            go_wp2_with fail
            go_ret
            exact ⟨HP6.out.1, H, U6, rfl, HP6.out.2⟩
          · rw [if_neg hk, hF'] at HG1
            have hk0 := HK0.out hk m
            rw [hF'] at hk0
            have HG2 : Hid (Calls Tryz.prog 21 #[.pointer (some ⟨H, 0, none⟩), .int .i64 (m : Nat)] w4 fun e w' => e = .returned (.int .i64 4) ∧ (Below w.heap.size w4 w' ∧ ∃ U', Prw w.heap.size U' H g hF w')) := HG1
            clear HG1 hF' hk
            go_wp2_with fail
            refine HG2.out.mono ?_
            rintro e w6 ⟨rfl, B6, U6, pw6⟩
            have HP6 : Hid (Below w.heap.size w w6 ∧ Prw w.heap.size U6 H g hF w6) := ⟨HPW.out.1.trans B6, pw6⟩
            have HK6 := HKK.out w6 U6 H hF pw6
            rw [hk0] at HK6
            have HK7 : Hid (Calls Tryz.prog 16 #[.pointer (some ⟨H, 0, none⟩)] w6 fun e w' => e = .returned (.slice (some ⟨w6.heap.size, 0, none⟩) 0 0) ∧ Below w6.heap.size w6 w') := HK6
            clear B6 pw6 HG2 HK6 hk0
            go_wp2_with fail
            refine HK7.out.mono ?_
            rintro e w7 ⟨rfl, B7⟩
            have HP7 : Hid (Below w.heap.size w w7 ∧ Prw w.heap.size U6 H g hF w7) := ⟨HP6.out.1.trans (B7.mono HP6.out.1.size), HP6.out.2.below B7⟩
            clear B7 HK7
            go_wp2_with fail
            go_ret
            exact ⟨HP7.out.1, H, U6, rfl, HP7.out.2⟩
        · have h00 : pt = 0 := by omega
          subst h00
          have hF' : h0 = hF := by
            have := HHF.out
            rw [← this]
            exact HZ.out.symm
          have HP6 : Hid (Below w.heap.size w w4 ∧ Prw w.heap.size U H g hF w4) := by rw [← hF']; exact HPW.out
          clear hF' hpt
          go_wp2_with fail
          go_ret
          exact ⟨HP6.out.1, H, U, rfl, HP6.out.2⟩
end Go.Proofs.YtflenkppcclclaaGreatDoor

