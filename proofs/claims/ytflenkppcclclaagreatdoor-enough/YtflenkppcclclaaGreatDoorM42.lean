import Derived.Test.YtflenkppcclclaaGreatDoorM40
import Derived.Test.YtflenkppcclclaaGreatDoorM41
import Derived.BigQuiet
namespace Go.Proofs.YtflenkppcclclaaGreatDoor
open Go.RowKit

theorem Prw.log {lo : Nat} {U : Nat → Prop} {H : Nat} {g : PG} {h : HS} {w : World} (p : Prw lo U H g h w) :
    Calls Tryz.prog 23 #[.pointer (some ⟨H, 0, none⟩)] w fun e w' => e = .returned (.string (strOfNums (logL h.hist))) ∧ Below w.heap.size w w' := by
  refine log_aux w H _ ?_
  obtain ⟨d, rfl, G⟩ := p.hg
  exact hLog_any G.hu G.inv (by have := hist_le G.inv G.ok.fok; omega)
theorem Prw.seen {lo : Nat} {U : Nat → Prop} {H : Nat} {g : PG} {h : HS} {w : World} (p : Prw lo U H g h w) :
    Calls Tryz.prog 19 #[.pointer (some ⟨H, 0, none⟩)] w fun e w' => e = .returned (.slice (some ⟨w.heap.size, 0, none⟩) 64 64) ∧ w'.heap[w.heap.size]? = some (.cells (rowL (seenN h.kept)).toArray 5 (0, 0)) ∧ Below w.heap.size w w' := by
  obtain ⟨v, G, K⟩ := p.kh
  exact xSeen_any w H v G h.kept K
theorem Prw.kepts {lo : Nat} {U : Nat → Prop} {H : Nat} {g : PG} {h : HS} {w : World} (p : Prw lo U H g h w) :
    Calls Tryz.prog 16 #[.pointer (some ⟨H, 0, none⟩)] w fun e w' => e = .returned (.slice (some ⟨w.heap.size, 0, none⟩) h.kept.length h.kept.length) ∧ w'.heap[w.heap.size]? = some (.cells (txtL h.kept.length (fun j => (h.kept.getD j in0).text)).toArray 9 (0, 0)) ∧ Below w.heap.size w w' := by
  obtain ⟨v, G, K⟩ := p.kh
  exact xKept_any w H v G h.kept K (by have := p.inv.most; omega)
/-! What the document says of a small prowl. -/
theorem logE : strOfNums (logL [(true, tB), (false, tA)]) = ⟨#[113, 32, 54, 50, 10, 99, 32, 54, 49, 10]⟩ := by decide +kernel
noncomputable def hE1 : HS := triesS gE.R (HS.zero 1) [tB]
theorem newE (W : World) (hT : Tab W) (hM : Mrk W) (cb vb : Nat) (C : Laid W cb 0 10 10 cE) (hvb : W.heap[vb]? = some (.cells #[.string ⟨#[98]⟩] 9 (0, 0))) :
    Calls Tryz.prog 29 #[.slice (some ⟨cb, 0, none⟩) 10 10, .slice (some ⟨vb, 0, none⟩) 1 1, .int .u64 1, .int .i64 100] W fun e w' => ∃ H U, e = .returned (.tuple #[.pointer (some ⟨H, 0, none⟩), .int .i64 0]) ∧ Below W.heap.size W w' ∧ Prw W.heap.size U H gE hE1 w' := by
  have S : SL W (.slice (some ⟨vb, 0, none⟩) 1 1) [tB] := by
    refine ⟨Or.inr ⟨vb, 1, rfl, (Array.getElem?_eq_some_iff.1 hvb).1, by decide, fun j hj => ?_⟩⟩
    rw [cell_of_row W vb _ _ _ _ hvb]
    match j, hj with
    | 0, _ => rfl
    | j + 1, h => simp at h
  have h3 := hM.two
  refine (xNew_any W cb 0 10 gE okE C _ [tB] S (by decide) (by intro s hs; simp at hs; subst hs; decide) 1 (by omega) (by omega) hT hM (by omega)).mono ?_
  rintro e w' ⟨H, rfl, m⟩
  obtain ⟨U, pw⟩ := m.pw
  exact ⟨H, U, rfl, m.bel, pw⟩
noncomputable def hE2 : HS := hE1.go gE.R 40
theorem goE {lo : Nat} {U : Nat → Prop} {H : Nat} {w : World} (p : Prw lo U H gE hE1 w) : Calls Tryz.prog 21 #[.pointer (some ⟨H, 0, none⟩), .int .i64 40] w fun e w' => e = .returned (.int .i64 0) ∧ (Below lo w w' ∧ ∃ U', Prw lo U' H gE hE2 w') := by
  obtain ⟨c1, c2⟩ := (hcnt_zero 1).tries (R := gE.R) [tB]
  have e0 : (HS.zero 1).tries = 0 := rfl
  have hk : 0 < hE1.kept.length := by
    have := (e1_zero 1).kept
    unfold hE1
    rw [this]
    decide
  have := p.goes (n := 40) c1 (by omega) (by omega) (by show (triesS gE.R (HS.zero 1) [tB]).tries + 40 ≤ _; rw [c2, e0]; decide)
  rw [if_pos hk] at this
  refine this.mono ?_
  rintro e w' ⟨rfl, f, q⟩
  refine ⟨rfl, f.low p.lo p.lo', Gr U w w', ?_⟩
  have e : hE1.gone gE 40 = hE2 := by unfold HS.gone; rw [if_pos hk]; rfl
  rw [e] at q
  exact q
theorem e2E : E2 hE2 := exGo 1
set_option maxHeartbeats 2000000 in
set_option maxRecDepth 100000 in
theorem kprowled_any (w : World) (hT : Tab w) (hM : Mrk w) : Calls Tryz.prog 12 #[] w fun e w' => e = .returned (.bool true) ∧ Below w.heap.size w w' := by
  have HC : Hid (Calls Tryz.prog 28 #[] w fun e w' => e = .returned (.bool true) ∧ Below w.heap.size w w') := kchanged_any w hT hM
  have HNW : Hid (∀ W, Below w.heap.size w W → ∀ cb vb, Laid W cb 0 10 10 cE → W.heap[vb]? = some (.cells #[.string ⟨#[98]⟩] 9 (0, 0)) → Calls Tryz.prog 29 #[.slice (some ⟨cb, 0, none⟩) 10 10, .slice (some ⟨vb, 0, none⟩) 1 1, .int .u64 1, .int .i64 100] W fun e w' => ∃ H U, e = .returned (.tuple #[.pointer (some ⟨H, 0, none⟩), .int .i64 0]) ∧ Below w.heap.size w w' ∧ Prw w.heap.size U H gE hE1 w') := fun W b cb vb C hv => by
    refine (newE W (hT.below b) (hM.all b) cb vb C hv).mono ?_
    rintro e w' ⟨H, U, rfl, B, pw⟩
    exact ⟨H, U, rfl, b.trans (B.mono b.size), pw.wide b.size⟩
  clear hT hM
  go_enter Tryz.func12, Tryz.ntmps12
  go_wp2_with fail
  refine HC.out.mono ?_
  rintro e w1 ⟨rfl, B1⟩
  go_wp2_with fail
  refine (example_any w1).mono ?_
  rintro e w2 ⟨rfl, hw2⟩
  have C2 := laidE w1
  rw [← hw2] at C2
  have B2 : Below w.heap.size w w2 := by rw [hw2]; exact B1.alloc B1.size _
  have HN3 : Hid (Calls Tryz.prog 29 #[.slice (some ⟨w1.heap.size, 0, none⟩) 10 10, .slice (some ⟨w2.heap.size, 0, none⟩) 1 1, .int .u64 1, .int .i64 100] (w2.alloc (.cells #[.string ⟨#[98]⟩] 9)) fun e w' => ∃ H U, e = .returned (.tuple #[.pointer (some ⟨H, 0, none⟩), .int .i64 0]) ∧ Below w.heap.size w w' ∧ Prw w.heap.size U H gE hE1 w') :=
    HNW.out _ (B2.alloc B2.size _) _ _ (C2.below ((Below.refl _ _).alloc (Nat.le_refl _) _)) (heap_alloc_new _ _)
  clear hw2 C2 B1 B2 HNW HC
  go_wp2_with fail
  refine HN3.out.mono ?_
  rintro e w3 ⟨H, U, rfl, B3, p3⟩
  have HG : Hid (Below w.heap.size w w3 ∧ Calls Tryz.prog 21 #[.pointer (some ⟨H, 0, none⟩), .int .i64 40] w3 fun e w' => e = .returned (.int .i64 0) ∧ (Below w.heap.size w3 w' ∧ ∃ U', Prw w.heap.size U' H gE hE2 w')) := ⟨B3, goE p3⟩
  clear HN3 B3 p3
  go_wp2_with fail
  refine HG.out.2.mono ?_
  rintro e w4 ⟨rfl, B4, U4, p4⟩
  have HP4 : Hid (Below w.heap.size w w4 ∧ Prw w.heap.size U4 H gE hE2 w4) := ⟨HG.out.1.trans B4, p4⟩
  have HCR : Hid (Calls Tryz.prog 18 #[.pointer (some ⟨H, 0, none⟩)] w4 fun e w' => (∃ v, e = .returned v ∧ CL w' v hE2.found) ∧ Below w4.heap.size w4 w') := p4.crashes (by rw [e2E.found]; decide)
  clear HG B4 p4
  go_wp2_with fail
  refine HCR.out.mono ?_
  rintro e w5 ⟨⟨v5, rfl, c5⟩, B5⟩
  have p5 := HP4.out.2.below B5
  have HKK : Hid (Calls Tryz.prog 16 #[.pointer (some ⟨H, 0, none⟩)] w5 fun e w' => e = .returned (.slice (some ⟨w5.heap.size, 0, none⟩) 1 1) ∧ (w'.cell? ⟨w5.heap.size, 0, none⟩ = some (.string ⟨#[98]⟩) ∧ w5.heap.size < w'.heap.size ∧ Below w5.heap.size w5 w')) := by
    have h1 : hE2.kept.length = 1 := by rw [e2E.kept]; rfl
    have := p5.kepts
    rw [h1] at this
    refine this.mono ?_
    rintro e w' ⟨rfl, hr, B⟩
    refine ⟨rfl, ?_, (Array.getElem?_eq_some_iff.1 hr).1, B⟩
    rw [cell_of_row w' w5.heap.size 0 _ _ _ hr, List.getElem?_toArray, txtL_get 1 _ 0 (by omega), e2E.kept]
    rfl
  have HP5 : Hid (Below w.heap.size w w5 ∧ Prw w.heap.size U4 H gE hE2 w5) := ⟨HP4.out.1.trans (B5.mono HP4.out.1.size), p5⟩
  rw [e2E.found] at c5
  have HV : ∃ b cap, v5 = .slice (some ⟨b, 0, none⟩) 1 cap ∧ b < w5.heap.size ∧ w5.cell? ⟨b, 0, none⟩ = some (.string ⟨#[97]⟩) ∧ w5.cell? ⟨b, 1, none⟩ = some (.int .i64 23) ∧ w5.cell? ⟨b, 2, none⟩ = some (.int .i64 6) := by
    rcases c5.form with ⟨_, h⟩ | ⟨b, cap, h1, h2, _, h4⟩
    · cases h
    · exact ⟨b, cap, h1, h2, h4 0 _ rfl, h4 1 _ rfl, h4 2 _ rfl⟩
  obtain ⟨b, cap, rfl, hb, d0, d1, d2⟩ := HV
  clear HP4 HCR c5 B5 p5
  go_wp2_with fail
  refine HKK.out.mono ?_
  rintro e w6 ⟨rfl, k0, hk6, B6⟩
  have p6 := HP5.out.2.below B6
  have d0' := (B6.cell (p := ⟨b, 0, none⟩) hb).trans d0
  have d1' := (B6.cell (p := ⟨b, 1, none⟩) hb).trans d1
  have d2' := (B6.cell (p := ⟨b, 2, none⟩) hb).trans d2
  have hb' : b < w6.heap.size := Nat.lt_of_lt_of_le hb B6.size
  have HLG : Hid (∀ W, Below w6.heap.size w6 W → Calls Tryz.prog 23 #[.pointer (some ⟨H, 0, none⟩)] W fun e w' => e = .returned (.string ⟨#[113, 32, 54, 50, 10, 99, 32, 54, 49, 10]⟩) ∧ Below w.heap.size w w') := fun W bb => by
    have := (p6.below bb).log
    rw [e2E.hist, logE] at this
    have b6 : Below w.heap.size w W := HP5.out.1.trans ((B6.trans (bb.mono B6.size)).mono HP5.out.1.size)
    exact this.mono fun e w' ⟨x, y⟩ => ⟨x, b6.trans (y.mono b6.size)⟩
  clear HKK p6 d0 d1 d2 B6 HP5
  go_wp2_with fail
  first
    | (refine (HLG.out _ (Below.refl _ _)).mono ?_)
    | (refine (HLG.out _ ((Below.refl _ _).alloc (Nat.le_refl _) _)).mono ?_)
  rintro e w7 ⟨rfl, B7⟩
  have HB7 : Hid (Below w.heap.size w w7) := B7
  clear B7 HLG
  go_wp2_with fail
  go_ret
  exact ⟨rfl, HB7.out⟩
end Go.Proofs.YtflenkppcclclaaGreatDoor

namespace Go.Proofs.YtflenkppcclclaaGreatDoor
open Go.RowKit

/-! What Replayed and Enough look at: a prowl, its program, a row of bits. -/
structure R1 (w : World) (U : Nat → Prop) (H : Nat) (g : PG) (h : HS) (cb co cap S : Nat) (f : Nat → Nat) (wr : World) : Prop where
  bel : Below w.heap.size w wr
  pw : Prw w.heap.size U H g h wr
  laid : Laid wr cb co g.L cap g.c
  seen : wr.heap[S]? = some (.cells (rowL f).toArray 5 (0, 0))
  ge : w.heap.size ≤ S
  u : ∀ k, U k → k < S
  cb : cb < S
theorem R1.below {w wr w' : World} {U : Nat → Prop} {H : Nat} {g : PG} {h : HS} {cb co cap S : Nat} {f : Nat → Nat} (r : R1 w U H g h cb co cap S f wr) (b : Below wr.heap.size wr w') : R1 w U H g h cb co cap S f w' :=
  ⟨r.bel.trans (b.mono r.bel.size), r.pw.below b, r.laid.below b, (b.block _ (Array.getElem?_eq_some_iff.1 r.seen).1).trans r.seen, r.ge, r.u, r.cb⟩
theorem R1.lt {w wr : World} {U : Nat → Prop} {H : Nat} {g : PG} {h : HS} {cb co cap S : Nat} {f : Nat → Nat} (r : R1 w U H g h cb co cap S f wr) : S < wr.heap.size := (Array.getElem?_eq_some_iff.1 r.seen).1
theorem R1.cell {w wr : World} {U : Nat → Prop} {H : Nat} {g : PG} {h : HS} {cb co cap S : Nat} {f : Nat → Nat} (r : R1 w U H g h cb co cap S f wr) (q : Nat) (hq : q < 64) : wr.cell? ⟨S, q, none⟩ = some (.int .u8 ((f q : Nat) : Int)) ∧ wr.frozen? ⟨S, q, none⟩ = false :=
  ⟨by rw [cell_of_row wr S q _ _ _ r.seen, List.getElem?_toArray, rowL_get _ _ hq], frozen_of_row wr S q _ _ r.seen⟩
theorem R1.set {w wr : World} {U : Nat → Prop} {H : Nat} {g : PG} {h : HS} {cb co cap S : Nat} {f : Nat → Nat} (r : R1 w U H g h cb co cap S f wr) (f' : Nat → Nat) (q : Nat) (hq : q < 64) (hf : ∀ j, j < 64 → f' j = if j = q then f' q else f j) :
    R1 w U H g h cb co cap S f' (wr.setCell ⟨S, q, none⟩ (.int .u8 ((f' q : Nat) : Int))) := by
  have hk : ∀ k, k ≠ S → (wr.setCell ⟨S, q, none⟩ (.int .u8 ((f' q : Nat) : Int))).heap[k]? = wr.heap[k]? := fun k hk => heap_setCell_other wr ⟨S, q, none⟩ k _ hk
  have hsz : (wr.setCell ⟨S, q, none⟩ (.int .u8 ((f' q : Nat) : Int))).heap.size = wr.heap.size := World.size_setCell _ _ _
  have hbb : Below w.heap.size w (wr.setCell ⟨S, q, none⟩ (.int .u8 ((f' q : Nat) : Int))) := r.bel.setCell (p := ⟨S, q, none⟩) r.ge _
  have hw3 : 3 ≤ S := by
    obtain ⟨d, _, G⟩ := r.pw.hg
    have h1 := G.hu.low _ G.hu.inC
    have h2 := r.u _ G.hu.inC
    omega
  have tm := r.pw.tab
  have F : Fr (fun k => k = S) wr (wr.setCell ⟨S, q, none⟩ (.int .u8 ((f' q : Nat) : Int))) := Fr.set (U := fun k => k = S) rfl q _
  refine ⟨hbb, r.pw.keep (fun k hk' => hk k (by have := r.u k hk'; omega)) (by rw [hsz]; exact Nat.le_refl _) (F.tab (fun k hk => by have : k = S := hk; omega) tm.1) (F.mrk (fun k hk => by have : k = S := hk; omega) tm.2), r.laid.of_block (hk cb (by have := r.cb; omega)), ?_, r.ge, r.u, r.cb⟩
  rw [heap_setCell_same wr S q _ _ _ r.seen, ← rowL_set f f' q hq hf]
  simp
/-- Is there something new among the first q places? -/
def freshN (l : List Inp) (c : Nat → Int) (q : Nat) : Bool := (List.range q).any fun p => decide (bits .andNot .u8 (c p) ((seenN l p : Nat) : Int) ≠ 0)
theorem fresh_next (l : List Inp) (c : Nat → Int) (q : Nat) : freshN l c (q + 1) = (freshN l c q || decide (bits .andNot .u8 (c q) ((seenN l q : Nat) : Int) ≠ 0)) := by
  unfold freshN
  rw [List.range_succ, List.any_append]
  simp
theorem fresh_new (l : List Inp) (c : Nat → Int) (hc : ∀ p, Cls (c p)) (hl : ∀ k ∈ l, ∀ p, Cls (k.cov p)) : freshN l c 64 = newS l c := by
  unfold freshN newS
  congr 1
  funext p
  have := new_bits l p (c p) (hc p) (fun k hk => hl k hk p)
  by_cases h : bits .andNot .u8 (c p) ((seenN l p : Nat) : Int) ≠ 0
  · rw [decide_eq_true h]
    obtain ⟨h1, h2⟩ := this.1 h
    rw [decide_eq_true h1, h2]
    rfl
  · rw [decide_eq_false h]
    symm
    by_cases h1 : c p ≠ 0
    · rw [decide_eq_true h1]
      cases h2 : (l.any fun k => hasB (k.cov p) (c p)) with
      | true => rfl
      | false => exact absurd (this.2 ⟨h1, h2⟩) h
    · rw [decide_eq_false h1]
      rfl
/-- What of the row is done. -/
def midN (a b : Nat → Nat) (q : Nat) : Nat → Nat := fun j => if j < q then b j else a j
theorem mid_zero (a b : Nat → Nat) : midN a b 0 = a := by funext j; simp [midN]
theorem mid_all (a b : Nat → Nat) : ∀ j, j < 64 → midN a b 64 j = b j := fun j hj => by simp [midN, hj]
theorem mid_next (a b : Nat → Nat) (q : Nat) : ∀ j, j < 64 → midN a b (q + 1) j = if j = q then midN a b (q + 1) q else midN a b q j := by
  intro j _
  unfold midN
  by_cases e : j = q
  · subst e; rw [if_pos rfl]
  · rw [if_neg e]
    by_cases c : j < q
    · rw [if_pos c, if_pos (by omega)]
    · rw [if_neg c, if_neg (by omega)]
theorem R1.same {w wr : World} {U : Nat → Prop} {H : Nat} {g : PG} {h : HS} {cb co cap S : Nat} {f f' : Nat → Nat} (r : R1 w U H g h cb co cap S f wr) (hf : ∀ j, j < 64 → f j = f' j) : R1 w U H g h cb co cap S f' wr :=
  ⟨r.bel, r.pw, r.laid, by rw [r.seen, rowL_congr hf], r.ge, r.u, r.cb⟩
theorem R1.run {w wr : World} {U : Nat → Prop} {H : Nat} {g : PG} {h : HS} {cb co cap S : Nat} {f : Nat → Nat} (r : R1 w U H g h cb co cap S f wr) (s : ByteArray) (hs : s.size ≤ 24) :
    Calls Tryz.prog 17 #[.slice (some ⟨cb, co, none⟩) g.L cap, .string s, .int .i64 g.fuel] wr (XRun g s wr) := xRun_pg wr cb co cap g r.pw.ok r.laid r.pw.tab.1 s hs
/-- A row of bits as a text. -/
theorem conv_row {w : World} {b : Nat} {f : Nat → Nat} (hh : w.heap[b]? = some (.cells (rowL f).toArray 5 (0, 0))) (W : World) (hW : W.heap[b]? = w.heap[b]?) :
    (convert 25 9 (.slice (some ⟨b, 0, none⟩) 64 64)).run Tryz.prog W = .ok (.string (strOfNums ((List.range 64).map fun i => ((f i : Nat) : Int)))) W := by
  refine run_convert_bytes_arg W 25 5 Tryz.underlying25 Tryz.underlying5 b 0 64 64 ((List.range 64).map fun i => ((f i : Nat) : Int)) (by simp) (fun i hi => ?_) 9 Tryz.underlying9
  have hi' : i < 64 := by simpa using hi
  rw [Nat.zero_add, cell_of_row W b _ _ _ _ (hW.trans hh), List.getElem?_toArray, rowL_get _ _ hi']
  simp [List.getD, List.getElem?_range hi']
def seenS (h : HS) : ByteArray := strOfNums ((List.range 64).map fun i => ((seenN h.kept i : Nat) : Int))
end Go.Proofs.YtflenkppcclclaaGreatDoor

namespace Go.Proofs.YtflenkppcclclaaGreatDoor
open Go.RowKit

/-! What every law of prowlkeep begins with. -/
structure LA (w : World) (v tv : Value) (seed fuel pk : Int) (g : PG) (l : List ByteArray) : Prop where
  prowled : Calls Tryz.prog 12 #[] w fun e w' => e = .returned (.bool true) ∧ Below w.heap.size w w'
  fresh : ∀ W, Below w.heap.size w W → ∀ tries : Int, -9223372036854775808 ≤ tries → tries ≤ 9223372036854775807 → Calls Tryz.prog 13 #[v, tv, .int .u64 seed, .int .i64 fuel, .int .i64 tries] W fun e w' => ∃ H U, e = .returned (.pointer (some ⟨H, 0, none⟩)) ∧ Below W.heap.size W w' ∧ Prw W.heap.size U H g (frS g l seed (kpickS tries 600).toNat) w'
  prog : ∀ W, Below w.heap.size w W → Calls Tryz.prog 14 #[v] W fun e w' => ∃ cb co cap, e = .returned (.slice (some ⟨cb, co, none⟩) g.L cap) ∧ Below W.heap.size W w' ∧ Laid w' cb co g.L cap g.c
  pick : ∀ W, Calls Tryz.prog 15 #[.int .i64 fuel, .int .i64 200] W fun e w' => e = .returned (.int .i64 pk) ∧ w' = W
  pk0 : 0 ≤ pk
  pk1 : pk < 200
  fu : g.fuel = 1 + pk
  ok : PGok g
  tab : Tab w
  mrk : Mrk w
  sd0 : 0 ≤ seed
  sd1 : seed ≤ 18446744073709551615
theorem la_of (w : World) (v : Value) (L : Nat) (c : Nat → Int) (hby : ∀ i, i < L → 0 ≤ c i ∧ c i ≤ 255) (C : Coded w v L c) (hT : Tab w) (hM : Mrk w) (tv : Value) (l : List ByteArray) (X : TX w tv l) (seed : Int) (s0 : 0 ≤ seed) (s1 : seed ≤ 18446744073709551615) (fuel : Int) (f0 : -9223372036854775808 ≤ fuel) (f1 : fuel ≤ 9223372036854775807) :
    ∃ pk g, LA w v tv seed fuel pk g l := by
  obtain ⟨c', L', N', P⟩ := prog_of c L
  have hp := kpick_bd fuel 200 (by omega)
  refine ⟨kpickS fuel 200, ⟨c', L', N', 1 + kpickS fuel 200⟩, ?_⟩
  exact {
    prowled := kprowled_any w hT hM
    fresh := fun W b tries t0 t1 => by
      refine (kfresh_any W v L c hby (C.below b) (hT.below b) (hM.all b) P tv l (X.below b) seed s0 s1 fuel f0 f1 tries t0 t1).mono ?_
      rintro e w' ⟨B, H, U, rfl, pw⟩
      exact ⟨H, U, rfl, B, pw⟩
    prog := fun W b => by
      refine (kprogram_at W v L c hby (C.below b) (hT.below b) P).mono ?_
      rintro e w' ⟨B, cb, co, cap, Cl, rfl⟩
      exact ⟨cb, co, cap, rfl, B, Cl⟩
    pick := fun W => kpick_any fuel 200 f0 f1 (by omega) (by omega) W
    pk0 := hp.1
    pk1 := hp.2
    fu := rfl
    ok := ⟨P.vp, by show 1 ≤ 1 + kpickS fuel 200; omega, by show 1 + kpickS fuel 200 ≤ 500; omega⟩
    tab := hT
    mrk := hM
    sd0 := s0
    sd1 := s1 }
theorem Fr.then_below {U : Nat → Prop} {w w1 w2 : World} (f : Fr U w w1) (b : Below w1.heap.size w1 w2) : Fr U w w2 := f.same (Fr.below b)
/-- Where Replayed and Enough stand, in a loop over what is kept. -/
structure R2 (w : World) (U : Nat → Prop) (H : Nat) (g : PG) (h : HS) (cb co cap S : Nat) (wB : World) (f : Nat → Nat) (wr : World) : Prop where
  r : R1 w U H g h cb co cap S f wr
  fr : Fr (fun k => k = S) wB wr
theorem R2.below {w wB wr w' : World} {U : Nat → Prop} {H : Nat} {g : PG} {h : HS} {cb co cap S : Nat} {f : Nat → Nat} (r : R2 w U H g h cb co cap S wB f wr) (b : Below wr.heap.size wr w') : R2 w U H g h cb co cap S wB f w' := ⟨r.r.below b, r.fr.then_below b⟩
theorem R2.set {w wB wr : World} {U : Nat → Prop} {H : Nat} {g : PG} {h : HS} {cb co cap S : Nat} {f : Nat → Nat} (r : R2 w U H g h cb co cap S wB f wr) (f' : Nat → Nat) (q : Nat) (hq : q < 64) (hf : ∀ j, j < 64 → f' j = if j = q then f' q else f j) :
    R2 w U H g h cb co cap S wB f' (wr.setCell ⟨S, q, none⟩ (.int .u8 ((f' q : Nat) : Int))) := ⟨r.r.set f' q hq hf, r.fr.same (Fr.set (U := fun k => k = S) rfl q _)⟩
theorem R2.keeps {w wB wr : World} {U : Nat → Prop} {H : Nat} {g : PG} {h : HS} {cb co cap S : Nat} {f : Nat → Nat} (r : R2 w U H g h cb co cap S wB f wr) {k j : Nat} {u : Value} (hk : k ≠ S) (hc : wB.cell? ⟨k, j, none⟩ = some u) : wr.cell? ⟨k, j, none⟩ = some u ∧ k < wr.heap.size := by
  have hlt := World.block_lt_of_cell? wB ⟨k, j, none⟩ hc
  exact ⟨(World.cell?_of_block (w := wB) (a := ⟨k, j, none⟩) (r.fr.block k hlt hk)).trans hc, Nat.lt_of_lt_of_le hlt r.fr.size⟩
/-- Behind a run: the cover's cells. -/
structure Cv (wr : World) (S gc : Nat) (cov : Nat → Int) : Prop where
  cell : ∀ p, p < 64 → wr.cell? ⟨gc, p, none⟩ = some (.int .u8 (cov p))
  ne : gc ≠ S
  lt : gc < wr.heap.size
theorem Cv.set {wr : World} {S gc : Nat} {cov : Nat → Int} (c : Cv wr S gc cov) (q : Nat) (u : Value) : Cv (wr.setCell ⟨S, q, none⟩ u) S gc cov :=
  ⟨fun p hp => (World.cell?_setCell_other _ _ _ _ (fun e => c.ne (by injection e with e1 _ _; exact e1.symm))).trans (c.cell p hp), c.ne, by rw [World.size_setCell]; exact c.lt⟩
theorem Cv.below {wr w' : World} {S gc : Nat} {cov : Nat → Int} (c : Cv wr S gc cov) (b : Below wr.heap.size wr w') : Cv w' S gc cov := ⟨fun p hp => (b.cell (p := ⟨gc, p, none⟩) c.lt).trans (c.cell p hp), c.ne, Nat.lt_of_lt_of_le c.lt b.size⟩
theorem or_seen (l : List Inp) (n q : Nat) (hn : n < l.length) (hl : ∀ k ∈ l, ∀ p, Cls (k.cov p)) : bits .or .u8 ((seenN (l.take n) q : Nat) : Int) ((l.getD n in0).cov q) = ((seenN (l.take (n + 1)) q : Nat) : Int) := by
  have hc : Cls ((l.getD n in0).cov q) := by rw [List.getD_eq_getElem?_getD, List.getElem?_eq_getElem hn]; exact hl _ (List.getElem_mem hn) q
  have hb := hc.bd
  obtain ⟨m, hm⟩ : ∃ m : Nat, (l.getD n in0).cov q = m := ⟨((l.getD n in0).cov q).toNat, by omega⟩
  rw [seen_take l n q hn, hm, Int.toNat_natCast]
  exact bits_or_u8_nat _ _ (seen_lt _ _ (fun k hk => hl k (List.mem_of_mem_take hk) q)) (by omega)
end Go.Proofs.YtflenkppcclclaaGreatDoor

namespace Go.Proofs.YtflenkppcclclaaGreatDoor
open Go.RowKit

/-! Enough. -/
theorem fav_pair (kept : List Inp) : (favS kept).Pairwise (· < ·) := by
  unfold favS
  exact List.Pairwise.filter _ List.pairwise_lt_range
def lastN (F : List Nat) : Nat → Int
  | 0 => -1
  | i + 1 => ((F.getD i 0 : Nat) : Int)
theorem last_lt (kept : List Inp) (i : Nat) (hi : i < (favS kept).length) : lastN (favS kept) i < (((favS kept).getD i 0 : Nat) : Int) := by
  cases i with
  | zero => show (-1 : Int) < _; omega
  | succ i =>
    show (((favS kept).getD i 0 : Nat) : Int) < (((favS kept).getD (i + 1) 0 : Nat) : Int)
    have h0 : i < (favS kept).length := by omega
    have := List.pairwise_iff_getElem.1 (fav_pair kept) i (i + 1) h0 hi (by omega)
    rw [List.getD_eq_getElem?_getD, List.getD_eq_getElem?_getD, List.getElem?_eq_getElem h0, List.getElem?_eq_getElem hi]
    show ((((favS kept)[i] : Nat)) : Int) < (((favS kept)[i + 1] : Nat) : Int)
    omega
def favI (h : HS) : List Inp := (favS h.kept).map fun n => h.kept.getD n in0
/-- What is known of the i-th that is favoured. -/
structure FK (g : PG) (h : HS) (i n : Nat) (t : ByteArray) : Prop where
  num : (favS h.kept).getD i 0 = n
  lt : n < h.kept.length
  last : lastN (favS h.kept) i < (n : Int)
  text : (h.kept.getD n in0).text = t
  size : t.size ≤ 24
  or' : ∀ q, bits .or .u8 ((seenN ((favI h).take i) q : Nat) : Int) ((g.R t).cov q) = ((seenN ((favI h).take (i + 1)) q : Nat) : Int)
  bd : ∀ q, 0 ≤ (g.R t).cov q ∧ (g.R t).cov q ≤ 255
  sd : ∀ q, seenN ((favI h).take i) q < 256
theorem fk_of {g : PG} {h : HS} (inv : Hinv g.R h) (i : Nat) (hi : i < (favS h.kept).length) : ∃ n t, FK g h i n t := by
  have e0 : (favS h.kept).getD i 0 = (favS h.kept)[i] := by rw [List.getD_eq_getElem?_getD, List.getElem?_eq_getElem hi]; rfl
  have hlt : (favS h.kept)[i] < h.kept.length := fav_lt _ _ (List.getElem_mem hi)
  have e : h.kept.getD (favS h.kept)[i] in0 = h.kept[(favS h.kept)[i]] := by rw [List.getD_eq_getElem?_getD, List.getElem?_eq_getElem hlt]; rfl
  obtain ⟨h1, h2, h3, h4⟩ := inv.kept _ _ (List.getElem?_eq_getElem hlt)
  have hcl := inv_cls g.rok inv
  have hcG : ∀ k ∈ favI h, ∀ p, Cls (k.cov p) := fun k hk => by
    unfold favI at hk
    obtain ⟨n, hn, rfl⟩ := List.mem_map.1 hk
    have hnl := fav_lt _ _ hn
    rw [List.getD_eq_getElem?_getD, List.getElem?_eq_getElem hnl]
    exact hcl _ (List.getElem_mem hnl)
  have hlen : (favI h).length = (favS h.kept).length := by unfold favI; rw [List.length_map]
  have hGi : (favI h).getD i in0 = h.kept[(favS h.kept)[i]] := by
    unfold favI
    rw [List.getD_eq_getElem?_getD, List.getElem?_map, List.getElem?_eq_getElem hi]
    exact e
  have hcv : ∀ p, Cls ((g.R (h.kept[(favS h.kept)[i]]).text).cov p) := g.rok.cov _ h1
  refine ⟨(favS h.kept)[i], (h.kept[(favS h.kept)[i]]).text, e0, hlt, ?_, by rw [e], h1, fun q => ?_, fun q => (hcv q).bd, fun q => seen_lt _ _ (fun k hk => hcG k (List.mem_of_mem_take hk) q)⟩
  · have := last_lt h.kept i hi
    rw [e0] at this
    exact this
  · have := or_seen (favI h) i q (by omega) hcG
    rw [hGi, h3] at this
    exact this
theorem xFav_any (w : World) (H : Nat) (v : Value) (G : Nat → Nat) (l : List Inp) (K : KH w H v G l) (hsz : ∀ k ∈ l, k.text.size ≤ 24) (hlen : l.length ≤ 1000000) :
    Calls Tryz.prog 20 #[.pointer (some ⟨H, 0, none⟩)] w fun e w' => (∃ a c, e = .returned (.slice a (favS l).length c) ∧ w'.ownsRow w.heap.size 3 1 (.slice a (favS l).length c) (favS l).length ((favS l).map fun n => .int .i64 ((n : Nat) : Int))) ∧ Below w.heap.size w w' := by
  have H0 : Hid (Calls Tryz.prog 33 #[.pointer (some ⟨H, 0, none⟩)] w fun e w' => e = .returned (.pointer (some ⟨H, 0, none⟩)) ∧ w' = w) := its_any w H
  have H1 : Hid (Calls Tryz.prog 40 #[.pointer (some ⟨H, 0, none⟩)] w fun e w' => (∃ a c, e = .returned (.slice a (favS l).length c) ∧ w'.ownsRow w.heap.size 3 1 (.slice a (favS l).length c) (favS l).length ((favS l).map fun n => .int .i64 ((n : Nat) : Int))) ∧ Below w.heap.size w w') := by
    refine (fav_any w H v G l K hsz hlen).mono ?_
    rintro e w' ⟨⟨v', rfl, ho⟩, B⟩
    obtain ⟨a, c, rfl⟩ := own_slice ho
    exact ⟨⟨a, c, rfl, ho⟩, B⟩
  clear K
  go_enter Tryz.func20, Tryz.ntmps20
  go_wp2_with fail
  refine H0.out.mono ?_
  rintro e w1 ⟨rfl, hw⟩
  obtain rfl := hw.symm
  go_wp2_with fail
  refine H1.out.mono ?_
  rintro e w2 ⟨⟨a, c, rfl, ho⟩, B⟩
  have HR : Hid (w2.ownsRow w.heap.size 3 1 (.slice a (favS l).length c) (favS l).length ((favS l).map fun n => .int .i64 ((n : Nat) : Int)) ∧ Below w.heap.size w w2) := ⟨ho, B⟩
  clear ho B H0 H1
  go_wp2_with fail
  go_ret
  exact ⟨⟨a, c, rfl, HR.out.1⟩, HR.out.2⟩
theorem keep_k {w3 : World} {H1 H2 j1 j2 b : Nat} (n1 : H1 ≠ b) (n2 : H2 ≠ b) {u v : Value} (h0 : w3.cell? ⟨H1, j1, none⟩ = some u) (h1 : w3.cell? ⟨H2, j2, none⟩ = some v) (x0 x1 x2 x3 x4 : Value) :
    (((((w3.setCell ⟨b, 0, none⟩ x0).setCell ⟨b, 1, none⟩ x1).setCell ⟨b, 2, none⟩ x2).setCell ⟨b, 3, none⟩ x3).setCell ⟨b, 4, none⟩ x4).cell? ⟨H1, j1, none⟩ = some u ∧ (((((w3.setCell ⟨b, 0, none⟩ x0).setCell ⟨b, 1, none⟩ x1).setCell ⟨b, 2, none⟩ x2).setCell ⟨b, 3, none⟩ x3).setCell ⟨b, 4, none⟩ x4).cell? ⟨H2, j2, none⟩ = some v := by
  have hk : ∀ (W : World) (H i j : Nat) (x : Value), H ≠ b → (W.setCell ⟨b, i, none⟩ x).cell? ⟨H, j, none⟩ = W.cell? ⟨H, j, none⟩ := fun W H i j x hn => World.cell?_setCell_other _ _ _ _ (fun c => hn (by injection c with c1 _ _; exact c1.symm))
  rw [hk _ H1 _ _ _ n1, hk _ H1 _ _ _ n1, hk _ H1 _ _ _ n1, hk _ H1 _ _ _ n1, hk _ H1 _ _ _ n1, hk _ H2 _ _ _ n2, hk _ H2 _ _ _ n2, hk _ H2 _ _ _ n2, hk _ H2 _ _ _ n2, hk _ H2 _ _ _ n2]
  exact ⟨h0, h1⟩
/-- The outcome's block holds whatever; it lies past wr. -/
theorem r2_fx {w wB wr W : World} {U : Nat → Prop} {H : Nat} {g : PG} {h : HS} {cb co cap S : Nat} {f : Nat → Nat} {ob gc : Nat} {t : ByteArray} (r : R2 w U H g h cb co cap S wB f wr) (fx : FX wr W ob gc g t) : R2 w U H g h cb co cap S wB f W ∧ Cv W S gc (g.R t).cov :=
  ⟨r.below fx.bel, fx.cov, by have := fx.gc1; have := r.r.lt; omega, fx.gc2⟩
end Go.Proofs.YtflenkppcclclaaGreatDoor

