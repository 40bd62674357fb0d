import Derived.Test.YtflenkppcclclaaGreatDoorM40
import Derived.Test.YtflenkppcclclaaGreatDoorM41
import Derived.BigQuiet
import Derived.Test.YtflenkppcclclaaGreatDoorM31
import Derived.Lib.IndexLaws
namespace Go.Proofs.YtflenkppcclclaaGreatDoor
open Go.RowKit

theorem Prw.log {lo : Nat} {U : Nat → Prop} {H : Nat} {g : PG} {h : HS} {w : World} (p : Prw lo U H g h w) :
    Calls Tryz.prog 23 #[.pointer (some ⟨H, 0, none⟩)] w fun e w' => e = .returned (.string (strOfNums (logL h.hist))) ∧ Below w.heap.size w w' := by
  refine log_aux w H _ ?_
  obtain ⟨d, rfl, G⟩ := p.hg
  exact hLog_any G.hu G.inv (by have := hist_le G.inv G.ok.fok; omega)
theorem Prw.seen {lo : Nat} {U : Nat → Prop} {H : Nat} {g : PG} {h : HS} {w : World} (p : Prw lo U H g h w) :
    Calls Tryz.prog 19 #[.pointer (some ⟨H, 0, none⟩)] w fun e w' => e = .returned (.slice (some ⟨w.heap.size, 0, none⟩) 64 64) ∧ w'.heap[w.heap.size]? = some (.cells (rowL (seenN h.kept)).toArray 5 (0, 0)) ∧ Below w.heap.size w w' := by
  obtain ⟨v, G, K⟩ := p.kh
  exact xSeen_any w H v G h.kept K
theorem Prw.kepts {lo : Nat} {U : Nat → Prop} {H : Nat} {g : PG} {h : HS} {w : World} (p : Prw lo U H g h w) :
    Calls Tryz.prog 16 #[.pointer (some ⟨H, 0, none⟩)] w fun e w' => e = .returned (.slice (some ⟨w.heap.size, 0, none⟩) h.kept.length h.kept.length) ∧ w'.heap[w.heap.size]? = some (.cells (txtL h.kept.length (fun j => (h.kept.getD j in0).text)).toArray 9 (0, 0)) ∧ Below w.heap.size w w' := by
  obtain ⟨v, G, K⟩ := p.kh
  exact xKept_any w H v G h.kept K (by have := p.inv.most; omega)
/-! What the document says of a small prowl. -/
theorem logE : strOfNums (logL [(true, tB), (false, tA)]) = ⟨#[113, 32, 54, 50, 10, 99, 32, 54, 49, 10]⟩ := by decide +kernel
noncomputable def hE1 : HS := triesS gE.R (HS.zero 1) [tB]
theorem newE (W : World) (hT : Tab W) (hM : Mrk W) (cb vb : Nat) (C : Laid W cb 0 10 10 cE) (hvb : W.heap[vb]? = some (.cells #[.string ⟨#[98]⟩] 9 (0, 0))) :
    Calls Tryz.prog 29 #[.slice (some ⟨cb, 0, none⟩) 10 10, .slice (some ⟨vb, 0, none⟩) 1 1, .int .u64 1, .int .i64 100] W fun e w' => ∃ H U, e = .returned (.tuple #[.pointer (some ⟨H, 0, none⟩), .int .i64 0]) ∧ Below W.heap.size W w' ∧ Prw W.heap.size U H gE hE1 w' := by
  have S : SL W (.slice (some ⟨vb, 0, none⟩) 1 1) [tB] := by
    refine ⟨Or.inr ⟨vb, 1, rfl, (Array.getElem?_eq_some_iff.1 hvb).1, by decide, fun j hj => ?_⟩⟩
    rw [cell_of_row W vb _ _ _ _ hvb]
    match j, hj with
    | 0, _ => rfl
    | j + 1, h => simp at h
  have h3 := hM.two
  refine (xNew_any W cb 0 10 gE okE C _ [tB] S (by decide) (by intro s hs; simp at hs; subst hs; decide) 1 (by omega) (by omega) hT hM (by omega)).mono ?_
  rintro e w' ⟨H, rfl, m⟩
  obtain ⟨U, pw⟩ := m.pw
  exact ⟨H, U, rfl, m.bel, pw⟩
noncomputable def hE2 : HS := hE1.go gE.R 40
theorem goE {lo : Nat} {U : Nat → Prop} {H : Nat} {w : World} (p : Prw lo U H gE hE1 w) : Calls Tryz.prog 21 #[.pointer (some ⟨H, 0, none⟩), .int .i64 40] w fun e w' => e = .returned (.int .i64 0) ∧ (Below lo w w' ∧ ∃ U', Prw lo U' H gE hE2 w') := by
  obtain ⟨c1, c2⟩ := (hcnt_zero 1).tries (R := gE.R) [tB]
  have e0 : (HS.zero 1).tries = 0 := rfl
  have hk : 0 < hE1.kept.length := by
    have := (e1_zero 1).kept
    unfold hE1
    rw [this]
    decide
  have := p.goes (n := 40) c1 (by omega) (by omega) (by show (triesS gE.R (HS.zero 1) [tB]).tries + 40 ≤ _; rw [c2, e0]; decide)
  rw [if_pos hk] at this
  refine this.mono ?_
  rintro e w' ⟨rfl, f, q⟩
  refine ⟨rfl, f.low p.lo p.lo', Gr U w w', ?_⟩
  have e : hE1.gone gE 40 = hE2 := by unfold HS.gone; rw [if_pos hk]; rfl
  rw [e] at q
  exact q
theorem e2E : E2 hE2 := exGo 1
set_option maxHeartbeats 2000000 in
set_option maxRecDepth 100000 in
theorem kprowled_any (w : World) (hT : Tab w) (hM : Mrk w) : Calls Tryz.prog 12 #[] w fun e w' => e = .returned (.bool true) ∧ Below w.heap.size w w' := by
  have HC : Hid (Calls Tryz.prog 28 #[] w fun e w' => e = .returned (.bool true) ∧ Below w.heap.size w w') := kchanged_any w hT hM
  have HNW : Hid (∀ W, Below w.heap.size w W → ∀ cb vb, Laid W cb 0 10 10 cE → W.heap[vb]? = some (.cells #[.string ⟨#[98]⟩] 9 (0, 0)) → Calls Tryz.prog 29 #[.slice (some ⟨cb, 0, none⟩) 10 10, .slice (some ⟨vb, 0, none⟩) 1 1, .int .u64 1, .int .i64 100] W fun e w' => ∃ H U, e = .returned (.tuple #[.pointer (some ⟨H, 0, none⟩), .int .i64 0]) ∧ Below w.heap.size w w' ∧ Prw w.heap.size U H gE hE1 w') := fun W b cb vb C hv => by
    refine (newE W (hT.below b) (hM.all b) cb vb C hv).mono ?_
    rintro e w' ⟨H, U, rfl, B, pw⟩
    exact ⟨H, U, rfl, b.trans (B.mono b.size), pw.wide b.size⟩
  clear hT hM
  go_enter Tryz.func12, Tryz.ntmps12
  go_wp2_with fail
  refine HC.out.mono ?_
  rintro e w1 ⟨rfl, B1⟩
  go_wp2_with fail
  refine (example_any w1).mono ?_
  rintro e w2 ⟨rfl, hw2⟩
  have C2 := laidE w1
  rw [← hw2] at C2
  have B2 : Below w.heap.size w w2 := by rw [hw2]; exact B1.alloc B1.size _
  have HN3 : Hid (Calls Tryz.prog 29 #[.slice (some ⟨w1.heap.size, 0, none⟩) 10 10, .slice (some ⟨w2.heap.size, 0, none⟩) 1 1, .int .u64 1, .int .i64 100] (w2.alloc (.cells #[.string ⟨#[98]⟩] 9)) fun e w' => ∃ H U, e = .returned (.tuple #[.pointer (some ⟨H, 0, none⟩), .int .i64 0]) ∧ Below w.heap.size w w' ∧ Prw w.heap.size U H gE hE1 w') :=
    HNW.out _ (B2.alloc B2.size _) _ _ (C2.below ((Below.refl _ _).alloc (Nat.le_refl _) _)) (heap_alloc_new _ _)
  clear hw2 C2 B1 B2 HNW HC
  go_wp2_with fail
  refine HN3.out.mono ?_
  rintro e w3 ⟨H, U, rfl, B3, p3⟩
  have HG : Hid (Below w.heap.size w w3 ∧ Calls Tryz.prog 21 #[.pointer (some ⟨H, 0, none⟩), .int .i64 40] w3 fun e w' => e = .returned (.int .i64 0) ∧ (Below w.heap.size w3 w' ∧ ∃ U', Prw w.heap.size U' H gE hE2 w')) := ⟨B3, goE p3⟩
  clear HN3 B3 p3
  go_wp2_with fail
  refine HG.out.2.mono ?_
  rintro e w4 ⟨rfl, B4, U4, p4⟩
  have HP4 : Hid (Below w.heap.size w w4 ∧ Prw w.heap.size U4 H gE hE2 w4) := ⟨HG.out.1.trans B4, p4⟩
  have HCR : Hid (Calls Tryz.prog 18 #[.pointer (some ⟨H, 0, none⟩)] w4 fun e w' => (∃ v, e = .returned v ∧ CL w' v hE2.found) ∧ Below w4.heap.size w4 w') := p4.crashes (by rw [e2E.found]; decide)
  clear HG B4 p4
  go_wp2_with fail
  refine HCR.out.mono ?_
  rintro e w5 ⟨⟨v5, rfl, c5⟩, B5⟩
  have p5 := HP4.out.2.below B5
  have HKK : Hid (Calls Tryz.prog 16 #[.pointer (some ⟨H, 0, none⟩)] w5 fun e w' => e = .returned (.slice (some ⟨w5.heap.size, 0, none⟩) 1 1) ∧ (w'.cell? ⟨w5.heap.size, 0, none⟩ = some (.string ⟨#[98]⟩) ∧ w5.heap.size < w'.heap.size ∧ Below w5.heap.size w5 w')) := by
    have h1 : hE2.kept.length = 1 := by rw [e2E.kept]; rfl
    have := p5.kepts
    rw [h1] at this
    refine this.mono ?_
    rintro e w' ⟨rfl, hr, B⟩
    refine ⟨rfl, ?_, (Array.getElem?_eq_some_iff.1 hr).1, B⟩
    rw [cell_of_row w' w5.heap.size 0 _ _ _ hr, List.getElem?_toArray, txtL_get 1 _ 0 (by omega), e2E.kept]
    rfl
  have HP5 : Hid (Below w.heap.size w w5 ∧ Prw w.heap.size U4 H gE hE2 w5) := ⟨HP4.out.1.trans (B5.mono HP4.out.1.size), p5⟩
  rw [e2E.found] at c5
  have HV : ∃ b cap, v5 = .slice (some ⟨b, 0, none⟩) 1 cap ∧ b < w5.heap.size ∧ w5.cell? ⟨b, 0, none⟩ = some (.string ⟨#[97]⟩) ∧ w5.cell? ⟨b, 1, none⟩ = some (.int .i64 23) ∧ w5.cell? ⟨b, 2, none⟩ = some (.int .i64 6) := by
    rcases c5.form with ⟨_, h⟩ | ⟨b, cap, h1, h2, _, h4⟩
    · cases h
    · exact ⟨b, cap, h1, h2, h4 0 _ rfl, h4 1 _ rfl, h4 2 _ rfl⟩
  obtain ⟨b, cap, rfl, hb, d0, d1, d2⟩ := HV
  clear HP4 HCR c5 B5 p5
  go_wp2_with fail
  refine HKK.out.mono ?_
  rintro e w6 ⟨rfl, k0, hk6, B6⟩
  have p6 := HP5.out.2.below B6
  have d0' := (B6.cell (p := ⟨b, 0, none⟩) hb).trans d0
  have d1' := (B6.cell (p := ⟨b, 1, none⟩) hb).trans d1
  have d2' := (B6.cell (p := ⟨b, 2, none⟩) hb).trans d2
  have hb' : b < w6.heap.size := Nat.lt_of_lt_of_le hb B6.size
  have HLG : Hid (∀ W, Below w6.heap.size w6 W → Calls Tryz.prog 23 #[.pointer (some ⟨H, 0, none⟩)] W fun e w' => e = .returned (.string ⟨#[113, 32, 54, 50, 10, 99, 32, 54, 49, 10]⟩) ∧ Below w.heap.size w w') := fun W bb => by
    have := (p6.below bb).log
    rw [e2E.hist, logE] at this
    have b6 : Below w.heap.size w W := HP5.out.1.trans ((B6.trans (bb.mono B6.size)).mono HP5.out.1.size)
    exact this.mono fun e w' ⟨x, y⟩ => ⟨x, b6.trans (y.mono b6.size)⟩
  clear HKK p6 d0 d1 d2 B6 HP5
  go_wp2_with fail
  first
    | (refine (HLG.out _ (Below.refl _ _)).mono ?_)
    | (refine (HLG.out _ ((Below.refl _ _).alloc (Nat.le_refl _) _)).mono ?_)
  rintro e w7 ⟨rfl, B7⟩
  have HB7 : Hid (Below w.heap.size w w7) := B7
  clear B7 HLG
  go_wp2_with fail
  go_ret
  exact ⟨rfl, HB7.out⟩
end Go.Proofs.YtflenkppcclclaaGreatDoor

namespace Go.Proofs.YtflenkppcclclaaGreatDoor
open Go.RowKit

/-! What Replayed and Enough look at: a prowl, its program, a row of bits. -/
structure R1 (w : World) (U : Nat → Prop) (H : Nat) (g : PG) (h : HS) (cb co cap S : Nat) (f : Nat → Nat) (wr : World) : Prop where
  bel : Below w.heap.size w wr
  pw : Prw w.heap.size U H g h wr
  laid : Laid wr cb co g.L cap g.c
  seen : wr.heap[S]? = some (.cells (rowL f).toArray 5 (0, 0))
  ge : w.heap.size ≤ S
  u : ∀ k, U k → k < S
  cb : cb < S
theorem R1.below {w wr w' : World} {U : Nat → Prop} {H : Nat} {g : PG} {h : HS} {cb co cap S : Nat} {f : Nat → Nat} (r : R1 w U H g h cb co cap S f wr) (b : Below wr.heap.size wr w') : R1 w U H g h cb co cap S f w' :=
  ⟨r.bel.trans (b.mono r.bel.size), r.pw.below b, r.laid.below b, (b.block _ (Array.getElem?_eq_some_iff.1 r.seen).1).trans r.seen, r.ge, r.u, r.cb⟩
theorem R1.lt {w wr : World} {U : Nat → Prop} {H : Nat} {g : PG} {h : HS} {cb co cap S : Nat} {f : Nat → Nat} (r : R1 w U H g h cb co cap S f wr) : S < wr.heap.size := (Array.getElem?_eq_some_iff.1 r.seen).1
theorem R1.cell {w wr : World} {U : Nat → Prop} {H : Nat} {g : PG} {h : HS} {cb co cap S : Nat} {f : Nat → Nat} (r : R1 w U H g h cb co cap S f wr) (q : Nat) (hq : q < 64) : wr.cell? ⟨S, q, none⟩ = some (.int .u8 ((f q : Nat) : Int)) ∧ wr.frozen? ⟨S, q, none⟩ = false :=
  ⟨by rw [cell_of_row wr S q _ _ _ r.seen, List.getElem?_toArray, rowL_get _ _ hq], frozen_of_row wr S q _ _ r.seen⟩
theorem R1.set {w wr : World} {U : Nat → Prop} {H : Nat} {g : PG} {h : HS} {cb co cap S : Nat} {f : Nat → Nat} (r : R1 w U H g h cb co cap S f wr) (f' : Nat → Nat) (q : Nat) (hq : q < 64) (hf : ∀ j, j < 64 → f' j = if j = q then f' q else f j) :
    R1 w U H g h cb co cap S f' (wr.setCell ⟨S, q, none⟩ (.int .u8 ((f' q : Nat) : Int))) := by
  have hk : ∀ k, k ≠ S → (wr.setCell ⟨S, q, none⟩ (.int .u8 ((f' q : Nat) : Int))).heap[k]? = wr.heap[k]? := fun k hk => heap_setCell_other wr ⟨S, q, none⟩ k _ hk
  have hsz : (wr.setCell ⟨S, q, none⟩ (.int .u8 ((f' q : Nat) : Int))).heap.size = wr.heap.size := World.size_setCell _ _ _
  have hbb : Below w.heap.size w (wr.setCell ⟨S, q, none⟩ (.int .u8 ((f' q : Nat) : Int))) := r.bel.setCell (p := ⟨S, q, none⟩) r.ge _
  have hw3 : 3 ≤ S := by
    obtain ⟨d, _, G⟩ := r.pw.hg
    have h1 := G.hu.low _ G.hu.inC
    have h2 := r.u _ G.hu.inC
    omega
  have tm := r.pw.tab
  have F : Fr (fun k => k = S) wr (wr.setCell ⟨S, q, none⟩ (.int .u8 ((f' q : Nat) : Int))) := Fr.set (U := fun k => k = S) rfl q _
  refine ⟨hbb, r.pw.keep (fun k hk' => hk k (by have := r.u k hk'; omega)) (by rw [hsz]; exact Nat.le_refl _) (F.tab (fun k hk => by have : k = S := hk; omega) tm.1) (F.mrk (fun k hk => by have : k = S := hk; omega) tm.2), r.laid.of_block (hk cb (by have := r.cb; omega)), ?_, r.ge, r.u, r.cb⟩
  rw [heap_setCell_same wr S q _ _ _ r.seen, ← rowL_set f f' q hq hf]
  simp
/-- Is there something new among the first q places? -/
def freshN (l : List Inp) (c : Nat → Int) (q : Nat) : Bool := (List.range q).any fun p => decide (bits .andNot .u8 (c p) ((seenN l p : Nat) : Int) ≠ 0)
theorem fresh_next (l : List Inp) (c : Nat → Int) (q : Nat) : freshN l c (q + 1) = (freshN l c q || decide (bits .andNot .u8 (c q) ((seenN l q : Nat) : Int) ≠ 0)) := by
  unfold freshN
  rw [List.range_succ, List.any_append]
  simp
theorem fresh_new (l : List Inp) (c : Nat → Int) (hc : ∀ p, Cls (c p)) (hl : ∀ k ∈ l, ∀ p, Cls (k.cov p)) : freshN l c 64 = newS l c := by
  unfold freshN newS
  congr 1
  funext p
  have := new_bits l p (c p) (hc p) (fun k hk => hl k hk p)
  by_cases h : bits .andNot .u8 (c p) ((seenN l p : Nat) : Int) ≠ 0
  · rw [decide_eq_true h]
    obtain ⟨h1, h2⟩ := this.1 h
    rw [decide_eq_true h1, h2]
    rfl
  · rw [decide_eq_false h]
    symm
    by_cases h1 : c p ≠ 0
    · rw [decide_eq_true h1]
      cases h2 : (l.any fun k => hasB (k.cov p) (c p)) with
      | true => rfl
      | false => exact absurd (this.2 ⟨h1, h2⟩) h
    · rw [decide_eq_false h1]
      rfl
/-- What of the row is done. -/
def midN (a b : Nat → Nat) (q : Nat) : Nat → Nat := fun j => if j < q then b j else a j
theorem mid_zero (a b : Nat → Nat) : midN a b 0 = a := by funext j; simp [midN]
theorem mid_all (a b : Nat → Nat) : ∀ j, j < 64 → midN a b 64 j = b j := fun j hj => by simp [midN, hj]
theorem mid_next (a b : Nat → Nat) (q : Nat) : ∀ j, j < 64 → midN a b (q + 1) j = if j = q then midN a b (q + 1) q else midN a b q j := by
  intro j _
  unfold midN
  by_cases e : j = q
  · subst e; rw [if_pos rfl]
  · rw [if_neg e]
    by_cases c : j < q
    · rw [if_pos c, if_pos (by omega)]
    · rw [if_neg c, if_neg (by omega)]
theorem R1.same {w wr : World} {U : Nat → Prop} {H : Nat} {g : PG} {h : HS} {cb co cap S : Nat} {f f' : Nat → Nat} (r : R1 w U H g h cb co cap S f wr) (hf : ∀ j, j < 64 → f j = f' j) : R1 w U H g h cb co cap S f' wr :=
  ⟨r.bel, r.pw, r.laid, by rw [r.seen, rowL_congr hf], r.ge, r.u, r.cb⟩
theorem R1.run {w wr : World} {U : Nat → Prop} {H : Nat} {g : PG} {h : HS} {cb co cap S : Nat} {f : Nat → Nat} (r : R1 w U H g h cb co cap S f wr) (s : ByteArray) (hs : s.size ≤ 24) :
    Calls Tryz.prog 17 #[.slice (some ⟨cb, co, none⟩) g.L cap, .string s, .int .i64 g.fuel] wr (XRun g s wr) := xRun_pg wr cb co cap g r.pw.ok r.laid r.pw.tab.1 s hs
/-- A row of bits as a text. -/
theorem conv_row {w : World} {b : Nat} {f : Nat → Nat} (hh : w.heap[b]? = some (.cells (rowL f).toArray 5 (0, 0))) (W : World) (hW : W.heap[b]? = w.heap[b]?) :
    (convert 25 9 (.slice (some ⟨b, 0, none⟩) 64 64)).run Tryz.prog W = .ok (.string (strOfNums ((List.range 64).map fun i => ((f i : Nat) : Int)))) W := by
  refine run_convert_bytes_arg W 25 5 Tryz.underlying25 Tryz.underlying5 b 0 64 64 ((List.range 64).map fun i => ((f i : Nat) : Int)) (by simp) (fun i hi => ?_) 9 Tryz.underlying9
  have hi' : i < 64 := by simpa using hi
  rw [Nat.zero_add, cell_of_row W b _ _ _ _ (hW.trans hh), List.getElem?_toArray, rowL_get _ _ hi']
  simp [List.getD, List.getElem?_range hi']
def seenS (h : HS) : ByteArray := strOfNums ((List.range 64).map fun i => ((seenN h.kept i : Nat) : Int))
end Go.Proofs.YtflenkppcclclaaGreatDoor

namespace Go.Proofs.YtflenkppcclclaaGreatDoor
open Go.RowKit

/-! What every law of prowlkeep begins with. -/
structure LA (w : World) (v tv : Value) (seed fuel pk : Int) (g : PG) (l : List ByteArray) : Prop where
  prowled : Calls Tryz.prog 12 #[] w fun e w' => e = .returned (.bool true) ∧ Below w.heap.size w w'
  fresh : ∀ W, Below w.heap.size w W → ∀ tries : Int, -9223372036854775808 ≤ tries → tries ≤ 9223372036854775807 → Calls Tryz.prog 13 #[v, tv, .int .u64 seed, .int .i64 fuel, .int .i64 tries] W fun e w' => ∃ H U, e = .returned (.pointer (some ⟨H, 0, none⟩)) ∧ Below W.heap.size W w' ∧ Prw W.heap.size U H g (frS g l seed (kpickS tries 600).toNat) w'
  prog : ∀ W, Below w.heap.size w W → Calls Tryz.prog 14 #[v] W fun e w' => ∃ cb co cap, e = .returned (.slice (some ⟨cb, co, none⟩) g.L cap) ∧ Below W.heap.size W w' ∧ Laid w' cb co g.L cap g.c
  pick : ∀ W, Calls Tryz.prog 15 #[.int .i64 fuel, .int .i64 200] W fun e w' => e = .returned (.int .i64 pk) ∧ w' = W
  pk0 : 0 ≤ pk
  pk1 : pk < 200
  fu : g.fuel = 1 + pk
  ok : PGok g
  tab : Tab w
  mrk : Mrk w
  sd0 : 0 ≤ seed
  sd1 : seed ≤ 18446744073709551615
theorem la_of (w : World) (v : Value) (L : Nat) (c : Nat → Int) (hby : ∀ i, i < L → 0 ≤ c i ∧ c i ≤ 255) (C : Coded w v L c) (hT : Tab w) (hM : Mrk w) (tv : Value) (l : List ByteArray) (X : TX w tv l) (seed : Int) (s0 : 0 ≤ seed) (s1 : seed ≤ 18446744073709551615) (fuel : Int) (f0 : -9223372036854775808 ≤ fuel) (f1 : fuel ≤ 9223372036854775807) :
    ∃ pk g, LA w v tv seed fuel pk g l := by
  obtain ⟨c', L', N', P⟩ := prog_of c L
  have hp := kpick_bd fuel 200 (by omega)
  refine ⟨kpickS fuel 200, ⟨c', L', N', 1 + kpickS fuel 200⟩, ?_⟩
  exact {
    prowled := kprowled_any w hT hM
    fresh := fun W b tries t0 t1 => by
      refine (kfresh_any W v L c hby (C.below b) (hT.below b) (hM.all b) P tv l (X.below b) seed s0 s1 fuel f0 f1 tries t0 t1).mono ?_
      rintro e w' ⟨B, H, U, rfl, pw⟩
      exact ⟨H, U, rfl, B, pw⟩
    prog := fun W b => by
      refine (kprogram_at W v L c hby (C.below b) (hT.below b) P).mono ?_
      rintro e w' ⟨B, cb, co, cap, Cl, rfl⟩
      exact ⟨cb, co, cap, rfl, B, Cl⟩
    pick := fun W => kpick_any fuel 200 f0 f1 (by omega) (by omega) W
    pk0 := hp.1
    pk1 := hp.2
    fu := rfl
    ok := ⟨P.vp, by show 1 ≤ 1 + kpickS fuel 200; omega, by show 1 + kpickS fuel 200 ≤ 500; omega⟩
    tab := hT
    mrk := hM
    sd0 := s0
    sd1 := s1 }
theorem Fr.then_below {U : Nat → Prop} {w w1 w2 : World} (f : Fr U w w1) (b : Below w1.heap.size w1 w2) : Fr U w w2 := f.same (Fr.below b)
/-- Where Replayed and Enough stand, in a loop over what is kept. -/
structure R2 (w : World) (U : Nat → Prop) (H : Nat) (g : PG) (h : HS) (cb co cap S : Nat) (wB : World) (f : Nat → Nat) (wr : World) : Prop where
  r : R1 w U H g h cb co cap S f wr
  fr : Fr (fun k => k = S) wB wr
theorem R2.below {w wB wr w' : World} {U : Nat → Prop} {H : Nat} {g : PG} {h : HS} {cb co cap S : Nat} {f : Nat → Nat} (r : R2 w U H g h cb co cap S wB f wr) (b : Below wr.heap.size wr w') : R2 w U H g h cb co cap S wB f w' := ⟨r.r.below b, r.fr.then_below b⟩
theorem R2.set {w wB wr : World} {U : Nat → Prop} {H : Nat} {g : PG} {h : HS} {cb co cap S : Nat} {f : Nat → Nat} (r : R2 w U H g h cb co cap S wB f wr) (f' : Nat → Nat) (q : Nat) (hq : q < 64) (hf : ∀ j, j < 64 → f' j = if j = q then f' q else f j) :
    R2 w U H g h cb co cap S wB f' (wr.setCell ⟨S, q, none⟩ (.int .u8 ((f' q : Nat) : Int))) := ⟨r.r.set f' q hq hf, r.fr.same (Fr.set (U := fun k => k = S) rfl q _)⟩
theorem R2.keeps {w wB wr : World} {U : Nat → Prop} {H : Nat} {g : PG} {h : HS} {cb co cap S : Nat} {f : Nat → Nat} (r : R2 w U H g h cb co cap S wB f wr) {k j : Nat} {u : Value} (hk : k ≠ S) (hc : wB.cell? ⟨k, j, none⟩ = some u) : wr.cell? ⟨k, j, none⟩ = some u ∧ k < wr.heap.size := by
  have hlt := World.block_lt_of_cell? wB ⟨k, j, none⟩ hc
  exact ⟨(World.cell?_of_block (w := wB) (a := ⟨k, j, none⟩) (r.fr.block k hlt hk)).trans hc, Nat.lt_of_lt_of_le hlt r.fr.size⟩
/-- Behind a run: the cover's cells. -/
structure Cv (wr : World) (S gc : Nat) (cov : Nat → Int) : Prop where
  cell : ∀ p, p < 64 → wr.cell? ⟨gc, p, none⟩ = some (.int .u8 (cov p))
  ne : gc ≠ S
  lt : gc < wr.heap.size
theorem Cv.set {wr : World} {S gc : Nat} {cov : Nat → Int} (c : Cv wr S gc cov) (q : Nat) (u : Value) : Cv (wr.setCell ⟨S, q, none⟩ u) S gc cov :=
  ⟨fun p hp => (World.cell?_setCell_other _ _ _ _ (fun e => c.ne (by injection e with e1 _ _; exact e1.symm))).trans (c.cell p hp), c.ne, by rw [World.size_setCell]; exact c.lt⟩
theorem Cv.below {wr w' : World} {S gc : Nat} {cov : Nat → Int} (c : Cv wr S gc cov) (b : Below wr.heap.size wr w') : Cv w' S gc cov := ⟨fun p hp => (b.cell (p := ⟨gc, p, none⟩) c.lt).trans (c.cell p hp), c.ne, Nat.lt_of_lt_of_le c.lt b.size⟩
theorem or_seen (l : List Inp) (n q : Nat) (hn : n < l.length) (hl : ∀ k ∈ l, ∀ p, Cls (k.cov p)) : bits .or .u8 ((seenN (l.take n) q : Nat) : Int) ((l.getD n in0).cov q) = ((seenN (l.take (n + 1)) q : Nat) : Int) := by
  have hc : Cls ((l.getD n in0).cov q) := by rw [List.getD_eq_getElem?_getD, List.getElem?_eq_getElem hn]; exact hl _ (List.getElem_mem hn) q
  have hb := hc.bd
  obtain ⟨m, hm⟩ : ∃ m : Nat, (l.getD n in0).cov q = m := ⟨((l.getD n in0).cov q).toNat, by omega⟩
  rw [seen_take l n q hn, hm, Int.toNat_natCast]
  exact bits_or_u8_nat _ _ (seen_lt _ _ (fun k hk => hl k (List.mem_of_mem_take hk) q)) (by omega)
end Go.Proofs.YtflenkppcclclaaGreatDoor

namespace Go.Proofs.YtflenkppcclclaaGreatDoor
open Go.RowKit

/-! A text, cut at its first end of a line. -/
theorem cut_none (s : ByteArray) (h : Lib.indexByte s.data.toList 10 = -1) : linesL (nums s) = [] := by
  apply lines_none
  intro c
  unfold nums at c
  obtain ⟨b, hb, e⟩ := List.mem_map.1 c
  obtain ⟨k, hk⟩ := List.getElem?_of_mem hb
  have : b = 10 := UInt8.toNat_inj.1 (by show b.toNat = 10; omega)
  rw [this] at hk
  exact Lib.indexByte_none h k hk
theorem cut_some (s : ByteArray) (i : Nat) (h : Lib.indexByte s.data.toList 10 = i) : i < s.size ∧ linesL (nums s) = nums (s.extract 0 i) :: linesL (nums (s.extract (i + 1) s.size)) := by
  obtain ⟨h1, h2⟩ := Lib.indexByte_some h
  obtain ⟨hlt, h1'⟩ := List.getElem?_eq_some_iff.1 h1
  have hls : i < s.size := by rw [Lib.size_eq]; exact hlt
  refine ⟨hls, ?_⟩
  have hn : i < (nums s).length := by rw [nums_len]; exact hls
  have e10 : (nums s)[i] = 10 := by
    have : (nums s)[i]? = some 10 := by unfold nums; rw [List.getElem?_map, h1]; rfl
    rw [List.getElem?_eq_getElem hn] at this
    injection this
  have hs : nums s = (nums s).take i ++ 10 :: (nums s).drop (i + 1) := by
    conv => lhs; rw [← List.take_append_drop i (nums s), List.drop_eq_getElem_cons hn, e10]
  have ha : (10 : Int) ∉ (nums s).take i := by
    intro c
    obtain ⟨k, hk, e⟩ := List.mem_take_iff_getElem.1 c
    have hk' : k < i := by omega
    have hks : k < s.data.toList.length := by rw [← Lib.size_eq]; omega
    have e' : (nums s)[k]? = some 10 := by rw [List.getElem?_eq_getElem (by rw [nums_len]; omega), e]
    unfold nums at e'
    rw [List.getElem?_map, List.getElem?_eq_getElem hks] at e'
    have e2 : ((s.data.toList[k]).toNat : Int) = 10 := by injection e'
    have : s.data.toList[k] = 10 := UInt8.toNat_inj.1 (by show (s.data.toList[k]).toNat = 10; omega)
    exact h2 k hk' (by rw [List.getElem?_eq_getElem hks, this])
  rw [nums_extract, nums_extract, List.drop_zero, Nat.sub_zero]
  conv => lhs; rw [hs]
  rw [lines_cut _ _ ha, List.take_of_length_le (l := (nums s).drop (i + 1)) (by rw [List.length_drop, nums_len]; exact Nat.le_refl _)]

/-! One line more. -/
/-- Behind k lines that were followed, at the line 'line', if there is one ('whole'), with 'rest' behind it. -/
structure Foll (R : ByteArray → Sh) (log : ByteArray) (h0 : HS) (k : Nat) (h : HS) (line rest : ByteArray) (whole : Bool) : Prop where
  done : followS R 1 h0 ((linesL (nums log)).take k) = (h, none)
  len : k ≤ (linesL (nums log)).length
  left : (linesL (nums log)).drop k = if whole then nums line :: linesL (nums rest) else []
theorem Foll.begin (R : ByteArray → Sh) (log : ByteArray) (h0 : HS) {line rest : ByteArray} {whole : Bool} (hc : linesL (nums log) = if whole then nums line :: linesL (nums rest) else []) : Foll R log h0 0 h0 line rest whole := ⟨rfl, Nat.zero_le _, hc⟩
theorem Foll.get {R : ByteArray → Sh} {log : ByteArray} {h0 h : HS} {k : Nat} {line rest : ByteArray} (f : Foll R log h0 k h line rest true) : k < (linesL (nums log)).length ∧ (linesL (nums log))[k]? = some (nums line) ∧ (linesL (nums log)).drop (k + 1) = linesL (nums rest) := by
  have h1 := f.left
  rw [if_pos rfl] at h1
  have hlt : k < (linesL (nums log)).length := by
    rcases Nat.lt_or_ge k (linesL (nums log)).length with c | c
    · exact c
    · rw [List.drop_of_length_le c] at h1; cases h1
  rw [List.drop_eq_getElem_cons hlt] at h1
  injection h1 with e1 e2
  exact ⟨hlt, by rw [List.getElem?_eq_getElem hlt, e1], e2⟩
theorem Foll.last {R : ByteArray → Sh} {log : ByteArray} {h0 h : HS} {k : Nat} {line rest : ByteArray} (f : Foll R log h0 k h line rest false) : followS R 1 h0 (linesL (nums log)) = (h, none) := by
  have h1 := f.left
  rw [if_neg (by decide)] at h1
  have : (linesL (nums log)).length ≤ k := List.drop_eq_nil_iff.1 h1
  have h2 := f.done
  rw [List.take_of_length_le this] at h2
  exact h2
theorem Foll.bad {R : ByteArray → Sh} {log : ByteArray} {h0 h : HS} {k : Nat} {line rest : ByteArray} (f : Foll R log h0 k h line rest true) (hr : readL (nums line) = none) : followS R 1 h0 (linesL (nums log)) = (h, some (k + 1)) := by
  obtain ⟨hlt, _, _⟩ := f.get
  have hs : linesL (nums log) = (linesL (nums log)).take k ++ (linesL (nums log)).drop k := (List.take_append_drop _ _).symm
  rw [hs, follow_app R _ _ _ _ _ f.done, f.left, if_pos rfl, follow_cons, hr, List.length_take, Nat.min_eq_left f.len]
  dsimp only
  rw [Nat.add_comm]
theorem Foll.wrong {R : ByteArray → Sh} {log : ByteArray} {h0 h : HS} {k : Nat} {line rest : ByteArray} (f : Foll R log h0 k h line rest true) {b : Bool} {s : ByteArray} (hr : readL (nums line) = some (b, s)) (hn : (tryS R h s).2 ≠ letter b) : followS R 1 h0 (linesL (nums log)) = ((tryS R h s).1, some (k + 1)) := by
  have hs : linesL (nums log) = (linesL (nums log)).take k ++ (linesL (nums log)).drop k := (List.take_append_drop _ _).symm
  rw [hs, follow_app R _ _ _ _ _ f.done, f.left, if_pos rfl, follow_cons, hr, List.length_take, Nat.min_eq_left f.len]
  dsimp only
  rw [if_neg hn, Nat.add_comm]
theorem Foll.next {R : ByteArray → Sh} {log : ByteArray} {h0 h : HS} {k : Nat} {line rest : ByteArray} (f : Foll R log h0 k h line rest true) {b : Bool} {s : ByteArray} (hr : readL (nums line) = some (b, s)) (hn : (tryS R h s).2 = letter b)
    {line' rest' : ByteArray} {whole' : Bool} (hc : linesL (nums rest) = if whole' then nums line' :: linesL (nums rest') else []) : Foll R log h0 (k + 1) (tryS R h s).1 line' rest' whole' := by
  obtain ⟨hlt, hg, hd⟩ := f.get
  refine ⟨?_, by omega, by rw [hd]; exact hc⟩
  have hx : (linesL (nums log))[k] = nums line := by
    rw [List.getElem?_eq_getElem hlt] at hg
    injection hg
  rw [List.take_succ_eq_append_getElem hlt, hx, follow_app R _ _ _ _ _ f.done, follow_cons, hr]
  dsimp only
  rw [if_pos hn]
  rfl
/-- What was followed so far is small. -/
theorem Foll.inv {R : ByteArray → Sh} {log : ByteArray} {seed : Int} {h : HS} {k : Nat} {line rest : ByteArray} {whole : Bool} (f : Foll R log (HS.zero seed) k h line rest whole) (hR : ROk R) : Hinv R h ∧ h.tries = k ∧ h.hist.length = k ∧ h.hangs = 0 := by
  obtain ⟨l, e1, e2, e3⟩ := follow_ok R _ _ _ _ f.done
  have hk : l.length = k := by
    have := congrArg List.length e1
    rw [List.length_take, List.length_map, Nat.min_eq_left f.len] at this
    omega
  have hh := (retry_is R l _ _ e3).1
  refine ⟨Hinv.retried hR l _ _ (hinv_zero R seed) e2 e3, ?_, ?_, ?_⟩
  · rw [retry_tries l _ _ e3, hk]; show 0 + k = k; omega
  · rw [hh]; show ([] ++ l).length = k; rw [List.nil_append, hk]
  · have hz : ∀ (l : List (Bool × ByteArray)) (a b : HS), retry R a l = some b → a.hangs = 0 → b.hangs = 0 := by
      intro l
      induction l with
      | nil => intro a b e h0; cases e; exact h0
      | cons x l ih =>
        intro a b e h0
        unfold retry at e
        split at e
        · rename_i hl
          refine ih _ _ e ?_
          unfold tryS at hl ⊢
          split
          · split <;> exact h0
          · split
            · rename_i h1 h2
              rw [if_neg h1, if_pos h2] at hl
              exact absurd (show (0 : Int) = letter x.1 from hl) (by unfold letter; split <;> omega)
            · split <;> exact h0
        · cases e
    exact hz l _ _ e3 rfl
end Go.Proofs.YtflenkppcclclaaGreatDoor

