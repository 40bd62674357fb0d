import Derived.Test.YtflenkppcclclaaGreatDoorM42
import Derived.Test.YtflenkppcclclaaGreatDoorM00
import Derived.Test.YtflenkppcclclaaGreatDoorRows
import Derived.ProofKit
import Derived.LaidMore
import Derived.OpenShut
import Derived.Stop.Joined
import Derived.Deep.Strs
import Derived.Test.YtflenkppcclclaaGreatDoorM20
namespace Go.Proofs.YtflenkppcclclaaGreatDoor
open Go.RowKit

/-! Halves. -/
theorem halves_same (g : PG) (l : List ByteArray) (seed : Int) (n m : Nat) : (frS g l seed n).gone g m = (frS g l seed 0).gone g (n + m) := by
  unfold frS
  by_cases hk : 0 < (triesS g.R (HS.zero seed) (folded l)).kept.length
  · have e0 : (triesS g.R (HS.zero seed) (folded l)).gone g 0 = triesS g.R (HS.zero seed) (folded l) := by unfold HS.gone; rw [if_pos hk]; rfl
    rw [e0]
    have hn : ∀ n, (triesS g.R (HS.zero seed) (folded l)).kept.length ≤ ((triesS g.R (HS.zero seed) (folded l)).go g.R n).kept.length := by
      intro n
      induction n with
      | zero => exact Nat.le_refl _
      | succ n ih => exact Nat.le_trans ih (kept_grows_one g.R _)
    unfold HS.gone
    rw [if_pos hk, if_pos hk, if_pos (by have := hn n; omega), go_add]
  · have e : ∀ n, (triesS g.R (HS.zero seed) (folded l)).gone g n = triesS g.R (HS.zero seed) (folded l) := fun n => by unfold HS.gone; rw [if_neg hk]
    rw [e, e, e, e]
theorem halves_kept (g : PG) (l : List ByteArray) (seed : Int) (n : Nat) : (0 < (frS g l seed n).kept.length) = (0 < (frS g l seed 0).kept.length) := by
  unfold frS
  by_cases hk : 0 < (triesS g.R (HS.zero seed) (folded l)).kept.length
  · have hn : ∀ n, (triesS g.R (HS.zero seed) (folded l)).kept.length ≤ ((triesS g.R (HS.zero seed) (folded l)).go g.R n).kept.length := by
      intro n
      induction n with
      | zero => exact Nat.le_refl _
      | succ n ih => exact Nat.le_trans ih (kept_grows_one g.R _)
    unfold HS.gone
    rw [if_pos hk, if_pos hk]
    have h1 := hn n
    have h2 := hn 0
    exact propext ⟨fun _ => by omega, fun _ => by omega⟩
  · unfold HS.gone
    rw [if_neg hk, if_neg hk]
/-- Pair2 prowls side by side. -/
structure Pair2 (lo : Nat) (H K : Nat) (g : PG) (a b : HS) (w : World) : Prop where
  two : ∃ U V, Prw lo U H g a w ∧ Prw lo V K g b w ∧ ∀ k, U k → ¬ V k
theorem Pair2.below {lo H K : Nat} {g : PG} {a b : HS} {w w' : World} (t : Pair2 lo H K g a b w) (bb : Below w.heap.size w w') : Pair2 lo H K g a b w' := by
  obtain ⟨U, V, p, q, hd⟩ := t.two
  exact ⟨U, V, p.below bb, q.below bb, hd⟩
theorem Pair2.lo' {lo H K : Nat} {g : PG} {a b : HS} {w : World} (t : Pair2 lo H K g a b w) : lo ≤ w.heap.size := by
  obtain ⟨U, V, p, q, hd⟩ := t.two
  exact p.lo'
theorem Pair2.swap {lo H K : Nat} {g : PG} {a b : HS} {w : World} (t : Pair2 lo H K g a b w) : Pair2 lo K H g b a w := by
  obtain ⟨U, V, p, q, hd⟩ := t.two
  exact ⟨V, U, q, p, fun k hk hu => hd k hu hk⟩
theorem Pair2.goes {lo H K : Nat} {g : PG} {a b : HS} {w : World} (t : Pair2 lo H K g a b w) (c : Hcnt a) (n : Nat) (h1 : 1 ≤ n) (h2 : n ≤ 2000) (ht : a.tries + n ≤ 1000000) :
    Calls Tryz.prog 21 #[.pointer (some ⟨H, 0, none⟩), .int .i64 (n : Nat)] w fun e w' => e = .returned (.int .i64 (if 0 < a.kept.length then 0 else 4)) ∧ (Below lo w w' ∧ Pair2 lo H K g (a.gone g n) b w') := by
  obtain ⟨U, V, p, q, hd⟩ := t.two
  refine (p.goes c n h1 h2 ht).mono ?_
  rintro e w' ⟨rfl, f, p'⟩
  refine ⟨rfl, f.low p.lo p.lo', Gr U w w', V, p', q.other p' (f.wide (fun k hk => Or.inl hk)) (fun k hk hg => ?_), fun k hk hv => ?_⟩
  · rcases hg with c | c
    · exact hd k c hk
    · have := q.lt k hk; omega
  · rcases hk with c | c
    · exact hd k c hv
    · have := q.lt k hv; omega
/-- The two have the same. -/
structure Both (w : World) (H K : Nat) (g : PG) (h : HS) (wr : World) : Prop where
  bel : Below w.heap.size w wr
  two : Pair2 w.heap.size H K g h h wr
theorem Both.below {w : World} {H K : Nat} {g : PG} {h : HS} {wr w' : World} (t : Both w H K g h wr) (b : Below wr.heap.size wr w') : Both w H K g h w' := ⟨t.bel.trans (b.mono t.bel.size), t.two.below b⟩
theorem Both.swap {w : World} {H K : Nat} {g : PG} {h : HS} {wr : World} (t : Both w H K g h wr) : Both w K H g h wr := ⟨t.bel, t.two.swap⟩
theorem Both.drew {w : World} {H K : Nat} {g : PG} {h : HS} {wr : World} (t : Both w H K g h wr) : Both w H K g h wr.drew := t.below (Below.refl _ _).drew
def seenS (h : HS) : ByteArray := strOfNums ((List.range 64).map fun i => ((seenN h.kept i : Nat) : Int))
theorem Both.status {w : World} {H K : Nat} {g : PG} {h : HS} {wr : World} (t : Both w H K g h wr) : Calls Tryz.prog 22 #[.pointer (some ⟨H, 0, none⟩)] wr fun e w' => e = .returned (.agg #[.int .i64 h.tries, .int .i64 h.hangs, .int .i64 h.entry, .int .i64 h.changes]) ∧ Both w H K g h w' := by
  obtain ⟨U, V, p, q, hd⟩ := t.two.two
  exact p.status.mono fun e w' ⟨x, y⟩ => ⟨x, t.below y⟩
theorem Both.log {w : World} {H K : Nat} {g : PG} {h : HS} {wr : World} (t : Both w H K g h wr) : Calls Tryz.prog 23 #[.pointer (some ⟨H, 0, none⟩)] wr fun e w' => e = .returned (.string (strOfNums (logL h.hist))) ∧ Both w H K g h w' := by
  obtain ⟨U, V, p, q, hd⟩ := t.two.two
  exact p.log.mono fun e w' ⟨x, y⟩ => ⟨x, t.below y⟩
theorem Both.seen {w : World} {H K : Nat} {g : PG} {h : HS} {wr : World} (t : Both w H K g h wr) : Calls Tryz.prog 19 #[.pointer (some ⟨H, 0, none⟩)] wr fun e w' => e = .returned (.slice (some ⟨wr.heap.size, 0, none⟩) 64 64) ∧ (w'.heap[wr.heap.size]? = some (.cells (rowL (seenN h.kept)).toArray 5 (0, 0)) ∧ Below wr.heap.size wr w' ∧ Both w H K g h w') := by
  obtain ⟨U, V, p, q, hd⟩ := t.two.two
  exact p.seen.mono fun e w' ⟨x, y, z⟩ => ⟨x, y, z, t.below z⟩
set_option maxHeartbeats 4000000 in
set_option maxRecDepth 100000 in
theorem halves_all (w : World) (v tv : Value) (seed fuel pk : Int) (g : PG) (l : List ByteArray) (A : LA w v tv seed fuel pk g l) (tries more : Int) (t0 : -9223372036854775808 ≤ tries) (t1 : tries ≤ 9223372036854775807) (m0 : -9223372036854775808 ≤ more) (m1 : more ≤ 9223372036854775807) :
    Calls Tryz.prog 8 #[v, tv, .int .u64 seed, .int .i64 fuel, .int .i64 tries, .int .i64 more] w fun e w' => e = .returned (.bool true) ∧ Below w.heap.size w w' := by
  have H0 : Hid (Calls Tryz.prog 12 #[] w fun e w' => e = .returned (.bool true) ∧ Below w.heap.size w w') := A.prowled
  have H1 : Hid (∀ W, Below w.heap.size w W → Calls Tryz.prog 13 #[v, tv, .int .u64 seed, .int .i64 fuel, .int .i64 tries] W fun e w' => ∃ H U, e = .returned (.pointer (some ⟨H, 0, none⟩)) ∧ Below W.heap.size W w' ∧ Prw W.heap.size U H g (frS g l seed (kpickS tries 600).toNat) w') := fun W b => A.fresh W b tries t0 t1
  have H1' : Hid (∀ W, Below w.heap.size w W → Calls Tryz.prog 13 #[v, tv, .int .u64 seed, .int .i64 fuel, .int .i64 0] W fun e w' => ∃ H U, e = .returned (.pointer (some ⟨H, 0, none⟩)) ∧ Below W.heap.size W w' ∧ Prw W.heap.size U H g (frS g l seed 0) w') := fun W b => A.fresh W b 0 (by omega) (by omega)
  have hp := kpick_bd tries 600 (by omega)
  have hq := kpick_bd more 300 (by omega)
  have H2 : Hid (∀ W, Calls Tryz.prog 15 #[.int .i64 tries, .int .i64 600] W fun e w' => e = .returned (.int .i64 (kpickS tries 600)) ∧ w' = W) := fun W => kpick_any tries 600 t0 t1 (by omega) (by omega) W
  have H3 : Hid (∀ W, Calls Tryz.prog 15 #[.int .i64 more, .int .i64 300] W fun e w' => e = .returned (.int .i64 (kpickS more 300)) ∧ w' = W) := fun W => kpick_any more 300 m0 m1 (by omega) (by omega) W
  obtain ⟨n, hn⟩ : ∃ n : Nat, kpickS tries 600 = n := ⟨(kpickS tries 600).toNat, by omega⟩
  obtain ⟨m, hm⟩ : ∃ m : Nat, kpickS more 300 = m := ⟨(kpickS more 300).toNat, by omega⟩
  rw [hn] at H1 H2 hp
  rw [hm] at H3 hq
  rw [Int.toNat_natCast] at H1
  clear hn hm A t0 t1 m0 m1
  have hc1 := fr_cnt g l seed n
  have hc2 := fr_cnt g l seed 0
  obtain ⟨h, hh⟩ : ∃ h, (frS g l seed 0).gone g (n + (1 + m)) = h := ⟨_, rfl⟩
  have hh' := halves_same g l seed n (1 + m)
  rw [hh] at hh'
  have hkk := halves_kept g l seed n
  obtain ⟨r, hr⟩ : ∃ r : Int, (if 0 < (frS g l seed 0).kept.length then 0 else 4) = r := ⟨_, rfl⟩
  have HG1 : Hid (∀ W H K, Below w.heap.size w W → Pair2 w.heap.size H K g (frS g l seed n) (frS g l seed 0) W → Calls Tryz.prog 21 #[.pointer (some ⟨H, 0, none⟩), .int .i64 (1 + (m : Int))] W fun e w' => e = .returned (.int .i64 r) ∧ (Below w.heap.size w w' ∧ Pair2 w.heap.size H K g h (frS g l seed 0) w')) := fun W H K b t => by
    have := t.goes hc1.1 (1 + m) (by omega) (by omega) (by omega)
    rw [hh'] at this
    have e1 : (if 0 < (frS g l seed n).kept.length then (0 : Int) else 4) = r := by simp only [hkk]; exact hr
    rw [e1] at this
    have e2 : ((1 + m : Nat) : Int) = 1 + (m : Int) := by omega
    rw [e2] at this
    exact this.mono fun e w' ⟨x, y, z⟩ => ⟨x, b.trans y, z⟩
  have HG2 : Hid (∀ W H K, Below w.heap.size w W → Pair2 w.heap.size H K g h (frS g l seed 0) W → Calls Tryz.prog 21 #[.pointer (some ⟨K, 0, none⟩), .int .i64 ((n : Int) + (1 + (m : Int)))] W fun e w' => e = .returned (.int .i64 r) ∧ Both w H K g h w') := fun W H K b t => by
    have := t.swap.goes hc2.1 (n + (1 + m)) (by omega) (by omega) (by omega)
    rw [hh] at this
    rw [hr] at this
    have e2 : ((n + (1 + m) : Nat) : Int) = (n : Int) + (1 + (m : Int)) := by omega
    rw [e2] at this
    exact this.mono fun e w' ⟨x, y, z⟩ => ⟨x, b.trans y, z.swap⟩
  obtain ⟨hA, hhA⟩ : ∃ hA, frS g l seed n = hA := ⟨_, rfl⟩
  obtain ⟨hB, hhB⟩ : ∃ hB, frS g l seed 0 = hB := ⟨_, rfl⟩
  rw [hhA] at H1 HG1
  rw [hhB] at H1' HG1 HG2
  have hhp := hp.2
  have hhq := hq.2
  clear hhA hhB hc1 hc2 hh hh' hkk hr hp hq
  go_enter Tryz.func8, Tryz.ntmps8
  go_wp2_with fail
  refine H0.out.mono ?_
  rintro e w1 ⟨rfl, B1⟩
  have HB1 : Hid (Below w.heap.size w w1) := B1
  clear B1 H0
  go_wp2_with fail
  refine (H1.out w1 HB1.out).mono ?_
  rintro e w2 ⟨H, U, rfl, B2, p2⟩
  have HB2 : Hid (Below w.heap.size w w2 ∧ Prw w.heap.size U H g hA w2) := ⟨HB1.out.trans (B2.mono HB1.out.size), p2.wide HB1.out.size⟩
  clear B2 p2 H1 HB1
  go_wp2_with fail
  refine (H1'.out w2 HB2.out.1).mono ?_
  rintro e w3 ⟨K, V, rfl, B3, p3⟩
  have HB3 : Hid (Below w.heap.size w w3 ∧ Pair2 w.heap.size H K g hA hB w3) := ⟨HB2.out.1.trans (B3.mono HB2.out.1.size), U, V, HB2.out.2.below B3, p3.wide HB2.out.1.size, fun k hk hv => by have h1 := HB2.out.2.lt k hk; have h2 := p3.lo k hv; omega⟩
  clear B3 p3 H1' HB2
  go_wp2_with fail
  refine (H2.out w3).mono ?_
  rintro e w4 ⟨rfl, hw⟩
  obtain rfl := hw.symm
  go_wp2_with fail
  refine (H3.out w3).mono ?_
  rintro e w4 ⟨rfl, hw⟩
  obtain rfl := hw.symm
  clear H2 H3
  go_wp2_with fail
  refine (HG1.out w3 H K HB3.out.1 HB3.out.2).mono ?_
  rintro e w4 ⟨rfl, B4, p4⟩
  have HB4 : Hid (Below w.heap.size w w4 ∧ Pair2 w.heap.size H K g h hB w4) := ⟨B4, p4⟩
  clear B4 p4 HG1 HB3
  go_wp2_with fail
  refine (HG2.out w4 H K HB4.out.1 HB4.out.2).mono ?_
  rintro e w5 ⟨rfl, b5⟩
  have HB5 : Hid (Both w H K g h w5) := b5
  clear b5 HG2 HB4
  have HSP : Hid (∀ W, Both w H K g h W → Calls Tryz.prog 22 #[.pointer (some ⟨H, 0, none⟩)] W fun e w' => e = .returned (.agg #[.int .i64 h.tries, .int .i64 h.hangs, .int .i64 h.entry, .int .i64 h.changes]) ∧ Both w H K g h w') := fun W t => t.status
  have HSQ : Hid (∀ W, Both w H K g h W → Calls Tryz.prog 22 #[.pointer (some ⟨K, 0, none⟩)] W fun e w' => e = .returned (.agg #[.int .i64 h.tries, .int .i64 h.hangs, .int .i64 h.entry, .int .i64 h.changes]) ∧ Both w H K g h w') := fun W t => t.swap.status.mono fun e w' ⟨x, y⟩ => ⟨x, y.swap⟩
  have HLP : Hid (∀ W, Both w H K g h W → Calls Tryz.prog 23 #[.pointer (some ⟨H, 0, none⟩)] W fun e w' => e = .returned (.string (strOfNums (logL h.hist))) ∧ Both w H K g h w') := fun W t => t.log
  have HLQ : Hid (∀ W, Both w H K g h W → Calls Tryz.prog 23 #[.pointer (some ⟨K, 0, none⟩)] W fun e w' => e = .returned (.string (strOfNums (logL h.hist))) ∧ Both w H K g h w') := fun W t => t.swap.log.mono fun e w' ⟨x, y⟩ => ⟨x, y.swap⟩
  have HNP : Hid (∀ W, Both w H K g h W → Calls Tryz.prog 19 #[.pointer (some ⟨H, 0, none⟩)] W fun e w' => e = .returned (.slice (some ⟨W.heap.size, 0, none⟩) 64 64) ∧ (w'.heap[W.heap.size]? = some (.cells (rowL (seenN h.kept)).toArray 5 (0, 0)) ∧ Below W.heap.size W w' ∧ Both w H K g h w')) := fun W t => t.seen
  have HNQ : Hid (∀ W, Both w H K g h W → Calls Tryz.prog 19 #[.pointer (some ⟨K, 0, none⟩)] W fun e w' => e = .returned (.slice (some ⟨W.heap.size, 0, none⟩) 64 64) ∧ (w'.heap[W.heap.size]? = some (.cells (rowL (seenN h.kept)).toArray 5 (0, 0)) ∧ Below W.heap.size W w' ∧ Both w H K g h w')) := fun W t => t.swap.seen.mono fun e w' ⟨x, y, z, u⟩ => ⟨x, y, z, u.swap⟩
  have HCV : Hid (∀ (w0 W : World) (b : Nat), w0.heap[b]? = some (.cells (rowL (seenN h.kept)).toArray 5 (0, 0)) → W.heap[b]? = w0.heap[b]? → (convert 25 9 (.slice (some ⟨b, 0, none⟩) 64 64)).run Tryz.prog W = .ok (.string (seenS h)) W) := fun w0 W b h1 h2 => conv_row h1 W h2
  generalize strOfNums (logL h.hist) = lg at *
  generalize seenS h = sx at *
  generalize h.tries = x1 at *
  generalize h.hangs = x2 at *
  generalize h.entry = x3 at *
  generalize h.changes = x4 at *
  go_wp2_with fail
  go_region_with (first
    | (go_at_call 22; go_fit (HSP.out w5.drew HB5.out.drew); rintro e w6 ⟨rfl, b6⟩; have HB6 : Hid (Both w H K g h w6) := b6; clear b6)
    | (go_at_call 22; go_fit (HSQ.out w6 HB6.out); rintro e w7 ⟨rfl, b7⟩; have HB7 : Hid (Both w H K g h w7) := b7; clear b7)
    | (go_at_call 23; go_fit (HLP.out w7 HB7.out); rintro e w8 ⟨rfl, b8⟩; have HB8 : Hid (Both w H K g h w8) := b8; clear b8)
    | (go_at_call 23; go_fit (HLQ.out w8 HB8.out); rintro e w9 ⟨rfl, b9⟩; have HB9 : Hid (Both w H K g h w9) := b9; clear b9)
    | (go_at_call 19; go_fit (HNP.out w9 HB9.out); rintro e w10 ⟨rfl, r10, bb10, b10⟩; have HB10 : Hid (Both w H K g h w10) := b10; have hc1 := HCV.out w10 w10 _ r10 rfl; have HR10 : Hid (w10.heap[w9.heap.size]? = some (.cells (rowL (seenN h.kept)).toArray 5 (0, 0))) := r10; clear b10 bb10 r10)
    | (go_at_call 19; go_fit (HNQ.out w10 HB10.out); rintro e w11 ⟨rfl, r11, bb11, b11⟩; have HB11 : Hid (Both w H K g h w11) := b11; have hc2 := HCV.out w10 w11 _ HR10.out (bb11.block _ (Array.getElem?_eq_some_iff.1 HR10.out).1); have hc3 := HCV.out w11 w11 _ r11 rfl; clear b11 bb11 r11))
  all_goals
    go_wp2_with fail
    go_ret
    exact ⟨rfl, HB11.out.bel⟩
end Go.Proofs.YtflenkppcclclaaGreatDoor

namespace Go.Proofs.YtflenkppcclclaaGreatDoor
open Go.ChangeShapes Go.WideShapes Go.ChangeAt Go.WideMaps Go.WideElems Go.RowKit Go.Deep

theorem gShapes : (Rows.runsRow.named.head?.bind fun s => Tryz.prog.globalNamed s) = some 0 := by kernel_rfl
theorem tShapes : (Tryz.prog.globals[0]?).map (·.type) = some 224 := by kernel_rfl
theorem Tryz.cellsInt : Tryz.prog.cellsOf 3 = 1 := by kernel_rfl
theorem Tryz.cellsShape : Tryz.prog.cellsOf 179 = 3 := by kernel_rfl

theorem one_of {cs : List Value} {r : Nat} {v : Value} (h : (cs.drop r).take 1 = [v]) : cs[r]? = some v := by
  have : ((cs.drop r).take 1)[0]? = some v := by rw [h]; rfl
  rw [List.getElem?_take, if_pos (by omega), List.getElem?_drop, Nat.add_zero] at this
  exact this

theorem shape_cells {H : Type} {enc : TypeId × Value → H} {W : World} {base : Nat} {spare : Nat → Bool} {held : Bool} {m : Nat} {cs : List Value} {x : DataW H × List MemPlace} {a b c : Int}
    (h : DataW.trod enc Tryz.prog W base spare held m 179 cs = some x) (hx : x.1 = .agg [.lit (.int .i64 a), .lit (.int .i64 b), .lit (.int .i64 c)]) :
    cs[0]? = some (.int .i64 a) ∧ cs[1]? = some (.int .i64 b) ∧ cs[2]? = some (.int .i64 c) := by
  obtain ⟨y0, y1, y2, n, rfl, hlen, e0, e1, e2⟩ := trod_struct3 Tryz.underlying179 h
  simp only [Tryz.cellsInt] at e0 e1 e2
  obtain ⟨k0, c0, d0, _⟩ := DataW.trod_int Tryz.underlying3 e0
  obtain ⟨k1, c1, d1, _⟩ := DataW.trod_int Tryz.underlying3 e1
  obtain ⟨k2, c2, d2, _⟩ := DataW.trod_int Tryz.underlying3 e2
  rw [d0, d1, d2] at hx
  simp only [DataW.agg.injEq, List.cons.injEq, DataW.lit.injEq, Lit.int.injEq, and_true, true_and] at hx
  obtain ⟨rfl, rfl, rfl⟩ := hx
  exact ⟨one_of c0, one_of c1, one_of c2⟩

/-- The condition gives the table, cell by cell. -/
theorem tab_of_laid {W : World} (h : laidMetH Tryz.prog Rows.runsRow.laid W) : Tab W := by
  rw [MakeChecks.laidMetH_plain _ _ _ (by kernel_rfl)] at h
  obtain ⟨ps, ⟨g0, t0, cs0, f0, p0, q0, hg0, ht0, hv0, hd0, _⟩, _, _⟩ := h
  obtain rfl := Option.some.inj (gShapes.symm.trans hg0)
  obtain rfl := Option.some.inj (tShapes.symm.trans ht0)
  obtain ⟨xs, m1, rfl, hx, hlen, hn, hel⟩ := DataW.trod_array Tryz.underlying224 hd0
  simp only [Prod.mk.injEq] at hx
  have hcell := fun j => World.var?_cell hg0 hv0 j
  intro k hk
  obtain ⟨i, r, hr, rfl⟩ : ∃ i r, r < 3 ∧ k = i * 3 + r := ⟨k / 3, k % 3, by omega, by omega⟩
  have hi : i < 21 := by omega
  have hxi : (xs.map (·.1))[i]? = some (.agg [.lit (.int .i64 (shp (i * 3))), .lit (.int .i64 (shp (i * 3 + 1))), .lit (.int .i64 (shp (i * 3 + 2)))]) := by
    have e : (DataW.agg (xs.map (·.1)) : DataW Unit) = Rows.laid_prowl_program_shapes := hx.1.symm
    unfold Rows.laid_prowl_program_shapes at e
    simp only [DataW.agg.injEq] at e
    rw [e]
    match i, hi with
    | 0, _ | 1, _ | 2, _ | 3, _ | 4, _ | 5, _ | 6, _ | 7, _ | 8, _ | 9, _ | 10, _ | 11, _ | 12, _ | 13, _ | 14, _ | 15, _ | 16, _ | 17, _ | 18, _ | 19, _ | 20, _ => rfl
    | i + 21, hi => omega
  rw [List.getElem?_map, Option.map_eq_some_iff] at hxi
  obtain ⟨x, hx1, hx2⟩ := hxi
  have he := hel i hi
  rw [hx1, Tryz.cellsShape] at he
  obtain ⟨a0, a1, a2⟩ := shape_cells he hx2
  have hc : ∀ r, r < 3 → ∀ v, ((cs0.toList.drop (i * 3)).take 3)[r]? = some v → W.cell? ⟨0, i * 3 + r, none⟩ = some v := by
    intro r hr v hv
    rw [List.getElem?_take, if_pos hr, List.getElem?_drop] at hv
    rw [hcell]
    simpa using hv
  match r, hr with
  | 0, _ => exact hc 0 (by omega) _ a0
  | 1, _ => exact hc 1 (by omega) _ a1
  | 2, _ => exact hc 2 (by omega) _ a2
  | r + 3, hr => omega
end Go.Proofs.YtflenkppcclclaaGreatDoor

namespace Go.Proofs.YtflenkppcclclaaGreatDoor
open Go.ChangeShapes Go.WideShapes Go.ChangeAt Go.WideMaps Go.WideElems Go.RowKit Go.Deep

theorem gMarked : Tryz.prog.globalNamed "prowl/changes.marked" = some 2 := by kernel_rfl
theorem tMarked : (Tryz.prog.globals[2]?).map (·.type) = some 271 := by kernel_rfl
theorem Tryz.cellsByte : Tryz.prog.cellsOf 5 = 1 := by kernel_rfl

theorem both_of_vars {W : World} {ps : List MemPlace} (h : DataW.LaidVars Tryz.prog W Rows.changesRow.laid ps) : Tab W ∧ Mrk W := by
  obtain ⟨g0, t0, cs0, f0, p0, q0, hg0, ht0, hv0, hd0, hrest⟩ := h
  refine ⟨?_, ?_⟩
  · clear hrest
    obtain rfl := Option.some.inj (gShapes.symm.trans hg0)
    obtain rfl := Option.some.inj (tShapes.symm.trans ht0)
    obtain ⟨xs, m1, rfl, hx, hlen, hn, hel⟩ := DataW.trod_array Tryz.underlying224 hd0
    simp only [Prod.mk.injEq] at hx
    have hcell := fun j => World.var?_cell hg0 hv0 j
    intro k hk
    obtain ⟨i, r, hr, rfl⟩ : ∃ i r, r < 3 ∧ k = i * 3 + r := ⟨k / 3, k % 3, by omega, by omega⟩
    have hi : i < 21 := by omega
    have hxi : (xs.map (·.1))[i]? = some (.agg [.lit (.int .i64 (shp (i * 3))), .lit (.int .i64 (shp (i * 3 + 1))), .lit (.int .i64 (shp (i * 3 + 2)))]) := by
      have e : (DataW.agg (xs.map (·.1)) : DataW Unit) = Rows.laid_prowl_program_shapes := hx.1.symm
      unfold Rows.laid_prowl_program_shapes at e
      simp only [DataW.agg.injEq] at e
      rw [e]
      match i, hi with
      | 0, _ | 1, _ | 2, _ | 3, _ | 4, _ | 5, _ | 6, _ | 7, _ | 8, _ | 9, _ | 10, _ | 11, _ | 12, _ | 13, _ | 14, _ | 15, _ | 16, _ | 17, _ | 18, _ | 19, _ | 20, _ => rfl
      | i + 21, hi => omega
    rw [List.getElem?_map, Option.map_eq_some_iff] at hxi
    obtain ⟨x, hx1, hx2⟩ := hxi
    have he := hel i hi
    rw [hx1, Tryz.cellsShape] at he
    obtain ⟨a0, a1, a2⟩ := shape_cells he hx2
    have hc : ∀ r, r < 3 → ∀ v, ((cs0.toList.drop (i * 3)).take 3)[r]? = some v → W.cell? ⟨0, i * 3 + r, none⟩ = some v := by
      intro r hr v hv
      rw [List.getElem?_take, if_pos hr, List.getElem?_drop] at hv
      rw [hcell]
      simpa using hv
    match r, hr with
    | 0, _ => exact hc 0 (by omega) _ a0
    | 1, _ => exact hc 1 (by omega) _ a1
    | 2, _ => exact hc 2 (by omega) _ a2
    | r + 3, hr => omega
  · obtain ⟨⟨g1, t1, cs1, f1, p1, q1, hg1, ht1, hv1, hd1, _⟩, _⟩ := hrest
    clear hd0 hv0 ht0 hg0
    obtain rfl := Option.some.inj (gMarked.symm.trans hg1)
    obtain rfl := Option.some.inj (tMarked.symm.trans ht1)
    obtain ⟨xs, m1, rfl, hx, hlen, hn, hel⟩ := DataW.trod_array Tryz.underlying271 hd1
    simp only [Prod.mk.injEq] at hx
    have hcell := fun j => World.var?_cell hg1 hv1 j
    intro k hk
    have hxi : (xs.map (·.1))[k]? = some (.lit (.int .u8 (markL k))) := by
      have e : (DataW.agg (xs.map (·.1)) : DataW Unit) = Rows.laid_prowl_changes_marked := hx.1.symm
      unfold Rows.laid_prowl_changes_marked at e
      simp only [DataW.agg.injEq] at e
      rw [e]
      match k, hk with
      | 0, _ | 1, _ | 2, _ | 3, _ | 4, _ => rfl
      | k + 5, hk => omega
    rw [List.getElem?_map, Option.map_eq_some_iff] at hxi
    obtain ⟨x, hx1, hx2⟩ := hxi
    have he := hel k hk
    rw [hx1, Tryz.cellsByte] at he
    obtain ⟨k0, c0, d0, _⟩ := DataW.trod_int Tryz.underlying5 he
    rw [d0] at hx2
    simp only [DataW.lit.injEq, Lit.int.injEq, true_and] at hx2
    subst hx2
    rw [hcell]
    have := one_of c0
    simpa using this
theorem both_of_laid {W : World} (h : laidMetH Tryz.prog Rows.changesRow.laid W) : Tab W ∧ Mrk W := by
  rw [MakeChecks.laidMetH_plain _ _ _ (by kernel_rfl)] at h
  obtain ⟨ps, h0, _⟩ := h
  exact both_of_vars h0
end Go.Proofs.YtflenkppcclclaaGreatDoor

