import Derived.Test.YtflenkppcclclaaGreatDoorM30
import Derived.Test.YtflenkppcclclaaGreatDoorM16
import Derived.Test.YtflenkppcclclaaGreatDoorM28
import Derived.Shelf.Strings.Builder1
import Derived.Shelf.Small.Bits
import Derived.Shelf.Small.Strs
import Derived.Shelf.Strings.BuilderF
import Derived.Shelf.Strings.BuilderK
import Derived.Shelf.Strconv.Itoa0
import Derived.Shelf.LaysM
import Derived.Shelf.Strconv.Clone
import Derived.Shelf.Strings.Search1
import Derived.Shelf.Strings.Search2
import Derived.Shelf.Strings.Cut
import Derived.Shelf.Strings.Shaped
import Derived.Shelf.Sort.Plain
import Derived.Ground.Names2Prog
import Derived.Shelf.Slices.Clone
import Derived.Shelf.Slices.In.SortNone
import Derived.Ground.SlbCloneProg
import Derived.Shelf.Bytes.SlClone
import Derived.Ground.SlgnProg
import Derived.Shelf.SlicesE.Clone
import Derived.Test.YtflenkppcclclaaGreatDoorProg
namespace Go.Proofs.YtflenkppcclclaaGreatDoor
open Go.RowKit

/-! How much can be found. -/
theorem nodup_le : ∀ (n : Nat) (l : List Nat), l.Nodup → (∀ x ∈ l, x < n) → l.length ≤ n
  | 0, l, _, h => by
    cases l with
    | nil => simp
    | cons a l => have := h a (by simp); omega
  | n + 1, l, hn, h => by
    have h1 := nodup_le n (l.erase n) (hn.erase n) (fun x hx => by
      have hx' := (hn.mem_erase_iff).1 hx
      have := h x hx'.2
      have := hx'.1
      omega)
    have h2 : l.length ≤ (l.erase n).length + 1 := by rw [List.length_erase]; split <;> omega
    omega
structure FOk (R : ByteArray → Sh) : Prop where
  fault : ∀ s : ByteArray, s.size ≤ 24 → 0 ≤ (R s).fault ∧ (R s).fault < 300
  place : ∀ s : ByteArray, s.size ≤ 24 → 0 ≤ (R s).place ∧ (R s).place < 400
def crKey (c : Cr) : Nat := c.fault.toNat * 400 + c.place.toNat
theorem found_le {R : ByteArray → Sh} {h : HS} (p : Hinv R h) (q : FOk R) : h.found.length ≤ 120000 := by
  have key : ∀ c ∈ h.found, 0 ≤ c.fault ∧ c.fault < 300 ∧ 0 ≤ c.place ∧ c.place < 400 := by
    intro c hc
    obtain ⟨i, hi⟩ := List.getElem?_of_mem hc
    obtain ⟨h1, _, h3, h4, _⟩ := p.found i c hi
    have f := q.fault c.text h1
    have g := q.place c.text h1
    rw [h3] at f
    rw [h4] at g
    exact ⟨f.1, f.2, g.1, g.2⟩
  have hn : (h.found.map crKey).Nodup := by
    rw [List.Nodup, List.pairwise_map, List.pairwise_iff_getElem]
    intro i j hi hj hij e
    obtain ⟨_, _, _, _, hany⟩ := p.found j _ (List.getElem?_eq_getElem hj)
    rw [List.any_eq_false] at hany
    have hm : h.found[i] ∈ h.found.take j := List.mem_take_iff_getElem.2 ⟨i, by omega, rfl⟩
    have hx := hany _ hm
    apply hx
    have k1 := key _ (List.getElem_mem hi)
    have k2 := key _ (List.getElem_mem hj)
    unfold crKey at e
    unfold sameCr
    rw [decide_eq_true (by omega), decide_eq_true (by omega)]
    rfl
  have := nodup_le 120000 _ hn (fun x hx => by
    obtain ⟨c, hc, rfl⟩ := List.mem_map.1 hx
    have := key c hc
    unfold crKey
    omega)
  rwa [List.length_map] at this
theorem hist_len : ∀ l : List (Bool × ByteArray), l.length = (l.filterMap isK).length + (l.filterMap isF).length
  | [] => rfl
  | (b, s) :: l => by
    have ih := hist_len l
    rw [List.filterMap_cons, List.filterMap_cons]
    cases b with
    | true => simp [isK, isF]; omega
    | false => simp [isK, isF]; omega
theorem hist_le {R : ByteArray → Sh} {h : HS} (p : Hinv R h) (q : FOk R) : h.hist.length ≤ 120030 := by
  have h1 := hist_len h.hist
  rw [p.histK, p.histF, List.length_map, List.length_map] at h1
  have := found_le p q
  have := p.most
  omega

/-! What a log's first lines come to. -/
theorem retry_take {R : ByteArray → Sh} {h : HS} (p : Replays R h) (seed : Int) (m : Nat) :
    ∃ h1, retry R (HS.zero seed) (h.hist.take m) = some h1 ∧ h1.hist = h.hist.take m ∧ (∃ t, h.kept = h1.kept ++ t) ∧ (∃ u, h.found = h1.found ++ u) ∧ (h.hist.length ≤ m → h1.kept = h.kept ∧ h1.found = h.found) := by
  obtain ⟨h2, e, a⟩ := p seed
  have hs : h.hist = h.hist.take m ++ h.hist.drop m := (List.take_append_drop m _).symm
  rw [hs, retry_append] at e
  cases h3 : retry R (HS.zero seed) (h.hist.take m) with
  | none => rw [h3] at e; cases e
  | some h1 =>
    rw [h3] at e
    have e' : retry R h1 (h.hist.drop m) = some h2 := e
    obtain ⟨g1, _⟩ := retry_is R _ _ _ h3
    obtain ⟨_, ⟨t, k2⟩, ⟨u, k3⟩⟩ := retry_is R _ _ _ e'
    refine ⟨h1, rfl, ?_, ⟨t, by rw [a.kept]; exact k2⟩, ⟨u, by rw [a.found]; exact k3⟩, fun hm => ?_⟩
    · rw [g1]
      simp [HS.zero]
    · rw [List.drop_of_length_le hm] at e'
      cases e'
      exact ⟨a.kept.symm, a.found.symm⟩
theorem retry_tries {R : ByteArray → Sh} : ∀ (l : List (Bool × ByteArray)) (h h' : HS), retry R h l = some h' → h'.tries = h.tries + l.length
  | [], _, _, e => by cases e; rfl
  | x :: l, h, h', e => by
    unfold retry at e
    split at e
    · have ih := retry_tries l _ _ e
      have ht : (tryS R h x.2).1.tries = h.tries + 1 := by
        unfold tryS
        repeat' split
        all_goals rfl
      rw [ih, ht, List.length_cons]
      omega
    · cases e

/-! To follow lines, one at a time. -/
theorem follow_cons (R : ByteArray → Sh) (k : Nat) (h : HS) (y : List Int) (l : List (List Int)) : followS R k h (y :: l) = match readL y with
    | none => (h, some k)
    | some x => if (tryS R h x.2).2 = letter x.1 then followS R (k + 1) (tryS R h x.2).1 l else ((tryS R h x.2).1, some k) := rfl
theorem follow_app (R : ByteArray → Sh) : ∀ (a b : List (List Int)) (k : Nat) (h h1 : HS), followS R k h a = (h1, none) → followS R k h (a ++ b) = followS R (k + a.length) h1 b
  | [], _, _, _, _, e => by
    injection e with e _
    subst e
    rfl
  | y :: a, b, k, h, h1, e => by
    rw [List.cons_append, follow_cons]
    rw [follow_cons] at e
    cases hx : readL y with
    | none => rw [hx] at e; cases e
    | some x =>
      rw [hx] at e
      dsimp only at e ⊢
      split at e
      · rename_i hl
        rw [if_pos hl, follow_app R a b (k + 1) _ h1 e, List.length_cons]
        congr 1
        omega
      · cases e
end Go.Proofs.YtflenkppcclclaaGreatDoor

namespace Go.Proofs.YtflenkppcclclaaGreatDoor
open Go.RowKit

/-! What the laws of prowlkeep stand on. -/
theorem Mrk.all {w w' : World} (h : Mrk w) (b : Below w.heap.size w w') : Mrk w' := h.below b (World.block_lt_of_cell? w ⟨2, 0, none⟩ (h 0 (by omega)))
theorem mutA : mutS ⟨#[97]⟩ 15 = some [158] ∧ mutS ⟨#[97]⟩ 30 = some [97, 97] ∧ mutS ⟨#[97]⟩ 31 = none := by decide +kernel
theorem strA : strOfNums [158] = ⟨#[158]⟩ ∧ strOfNums [97, 97] = ⟨#[97, 97]⟩ := by decide +kernel
/-- The calls of 'changed', as far as it looks at them. -/
structure ChAns (w : World) (s : ByteArray) (b : Bool) (e : Ending) (w' : World) : Prop where
  bel : Below w.heap.size w w'
  ans : e = .returned (.tuple #[.string s, .bool b])
theorem mutA_calls (w : World) (hM : Mrk w) : Calls Tryz.prog 62 #[.string ⟨#[97]⟩, .int .i64 15] w (ChAns w ⟨#[158]⟩ true) ∧ Calls Tryz.prog 62 #[.string ⟨#[97]⟩, .int .i64 30] w (ChAns w ⟨#[97, 97]⟩ true) ∧ Calls Tryz.prog 62 #[.string ⟨#[97]⟩, .int .i64 31] w (ChAns w ⟨#[]⟩ false) := by
  refine ⟨(xMutant_any w hM ⟨#[97]⟩ (by decide) 15 (by omega) (by omega)).mono ?_, (xMutant_any w hM ⟨#[97]⟩ (by decide) 30 (by omega) (by omega)).mono ?_, (xMutant_any w hM ⟨#[97]⟩ (by decide) 31 (by omega) (by omega)).mono ?_⟩
  · rw [mutA.1]
    rintro e w' ⟨B, rfl⟩
    exact ⟨B, by rw [← strA.1]; rfl⟩
  · rw [mutA.2.1]
    rintro e w' ⟨B, rfl⟩
    exact ⟨B, by rw [← strA.2]; rfl⟩
  · rw [mutA.2.2]
    rintro e w' ⟨B, rfl⟩
    exact ⟨B, rfl⟩
theorem wildA : (wildL [97, 98, 99] [120, 121, 122] 0).2 ≠ 0 := by decide +kernel
theorem numsA : nums ⟨#[97, 98, 99]⟩ = [97, 98, 99] ∧ nums ⟨#[120, 121, 122]⟩ = [120, 121, 122] := by decide +kernel
theorem wildA_calls (w : World) : ∃ t y, y ≠ 0 ∧ Calls Tryz.prog 63 #[.string ⟨#[97, 98, 99]⟩, .string ⟨#[120, 121, 122]⟩, .int .u64 0] w (WildAns w t y) :=
  ⟨_, _, by rw [numsA.1, numsA.2]; exact wildA, xWild_any w ⟨#[97, 98, 99]⟩ ⟨#[120, 121, 122]⟩ (by decide) (by decide) 0 (by omega) (by omega)⟩

set_option maxHeartbeats 1000000 in
set_option maxRecDepth 100000 in
theorem kchanged_any (w : World) (hT : Tab w) (hM : Mrk w) : Calls Tryz.prog 28 #[] w fun e w' => e = .returned (.bool true) ∧ Below w.heap.size w w' := by
  have HM : Hid (∀ w', Below w.heap.size w w' → Mrk w') := fun w' B => hM.all B
  have HP : Hid (Calls Tryz.prog 61 #[] w fun e w' => e = .returned (.bool true) ∧ Below w.heap.size w w') := kprobed_any w hT
  clear hT hM
  go_enter Tryz.func28, Tryz.ntmps28
  go_wp2_with fail
  refine HP.out.mono ?_
  rintro e w1 ⟨rfl, B1⟩
  go_wp2_with fail
  refine (mutA_calls w1 (HM.out _ B1)).1.mono ?_
  rintro e w2 ⟨B2, rfl⟩
  have B02 := B1.trans (B2.mono B1.size)
  go_wp2_with fail
  refine (mutA_calls w2 (HM.out _ B02)).2.1.mono ?_
  rintro e w3 ⟨B3, rfl⟩
  have B03 := B02.trans (B3.mono B02.size)
  go_wp2_with fail
  refine (mutA_calls w3 (HM.out _ B03)).2.2.mono ?_
  rintro e w4 ⟨B4, rfl⟩
  have B04 := B03.trans (B4.mono B03.size)
  obtain ⟨t, y, hy, HW⟩ := wildA_calls w4
  have HW' : Hid (Calls Tryz.prog 63 #[.string ⟨#[97, 98, 99]⟩, .string ⟨#[120, 121, 122]⟩, .int .u64 0] w4 (WildAns w4 t y)) := HW
  clear HW
  go_wp2_with fail
  refine HW'.out.mono ?_
  rintro e w5 ⟨B5, rfl⟩
  have HB : Hid (Below w.heap.size w w5) := B04.trans (B5.mono B04.size)
  clear B1 B2 B02 B3 B03 B4 B04 B5
  have hconv : (convert 25 9 (.slice (some ⟨w5.heap.size, 0, none⟩) 1 1)).run Tryz.prog (w5.alloc (.cells #[.int .u8 158] 5)) = .ok (.string ⟨#[158]⟩) (w5.alloc (.cells #[.int .u8 158] 5)) :=
    run_convert_bytes_arg _ 25 5 Tryz.underlying25 Tryz.underlying5 w5.heap.size 0 1 1 [158] rfl (fun i hi => by
      rw [Nat.zero_add, World.cell?_alloc_new]
      match i, hi with
      | 0, _ => rfl
      | i + 1, hi => simp at hi) 9 Tryz.underlying9
  go_wp2_with fail
  go_ret
  have hy' : (y != 0) = true := by simpa using hy
  exact ⟨by show Ending.returned (.bool (y != 0)) = _; rw [hy'], HB.out.alloc HB.out.size _⟩

def kpickS (c n : Int) : Int := if c < 0 then -((c + 1).tmod n) else c % n
theorem kpick_bd (c n : Int) (hn : 1 ≤ n) : 0 ≤ kpickS c n ∧ kpickS c n < n := by
  unfold kpickS
  by_cases h : c < 0
  · rw [if_pos h]
    have e : -((c + 1).tmod n) = (-(c + 1)) % n := by rw [← Int.tmod_eq_emod_of_nonneg (by omega), Int.neg_tmod]
    rw [e]
    exact ⟨Int.emod_nonneg _ (by omega), Int.emod_lt_of_pos _ (by omega)⟩
  · rw [if_neg h]
    exact ⟨Int.emod_nonneg _ (by omega), Int.emod_lt_of_pos _ (by omega)⟩
theorem kpick_any (c n : Int) (h1 : -9223372036854775808 ≤ c) (h2 : c ≤ 9223372036854775807) (hn : 1 ≤ n) (hn' : n ≤ 1000000000) (w : World) : Calls Tryz.prog 15 #[.int .i64 c, .int .i64 n] w fun e w' => e = .returned (.int .i64 (kpickS c n)) ∧ w' = w := by
  unfold kpickS
  by_cases h : c < 0
  · rw [if_pos h]
    go_enter Tryz.func15, Tryz.ntmps15
    go_wp2
    go_ret
    exact ⟨rfl, rfl⟩
  · rw [if_neg h]
    go_enter Tryz.func15, Tryz.ntmps15
    go_wp2
    go_ret
    exact ⟨rfl, rfl⟩

/-- The program that bytes stand for: themselves, or the document's example. -/
structure ProgOf (c : Nat → Int) (L : Nat) (c' : Nat → Int) (L' N' : Nat) : Prop where
  vp : VP c' L' N'
  is : (L' = L ∧ c' = c) ∨ ((¬ ∃ N, VP c L N) ∧ c' = cE ∧ L' = 10 ∧ N' = 7)
theorem prog_of (c : Nat → Int) (L : Nat) : ∃ c' L' N', ProgOf c L c' L' N' := by
  by_cases h : ∃ N, VP c L N
  · obtain ⟨N, V⟩ := h
    exact ⟨c, L, N, V, Or.inl ⟨rfl, rfl⟩⟩
  · exact ⟨cE, 10, 7, vE, Or.inr ⟨h, rfl, rfl, rfl⟩⟩
theorem kprogram_at (w : World) (v : Value) (L : Nat) (c : Nat → Int) (hby : ∀ i, i < L → 0 ≤ c i ∧ c i ≤ 255) (C : Coded w v L c) (hT : Tab w) {c' : Nat → Int} {L' N' : Nat} (P : ProgOf c L c' L' N') :
    Calls Tryz.prog 14 #[v] w fun e w' => Below w.heap.size w w' ∧ ∃ cb co cap, Laid w' cb co L' cap c' ∧ e = .returned (.slice (some ⟨cb, co, none⟩) L' cap) := by
  rcases P.is with ⟨rfl, rfl⟩ | ⟨hno, rfl, rfl, rfl⟩
  · have V := P.vp
    cases C with
    | bare p cap hv h0 => have h1 := V.lt V.one; omega
    | full cb co cap hv C =>
      subst hv
      have H1 : Hid (Calls Tryz.prog 32 #[.slice (some ⟨cb, co, none⟩) L' cap] w fun e w' => e = .returned (.tuple #[.int .i64 (cntB (bgn c' N') L'), .int .i64 0]) ∧ Below w.heap.size w w') := xCheck_any w cb co L' cap N' c' V C hT
      have HC : Hid (∀ w1, Below w.heap.size w w1 → Laid w1 cb co L' cap c') := fun w1 b => C.below b
      clear C hT V hby P
      go_enter Tryz.func14, Tryz.ntmps14
      go_wp2_with fail
      refine H1.out.mono ?_
      rintro e w1 ⟨rfl, B1⟩
      have HB1 : Hid (Below w.heap.size w w1) := B1
      clear B1
      go_wp2_with fail
      go_ret
      exact ⟨HB1.out, cb, co, cap, HC.out w1 HB1.out, rfl⟩
  · have H1 : Hid (Calls Tryz.prog 32 #[v] w fun e w' => ∃ n, e = .returned (.tuple #[.int .i64 (n : Nat), .int .i64 1]) ∧ Below w.heap.size w w') := by
      refine (xCheck_gen w v L c hby C hT).mono ?_
      rintro e w1 ⟨n, b, hC, rfl, B1⟩
      cases b with
      | true =>
        rcases hC with ⟨h, _⟩ | ⟨_, hL, N, F, _⟩
        · cases h
        · exact absurd ⟨N, F.vp hL⟩ hno
      | false => exact ⟨n, rfl, B1⟩
    clear C hT hby P hno
    go_enter Tryz.func14, Tryz.ntmps14
    go_wp2_with fail
    refine H1.out.mono ?_
    rintro e w1 ⟨n, rfl, B1⟩
    go_wp2_with fail
    refine (example_any w1).mono ?_
    rintro e w2 ⟨rfl, hw2⟩
    have C2 := laidE w1
    rw [← hw2] at C2
    have B2 : Below w.heap.size w w2 := by rw [hw2]; exact B1.alloc B1.size _
    have HX : Hid (Below w.heap.size w w2 ∧ Laid w2 w1.heap.size 0 10 10 cE) := ⟨B2, C2⟩
    clear hw2 C2 B1 B2
    go_wp2_with fail
    go_ret
    exact ⟨HX.out.1, _, _, _, HX.out.2, rfl⟩

/-- What a run of the program answers. -/
structure XRun (g : PG) (s : ByteArray) (w : World) (e : Ending) (w' : World) : Prop where
  bel : Below w.heap.size w w'
  ans : ∃ (so : ByteArray) (st : Int) (gc : Nat), w.heap.size ≤ gc ∧ gc < w'.heap.size ∧ (∀ p, p < 64 → w'.cell? ⟨gc, p, none⟩ = some (.int .u8 ((g.R s).cov p))) ∧ e = .returned (.tuple #[.agg #[.int .i64 (g.R s).kind, .int .i64 (g.R s).fault, .int .i64 (g.R s).place, .string so, .int .i64 st], .slice (some ⟨gc, 0, none⟩) 64 64, .int .i64 0])
theorem xRun_pg (w : World) (cb co cap : Nat) (g : PG) (ok : PGok g) (C : Laid w cb co g.L cap g.c) (hT : Tab w) (s : ByteArray) (hs : s.size ≤ 24) :
    Calls Tryz.prog 17 #[.slice (some ⟨cb, co, none⟩) g.L cap, .string s, .int .i64 g.fuel] w (XRun g s w) := by
  refine (xRun_any w cb co g.L cap g.N g.c ok.vp C hT s g.fuel hs (by have := ok.fuel0; omega) ok.fuel1).mono ?_
  rintro e w3 ⟨n, τ, h1, h2, h3, B3, gg, hgg, hcov, rfl⟩
  subst h1
  have hR : g.R s = shOf (after g.c (entAt (bgn g.c g.N) g.L) g.fuel (ρ0 s) n) := shows_at ⟨h2, h3⟩
  refine ⟨B3, _, _, gg, hgg, (Array.getElem?_eq_some_iff.1 hcov).1, fun p hp => ?_, by rw [hR]; rfl⟩
  rw [hR, cell_of_row w3 gg _ _ _ _ hcov]
  exact covL_at _ p hp
end Go.Proofs.YtflenkppcclclaaGreatDoor

namespace Go.Proofs
open Go.Shelf
def Tryz.lays169_ren : Go.Shelf.Ren := ⟨fun | 169 => 91 | n => n, fun | 70 => 141 | 9 => 9 | 0 => 0 | 72 => 143 | 37 => 25 | 127 => 196 | 3 => 3 | 5 => 5 | n => n, fun | n => n⟩
theorem Tryz.lays169 : Go.Proofs.Lays.n169 Tryz.prog Tryz.lays169_ren := {
  mixed := by kernel_rfl
  f169 := Tryz.func91.trans (congrArg some (by kernel_rfl))
  t0 := Tryz.underlying0
  a0 := Tryz.isAgg0
  z0 := Tryz.sizeOf0
  v0 := Tryz.zeroValue0
  t3 := Tryz.underlying3
  a3 := Tryz.isAgg3
  z3 := Tryz.sizeOf3
  v3 := Tryz.zeroValue3
  t9 := Tryz.underlying9
  a9 := Tryz.isAgg9
  z9 := Tryz.sizeOf9
  v9 := Tryz.zeroValue9
  t37 := Tryz.underlying25
  a37 := Tryz.isAgg25
  z37 := Tryz.sizeOf25
  v37 := Tryz.zeroValue25
  t70 := Tryz.underlying141
  a70 := Tryz.isAgg141
  z70 := Tryz.sizeOf141
  v70 := Tryz.zeroValue141
  t72 := Tryz.underlying143
  a72 := Tryz.isAgg143
  z72 := Tryz.sizeOf143
  v72 := Tryz.zeroValue143
  t127 := Tryz.underlying196
  a127 := Tryz.isAgg196
  z127 := Tryz.sizeOf196
  v127 := Tryz.zeroValue196 }
theorem Tryz.Builder_Extra_169 : Builder.Extra Tryz.prog Tryz.lays169_ren := {
  sizeBuilder := by kernel_rfl
  liesBuilder := by kernel_rfl
  t5 := Tryz.underlying5
  a5 := Tryz.isAgg5
  z5 := Tryz.sizeOf5
  v5 := Tryz.zeroValue5
  infoByte := by kernel_rfl
  cellsByte := by kernel_rfl
  sizeByte := by kernel_rfl
  neB5 := by decide }
open Go.RowKit in
theorem Tryz.Builder_String_any (B b : Nat) (l : List UInt8) (w : World) (h : Lib.IsBuilder 143 5 B b (Lib.byteCells l) w) (hBw : B ≤ w.heap.size) :
    Calls Tryz.prog 91 #[.pointer (some ⟨b, 0, none⟩)] w fun e w' => e = .returned (.string ⟨l.toArray⟩) ∧ Below B w w' := Any.Builder_String_any Tryz.lays169 Tryz.Builder_Extra_169 B b l w h hBw
def Tryz.lays137_ren : Go.Shelf.Ren := ⟨fun | 137 => 192 | 217 => 223 | 266 => 236 | n => n, fun | 9 => 9 | 5 => 5 | 3 => 3 | n => n, fun | n => n⟩
theorem Tryz.lays137 : Go.Proofs.Lays.n137 Tryz.prog Tryz.lays137_ren := {
  mixed := by kernel_rfl
  f137 := Tryz.func192.trans (congrArg some (by kernel_rfl))
  f217 := Tryz.func223.trans (congrArg some (by kernel_rfl))
  f266 := Tryz.func236.trans (congrArg some (by kernel_rfl))
  t3 := Tryz.underlying3
  a3 := Tryz.isAgg3
  z3 := Tryz.sizeOf3
  v3 := Tryz.zeroValue3
  t5 := Tryz.underlying5
  a5 := Tryz.isAgg5
  z5 := Tryz.sizeOf5
  v5 := Tryz.zeroValue5
  t9 := Tryz.underlying9
  a9 := Tryz.isAgg9
  z9 := Tryz.sizeOf9
  v9 := Tryz.zeroValue9 }
open Go.RowKit in
theorem Tryz.strings_IndexByte (s : ByteArray) (c : Int) (w : World) :
    Calls Tryz.prog 192 #[.string s, .int .u8 c] w fun e w' => e = .returned (.int .i64 (Lib.indexByte s.data.toList c.toNat.toUInt8)) ∧ w' = w := Any.strings_IndexByte Tryz.lays137 s c w
def Tryz.laysM316_ren : Go.Shelf.Ren := ⟨fun | 316 => 125 | n => n, fun | 9 => 9 | 3 => 3 | 4 => 4 | 37 => 25 | 0 => 0 | 127 => 196 | 5 => 5 | n => n, fun | n => n⟩
theorem Tryz.laysM316 : Go.Proofs.LaysM.n316 Tryz.prog Tryz.laysM316_ren := {
  mixed := by kernel_rfl
  f316 := Tryz.func125.trans (congrArg some (by kernel_rfl))
  t0 := Tryz.underlying0
  a0 := Tryz.isAgg0
  z0 := Tryz.sizeOf0
  v0 := Tryz.zeroValue0
  t3 := Tryz.underlying3
  a3 := Tryz.isAgg3
  z3 := Tryz.sizeOf3
  v3 := Tryz.zeroValue3
  t4 := Tryz.underlying4
  a4 := Tryz.isAgg4
  z4 := Tryz.sizeOf4
  v4 := Tryz.zeroValue4
  t9 := Tryz.underlying9
  a9 := Tryz.isAgg9
  z9 := Tryz.sizeOf9
  v9 := Tryz.zeroValue9
  t37 := Tryz.underlying25
  a37 := Tryz.isAgg25
  z37 := Tryz.sizeOf25
  v37 := Tryz.zeroValue25
  t127 := Tryz.underlying196
  a127 := Tryz.isAgg196
  z127 := Tryz.sizeOf196
  v127 := Tryz.zeroValue196
  t5 := Tryz.underlying5
  a5 := Tryz.isAgg5
  z5 := Tryz.sizeOf5
  v5 := Tryz.zeroValue5
  i0 := by kernel_rfl
  i3 := by kernel_rfl
  i4 := by kernel_rfl
  i5 := by kernel_rfl
  i9 := by kernel_rfl
  i37 := by kernel_rfl
  i127 := by kernel_rfl }
open Go.RowKit in
theorem Tryz.stringslite_Clone (s : ByteArray) (w : World) (hlim : s.size ≤ 281474976710656) :
    Calls Tryz.prog 125 #[.string s] w fun e w' => e = .returned (.string s) ∧ Below w.heap.size w w' := Any.stringslite_Clone Tryz.laysM316 s w hlim
def Tryz.lays219_ren : Go.Shelf.Ren := ⟨fun | 219 => 191 | 217 => 223 | 225 => 224 | 224 => 225 | 267 => 226 | 266 => 236 | 314 => 237 | n => n, fun | 9 => 9 | 3 => 3 | 4 => 4 | 5 => 5 | 46 => 136 | 146 => 279 | 51 => 241 | n => n, fun | 1 => 1 | n => n⟩
theorem Tryz.lays219 : Go.Proofs.Lays.n219 Tryz.prog Tryz.lays219_ren := {
  mixed := by kernel_rfl
  f217 := Tryz.func223.trans (congrArg some (by kernel_rfl))
  f219 := Tryz.func191.trans (congrArg some (by kernel_rfl))
  f224 := Tryz.func225.trans (congrArg some (by kernel_rfl))
  f225 := Tryz.func224.trans (congrArg some (by kernel_rfl))
  f266 := Tryz.func236.trans (congrArg some (by kernel_rfl))
  f267 := Tryz.func226.trans (congrArg some (by kernel_rfl))
  f314 := Tryz.func237.trans (congrArg some (by kernel_rfl))
  t3 := Tryz.underlying3
  a3 := Tryz.isAgg3
  z3 := Tryz.sizeOf3
  v3 := Tryz.zeroValue3
  t4 := Tryz.underlying4
  a4 := Tryz.isAgg4
  z4 := Tryz.sizeOf4
  v4 := Tryz.zeroValue4
  t5 := Tryz.underlying5
  a5 := Tryz.isAgg5
  z5 := Tryz.sizeOf5
  v5 := Tryz.zeroValue5
  t9 := Tryz.underlying9
  a9 := Tryz.isAgg9
  z9 := Tryz.sizeOf9
  v9 := Tryz.zeroValue9
  t46 := Tryz.underlying136
  a46 := Tryz.isAgg136
  z46 := Tryz.sizeOf136
  v46 := Tryz.zeroValue136
  t51 := Tryz.underlying241
  a51 := Tryz.isAgg241
  z51 := Tryz.sizeOf241
  v51 := Tryz.zeroValue241
  t146 := Tryz.underlying279
  a146 := Tryz.isAgg279
  z146 := Tryz.sizeOf279
  v146 := Tryz.zeroValue279
  g1 := by kernel_rfl }
open Go.RowKit Go.Lib in
theorem Tryz.stringslite_Index_one (s : ByteArray) (c : UInt8) (w : World) :
    Calls Tryz.prog 191 #[.string s, .string ⟨#[c]⟩] w fun e w' => e = .returned (.int .i64 (Lib.indexByte s.data.toList c)) ∧ w' = w := Any.stringslite_Index_one Tryz.lays219 s c w
def Tryz.lays189_ren : Go.Shelf.Ren := ⟨fun | 189 => 84 | 125 => 138 | 257 => 137 | 128 => 186 | 129 => 187 | 294 => 177 | 295 => 178 | 296 => 179 | 297 => 180 | 298 => 181 | 299 => 182 | 216 => 183 | 300 => 184 | 301 => 185 | 328 => 217 | 329 => 218 | 330 => 219 | 331 => 220 | 332 => 221 | 215 => 222 | 343 => 235 | n => n, fun | 28 => 45 | 3 => 3 | 46 => 136 | 0 => 0 | 51 => 241 | 53 => 27 | 4 => 4 | 183 => 234 | 182 => 233 | 131 => 84 | 5 => 5 | 9 => 9 | 218 => 264 | 222 => 267 | 228 => 276 | 229 => 277 | n => n, fun | n => n⟩
theorem Tryz.lays189 : Go.Proofs.Lays.n189 Tryz.prog Tryz.lays189_ren := {
  mixed := by kernel_rfl
  f125 := Tryz.func138.trans (congrArg some (by kernel_rfl))
  f128 := Tryz.func186.trans (congrArg some (by kernel_rfl))
  f129 := Tryz.func187.trans (congrArg some (by kernel_rfl))
  f189 := Tryz.func84.trans (congrArg some (by kernel_rfl))
  f215 := Tryz.func222.trans (congrArg some (by kernel_rfl))
  f216 := Tryz.func183.trans (congrArg some (by kernel_rfl))
  f257 := Tryz.func137.trans (congrArg some (by kernel_rfl))
  f294 := Tryz.func177.trans (congrArg some (by kernel_rfl))
  f295 := Tryz.func178.trans (congrArg some (by kernel_rfl))
  f296 := Tryz.func179.trans (congrArg some (by kernel_rfl))
  f297 := Tryz.func180.trans (congrArg some (by kernel_rfl))
  f298 := Tryz.func181.trans (congrArg some (by kernel_rfl))
  f299 := Tryz.func182.trans (congrArg some (by kernel_rfl))
  f300 := Tryz.func184.trans (congrArg some (by kernel_rfl))
  f301 := Tryz.func185.trans (congrArg some (by kernel_rfl))
  f328 := Tryz.func217.trans (congrArg some (by kernel_rfl))
  f329 := Tryz.func218.trans (congrArg some (by kernel_rfl))
  f330 := Tryz.func219.trans (congrArg some (by kernel_rfl))
  f331 := Tryz.func220.trans (congrArg some (by kernel_rfl))
  f332 := Tryz.func221.trans (congrArg some (by kernel_rfl))
  f343 := Tryz.func235.trans (congrArg some (by kernel_rfl))
  t0 := Tryz.underlying0
  a0 := Tryz.isAgg0
  z0 := Tryz.sizeOf0
  v0 := Tryz.zeroValue0
  t3 := Tryz.underlying3
  a3 := Tryz.isAgg3
  z3 := Tryz.sizeOf3
  v3 := Tryz.zeroValue3
  t4 := Tryz.underlying4
  a4 := Tryz.isAgg4
  z4 := Tryz.sizeOf4
  v4 := Tryz.zeroValue4
  t5 := Tryz.underlying5
  a5 := Tryz.isAgg5
  z5 := Tryz.sizeOf5
  v5 := Tryz.zeroValue5
  t9 := Tryz.underlying9
  a9 := Tryz.isAgg9
  z9 := Tryz.sizeOf9
  v9 := Tryz.zeroValue9
  t28 := Tryz.underlying45
  a28 := Tryz.isAgg45
  z28 := Tryz.sizeOf45
  v28 := Tryz.zeroValue45
  t46 := Tryz.underlying136
  a46 := Tryz.isAgg136
  z46 := Tryz.sizeOf136
  v46 := Tryz.zeroValue136
  t51 := Tryz.underlying241
  a51 := Tryz.isAgg241
  z51 := Tryz.sizeOf241
  v51 := Tryz.zeroValue241
  t53 := Tryz.underlying27
  a53 := Tryz.isAgg27
  z53 := Tryz.sizeOf27
  v53 := Tryz.zeroValue27
  t131 := Tryz.underlying84
  a131 := Tryz.isAgg84
  z131 := Tryz.sizeOf84
  v131 := Tryz.zeroValue84
  t182 := Tryz.underlying233
  a182 := Tryz.isAgg233
  z182 := Tryz.sizeOf233
  v182 := Tryz.zeroValue233
  t183 := Tryz.underlying234
  a183 := Tryz.isAgg234
  z183 := Tryz.sizeOf234
  v183 := Tryz.zeroValue234
  t218 := Tryz.underlying264
  a218 := Tryz.isAgg264
  z218 := Tryz.sizeOf264
  v218 := Tryz.zeroValue264
  t222 := Tryz.underlying267
  a222 := Tryz.isAgg267
  z222 := Tryz.sizeOf267
  v222 := Tryz.zeroValue267
  t228 := Tryz.underlying276
  a228 := Tryz.isAgg276
  z228 := Tryz.sizeOf276
  v228 := Tryz.zeroValue276
  t229 := Tryz.underlying277
  a229 := Tryz.isAgg277
  z229 := Tryz.sizeOf277
  v229 := Tryz.zeroValue277 }
open Go.Sort Go.RowKit in
theorem Tryz.slices_Sort_int (blk off cap : Nat) (zs : List Int) (w : World) (hH : Holds (Value.int .i64) w blk off zs.toArray) (hblk : blk < w.heap.size) (hsz : zs.length < 4611686018427387904) :
    Calls Tryz.prog 84 #[.slice (some ⟨blk, off, none⟩) zs.length cap] w fun e w' =>
      e = .returned (.tuple #[]) ∧ ∃ n os, w' = grow (putRow (Value.int .i64) (Sort.ahead w n) blk off (zs.mergeSort fun x y => decide (x ≤ y)).toArray) os := Any.slices_Sort_int Tryz.lays189 blk off cap zs w hH hblk hsz
def Tryz.laysNm215_ren : Go.Shelf.Ren := ⟨fun | 15 => 136 | n => n, fun | 22 => 45 | 3 => 3 | 4 => 4 | n => n, fun | n => n⟩
theorem Tryz.laysNm215 : Go.Proofs.Lays2.n15 Tryz.prog Tryz.laysNm215_ren := {
  mixed := by kernel_rfl
  f15 := Tryz.func136.trans (congrArg some (by kernel_rfl))
  t3 := Tryz.underlying3
  a3 := Tryz.isAgg3
  z3 := Tryz.sizeOf3
  v3 := Tryz.zeroValue3
  t4 := Tryz.underlying4
  a4 := Tryz.isAgg4
  z4 := Tryz.sizeOf4
  v4 := Tryz.zeroValue4
  t22 := Tryz.underlying45
  a22 := Tryz.isAgg45
  z22 := Tryz.sizeOf45
  v22 := Tryz.zeroValue45
  i3 := by kernel_rfl }
open Go.RowKit Go.Lib in
theorem Tryz.slices_Clone_int (b off n c : Nat) (zs : List Int) (w : World) (hz : n ≤ zs.length) (hbig : n * 8 ≤ 140737488355328) (hc : ∀ j, j < zs.length → w.cell? ⟨b, off + j, none⟩ = some (.int .i64 (zs.getD j 0))) :
    Calls Tryz.prog 136 #[.slice (some ⟨b, off, none⟩) n c] w fun e w' => ∃ v', e = .returned v' ∧ w'.ownsRow w.heap.size 3 1 v' n ((zs.take n).map (Value.int .i64)) ∧ v' ≠ .slice none 0 0 ∧ Below w.heap.size w w' := Any.slices_Clone_int Tryz.laysNm215 b off n c zs w hz hbig hc
open Go.RowKit Go.Lib in
theorem Tryz.slices_Clone_int_nil (n c : Nat) (w : World) :
    Calls Tryz.prog 136 #[.slice none n c] w fun e w' => e = .returned (.slice none 0 0) ∧ w' = w := Any.slices_Clone_int_nil Tryz.laysNm215 n c w
open Go.RowKit Go.Lib in
theorem Tryz.slices_Clone_int_zero (a : Addr) (c : Nat) (w : World) :
    Calls Tryz.prog 136 #[.slice (some a) 0 c] w fun e w' => ∃ v', e = .returned v' ∧ w'.ownsRow w.heap.size 3 1 v' 0 [] ∧ v' ≠ .slice none 0 0 ∧ Below w.heap.size w w' := Any.slices_Clone_int_zero Tryz.laysNm215 a c w
open Go.RowKit Go.Sort in
theorem Tryz.slices_Sort_int_none (p : Option Addr) (cap : Nat) (w : World) :
    Calls Tryz.prog 84 #[.slice p 0 cap] w fun e w' => e = .returned (.tuple #[]) ∧ w' = w := Any.slices_Sort_int_none Tryz.lays189 p cap w
def Tryz.laysSlK4_ren : Go.Shelf.Ren := ⟨fun | 4 => 94 | n => n, fun | 22 => 25 | 4 => 4 | 5 => 5 | n => n, fun | n => n⟩
theorem Tryz.laysSlK4 : Go.Proofs.SlLaysK.n4 Tryz.prog Tryz.laysSlK4_ren := {
  mixed := by kernel_rfl
  f4 := Tryz.func94.trans (congrArg some (by kernel_rfl))
  t4 := Tryz.underlying4
  a4 := Tryz.isAgg4
  z4 := Tryz.sizeOf4
  v4 := Tryz.zeroValue4
  t22 := Tryz.underlying25
  a22 := Tryz.isAgg25
  z22 := Tryz.sizeOf25
  v22 := Tryz.zeroValue25
  t5 := Tryz.underlying5
  i5 := by kernel_rfl }
open Go.RowKit Go.Lib in
theorem Tryz.bytes_Clone_at (a : Addr) (n c : Nat) (xs : List Int) (w : World) (hx : xs.length = n) (hbig : n ≤ 140737488355328) (hc : ∀ i, i < n → w.cell? (a.add i) = some (.int .u8 (xs.getD i 0))) :
    Calls Tryz.prog 94 #[.slice (some a) n c] w fun e w' => ∃ v', e = .returned v' ∧ w'.ownsRow w.heap.size 5 1 v' n (xs.map (Value.int .u8)) ∧ v' ≠ .slice none 0 0 ∧ Below w.heap.size w w' := Any.bytes_Clone_at Tryz.laysSlK4 a n c xs w hx hbig hc
open Go.RowKit Go.Lib in
theorem Tryz.bytes_Clone_nil (n c : Nat) (w : World) :
    Calls Tryz.prog 94 #[.slice none n c] w fun e w' => e = .returned (.slice none 0 0) ∧ w' = w := Any.bytes_Clone_nil Tryz.laysSlK4 n c w
end Go.Proofs

