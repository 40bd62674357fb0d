import Derived.Test.YtflenkppcclclaaGreatDoorM28
import Derived.Test.YtflenkppcclclaaGreatDoorM15
import Derived.Test.YtflenkppcclclaaGreatDoorM37
import Derived.Test.YtflenkppcclclaaGreatDoorM39
namespace Go.Proofs.YtflenkppcclclaaGreatDoor
open Go.RowKit

/-! The document's example, prowled. -/
def gE : PG := ⟨cE, 10, 7, 100⟩
theorem okE : PGok gE := ⟨vE, by decide, by decide⟩
theorem after_add (c ent : Nat → Int) (fuel : Int) (ρ : RS) (m : Nat) : ∀ n, after c ent fuel ρ (m + n) = after c ent fuel (after c ent fuel ρ m) n
  | 0 => rfl
  | n + 1 => by show roundS c ent fuel (after c ent fuel ρ (m + n)) = _; rw [after_add c ent fuel ρ m n]; rfl
/-- Behind three steps: v is what Equal laid. -/
def fromE (v : Int) (inp : ByteArray) : RS :=
  { σ := { (after cE entE 100 (ρ0 ⟨#[97]⟩) 3).σ with stack := [v], input := inp }, cnt := (after cE entE 100 (ρ0 ⟨#[97]⟩) 3).cnt, ah := (after cE entE 100 (ρ0 ⟨#[97]⟩) 3).ah }
theorem threeN (inp : ByteArray) (h : inp.size = 0) : after cE entE 100 (ρ0 inp) 3 = fromE (tru (decide (bits .xor .u16 256 97 < 1))) inp ∧ (∀ m, m < 3 → (after cE entE 100 (ρ0 inp) m).σ.ended = false) := by
  have hr : roundS cE entE 100 (ρ0 inp) = { σ := { (ρ0 inp).σ with stack := [256], steps := 1, next := 1, place := 0 }, cnt := (after cE entE 100 (ρ0 ⟨#[97]⟩) 1).cnt, ah := (after cE entE 100 (ρ0 ⟨#[97]⟩) 1).ah } := by
    have hd : advS { (ρ0 inp).σ with place := (ρ0 inp).σ.next } 2 (second cE 0) 100 = { (ρ0 inp).σ with stack := [256], steps := 1, next := 1, place := 0 } := by
      show doS { (ρ0 inp).σ with place := 0, steps := 1, next := 1 } 2 0 = _
      unfold doS
      dsimp only
      rw [dif_neg (by show ¬ 0 < inp.size; omega)]
      rfl
    have : advS { (ρ0 inp).σ with place := (ρ0 inp).σ.next } 2 (second cE (ρ0 inp).σ.next.toNat) 100 = { (ρ0 inp).σ with stack := [256], steps := 1, next := 1, place := 0 } := hd
    show RS.mk (advS { (ρ0 inp).σ with place := (ρ0 inp).σ.next } 2 (second cE (ρ0 inp).σ.next.toNat) 100) _ _ = _
    rw [this]
    rfl
  refine ⟨?_, ?_⟩
  · show roundS cE entE 100 (roundS cE entE 100 (roundS cE entE 100 (ρ0 inp))) = _
    rw [hr]
    rfl
  · intro m hm
    match m, hm with
    | 0, _ => rfl
    | 1, _ => show (roundS cE entE 100 (ρ0 inp)).σ.ended = false; rw [hr]; rfl
    | 2, _ => show (roundS cE entE 100 (roundS cE entE 100 (ρ0 inp))).σ.ended = false; rw [hr]; rfl
    | m + 3, hm => omega
theorem threeS (inp : ByteArray) (h : 0 < inp.size) : after cE entE 100 (ρ0 inp) 3 = fromE (tru (decide (bits .xor .u16 ((inp[0]'h).toNat : Int) 97 < 1))) (inp.extract 1 inp.size) ∧ (∀ m, m < 3 → (after cE entE 100 (ρ0 inp) m).σ.ended = false) := by
  have hr : roundS cE entE 100 (ρ0 inp) = { σ := { (ρ0 inp).σ with stack := [((inp[0]'h).toNat : Int)], input := inp.extract 1 inp.size, steps := 1, next := 1, place := 0 }, cnt := (after cE entE 100 (ρ0 ⟨#[97]⟩) 1).cnt, ah := (after cE entE 100 (ρ0 ⟨#[97]⟩) 1).ah } := by
    have hd : advS { (ρ0 inp).σ with place := (ρ0 inp).σ.next } 2 (second cE 0) 100 = { (ρ0 inp).σ with stack := [((inp[0]'h).toNat : Int)], input := inp.extract 1 inp.size, steps := 1, next := 1, place := 0 } := by
      show doS { (ρ0 inp).σ with place := 0, steps := 1, next := 1 } 2 0 = _
      unfold doS
      dsimp only
      rw [dif_pos (show 0 < (ρ0 inp).σ.input.size from h)]
      rfl
    have : advS { (ρ0 inp).σ with place := (ρ0 inp).σ.next } 2 (second cE (ρ0 inp).σ.next.toNat) 100 = { (ρ0 inp).σ with stack := [((inp[0]'h).toNat : Int)], input := inp.extract 1 inp.size, steps := 1, next := 1, place := 0 } := hd
    show RS.mk (advS { (ρ0 inp).σ with place := (ρ0 inp).σ.next } 2 (second cE (ρ0 inp).σ.next.toNat) 100) _ _ = _
    rw [this]
    rfl
  refine ⟨?_, ?_⟩
  · show roundS cE entE 100 (roundS cE entE 100 (roundS cE entE 100 (ρ0 inp))) = _
    rw [hr]
    rfl
  · intro m hm
    match m, hm with
    | 0, _ => rfl
    | 1, _ => show (roundS cE entE 100 (ρ0 inp)).σ.ended = false; rw [hr]; rfl
    | 2, _ => show (roundS cE entE 100 (roundS cE entE 100 (ρ0 inp))).σ.ended = false; rw [hr]; rfl
    | m + 3, hm => omega
theorem eq97 : ∀ k : Fin 257, tru (decide (bits .xor .u16 ((k : Nat) : Int) 97 < 1)) = if (k : Nat) = 97 then 1 else 0 := by decide +kernel
def covA : Nat → Int := fun i => classS ((rA 5).cnt i)
def covB : Nat → Int := fun i => classS ((rB 5).cnt i)
def shA : Sh := ⟨1, 23, 6, covA⟩
def shB : Sh := ⟨0, 0, 9, covB⟩
theorem endE (v : Int) (inp : ByteArray) (hv : v = 0 ∨ v = 1) : (after cE entE 100 (fromE v inp) 2).σ.ended = true ∧ (after cE entE 100 (fromE v inp) 1).σ.ended = false ∧ (fromE v inp).σ.ended = false ∧ shOf (after cE entE 100 (fromE v inp) 2) = if v = 1 then shA else shB := by
  rcases hv with rfl | rfl
  · exact ⟨by kernel_rfl, by kernel_rfl, by kernel_rfl, by rw [if_neg (by decide)]; kernel_rfl⟩
  · exact ⟨by kernel_rfl, by kernel_rfl, by kernel_rfl, by rw [if_pos rfl]; kernel_rfl⟩
theorem showsE {inp inp' : ByteArray} {v : Int} (hv : v = 0 ∨ v = 1) (h3 : after cE entE 100 (ρ0 inp) 3 = fromE v inp') (hm : ∀ m, m < 3 → (after cE entE 100 (ρ0 inp) m).σ.ended = false) : gE.R inp = if v = 1 then shA else shB := by
  obtain ⟨e1, e2, e3, e4⟩ := endE v inp' hv
  have h5 : after cE entE 100 (ρ0 inp) 5 = after cE entE 100 (fromE v inp') 2 := by rw [show 5 = 3 + 2 from rfl, after_add, h3]
  have h4 : after cE entE 100 (ρ0 inp) 4 = after cE entE 100 (fromE v inp') 1 := by rw [show 4 = 3 + 1 from rfl, after_add, h3]
  have hE : EndsAt cE entE 100 inp 5 := by
    refine ⟨by rw [h5]; exact e1, fun m hlt => ?_⟩
    by_cases c : m < 3
    · exact hm m c
    · have : m = 3 ∨ m = 4 := by omega
      rcases this with rfl | rfl
      · rw [h3]; exact e3
      · rw [h4]; exact e2
  have : gE.R inp = shOf (after cE entE 100 (ρ0 inp) 5) := shows_at hE
  rw [this, h5, e4]
/-- What a run of the example shows: it hangs on the first byte alone. -/
def head97 (s : ByteArray) : Bool := decide (s.data.toList.head? = some 97)
theorem exR (s : ByteArray) : gE.R s = if head97 s then shA else shB := by
  by_cases h : 0 < s.size
  · obtain ⟨h3, hm⟩ := threeS s h
    have hlt : (s[0]'h).toNat < 257 := by have := (s[0]'h).toNat_lt; omega
    have e := eq97 ⟨(s[0]'h).toNat, hlt⟩
    have hh : s.data.toList.head? = some (s[0]'h) := by
      have h' : 0 < s.data.toList.length := by rw [Array.length_toList]; exact h
      rw [List.head?_eq_getElem?, List.getElem?_eq_getElem h']
      rfl
    by_cases hx : (s[0]'h).toNat = 97
    · have hv : tru (decide (bits .xor .u16 ((s[0]'h).toNat : Int) 97 < 1)) = 1 := by rw [show tru (decide (bits .xor .u16 ((s[0]'h).toNat : Int) 97 < 1)) = _ from e, if_pos hx]
      rw [hv] at h3
      rw [showsE (Or.inr rfl) h3 hm, if_pos rfl]
      have : head97 s = true := by
        unfold head97
        rw [hh]
        have : s[0]'h = 97 := UInt8.toNat_inj.1 (by rw [hx]; rfl)
        rw [this]
        rfl
      rw [this, if_pos rfl]
    · have hv : tru (decide (bits .xor .u16 ((s[0]'h).toNat : Int) 97 < 1)) = 0 := by rw [show tru (decide (bits .xor .u16 ((s[0]'h).toNat : Int) 97 < 1)) = _ from e, if_neg hx]
      rw [hv] at h3
      rw [showsE (Or.inl rfl) h3 hm, if_neg (by decide)]
      have : head97 s = false := by
        unfold head97
        rw [hh, decide_eq_false_iff_not]
        intro c
        injection c with c
        exact hx (by rw [c]; rfl)
      rw [this, if_neg (by decide)]
  · obtain ⟨h3, hm⟩ := threeN s (by omega)
    have e := eq97 ⟨256, by omega⟩
    have hv : tru (decide (bits .xor .u16 256 97 < 1)) = 0 := e
    rw [hv] at h3
    rw [showsE (Or.inl rfl) h3 hm, if_neg (by decide)]
    have : head97 s = false := by
      unfold head97
      have hl : s.data.toList = [] := List.eq_nil_of_length_eq_zero (by rw [Array.length_toList]; show s.size = 0; omega)
      rw [hl]
      rfl
    rw [this, if_neg (by decide)]

theorem newB : newS [] covB = true := by decide +kernel
theorem new_same (l : List Inp) (k : Inp) (hk : k ∈ l) : newS l k.cov = false := by
  unfold newS
  rw [List.any_eq_false]
  intro p _
  simp only [Bool.and_eq_true, decide_eq_true_eq, Bool.not_eq_true', not_and]
  intro h0 hf
  rw [List.any_eq_false] at hf
  have := hf k hk
  unfold hasB at this
  simp [h0] at this
def tB : ByteArray := ⟨#[98]⟩
def tA : ByteArray := ⟨#[97]⟩
/-- What the example's prowl has, ahead of its crash, behind n changes. -/
structure E1 (h : HS) (n : Nat) : Prop where
  kept : h.kept = [⟨tB, covB⟩]
  found : h.found = []
  hist : h.hist = [(true, tB)]
  entry : h.entry = 0
  changes : h.changes = n
  worked : h.worked 0 = false
structure E2 (h : HS) : Prop where
  kept : h.kept = [⟨tB, covB⟩]
  found : h.found = [⟨tA, 23, 6⟩]
  hist : h.hist = [(true, tB), (false, tA)]
theorem e1_small {h : HS} {n : Nat} (e : E1 h n) : h.small = 31 := by
  unfold HS.small
  rw [e.entry, e.worked]
  unfold HS.text
  rw [e.kept]
  rfl
theorem e1_text {h : HS} {n : Nat} (e : E1 h n) (hn : n < 31) : h.chText = strOfNums ((mutL [98] n).getD []) := by
  unfold HS.chText
  rw [if_pos (by rw [e1_small e, e.changes]; exact hn), e.entry, e.changes]
  have : h.text 0 = tB := by unfold HS.text; rw [e.kept]; rfl
  rw [this]
  rfl
theorem mutE : ∀ n : Fin 14, head97 (strOfNums ((mutL [98] n).getD [])) = false := by decide +kernel
theorem mutE14 : strOfNums ((mutL [98] 14).getD []) = tA := by decide +kernel
theorem e1_zero (seed : Int) : E1 (triesS gE.R (HS.zero seed) [tB]) 0 := by
  have hR : gE.R tB = shB := by rw [exR]; rfl
  have : triesS gE.R (HS.zero seed) [tB] = { HS.zero seed with tries := 1, kept := [⟨tB, covB⟩], hist := [(true, tB)] } := by
    show (tryS gE.R (HS.zero seed) tB).1 = _
    unfold tryS
    rw [hR]
    rw [if_neg (by decide), if_neg (by decide), if_neg (by rintro (c | c); (exact absurd (show 30 ≤ 0 from c) (by omega)); (rw [show newS (HS.zero seed).kept shB.cov = newS [] covB from rfl, newB] at c; cases c))]
    rfl
  rw [this]
  exact ⟨rfl, rfl, rfl, rfl, rfl, rfl⟩
theorem one_rest (R : ByteArray → Sh) (h : HS) (hne : h.changes + 1 ≠ (tryS R { h with seed := h.chSeed } h.chText).1.small + 16) : (h.one R).entry = h.entry ∧ (h.one R).changes = h.changes + 1 ∧ (h.one R).worked = h.worked := by
  obtain ⟨r1, r2, _, r4, _⟩ := try_rest R { h with seed := h.chSeed } h.chText
  unfold HS.one
  dsimp only
  rw [if_neg]
  · exact ⟨r1, by show (tryS R { h with seed := h.chSeed } h.chText).1.changes + 1 = _; rw [r2], r4⟩
  · intro c
    have c' : (tryS R { h with seed := h.chSeed } h.chText).1.changes + 1 = (tryS R { h with seed := h.chSeed } h.chText).1.small + 16 := c
    rw [r2] at c'
    exact hne c'
theorem try_B {h : HS} {s : ByteArray} (hk : h.kept = [⟨tB, covB⟩]) (hs : head97 s = false) : Alike h (tryS gE.R h s).1 := by
  have hR : gE.R s = shB := by rw [exR, hs]; rfl
  unfold tryS
  rw [hR, if_neg (by decide), if_neg (by decide), if_pos (Or.inr (by rw [hk]; exact new_same _ ⟨tB, covB⟩ (by simp)))]
  exact ⟨rfl, rfl, rfl⟩
theorem e1_one {h : HS} {n : Nat} (e : E1 h n) (hn : n < 14) : E1 (h.one gE.R) (n + 1) := by
  have ht := e1_text e (by omega)
  have hh : head97 h.chText = false := by rw [ht]; exact mutE ⟨n, hn⟩
  have a := try_B (h := h) e.kept hh
  have b := a.trans (one_alike gE.R h)
  have hsm : (tryS gE.R { h with seed := h.chSeed } h.chText).1.small = 31 := by
    rw [try_small gE.R { h with seed := h.chSeed } h.chText (by show h.entry < h.kept.length; rw [e.entry, e.kept]; decide)]
    exact e1_small (h := { h with seed := h.chSeed }) ⟨e.kept, e.found, e.hist, e.entry, e.changes, e.worked⟩
  obtain ⟨r1, r2, r3⟩ := one_rest gE.R h (by rw [hsm, e.changes]; omega)
  exact ⟨by rw [b.kept]; exact e.kept, by rw [b.found]; exact e.found, by rw [b.hist]; exact e.hist, by rw [r1]; exact e.entry, by rw [r2, e.changes], by rw [r3]; exact e.worked⟩
theorem e1_last {h : HS} (e : E1 h 14) : E2 (h.one gE.R) := by
  have ht : h.chText = tA := (e1_text e (by omega)).trans mutE14
  have b := one_alike gE.R h
  have hR : gE.R tA = shA := by rw [exR]; rfl
  rw [ht] at b
  have e3 : tryS gE.R h tA = ({ h with tries := h.tries + 1, found := h.found ++ [⟨tA, 23, 6⟩], hist := h.hist ++ [(false, tA)] }, 99) := by
    unfold tryS
    rw [hR, if_pos (show shA.kind = 1 from rfl), if_neg (by rw [e.found]; decide)]
    rfl
  rw [e3] at b
  exact ⟨by rw [b.kept]; exact e.kept, by rw [b.found]; show h.found ++ _ = _; rw [e.found]; rfl, by rw [b.hist]; show h.hist ++ _ = _; rw [e.hist]; rfl⟩
theorem e2_one {h : HS} (e : E2 h) : E2 (h.one gE.R) := by
  have b := one_alike gE.R h
  have a : Alike h (tryS gE.R h h.chText).1 := by
    by_cases hh : head97 h.chText = true
    · have hR : gE.R h.chText = shA := by rw [exR, hh]; rfl
      unfold tryS
      rw [hR, if_pos (show shA.kind = 1 from rfl), if_pos (by rw [e.found]; decide)]
      exact ⟨rfl, rfl, rfl⟩
    · exact try_B e.kept (by simpa using hh)
  have c := a.trans b
  exact ⟨by rw [c.kept]; exact e.kept, by rw [c.found]; exact e.found, by rw [c.hist]; exact e.hist⟩
theorem exGo (seed : Int) : E2 ((triesS gE.R (HS.zero seed) [tB]).go gE.R 40) := by
  have h1 : ∀ n, n ≤ 14 → E1 ((triesS gE.R (HS.zero seed) [tB]).go gE.R n) n := by
    intro n
    induction n with
    | zero => intro _; exact e1_zero seed
    | succ n ih => intro hn; exact e1_one (ih (by omega)) (by omega)
  have h2 : ∀ n, E2 ((triesS gE.R (HS.zero seed) [tB]).go gE.R (15 + n)) := by
    intro n
    induction n with
    | zero => exact e1_last (h1 14 (by omega))
    | succ n ih => exact e2_one ih
  exact h2 25
end Go.Proofs.YtflenkppcclclaaGreatDoor

namespace Go.Proofs.YtflenkppcclclaaGreatDoor
open Go.RowKit

/-! The log of a hunt. -/
theorem builder_below {T e : TypeId} {B b : Nat} {p : Value} {bs : List Value} {w w' : World} (h : Lib.BuilderAt T e B b p bs w) (bb : Below w.heap.size w w') : Lib.BuilderAt T e B b p bs w' := by
  obtain ⟨hB, v, hb, hown, hne⟩ := h
  exact ⟨hB, v, (bb.block b (Array.getElem?_eq_some_iff.1 hb).1).trans hb, own_keep hown (fun k hk => bb.block k (own_blk hown hk)), hne⟩
theorem isb_below {T e : TypeId} {B b : Nat} {bs : List Value} {w w' : World} (h : Lib.IsBuilder T e B b bs w) (bb : Below w.heap.size w w') : Lib.IsBuilder T e B b bs w' := h.elim (fun c => Or.inl (builder_below c bb)) (fun c => Or.inr (builder_below c bb))
theorem str_cells (s : ByteArray) : Lib.strCells s = Lib.byteCells s.data.toList := rfl
theorem byte_cells_app (a b : List UInt8) : Lib.byteCells (a ++ b) = Lib.byteCells a ++ Lib.byteCells b := by simp [Lib.byteCells]
theorem field_crash (t : ByteArray) (f q : Int) (w : World) : (Instr.field 42 (.agg #[.string t, .int .i64 f, .int .i64 q]) 0).run Tryz.prog w = .ok (.string t) w := by kernel_rfl
/-- So much of the log is written. -/
structure LogTo (w wr : World) (h : HS) (n : Nat) : Prop where
  bel : Below w.heap.size w wr
  isb : Lib.IsBuilder 143 5 w.heap.size w.heap.size (Lib.byteCells (logB (h.hist.take n))) wr
theorem LogTo.below {w wr w' : World} {h : HS} {n : Nat} (l : LogTo w wr h n) (b : Below wr.heap.size wr w') : LogTo w w' h n := ⟨l.bel.trans (b.mono l.bel.size), isb_below l.isb b⟩
theorem LogTo.wrote {w wr : World} {h : HS} {n : Nat} (l : LogTo w wr h n) {b : Bool} {s : ByteArray} (hn : h.hist[n]? = some (b, s)) (hs : s.size ≤ 24) (hl : (logB (h.hist.take n)).length ≤ 51 * 1000000) :
    Calls Tryz.prog 88 #[.pointer (some ⟨w.heap.size, 0, none⟩), .string (strOfNums (lineL b s))] wr fun e w' => (∃ k, e = .returned (.tuple #[.int .i64 k, .nilIface])) ∧ LogTo w w' h (n + 1) := by
  have h1 := line_size b s hs
  refine (bdWrite_any w.heap.size w.heap.size _ (strOfNums (lineL b s)) wr l.isb (by rw [show (Lib.byteCells (logB (h.hist.take n))).length = (logB (h.hist.take n)).length by simp [Lib.byteCells]]; omega) l.bel.size).mono ?_
  rintro e w' ⟨rfl, hb, B⟩
  refine ⟨⟨_, rfl⟩, l.bel.trans B, Or.inr ?_⟩
  obtain ⟨hlt, hx⟩ := List.getElem?_eq_some_iff.1 hn
  rw [List.take_succ_eq_append_getElem hlt, hx, logB_snoc, byte_cells_app]
  exact hb
theorem hist_take (l : List (Bool × ByteArray)) (n : Nat) (b : Bool) (s : ByteArray) (hn : l[n]? = some (b, s)) : ((l.take (n + 1)).filterMap isK).length = ((l.take n).filterMap isK).length + (if b then 1 else 0) ∧ ((l.take (n + 1)).filterMap isF).length = ((l.take n).filterMap isF).length + (if b then 0 else 1) := by
  obtain ⟨hlt, hx⟩ := List.getElem?_eq_some_iff.1 hn
  rw [List.take_succ_eq_append_getElem hlt, hx, List.filterMap_append, List.filterMap_append]
  cases b <;> simp [isK, isF]
set_option maxHeartbeats 2000000 in
set_option maxRecDepth 100000 in
theorem hLog_any {w : World} {U : Nat → Prop} {d : HD} {g : PG} {h : HS} (p : HU w U d g h) (inv : Hinv g.R h) (hh : h.hist.length ≤ 1000000) :
    Calls Tryz.prog 44 #[.pointer (some ⟨d.H, 0, none⟩)] w fun e w' => e = .returned (.string (strOfNums (logL h.hist))) ∧ Below w.heap.size w w' := by
  have hH : d.H < w.heap.size := p.lt _ (p.inU _ (Or.inl rfl))
  obtain ⟨G, KK⟩ := p.krow
  have HA : Hid (∀ W n, Below w.heap.size w W → n < h.kept.length → Calls Tryz.prog 69 #[.pointer (some ⟨d.H, 7, none⟩), .int .i64 (n : Nat)] W fun e w' => e = .returned (.agg #[.string (h.kept.getD n in0).text, .slice (some ⟨G n, 0, none⟩) 64 64]) ∧ Below W.heap.size W w') := fun W n b hn => liAt_any W d.H d.vk G h.kept ((b.cell (p := ⟨d.H, 7, none⟩) hH).trans (p.cell 7 (by omega))) (KK.below b) n hn
  have HC : Hid (∀ W n, Below w.heap.size w W → n < h.found.length → Calls Tryz.prog 90 #[.pointer (some ⟨d.H, 8, none⟩), .int .i64 (n : Nat)] W fun e w' => e = .returned (.agg #[.string (h.found.getD n cr0).text, .int .i64 (h.found.getD n cr0).fault, .int .i64 (h.found.getD n cr0).place]) ∧ Below W.heap.size W w') := fun W n b hn => lcAt_any (p.below b) n hn
  have HI : Hid (∀ (n : Nat) (b : Bool) (s : ByteArray), h.hist[n]? = some (b, s) → s.size ≤ 24 ∧ (if b then ((h.hist.take n).filterMap isK).length < h.kept.length ∧ (h.kept.getD ((h.hist.take n).filterMap isK).length in0).text = s
      else ((h.hist.take n).filterMap isF).length < h.found.length ∧ (h.found.getD ((h.hist.take n).filterMap isF).length cr0).text = s)) := fun n b s => hist_at inv n b s
  have c9 : w.cell? ⟨d.H, 9, none⟩ = some d.vc := p.cell 9 (by omega)
  have HBL : Hid (∀ n, (logB (h.hist.take n)).length ≤ 51 * 1000000) := fun n => by
    have := logB_len (h.hist.take n) (fun x hx => by
      obtain ⟨i, hi⟩ := List.getElem?_of_mem hx
      rw [List.getElem?_take] at hi
      split at hi
      · exact (hist_at inv i x.1 x.2 hi).1
      · cases hi)
    have h2 : (h.hist.take n).length ≤ 1000000 := by rw [List.length_take]; omega
    omega
  have HR : Hid ((d.vc = .slice none 0 0 ∧ h.hist.length = 0) ∨ ∃ b cap, d.vc = .slice (some ⟨b, 0, none⟩) h.hist.length cap ∧ b < w.heap.size ∧ cap ≤ maxLen ∧ h.hist.length ≤ cap ∧ ∀ (i : Nat) (u : Value), (ccells h.hist)[i]? = some u → w.cell? ⟨b, i, none⟩ = some u) := own_form0 p.rc
  have HL0 : Hid (LogTo w (w.alloc (.cells #[.pointer none, .slice none 0 0] 143)) h 0) := ⟨(Below.refl _ _).alloc (Nat.le_refl _) _, Lib.fresh_isBuilder 143 5 w⟩
  have hvf : ∃ ao cp, d.vc = .slice ao h.hist.length cp := by
    rcases HR.out with ⟨e, h0⟩ | ⟨b, cp, e, _⟩
    · exact ⟨none, 0, by rw [e, h0]⟩
    · exact ⟨_, cp, e⟩
  obtain ⟨ao, cp, hvc⟩ := hvf
  rw [hvc] at c9 HR
  have HGET : Hid (∀ n, n < h.hist.length → ∃ b s, h.hist[n]? = some (b, s) ∧ ∃ bb, ao = some ⟨bb, 0, none⟩ ∧ bb < w.heap.size ∧ w.cell? ⟨bb, n, none⟩ = some (.int .u8 (letter b))) := fun n hn => by
    refine ⟨(h.hist[n]).1, (h.hist[n]).2, List.getElem?_eq_getElem hn, ?_⟩
    rcases HR.out with ⟨_, h0⟩ | ⟨b, cp', e, hb, _, _, hc⟩
    · omega
    · injection e with e1 _ _
      refine ⟨b, e1, hb, hc n _ ?_⟩
      unfold ccells
      rw [List.getElem?_map, List.getElem?_eq_getElem hn]
      rfl
  have hft := field_text
  have hfc := field_crash
  have HFIN : Hid (∀ wr, LogTo w wr h h.hist.length → Calls Tryz.prog 91 #[.pointer (some ⟨w.heap.size, 0, none⟩)] wr fun e w' => e = .returned (.string (strOfNums (logL h.hist))) ∧ Below w.heap.size w w') := fun wr l => by
    have hi := l.isb
    rw [List.take_length] at hi
    refine (Tryz.Builder_String_any w.heap.size w.heap.size _ wr hi l.bel.size).mono ?_
    rintro e w' ⟨rfl, B⟩
    refine ⟨?_, l.bel.trans B⟩
    rw [logB_is]
  have HWR : Hid (∀ (wr : World) (n : Nat) (b : Bool) (s : ByteArray), LogTo w wr h n → h.hist[n]? = some (b, s) → s.size ≤ 24 → Calls Tryz.prog 88 #[.pointer (some ⟨w.heap.size, 0, none⟩), .string (strOfNums (lineL b s))] wr fun e w' => (∃ k, e = .returned (.tuple #[.int .i64 k, .nilIface])) ∧ LogTo w w' h (n + 1)) := fun wr n b s l hn hs => l.wrote hn hs (HBL.out n)
  have HHT : Hid (∀ (n : Nat) (b : Bool) (s : ByteArray), h.hist[n]? = some (b, s) → ((h.hist.take (n + 1)).filterMap isK).length = ((h.hist.take n).filterMap isK).length + (if b then 1 else 0) ∧ ((h.hist.take (n + 1)).filterMap isF).length = ((h.hist.take n).filterMap isF).length + (if b then 0 else 1)) := fun n b s => hist_take h.hist n b s
  have HTL : Hid (∀ n, ((h.hist.take n).filterMap isK).length ≤ 1000000 ∧ ((h.hist.take n).filterMap isF).length ≤ 1000000) := fun n => by
    have h1 := List.length_filterMap_le isK (h.hist.take n)
    have h2 := List.length_filterMap_le isF (h.hist.take n)
    rw [List.length_take] at h1 h2
    omega
  have HNN : Hid (h.hist.length ≤ 1000000) := hh
  clear p inv KK HBL HR hvc hh
  obtain ⟨tx, htx⟩ : ∃ tx, strOfNums (logL h.hist) = tx := ⟨_, rfl⟩
  rw [htx] at HFIN ⊢
  clear htx
  generalize hN : h.hist.length = N at *
  go_enter Tryz.func44, Tryz.ntmps44
  go_wp2_with fail
  go_loopw [4, 5, 7, 13] (fun k f _ i wr => ∃ n : Nat, n ≤ N ∧ i = .int .i64 n ∧ k = .int .i64 (((h.hist.take n).filterMap isK).length : Nat) ∧ f = .int .i64 (((h.hist.take n).filterMap isF).length : Nat) ∧ LogTo w wr h n) (fun _ _ _ i _ => N - (intOf i).toNat)
  case atStart => exact ⟨0, by omega, rfl, rfl, rfl, HL0.out⟩
  case round =>
    obtain ⟨n, hn, rfl, rfl, rfl, hL⟩ := hrel
    have hnb : n ≤ 1000000 := Nat.le_trans hn HNN.out
    by_cases hlt : n < N
    · have hi1 : (n : Int) < (N : Int) := by omega
      obtain ⟨b, s, hs, bb, rfl, hbl, cl⟩ := HGET.out n hlt
      have cl' : wr.cell? ⟨bb, n, none⟩ = some (.int .u8 (letter b)) := (hL.bel.cell (p := ⟨bb, n, none⟩) hbl).trans cl
      obtain ⟨h24, hif⟩ := HI.out n b s hs
      obtain ⟨ek, ef⟩ := HHT.out n b s hs
      obtain ⟨tk, tf⟩ := HTL.out n
      have HLL : Hid (LogTo w wr h n) := hL
      have HLT : Hid (n < N) := hlt
      clear cl hL
      cases b with
      | true =>
        rw [if_pos rfl] at hif ek ef
        have H1 : Hid (Calls Tryz.prog 69 #[.pointer (some ⟨d.H, 7, none⟩), .int .i64 (((h.hist.take n).filterMap isK).length : Nat)] wr fun e w' => e = .returned (.agg #[.string s, .slice (some ⟨G ((h.hist.take n).filterMap isK).length, 0, none⟩) 64 64]) ∧ Below wr.heap.size wr w') := by
          have := HA.out wr _ HLL.out.bel hif.1
          rw [hif.2] at this
          exact this
        have H2 : Hid (∀ W, Calls Tryz.prog 89 #[.int .u8 113, .string s] W fun e w' => e = .returned (.string (strOfNums (lineL true s))) ∧ Below W.heap.size W w') := fun W => lnWrite_any W true s (by omega)
        have H3 : Hid (∀ W, LogTo w W h n → Calls Tryz.prog 88 #[.pointer (some ⟨w.heap.size, 0, none⟩), .string (strOfNums (lineL true s))] W fun e w' => (∃ k, e = .returned (.tuple #[.int .i64 k, .nilIface])) ∧ LogTo w w' h (n + 1)) := fun W l => HWR.out W n true s l hs h24
        have cl2 : wr.cell? ⟨bb, n, none⟩ = some (.int .u8 113) := cl'
        have HEK : Hid (((h.hist.take (n + 1)).filterMap isK).length = ((h.hist.take n).filterMap isK).length + 1 ∧ ((h.hist.take (n + 1)).filterMap isF).length = ((h.hist.take n).filterMap isF).length) := ⟨ek, ef⟩
        clear hif ek ef hs h24 cl'
        generalize ((h.hist.take n).filterMap isK).length = kk at *
        generalize ((h.hist.take n).filterMap isF).length = ff at *
        generalize strOfNums (lineL true s) = ln at *
        generalize G kk = gk at *
        go_wp2_with fail
        refine H1.out.mono ?_
        rintro e w2 ⟨rfl, B2⟩
        have HL2 : Hid (LogTo w w2 h n) := HLL.out.below B2
        clear B2 H1 cl2
        go_wp2_with fail
        refine (H2.out w2).mono ?_
        rintro e w3 ⟨rfl, B3⟩
        have HL3 : Hid (LogTo w w3 h n) := HL2.out.below B3
        clear B3 H2
        go_wp2_with fail
        refine (H3.out w3 HL3.out).mono ?_
        rintro e w4 ⟨⟨k4, rfl⟩, l4⟩
        have HL4 : Hid (LogTo w w4 h (n + 1)) := l4
        clear l4 H3
        go_wp2_with fail
        go_roundw
        case rel => exact ⟨n + 1, by have := HLT.out; omega, by go_num, by rw [HEK.out.1]; go_num, by rw [HEK.out.2], HL4.out⟩
        case measure => have := HLT.out; simp [intOf]; omega
      | false =>
        rw [if_neg (by decide)] at hif ek ef
        have H1 : Hid (Calls Tryz.prog 90 #[.pointer (some ⟨d.H, 8, none⟩), .int .i64 (((h.hist.take n).filterMap isF).length : Nat)] wr fun e w' => e = .returned (.agg #[.string s, .int .i64 (h.found.getD ((h.hist.take n).filterMap isF).length cr0).fault, .int .i64 (h.found.getD ((h.hist.take n).filterMap isF).length cr0).place]) ∧ Below wr.heap.size wr w') := by
          have := HC.out wr _ HLL.out.bel hif.1
          rw [hif.2] at this
          exact this
        have H2 : Hid (∀ W, Calls Tryz.prog 89 #[.int .u8 99, .string s] W fun e w' => e = .returned (.string (strOfNums (lineL false s))) ∧ Below W.heap.size W w') := fun W => lnWrite_any W false s (by omega)
        have H3 : Hid (∀ W, LogTo w W h n → Calls Tryz.prog 88 #[.pointer (some ⟨w.heap.size, 0, none⟩), .string (strOfNums (lineL false s))] W fun e w' => (∃ k, e = .returned (.tuple #[.int .i64 k, .nilIface])) ∧ LogTo w w' h (n + 1)) := fun W l => HWR.out W n false s l hs h24
        have cl2 : wr.cell? ⟨bb, n, none⟩ = some (.int .u8 99) := cl'
        have HEK : Hid (((h.hist.take (n + 1)).filterMap isK).length = ((h.hist.take n).filterMap isK).length ∧ ((h.hist.take (n + 1)).filterMap isF).length = ((h.hist.take n).filterMap isF).length + 1) := ⟨ek, ef⟩
        clear hif ek ef hs h24 cl'
        generalize ((h.hist.take n).filterMap isK).length = kk at *
        generalize ((h.hist.take n).filterMap isF).length = ff at *
        generalize strOfNums (lineL false s) = ln at *
        generalize (h.found.getD ff cr0).fault = fa at *
        generalize (h.found.getD ff cr0).place = pl at *
        go_wp2_with fail
        refine H1.out.mono ?_
        rintro e w2 ⟨rfl, B2⟩
        have HL2 : Hid (LogTo w w2 h n) := HLL.out.below B2
        clear B2 H1 cl2
        go_wp2_with fail
        refine (H2.out w2).mono ?_
        rintro e w3 ⟨rfl, B3⟩
        have HL3 : Hid (LogTo w w3 h n) := HL2.out.below B3
        clear B3 H2
        go_wp2_with fail
        refine (H3.out w3 HL3.out).mono ?_
        rintro e w4 ⟨⟨k4, rfl⟩, l4⟩
        have HL4 : Hid (LogTo w w4 h (n + 1)) := l4
        clear l4 H3
        go_wp2_with fail
        go_roundw
        case rel => exact ⟨n + 1, by have := HLT.out; omega, by go_num, by rw [HEK.out.1], by rw [HEK.out.2]; go_num, HL4.out⟩
        case measure => have := HLT.out; simp [intOf]; omega
    · have hi1 : ¬ (n : Int) < (N : Int) := by omega
      have H1 : Hid (Calls Tryz.prog 91 #[.pointer (some ⟨w.heap.size, 0, none⟩)] wr fun e w' => e = .returned (.string tx) ∧ Below w.heap.size w w') := HFIN.out wr (by
        have e : n = N := by omega
        rw [← e]
        exact hL)
      clear hL
      go_wp2_with fail
      refine H1.out.mono ?_
      rintro e w2 ⟨rfl, B2⟩
      have HB2 : Hid (Below w.heap.size w w2) := B2
      clear B2 H1
      go_wp2_with fail
      go_ret
      exact ⟨rfl, HB2.out⟩
theorem log_aux (w : World) (H : Nat) (s : ByteArray) (H1 : Hid (Calls Tryz.prog 44 #[.pointer (some ⟨H, 0, none⟩)] w fun e w' => e = .returned (.string s) ∧ Below w.heap.size w w')) :
    Calls Tryz.prog 23 #[.pointer (some ⟨H, 0, none⟩)] w fun e w' => e = .returned (.string s) ∧ Below w.heap.size w w' := by
  have H0 : Hid (Calls Tryz.prog 33 #[.pointer (some ⟨H, 0, none⟩)] w fun e w' => e = .returned (.pointer (some ⟨H, 0, none⟩)) ∧ w' = w) := its_any w H
  go_enter Tryz.func23, Tryz.ntmps23
  go_wp2_with fail
  refine H0.out.mono ?_
  rintro e w1 ⟨rfl, hw⟩
  obtain rfl := hw.symm
  go_wp2_with fail
  refine H1.out.mono ?_
  rintro e w2 ⟨rfl, B2⟩
  have HB2 : Hid (Below w.heap.size w w2) := B2
  clear B2 H1 H0
  go_wp2_with fail
  go_ret
  exact ⟨rfl, HB2.out⟩
end Go.Proofs.YtflenkppcclclaaGreatDoor

