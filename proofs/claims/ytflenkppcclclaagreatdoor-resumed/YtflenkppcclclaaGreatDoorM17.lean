import Derived.Test.YtflenkppcclclaaGreatDoorM06
import Derived.Test.YtflenkppcclclaaGreatDoorM16
namespace Go.Proofs.YtflenkppcclclaaGreatDoor
open Go.RowKit

/-! P8 to P13 in plain Lean: a prowl is what it has kept, found and told; R: what a run shows. -/
structure Sh where
  kind : Int
  fault : Int
  place : Int
  cov : Nat → Int
structure Inp where
  text : ByteArray
  cov : Nat → Int
structure Cr where
  text : ByteArray
  fault : Int
  place : Int
/-- 'hist': the log's lines: kept or found, and the input. -/
structure HS where
  tries : Nat
  hangs : Nat
  entry : Nat
  changes : Nat
  seed : Int
  kept : List Inp
  found : List Cr
  hist : List (Bool × ByteArray)
  worked : Nat → Bool

/-- The numbers that a cover has. -/
def Cls (x : Int) : Prop := x = 0 ∨ x = 1 ∨ x = 2 ∨ x = 4 ∨ x = 8 ∨ x = 16 ∨ x = 32 ∨ x = 64 ∨ x = 128
theorem cls_class (c : Int) (h : 0 ≤ c) : Cls (classS c) := by
  unfold Cls classS
  repeat' split
  all_goals omega
theorem Cls.bd {x : Int} (h : Cls x) : 0 ≤ x ∧ x ≤ 255 := by
  unfold Cls at h
  omega
/-- Has the one this bit? -/
def hasB (a b : Int) : Bool := decide (a = b) && decide (b ≠ 0)
theorem and_cls {a b : Int} (ha : Cls a) (hb : Cls b) : (decide (bits .and .u8 a b = 0)) = !hasB a b := by
  rcases ha with rfl | rfl | rfl | rfl | rfl | rfl | rfl | rfl | rfl <;> rcases hb with rfl | rfl | rfl | rfl | rfl | rfl | rfl | rfl | rfl <;> decide
theorem and_cls0 {a b : Int} (ha : Cls a) (hb : Cls b) : bits .and .u8 a b = 0 ↔ hasB a b = false := by
  have := and_cls ha hb
  cases h : hasB a b with
  | true => rw [h] at this; simp at this; simp [this]
  | false => rw [h] at this; simp at this; simp [this]

def newS (kept : List Inp) (cov : Nat → Int) : Bool := (List.range 64).any fun p => decide (cov p ≠ 0) && !(kept.any fun k => hasB (k.cov p) (cov p))
def sameCr (f p : Int) (c : Cr) : Bool := decide (c.fault = f) && decide (c.place = p)

/-- To try an input; the letter of its line, or 0. -/
def tryS (R : ByteArray → Sh) (h : HS) (s : ByteArray) : HS × Int :=
  if (R s).kind = 1 then
    if h.found.any (sameCr (R s).fault (R s).place) then ({ h with tries := h.tries + 1 }, 0)
    else ({ h with tries := h.tries + 1, found := h.found ++ [⟨s, (R s).fault, (R s).place⟩], hist := h.hist ++ [(false, s)] }, 99)
  else if (R s).kind = 2 then ({ h with tries := h.tries + 1, hangs := h.hangs + 1 }, 0)
  else if 30 ≤ h.kept.length ∨ newS h.kept (R s).cov = false then ({ h with tries := h.tries + 1 }, 0)
  else ({ h with tries := h.tries + 1, kept := h.kept ++ [⟨s, (R s).cov⟩], hist := h.hist ++ [(true, s)] }, 113)

def HS.zero (seed : Int) : HS := ⟨0, 0, 0, 0, seed, [], [], [], fun _ => false⟩
def triesS (R : ByteArray → Sh) (h : HS) : List ByteArray → HS
  | [] => h
  | s :: l => triesS R (tryS R h s).1 l

/-! Which are favoured. -/
def keyAt (kept : List Inp) (p : Nat) (b : Int) (n : Nat) : Bool := hasB ((kept[n]?.map fun k => k.cov p).getD 0) b
def lenAt (kept : List Inp) (n : Nat) : Nat := (kept[n]?.map fun k => k.text.size).getD 0
/-- The shortest of the first n that fit, of several the first. -/
def shortest (kept : List Inp) (fits : Nat → Bool) : Nat → Option Nat
  | 0 => none
  | n + 1 => match shortest kept fits n with
    | none => if fits n then some n else none
    | some b => if fits n && decide (lenAt kept n < lenAt kept b) then some n else some b
def favOne (kept : List Inp) (p : Nat) (b : Int) (l : List Nat) : List Nat :=
  if l.any (keyAt kept p b) then l else match shortest kept (keyAt kept p b) kept.length with
    | none => l
    | some n => l ++ [n]
/-- All eight bits of a place, from the k-th on. -/
def bitN (k : Nat) : Int := 2 ^ k
def favBits (kept : List Inp) (p : Nat) : Nat → List Nat → List Nat
  | 0, l => l
  | k + 1, l => favOne kept p (bitN k) (favBits kept p k l)
def favPlaces (kept : List Inp) : Nat → List Nat
  | 0 => []
  | p + 1 => favBits kept p 8 (favPlaces kept p)
def chosenS (kept : List Inp) : List Nat := favPlaces kept 64
/-- Rising. -/
def favS (kept : List Inp) : List Nat := (List.range kept.length).filter fun n => (chosenS kept).contains n

/-! Go. -/
def mutants (L : Nat) : Nat := if L = 0 then 0 else 31 * L - 1 + (if L < 24 then L else 0)
def HS.text (h : HS) (n : Nat) : ByteArray := (h.kept[n]?.map fun k => k.text).getD ⟨#[]⟩
def HS.small (h : HS) : Nat := if h.worked h.entry then 0 else mutants (h.text h.entry).size
/-- The wild change that comes next, and the seed behind it. -/
def HS.wildly (h : HS) : List Int × Int := wildL (nums (h.text h.entry)) (nums (h.text (dr h.seed h.kept.length))) (sd h.seed)
def HS.chText (h : HS) : ByteArray := if h.changes < h.small then strOfNums ((mutL (nums (h.text h.entry)) h.changes).getD []) else strOfNums h.wildly.1
def HS.chSeed (h : HS) : Int := if h.changes < h.small then h.seed else h.wildly.2
def behindS (n : Nat) (l : List Nat) : Nat := (l.find? fun m => decide (n < m)).getD (l.headD 0)
def HS.moveOn (h : HS) : HS := { h with worked := fun i => if i = h.entry then true else h.worked i, entry := behindS h.entry (favS h.kept), changes := 0 }
def HS.one (R : ByteArray → Sh) (h : HS) : HS :=
  let h1 := (tryS R { h with seed := h.chSeed } h.chText).1
  let h2 := { h1 with changes := h1.changes + 1 }
  if h2.changes = h2.small + 16 then h2.moveOn else h2
def HS.go (R : ByteArray → Sh) (h : HS) : Nat → HS
  | 0 => h
  | n + 1 => HS.one R (HS.go R h n)

/-! The log. -/
def dig (n : Int) : Int := [48, 49, 50, 51, 52, 53, 54, 55, 56, 57, 97, 98, 99, 100, 101, 102].getD n.toNat 0
def hexL : List Int → List Int
  | [] => []
  | x :: l => dig (x / 16) :: dig (x % 16) :: hexL l
def lineL (b : Bool) (s : ByteArray) : List Int := (if b then 113 else 99) :: 32 :: hexL (nums s) ++ [10]
def logL : List (Bool × ByteArray) → List Int
  | [] => []
  | x :: l => lineL x.1 x.2 ++ logL l

theorem try_kept_len (R : ByteArray → Sh) (h : HS) (s : ByteArray) : (tryS R h s).1.kept = h.kept ∨ (tryS R h s).1.kept = h.kept ++ [⟨s, (R s).cov⟩] := by
  unfold tryS
  split
  · split <;> exact Or.inl rfl
  · split
    · exact Or.inl rfl
    · split
      · exact Or.inl rfl
      · exact Or.inr rfl
end Go.Proofs.YtflenkppcclclaaGreatDoor

namespace Go.Proofs.YtflenkppcclclaaGreatDoor
open Go.RowKit

/-! What holds of a prowl, whatever was tried. -/
/-- What runs show: an end of three, a cover of single bits. -/
structure ROk (R : ByteArray → Sh) : Prop where
  kind : ∀ s : ByteArray, s.size ≤ 24 → (R s).kind = 0 ∨ (R s).kind = 1 ∨ (R s).kind = 2
  cov : ∀ s : ByteArray, s.size ≤ 24 → ∀ p, Cls ((R s).cov p)
def isK (x : Bool × ByteArray) : Option ByteArray := if x.1 then some x.2 else none
def isF (x : Bool × ByteArray) : Option ByteArray := if x.1 then none else some x.2
structure Hinv (R : ByteArray → Sh) (h : HS) : Prop where
  most : h.kept.length ≤ 30
  kept : ∀ i k, h.kept[i]? = some k → k.text.size ≤ 24 ∧ (R k.text).kind = 0 ∧ k.cov = (R k.text).cov ∧ newS (h.kept.take i) k.cov = true
  found : ∀ i c, h.found[i]? = some c → c.text.size ≤ 24 ∧ (R c.text).kind = 1 ∧ (R c.text).fault = c.fault ∧ (R c.text).place = c.place ∧ (h.found.take i).any (sameCr c.fault c.place) = false
  histK : h.hist.filterMap isK = h.kept.map (·.text)
  histF : h.hist.filterMap isF = h.found.map (·.text)

/-- What is kept, found and told: all that a try hangs on. -/
structure Alike (h h' : HS) : Prop where
  kept : h'.kept = h.kept
  found : h'.found = h.found
  hist : h'.hist = h.hist
theorem Alike.refl (h : HS) : Alike h h := ⟨rfl, rfl, rfl⟩
theorem Alike.trans {a b c : HS} (p : Alike a b) (q : Alike b c) : Alike a c := ⟨q.kept.trans p.kept, q.found.trans p.found, q.hist.trans p.hist⟩
theorem Alike.symm {a b : HS} (p : Alike a b) : Alike b a := ⟨p.kept.symm, p.found.symm, p.hist.symm⟩

/-- The four ends of a try. -/
theorem try_cases (R : ByteArray → Sh) (h : HS) (s : ByteArray) :
    (Alike h (tryS R h s).1 ∧ (tryS R h s).2 = 0) ∨
    ((R s).kind = 1 ∧ h.found.any (sameCr (R s).fault (R s).place) = false ∧ (tryS R h s).1.kept = h.kept ∧ (tryS R h s).1.found = h.found ++ [⟨s, (R s).fault, (R s).place⟩] ∧ (tryS R h s).1.hist = h.hist ++ [(false, s)] ∧ (tryS R h s).2 = 99) ∨
    ((R s).kind ≠ 1 ∧ (R s).kind ≠ 2 ∧ h.kept.length < 30 ∧ newS h.kept (R s).cov = true ∧ (tryS R h s).1.kept = h.kept ++ [⟨s, (R s).cov⟩] ∧ (tryS R h s).1.found = h.found ∧ (tryS R h s).1.hist = h.hist ++ [(true, s)] ∧ (tryS R h s).2 = 113) := by
  unfold tryS
  by_cases h1 : (R s).kind = 1
  · rw [if_pos h1]
    by_cases h2 : h.found.any (sameCr (R s).fault (R s).place) = true
    · rw [if_pos h2]
      exact Or.inl ⟨⟨rfl, rfl, rfl⟩, rfl⟩
    · rw [if_neg h2]
      exact Or.inr (Or.inl ⟨h1, by simpa using h2, rfl, rfl, rfl, rfl⟩)
  · rw [if_neg h1]
    by_cases h2 : (R s).kind = 2
    · rw [if_pos h2]
      exact Or.inl ⟨⟨rfl, rfl, rfl⟩, rfl⟩
    · rw [if_neg h2]
      by_cases h3 : 30 ≤ h.kept.length ∨ newS h.kept (R s).cov = false
      · rw [if_pos h3]
        exact Or.inl ⟨⟨rfl, rfl, rfl⟩, rfl⟩
      · rw [if_neg h3]
        refine Or.inr (Or.inr ⟨h1, h2, by omega, ?_, rfl, rfl, rfl, rfl⟩)
        cases hn : newS h.kept (R s).cov with
        | true => rfl
        | false => exact absurd (Or.inr hn) h3
theorem try_alike {R : ByteArray → Sh} {h h' : HS} (p : Alike h h') (s : ByteArray) : Alike (tryS R h s).1 (tryS R h' s).1 ∧ (tryS R h' s).2 = (tryS R h s).2 := by
  unfold tryS
  rw [p.kept, p.found]
  split
  · split
    · exact ⟨⟨rfl, rfl, p.hist⟩, rfl⟩
    · exact ⟨⟨rfl, rfl, by show h'.hist ++ _ = h.hist ++ _; rw [p.hist]⟩, rfl⟩
  · split
    · exact ⟨⟨rfl, rfl, p.hist⟩, rfl⟩
    · split
      · exact ⟨⟨rfl, rfl, p.hist⟩, rfl⟩
      · exact ⟨⟨rfl, rfl, by show h'.hist ++ _ = h.hist ++ _; rw [p.hist]⟩, rfl⟩
theorem take_append_at {α : Type} (l : List α) (x : α) (i : Nat) (hi : i < l.length) : (l ++ [x]).take i = l.take i := by
  rw [List.take_append_of_le_length (by omega)]
theorem get_append_one {α : Type} {l : List α} {x y : α} {i : Nat} (h : (l ++ [x])[i]? = some y) : (i < l.length ∧ l[i]? = some y) ∨ (i = l.length ∧ y = x) := by
  by_cases hi : i < l.length
  · rw [List.getElem?_append_left hi] at h
    exact Or.inl ⟨hi, h⟩
  · rw [List.getElem?_append_right (by omega)] at h
    have : i - l.length = 0 := by
      have := (List.getElem?_eq_some_iff.1 h).1
      simp at this; omega
    rw [this] at h
    simp at h
    exact Or.inr ⟨by omega, h.symm⟩
theorem Hinv.alike {R : ByteArray → Sh} {h h' : HS} (p : Hinv R h) (a : Alike h h') : Hinv R h' := by
  cases h; cases h'
  obtain ⟨rfl, rfl, rfl⟩ := a
  exact ⟨p.most, p.kept, p.found, p.histK, p.histF⟩
theorem Hinv.tried {R : ByteArray → Sh} {h : HS} (p : Hinv R h) (hR : ROk R) (s : ByteArray) (hs : s.size ≤ 24) : Hinv R (tryS R h s).1 := by
  rcases try_cases R h s with ⟨a, _⟩ | ⟨h1, h2, h3, h4, h5, _⟩ | ⟨h1, h2, h3, h4, h5, h6, h7, _⟩
  · exact p.alike a
  · refine ⟨by rw [h3]; exact p.most, by rw [h3]; exact p.kept, ?_, by rw [h3, h5, List.filterMap_append, p.histK]; simp [isK], by rw [h4, h5, List.filterMap_append, p.histF]; simp [isF]⟩
    rw [h4]
    intro i c hc
    rcases get_append_one hc with ⟨hi, hc⟩ | ⟨rfl, rfl⟩
    · rw [take_append_at _ _ _ hi]
      exact p.found i c hc
    · refine ⟨hs, h1, rfl, rfl, ?_⟩
      rw [List.take_append_of_le_length (Nat.le_refl _), List.take_length]
      exact h2
  · refine ⟨by rw [h5, List.length_append, List.length_singleton]; omega, ?_, by rw [h6]; exact p.found, by rw [h5, h7, List.filterMap_append, p.histK]; simp [isK], by rw [h6, h7, List.filterMap_append, p.histF]; simp [isF]⟩
    rw [h5]
    intro i k hk
    rcases get_append_one hk with ⟨hi, hk⟩ | ⟨rfl, rfl⟩
    · rw [take_append_at _ _ _ hi]
      exact p.kept i k hk
    · refine ⟨hs, ?_, rfl, ?_⟩
      · rcases hR.kind s hs with e | e | e
        · exact e
        · exact absurd e h1
        · exact absurd e h2
      · rw [List.take_append_of_le_length (Nat.le_refl _), List.take_length]
        exact h4
theorem hinv_zero (R : ByteArray → Sh) (seed : Int) : Hinv R (HS.zero seed) := ⟨by simp [HS.zero], by simp [HS.zero], by simp [HS.zero], rfl, rfl⟩
theorem Hinv.tries {R : ByteArray → Sh} (hR : ROk R) : ∀ (l : List ByteArray) (h : HS), Hinv R h → (∀ s ∈ l, s.size ≤ 24) → Hinv R (triesS R h l)
  | [], _, p, _ => p
  | s :: l, h, p, hl => Hinv.tries hR l _ (p.tried hR s (hl s (by simp))) (fun t ht => hl t (by simp [ht]))

/-! What a text's changes are. -/
theorem mut_size {l : List Int} (hl : l.length ≤ 24) (n : Nat) : ((mutL l n).getD []).length ≤ 24 := by
  unfold mutL
  dsimp only
  split
  · simp [flip_len]; exact hl
  split
  · simp [flip_len]; exact hl
  split
  · simp; exact hl
  split
  · simp; exact hl
  split
  · simp; exact hl
  split
  · simp; exact hl
  split
  · simp [cutL]; omega
  split
  · rename_i h; simp [twiceL]; omega
  · simp
theorem mut_byt {l : List Int} (hl : Byt l) (n : Nat) : Byt ((mutL l n).getD []) := by
  unfold mutL
  dsimp only
  split
  · exact flip_byt hl _
  split
  · exact flip_byt (flip_byt hl _) _
  split
  · exact hl.set _ (bits_u8 _ _ _).1 (bits_u8 _ _ _).2
  split
  · exact hl.set _ (by omega) (by omega)
  split
  · exact hl.set _ (by omega) (by omega)
  split
  · refine hl.set _ ?_ ?_ <;> (unfold markL; have := Nat.mod_lt (n - 8 * l.length - (8 * l.length - 1) - l.length - 4 * l.length - 4 * l.length) (show 5 > 0 by omega); generalize (n - 8 * l.length - (8 * l.length - 1) - l.length - 4 * l.length - 4 * l.length) % 5 = k at *; match k, this with | 0, _ => decide | 1, _ => decide | 2, _ => decide | 3, _ => decide | 4, _ => decide | k + 5, h => omega)
  split
  · exact cut_byt hl _
  split
  · exact (hl.take _).app (fun x hx => by
      rcases List.mem_cons.1 hx with rfl | hx
      · exact hl.at _
      · exact hl.drop _ x hx)
  · intro x hx; simp at hx
theorem str_size (l : List Int) : (strOfNums l).size = l.length := by simp [strOfNums, ByteArray.size]
theorem HS.text_size {R : ByteArray → Sh} {h : HS} (p : Hinv R h) (n : Nat) : (h.text n).size ≤ 24 := by
  unfold HS.text
  cases e : h.kept[n]? with
  | none => simp; decide
  | some k => exact (p.kept n k e).1
theorem change_size {R : ByteArray → Sh} {h : HS} (p : Hinv R h) : h.chText.size ≤ 24 := by
  unfold HS.chText
  split
  · rw [str_size]
    exact mut_size (by rw [nums_len]; exact h.text_size p _) _
  · rw [str_size]
    unfold HS.wildly wildL
    exact (times_len (by rw [nums_len]; exact h.text_size p _) (by rw [nums_len]; exact h.text_size p _) _ _).1
theorem one_alike (R : ByteArray → Sh) (h : HS) : Alike (tryS R h h.chText).1 (h.one R) := by
  have q : Alike h { h with seed := h.chSeed } := ⟨rfl, rfl, rfl⟩
  have a := (try_alike (R := R) q h.chText).1
  unfold HS.one
  dsimp only
  split
  · exact ⟨a.kept, a.found, a.hist⟩
  · exact ⟨a.kept, a.found, a.hist⟩
theorem Hinv.one {R : ByteArray → Sh} {h : HS} (p : Hinv R h) (hR : ROk R) : Hinv R (h.one R) := (p.tried hR _ (change_size p)).alike (one_alike R h)
theorem Hinv.go {R : ByteArray → Sh} {h : HS} (p : Hinv R h) (hR : ROk R) : ∀ n, Hinv R (h.go R n)
  | 0 => p
  | n + 1 => (Hinv.go p hR n).one hR

/-! A log's lines, tried again from nothing, come to the same. -/
def letter (b : Bool) : Int := if b then 113 else 99
def retry (R : ByteArray → Sh) (h : HS) : List (Bool × ByteArray) → Option HS
  | [] => some h
  | x :: l => if (tryS R h x.2).2 = letter x.1 then retry R (tryS R h x.2).1 l else none
theorem retry_append (R : ByteArray → Sh) (l2 : List (Bool × ByteArray)) : ∀ (l1 : List (Bool × ByteArray)) (h : HS), retry R h (l1 ++ l2) = (retry R h l1).bind fun h1 => retry R h1 l2
  | [], _ => rfl
  | x :: l1, h => by
    show (if _ then _ else _) = (if _ then _ else _ : Option HS).bind _
    split
    · exact retry_append R l2 l1 _
    · rfl
/-- A try that is told adds its line. -/
theorem try_told {R : ByteArray → Sh} {h : HS} {s : ByteArray} {b : Bool} (e : (tryS R h s).2 = letter b) : (tryS R h s).1.hist = h.hist ++ [(b, s)] := by
  rcases try_cases R h s with ⟨_, q⟩ | ⟨_, _, _, _, h5, q⟩ | ⟨_, _, _, _, _, _, h7, q⟩
  · rw [q] at e; cases b <;> cases e
  · rw [q] at e; cases b with
    | true => cases e
    | false => exact h5
  · rw [q] at e; cases b with
    | true => exact h7
    | false => cases e
theorem try_grows (R : ByteArray → Sh) (h : HS) (s : ByteArray) : (∃ t, (tryS R h s).1.kept = h.kept ++ t) ∧ ∃ t, (tryS R h s).1.found = h.found ++ t := by
  rcases try_cases R h s with ⟨a, _⟩ | ⟨_, _, h3, h4, _⟩ | ⟨_, _, _, _, h5, h6, _⟩
  · exact ⟨⟨[], by rw [a.kept, List.append_nil]⟩, ⟨[], by rw [a.found, List.append_nil]⟩⟩
  · exact ⟨⟨[], by rw [h3, List.append_nil]⟩, ⟨_, h4⟩⟩
  · exact ⟨⟨_, h5⟩, ⟨[], by rw [h6, List.append_nil]⟩⟩
theorem retry_is (R : ByteArray → Sh) : ∀ (l : List (Bool × ByteArray)) (h h' : HS), retry R h l = some h' → h'.hist = h.hist ++ l ∧ (∃ t, h'.kept = h.kept ++ t) ∧ ∃ t, h'.found = h.found ++ t
  | [], h, h', e => by cases e; exact ⟨by simp, ⟨[], by simp⟩, ⟨[], by simp⟩⟩
  | x :: l, h, h', e => by
    unfold retry at e
    split at e
    · rename_i hl
      obtain ⟨e1, ⟨t, e2⟩, ⟨u, e3⟩⟩ := retry_is R l _ h' e
      obtain ⟨⟨t', g2⟩, ⟨u', g3⟩⟩ := try_grows R h x.2
      refine ⟨by rw [e1, try_told hl]; simp, ⟨t' ++ t, by rw [e2, g2]; simp⟩, ⟨u' ++ u, by rw [e3, g3]; simp⟩⟩
    · cases e
theorem Hinv.retried {R : ByteArray → Sh} (hR : ROk R) : ∀ (l : List (Bool × ByteArray)) (h h' : HS), Hinv R h → (∀ x ∈ l, x.2.size ≤ 24) → retry R h l = some h' → Hinv R h'
  | [], _, _, p, _, e => by cases e; exact p
  | x :: l, h, h', p, hl, e => by
    unfold retry at e
    split at e
    · exact Hinv.retried hR l _ h' (p.tried hR x.2 (hl x (by simp))) (fun y hy => hl y (by simp [hy])) e
    · cases e
theorem retry_alike {R : ByteArray → Sh} : ∀ (l : List (Bool × ByteArray)) (h g h' : HS), Alike h g → retry R h l = some h' → ∃ g', retry R g l = some g' ∧ Alike h' g'
  | [], _, _, _, a, e => by cases e; exact ⟨_, rfl, a⟩
  | x :: l, h, g, h', a, e => by
    have t := try_alike (R := R) a x.2
    unfold retry at e ⊢
    rw [t.2]
    split at e
    · rename_i hl
      rw [if_pos hl]
      exact retry_alike l _ _ h' t.1 e
    · cases e
def Replays (R : ByteArray → Sh) (h : HS) : Prop := ∀ seed, ∃ h', retry R (HS.zero seed) h.hist = some h' ∧ Alike h' h
theorem Replays.alike {R : ByteArray → Sh} {h h' : HS} (p : Replays R h) (a : Alike h h') : Replays R h' := fun seed => by
  obtain ⟨g, e, q⟩ := p seed
  exact ⟨g, by rw [a.hist]; exact e, q.trans a⟩
theorem Replays.told {R : ByteArray → Sh} {h : HS} (p : Replays R h) {s : ByteArray} {b : Bool} (e : (tryS R h s).2 = letter b) : Replays R (tryS R h s).1 := fun seed => by
  obtain ⟨g, eg, q⟩ := p seed
  have t := try_alike (R := R) q s
  refine ⟨(tryS R g s).1, ?_, t.1⟩
  rw [try_told e, retry_append, eg]
  show (if _ then _ else _) = _
  rw [if_pos (by rw [← t.2]; exact e)]
  rfl
theorem Replays.tried {R : ByteArray → Sh} {h : HS} (p : Replays R h) (s : ByteArray) : Replays R (tryS R h s).1 := by
  rcases try_cases R h s with ⟨a, _⟩ | ⟨_, _, _, _, _, q⟩ | ⟨_, _, _, _, _, _, _, q⟩
  · exact p.alike a
  · exact p.told (b := false) q
  · exact p.told (b := true) q
theorem replays_zero (R : ByteArray → Sh) (seed : Int) : Replays R (HS.zero seed) := fun s => ⟨HS.zero s, rfl, ⟨rfl, rfl, rfl⟩⟩
theorem Replays.tries {R : ByteArray → Sh} : ∀ (l : List ByteArray) (h : HS), Replays R h → Replays R (triesS R h l)
  | [], _, p => p
  | s :: l, _, p => Replays.tries l _ (p.tried s)
theorem Replays.one {R : ByteArray → Sh} {h : HS} (p : Replays R h) : Replays R (h.one R) := (p.tried _).alike (one_alike R h)
theorem Replays.go {R : ByteArray → Sh} {h : HS} (p : Replays R h) : ∀ n, Replays R (h.go R n)
  | 0 => p
  | n + 1 => (Replays.go p n).one

theorem go_add (R : ByteArray → Sh) (h : HS) (n : Nat) : ∀ m, h.go R (n + m) = (h.go R n).go R m
  | 0 => rfl
  | m + 1 => by show HS.one R (h.go R (n + m)) = _; rw [go_add R h n m]; rfl
theorem kept_grows_try (R : ByteArray → Sh) (h : HS) (s : ByteArray) : h.kept.length ≤ (tryS R h s).1.kept.length := by
  rcases try_cases R h s with ⟨a, _⟩ | ⟨_, _, h3, _⟩ | ⟨_, _, _, _, h5, _⟩
  · rw [a.kept]; exact Nat.le_refl _
  · rw [h3]; exact Nat.le_refl _
  · rw [h5, List.length_append]; omega
theorem kept_grows_one (R : ByteArray → Sh) (h : HS) : h.kept.length ≤ (h.one R).kept.length := by
  rw [(one_alike R h).kept]; exact kept_grows_try R h _
end Go.Proofs.YtflenkppcclclaaGreatDoor

