import Derived.Test.YtflenkppcclclaaGreatDoorM15
import Derived.Test.YtflenkppcclclaaGreatDoorM21
import Derived.Test.YtflenkppcclclaaGreatDoorM22
namespace Go.Proofs.YtflenkppcclclaaGreatDoor
open Go.RowKit

/-! A hunt in memory. -/
/-- Below the heap's end nothing but U's blocks may change. -/
structure Fr (U : Nat → Prop) (w w' : World) : Prop where
  os : w'.os = w.os
  tape : w'.tape = w.tape
  output : w'.output = w.output
  size : w.heap.size ≤ w'.heap.size
  block : ∀ k, k < w.heap.size → ¬ U k → w'.heap[k]? = w.heap[k]?
/-- U, and what is new. -/
def Gr (U : Nat → Prop) (w w' : World) : Nat → Prop := fun k => U k ∨ (w.heap.size ≤ k ∧ k < w'.heap.size)
theorem Fr.refl (U : Nat → Prop) (w : World) : Fr U w w := ⟨rfl, rfl, rfl, Nat.le_refl _, fun _ _ _ => rfl⟩
theorem Fr.trans {U : Nat → Prop} {w w1 w2 : World} (p : Fr U w w1) (q : Fr (Gr U w w1) w1 w2) : Fr U w w2 :=
  ⟨q.os.trans p.os, q.tape.trans p.tape, q.output.trans p.output, Nat.le_trans p.size q.size, fun k hk hu => (q.block k (Nat.lt_of_lt_of_le hk p.size) (fun c => c.elim hu (fun d => by omega))).trans (p.block k hk hu)⟩
theorem Fr.same {U : Nat → Prop} {w w1 w2 : World} (p : Fr U w w1) (q : Fr U w1 w2) : Fr U w w2 :=
  ⟨q.os.trans p.os, q.tape.trans p.tape, q.output.trans p.output, Nat.le_trans p.size q.size, fun k hk hu => (q.block k (Nat.lt_of_lt_of_le hk p.size) hu).trans (p.block k hk hu)⟩
theorem Fr.below {U : Nat → Prop} {w w' : World} (b : Below w.heap.size w w') : Fr U w w' := ⟨b.os, b.tape, b.output, b.size, fun k hk _ => b.block k hk⟩
theorem Fr.set {U : Nat → Prop} {w : World} {H : Nat} (hu : U H) (j : Nat) (u : Value) : Fr U w (w.setCell ⟨H, j, none⟩ u) :=
  ⟨rfl, rfl, rfl, by simp, fun k _ hk => heap_setCell_other w ⟨H, j, none⟩ k u (fun e => hk (by rw [e]; exact hu))⟩
theorem Fr.grown {U : Nat → Prop} {w w' : World} {v : Value} (g : w.grownBy w' v.ownBlock) (hu : ∀ k, v.ownBlock = some k → U k) : Fr U w w' :=
  ⟨g.os, g.tape, g.output, g.size, fun k hk hn => g.block k hk (fun e => hn (hu k e.symm))⟩
theorem Fr.wide {U V : Nat → Prop} {w w' : World} (p : Fr U w w') (h : ∀ k, U k → V k) : Fr V w w' := ⟨p.os, p.tape, p.output, p.size, fun k hk hn => p.block k hk (fun c => hn (h k c))⟩
theorem gr_gr {U : Nat → Prop} {w w1 w2 : World} (h1 : w.heap.size ≤ w1.heap.size) (h2 : w1.heap.size ≤ w2.heap.size) : Gr (Gr U w w1) w1 w2 = Gr U w w2 := by
  funext k
  apply propext
  unfold Gr
  constructor
  · rintro ((h | h) | h)
    · exact Or.inl h
    · exact Or.inr ⟨h.1, by omega⟩
    · exact Or.inr ⟨by omega, h.2⟩
  · rintro (h | h)
    · exact Or.inl (Or.inl h)
    · by_cases c : k < w1.heap.size
      · exact Or.inl (Or.inr ⟨h.1, c⟩)
      · exact Or.inr ⟨by omega, h.2⟩
theorem gr_self (U : Nat → Prop) (w w' : World) (h : w'.heap.size = w.heap.size) : Gr U w w' = U := by
  funext k
  apply propext
  unfold Gr
  exact ⟨fun c => c.elim id (fun d => by omega), Or.inl⟩
theorem Fr.tab {U : Nat → Prop} {w w' : World} (p : Fr U w w') (hl : ∀ k, U k → 3 ≤ k) (t : Tab w) : Tab w' :=
  fun k hk => (World.cell?_of_block (w := w) (a := ⟨0, k, none⟩) (p.block 0 t.pos (fun c => by have := hl 0 c; omega))).trans (t k hk)
theorem Mrk.two {w : World} (h : Mrk w) : 2 < w.heap.size := World.block_lt_of_cell? w ⟨2, 0, none⟩ (h 0 (by omega))
theorem Fr.mrk {U : Nat → Prop} {w w' : World} (p : Fr U w w') (hl : ∀ k, U k → 3 ≤ k) (t : Mrk w) : Mrk w' :=
  fun k hk => (World.cell?_of_block (w := w) (a := ⟨2, k, none⟩) (p.block 2 t.two (fun c => by have := hl 2 c; omega))).trans (t k hk)

/-- The program: its bytes, instructions, fuel. -/
structure PG where
  c : Nat → Int
  L : Nat
  N : Nat
  fuel : Int
/-- Where the hunt's parts lie. -/
structure HD where
  H : Nat
  cb : Nat
  cc : Nat
  vk : Value
  vf : Value
  vc : Value
  xk : List Value
def hval (d : HD) (g : PG) (h : HS) (j : Nat) : Value :=
  if j = 0 then .slice (some ⟨d.cb, 0, none⟩) g.L d.cc else if j = 1 then .int .i64 g.fuel else if j = 2 then .int .u64 h.seed else if j = 3 then .int .i64 h.tries else if j = 4 then .int .i64 h.hangs else if j = 5 then .int .i64 h.entry else if j = 6 then .int .i64 h.changes else if j = 7 then d.vk else if j = 8 then d.vf else if j = 9 then d.vc else .bool (h.worked (j - 10))
/-- The blocks that it writes. -/
def HD.Wr (d : HD) (k : Nat) : Prop := k = d.H ∨ d.vk.ownBlock = some k ∨ d.vf.ownBlock = some k ∨ d.vc.ownBlock = some k
def fcells (l : List Cr) : List Value := l.flatMap fun c => [.string c.text, .int .i64 c.fault, .int .i64 c.place]
def ccells (l : List (Bool × ByteArray)) : List Value := l.map fun x => .int .u8 (letter x.1)
/-- The i-th that is kept: its text, and its cover in a block of its own. -/
def KeptAt (w : World) (U : Nat → Prop) (d : HD) (i : Nat) (k : Inp) : Prop :=
  d.xk[2 * i]? = some (.string k.text) ∧ ∃ g, d.xk[2 * i + 1]? = some (.slice (some ⟨g, 0, none⟩) 64 64) ∧ (∀ p, p < 64 → w.cell? ⟨g, p, none⟩ = some (.int .u8 (k.cov p))) ∧ ¬ d.Wr g ∧ U g
structure HU (w : World) (U : Nat → Prop) (d : HD) (g : PG) (h : HS) : Prop where
  cell : ∀ j, j < 40 → w.cell? ⟨d.H, j, none⟩ = some (hval d g h j)
  thaw : ∀ j, w.frozen? ⟨d.H, j, none⟩ = false
  rk : w.ownsRow 0 122 2 d.vk h.kept.length d.xk
  rf : w.ownsRow 0 42 3 d.vf h.found.length (fcells h.found)
  rc : w.ownsRow 0 5 1 d.vc h.hist.length (ccells h.hist)
  nk : ∀ b, d.vk.ownBlock = some b → b ≠ d.H ∧ d.vf.ownBlock ≠ some b ∧ d.vc.ownBlock ≠ some b
  nf : ∀ b, d.vf.ownBlock = some b → b ≠ d.H ∧ d.vc.ownBlock ≠ some b
  nc : ∀ b, d.vc.ownBlock = some b → b ≠ d.H
  code : Laid w d.cb 0 g.L d.cc g.c
  ncode : ¬ d.Wr d.cb
  kept : ∀ i k, h.kept[i]? = some k → KeptAt w U d i k
  inU : ∀ k, d.Wr k → U k
  inC : U d.cb
  lt : ∀ k, U k → k < w.heap.size
  low : ∀ k, U k → 3 ≤ k
theorem own_keep {w w' : World} {base : Nat} {e : TypeId} {size : Nat} {v : Value} {n : Nat} {xs : List Value} (h : w.ownsRow base e size v n xs) (hb : ∀ b, v.ownBlock = some b → w'.heap[b]? = w.heap[b]?) : w'.ownsRow base e size v n xs := by
  refine ⟨h.1, ?_⟩
  rcases h.2 with hn | ⟨b, cap, cur, hv, hg, hh, r⟩
  · exact .inl hn
  · exact .inr ⟨b, cap, cur, hv, hg, (hb b (by rw [hv]; rfl)).trans hh, r⟩
theorem own_blk {w : World} {base : Nat} {e : TypeId} {size : Nat} {v : Value} {n : Nat} {xs : List Value} (h : w.ownsRow base e size v n xs) {b : Nat} (hb : v.ownBlock = some b) : b < w.heap.size := by
  rcases h.2 with ⟨hn, _⟩ | ⟨b', cap, cur, hv, hg, hh, r⟩
  · rw [hn] at hb; cases hb
  · rw [hv] at hb
    have : b' = b := by simpa [Value.ownBlock] using hb
    subst this
    exact (Array.getElem?_eq_some_iff.1 hh).1
theorem KeptAt.keep {w w' : World} {U V : Nat → Prop} {d : HD} {i : Nat} {k : Inp} (h : KeptAt w U d i k) (hb : ∀ b, U b → ¬ d.Wr b → w'.heap[b]? = w.heap[b]?) (hv : ∀ b, U b → V b) : KeptAt w' V d i k := by
  obtain ⟨h1, b, h2, h3, h4, h5⟩ := h
  exact ⟨h1, b, h2, fun p hp => (World.cell?_of_block (w := w) (a := ⟨b, p, none⟩) (hb b h5 h4)).trans (h3 p hp), h4, hv b h5⟩
theorem Laid.of_block {w w' : World} {cb co L cap : Nat} {c : Nat → Int} (h : Laid w cb co L cap c) (hb : w'.heap[cb]? = w.heap[cb]?) : Laid w' cb co L cap c :=
  ⟨fun i hi => (World.cell?_of_block (w := w) (a := ⟨cb, co + i, none⟩) hb).trans (h.cell i hi), h.room, h.room', h.some'⟩
/-- What leaves its blocks alone leaves it alone. -/
theorem HU.keep {w w' : World} {U V : Nat → Prop} {d : HD} {g : PG} {h : HS} (p : HU w U d g h) (hb : ∀ k, U k → w'.heap[k]? = w.heap[k]?) (hUV : ∀ k, U k → V k) (hl : ∀ k, V k → k < w'.heap.size) (hl2 : ∀ k, V k → 3 ≤ k) : HU w' V d g h where
  cell := fun j hj => (World.cell?_of_block (w := w) (a := ⟨d.H, j, none⟩) (hb d.H (p.inU _ (Or.inl rfl)))).trans (p.cell j hj)
  thaw := fun j => (World.frozen?_of_block (w := w) (a := ⟨d.H, j, none⟩) (hb d.H (p.inU _ (Or.inl rfl)))).trans (p.thaw j)
  rk := own_keep p.rk (fun b e => hb b (p.inU b (Or.inr (Or.inl e))))
  rf := own_keep p.rf (fun b e => hb b (p.inU b (Or.inr (Or.inr (Or.inl e)))))
  rc := own_keep p.rc (fun b e => hb b (p.inU b (Or.inr (Or.inr (Or.inr e)))))
  nk := p.nk
  nf := p.nf
  nc := p.nc
  code := p.code.of_block (hb _ p.inC)
  ncode := p.ncode
  kept := fun i k hk => (p.kept i k hk).keep (fun b hu _ => hb b hu) hUV
  inU := fun k hk => hUV k (p.inU k hk)
  inC := hUV _ p.inC
  lt := hl
  low := hl2
theorem HU.below {w w' : World} {U : Nat → Prop} {d : HD} {g : PG} {h : HS} (p : HU w U d g h) (b : Below w.heap.size w w') : HU w' U d g h :=
  p.keep (fun k hk => b.block k (p.lt k hk)) (fun _ h => h) (fun k hk => Nat.lt_of_lt_of_le (p.lt k hk) b.size) p.low
theorem HU.two {w : World} {U : Nat → Prop} {d : HD} {g : PG} {h : HS} (p : HU w U d g h) : 3 ≤ w.heap.size := by
  have h1 := p.low _ p.inC
  have h2 := p.lt _ p.inC
  omega
theorem HU.gr {w w' : World} {U : Nat → Prop} {d : HD} {g : PG} {h : HS} (p : HU w U d g h) (b : Below w.heap.size w w') : HU w' (Gr U w w') d g h :=
  p.keep (fun k hk => b.block k (p.lt k hk)) (fun _ h => Or.inl h) (fun k hk => hk.elim (fun c => Nat.lt_of_lt_of_le (p.lt k c) b.size) (fun c => c.2)) (fun k hk => hk.elim (p.low k) (fun c => by have := p.two; omega))
/-- A store into one of the hunt's plain cells. -/
theorem HU.set {w : World} {U : Nat → Prop} {d : HD} {g : PG} {h : HS} (p : HU w U d g h) (i : Nat) (u : Value) (h' : HS) (hk : h'.kept = h.kept) (hf : h'.found = h.found) (hh : h'.hist = h.hist)
    (hv : ∀ j, j < 40 → hval d g h' j = if j = i then u else hval d g h j) : HU (w.setCell ⟨d.H, i, none⟩ u) U d g h' where
  cell := by
    intro j hj
    rw [hv j hj]
    by_cases e : j = i
    · subst e; rw [if_pos rfl]; exact World.cell?_setCell_same _ _ _ (p.cell j hj)
    · rw [if_neg e, World.cell?_setCell_other _ _ _ _ (fun c => e (by injection c with _ c2 _; exact c2.symm))]; exact p.cell j hj
  thaw := fun j => by rw [World.frozen?_setCell]; exact p.thaw j
  rk := by rw [hk]; exact own_keep p.rk (fun b e => heap_setCell_other w ⟨d.H, i, none⟩ b u (p.nk b e).1)
  rf := by rw [hf]; exact own_keep p.rf (fun b e => heap_setCell_other w ⟨d.H, i, none⟩ b u (p.nf b e).1)
  rc := by rw [hh]; exact own_keep p.rc (fun b e => heap_setCell_other w ⟨d.H, i, none⟩ b u (p.nc b e))
  nk := p.nk
  nf := p.nf
  nc := p.nc
  code := p.code.of_block (heap_setCell_other w ⟨d.H, i, none⟩ _ u (fun c => p.ncode (Or.inl c)))
  ncode := p.ncode
  kept := by
    intro j k hj
    rw [hk] at hj
    exact (p.kept j k hj).keep (fun b _ hw => heap_setCell_other w ⟨d.H, i, none⟩ b u (fun c => hw (Or.inl c))) (fun _ h => h)
  inU := p.inU
  inC := p.inC
  lt := fun k hk => by rw [World.size_setCell]; exact p.lt k hk
  low := p.low
end Go.Proofs.YtflenkppcclclaaGreatDoor

namespace Go.Proofs.YtflenkppcclclaaGreatDoor
open Go.RowKit

/-! What a run shows, as a plain function. -/
def kindOk (x : Int) : Prop := x = 0 ∨ x = 1 ∨ x = 2
theorem do_kind (σ : St) (k : Nat) (n : Int) (h : kindOk σ.kind) : kindOk (doS σ k n).kind := by
  unfold doS
  dsimp only
  unfold putS
  repeat' split
  all_goals first | exact h | exact Or.inl rfl | exact Or.inr (Or.inl rfl)
theorem adv_kind (σ : St) (k : Nat) (n fuel : Int) (h : kindOk σ.kind) : kindOk (advS σ k n fuel).kind := by
  unfold advS
  split
  · exact h
  split
  · exact Or.inr (Or.inr rfl)
  split
  · exact Or.inr (Or.inl rfl)
  · exact do_kind _ _ _ h
theorem after_kind (c ent : Nat → Int) (fuel : Int) (inp : ByteArray) : ∀ n, kindOk (after c ent fuel (ρ0 inp) n).σ.kind
  | 0 => Or.inl rfl
  | n + 1 => adv_kind _ _ _ _ (after_kind c ent fuel inp n)
theorem come_nonneg (cnt : Nat → Int) (ah b : Int) (h : ∀ i, 0 ≤ cnt i) (i : Nat) : 0 ≤ comeS cnt ah b i := by
  unfold comeS
  split
  · show 0 ≤ (if i = _ then _ else _)
    split
    · have := h (comeAt ah b); omega
    · exact h i
  · exact h i
theorem after_cnt (c ent : Nat → Int) (fuel : Int) (inp : ByteArray) : ∀ n i, 0 ≤ (after c ent fuel (ρ0 inp) n).cnt i
  | 0, _ => Int.le_refl _
  | n + 1, i => by
    show 0 ≤ (if _ then _ else _ : Nat → Int) i
    split
    · exact after_cnt c ent fuel inp n i
    · exact come_nonneg _ _ _ (after_cnt c ent fuel inp n) i
/-- The run ends at its n-th round. -/
def EndsAt (c ent : Nat → Int) (fuel : Int) (inp : ByteArray) (n : Nat) : Prop := (after c ent fuel (ρ0 inp) n).σ.ended = true ∧ ∀ m, m < n → (after c ent fuel (ρ0 inp) m).σ.ended = false
theorem EndsAt.one {c ent : Nat → Int} {fuel : Int} {inp : ByteArray} {n m : Nat} (h : EndsAt c ent fuel inp n) (k : EndsAt c ent fuel inp m) : n = m := by
  rcases Nat.lt_trichotomy n m with e | e | e
  · have := k.2 n e; rw [h.1] at this; cases this
  · exact e
  · have := h.2 m e; rw [k.1] at this; cases this
def shOf (τ : RS) : Sh := ⟨τ.σ.kind, τ.σ.fault, τ.σ.place, fun i => classS (τ.cnt i)⟩
open Classical in
noncomputable def shows (c ent : Nat → Int) (fuel : Int) (inp : ByteArray) : Sh :=
  if h : ∃ n, EndsAt c ent fuel inp n then shOf (after c ent fuel (ρ0 inp) (Classical.choose h)) else ⟨0, 0, 0, fun _ => 0⟩
theorem shows_at {c ent : Nat → Int} {fuel : Int} {inp : ByteArray} {n : Nat} (h : EndsAt c ent fuel inp n) : shows c ent fuel inp = shOf (after c ent fuel (ρ0 inp) n) := by
  unfold shows
  have e : ∃ n, EndsAt c ent fuel inp n := ⟨n, h⟩
  rw [dif_pos e, (Classical.choose_spec e).one h]
theorem shows_ok (c ent : Nat → Int) (fuel : Int) : ROk (shows c ent fuel) := by
  refine ⟨fun s _ => ?_, fun s _ p => ?_⟩
  · unfold shows
    split
    · exact after_kind _ _ _ _ _
    · exact Or.inl rfl
  · unfold shows
    split
    · exact cls_class _ (after_cnt _ _ _ _ _ _)
    · exact Or.inl rfl
end Go.Proofs.YtflenkppcclclaaGreatDoor

