import Derived.Test.YtebnlafjepfkdaaGreatDoorM07
import Derived.Test.YtebnlafjepfkdaaGreatDoorM00
namespace Go.Proofs.YtebnlafjepfkdaaGreatDoor
open Go.RowKit

structure RS where
  σ : St
  cnt : Nat → Int
  ah : Int

/-- The second byte of the instruction at p; 0, if it has none. -/
def second (c : Nat → Int) (p : Nat) : Int := if shp ((c p).toNat * 3) = 2 then c (p + 1) else 0

/-- One round of 'Run'. -/
def roundS (c ent : Nat → Int) (fuel : Int) (ρ : RS) : RS :=
  { σ := advS { ρ.σ with place := ρ.σ.next } (c ρ.σ.next.toNat).toNat (second c ρ.σ.next.toNat) fuel
    cnt := if ent ρ.σ.next.toNat = -1 then ρ.cnt else comeS ρ.cnt ρ.ah (ent ρ.σ.next.toNat)
    ah := if ent ρ.σ.next.toNat = -1 then ρ.ah else ent ρ.σ.next.toNat + 1 }

def after (c ent : Nat → Int) (fuel : Int) (ρ : RS) : Nat → RS
  | 0 => ρ
  | n + 1 => roundS c ent fuel (after c ent fuel ρ n)

/-- Bytes that can be run: 'Start' holds where an instruction begins. -/
structure Good (c : Nat → Int) (L : Nat) (Start : Nat → Prop) : Prop where
  zero : Start 0
  most : L ≤ 240
  lt : ∀ p, Start p → p + szOf (c p).toNat ≤ L ∧ c p ≤ 20
  byte : ∀ p, p < L → 0 ≤ c p ∧ c p ≤ 255
  cell : ∀ p, Start p → c p = 16 ∨ c p = 17 → c (p + 1) < 16
  next : ∀ p, Start p → c p ≠ 0 → c p ≠ 14 → c p ≠ 19 → Start (p + szOf (c p).toNat)
  jump : ∀ p, Start p → c p = 14 ∨ c p = 15 → Start (c (p + 1)).toNat

structure Inv (L : Nat) (Start : Nat → Prop) (fuel : Int) (ρ : RS) : Prop where
  next0 : 0 ≤ ρ.σ.next
  nextL : ρ.σ.next ≤ 300
  start : ρ.σ.ended = false → Start ρ.σ.next.toNat
  stack : ρ.σ.stack.length ≤ 32
  input : ρ.σ.input.size ≤ 24
  out : ρ.σ.out.length ≤ 16
  steps0 : 0 ≤ ρ.σ.steps
  steps : ρ.σ.steps ≤ fuel
  cnt : ∀ i, 0 ≤ ρ.cnt i
  ah0 : 0 ≤ ρ.ah
  ah : ρ.ah ≤ 256

def mu (fuel : Int) (ρ : RS) : Nat := if ρ.σ.ended then 0 else (fuel - ρ.σ.steps).toNat * 400 + (400 - ρ.σ.next.toNat) + 1

theorem szOf_pos : ∀ k, k ≤ 20 → 1 ≤ szOf k ∧ szOf k ≤ 2 ∧ (szOf k : Int) = shp (k * 3) := by
  intro k hk
  obtain ⟨⟨a, b⟩, _, _⟩ := shp_bounds k hk
  unfold szOf; omega

theorem doS_facts (σ : St) (k : Nat) (n : Int) (hk : k ≤ 20) (h1 : tkOf k ≤ σ.stack.length) (h2 : σ.stack.length - tkOf k + lyOf k ≤ 32) (ho : σ.out.length ≤ 16) :
    (doS σ k n).steps = σ.steps ∧ (doS σ k n).place = σ.place ∧ (doS σ k n).input.size ≤ σ.input.size ∧ (doS σ k n).out.length ≤ 16 ∧ (doS σ k n).stack.length ≤ 32 ∧
    ((doS σ k n).next = σ.next ∨ (doS σ k n).next = n ∧ (k = 14 ∨ k = 15)) ∧ ((doS σ k n).ended = false → k ≠ 0 ∧ k ≠ 19 ∧ ((doS σ k n).next = n ∧ (k = 14 ∨ k = 15) ∨ (doS σ k n).next = σ.next ∧ k ≠ 14)) := by
  match k, hk with
  | 0, _ | 1, _ | 3, _ | 4, _ | 5, _ | 6, _ | 7, _ | 8, _ | 9, _ | 10, _ | 12, _ | 13, _ | 14, _ | 16, _ | 17, _ | 19, _ | 20, _ =>
    simp [tkOf, lyOf, shp, shapeCells] at h1 h2
    simp [doS, tkOf, shp, shapeCells, fin, ho]
    try omega
  | 2, _ =>
    simp [tkOf, lyOf, shp, shapeCells] at h1 h2
    by_cases he : 0 < σ.input.size
    · simp [doS, tkOf, shp, shapeCells, he, ho]
      omega
    · simp [doS, tkOf, shp, shapeCells, he, ho]
      omega
  | 11, _ =>
    simp [tkOf, lyOf, shp, shapeCells] at h1 h2
    simp only [doS, tkOf, shp, shapeCells]
    simp
    split
    · simp [fin, ho]; omega
    · simp [ho]; omega
  | 15, _ =>
    simp [tkOf, lyOf, shp, shapeCells] at h1 h2
    simp only [doS, tkOf, shp, shapeCells]
    simp
    split
    · simp [ho]; omega
    · simp [ho]; omega
  | 18, _ =>
    simp [tkOf, lyOf, shp, shapeCells] at h1 h2
    simp only [doS, putS, tkOf, shp, shapeCells]
    simp
    split
    · simp [fin, ho]; omega
    · simp; omega
  | k + 21, hk => omega

theorem second_bounds {c : Nat → Int} {L : Nat} {Start : Nat → Prop} (hG : Good c L Start) {p : Nat} (hp : Start p) : 0 ≤ second c p ∧ second c p ≤ 255 := by
  obtain ⟨h1, h2⟩ := hG.lt p hp
  unfold second
  by_cases e : shp ((c p).toNat * 3) = 2
  · rw [if_pos e]
    have hs := (szOf_pos (c p).toNat (by omega)).2.2
    exact hG.byte (p + 1) (by omega)
  · rw [if_neg e]; omega

theorem trail_inv {ρ : RS} {e : Int} (hcnt : ∀ i, 0 ≤ ρ.cnt i) (h0 : 0 ≤ ρ.ah) (h1 : ρ.ah ≤ 256) (he : -1 ≤ e) (he' : e ≤ 255) :
    (∀ i, 0 ≤ (if e = -1 then ρ.cnt else comeS ρ.cnt ρ.ah e) i) ∧ 0 ≤ (if e = -1 then ρ.ah else e + 1) ∧ (if e = -1 then ρ.ah else e + 1) ≤ 256 := by
  by_cases c : e = -1
  · rw [if_pos c, if_pos c]; exact ⟨hcnt, h0, h1⟩
  · rw [if_neg c, if_neg c]
    refine ⟨fun i => ?_, by omega, by omega⟩
    unfold comeS
    split
    · show 0 ≤ (if i = _ then _ else _)
      have := hcnt (comeAt ρ.ah e)
      have := hcnt i
      split <;> omega
    · exact hcnt i

theorem advS_inv {c ent : Nat → Int} {L : Nat} {Start : Nat → Prop} {fuel : Int} {ρ : RS} (hG : Good c L Start) (hE : ∀ p, p < L → -1 ≤ ent p ∧ ent p ≤ 255) (hI : Inv L Start fuel ρ) (he : ρ.σ.ended = false) :
    Inv L Start fuel (roundS c ent fuel ρ) ∧ mu fuel (roundS c ent fuel ρ) < mu fuel ρ := by
  have hst := hI.start he
  obtain ⟨hpL, hk20⟩ := hG.lt _ hst
  have hk : (c ρ.σ.next.toNat).toNat ≤ 20 := by omega
  obtain ⟨s1, s2, s3⟩ := szOf_pos _ hk
  have hpl : ρ.σ.next.toNat < L := by omega
  obtain ⟨hb0, hb1⟩ := hG.byte _ hpl
  obtain ⟨e0, e1⟩ := hE _ hpl
  have hT := trail_inv hI.cnt hI.ah0 hI.ah e0 e1
  obtain ⟨n0, n1⟩ := second_bounds hG hst
  have hmost := hG.most
  have hn0 := hI.next0
  have hm0 : mu fuel ρ = (fuel - ρ.σ.steps).toNat * 400 + (400 - ρ.σ.next.toNat) + 1 := by unfold mu; rw [he]; rfl
  -- the machine's part
  have key : ∀ τ : St, advS { ρ.σ with place := ρ.σ.next } (c ρ.σ.next.toNat).toNat (second c ρ.σ.next.toNat) fuel = τ →
      (0 ≤ τ.next ∧ τ.next ≤ 300 ∧ (τ.ended = false → Start τ.next.toNat) ∧ τ.stack.length ≤ 32 ∧ τ.input.size ≤ 24 ∧ τ.out.length ≤ 16 ∧ 0 ≤ τ.steps ∧ τ.steps ≤ fuel) ∧
      (τ.ended = false → (fuel - τ.steps).toNat * 400 + (400 - τ.next.toNat) + 1 < mu fuel ρ) := by
    intro τ hτ
    rw [hm0]
    unfold advS at hτ
    have hs0 := hI.steps0
    have hs1 := hI.steps
    by_cases e20 : (c ρ.σ.next.toNat).toNat = 20
    · rw [if_pos e20] at hτ
      subst hτ
      have hc20 : c ρ.σ.next.toNat = 20 := by omega
      have hnx := hG.next _ hst (by omega) (by omega) (by omega)
      rw [e20] at hnx
      have e2 : szOf 20 = 2 := rfl
      rw [e20, e2] at hpL
      refine ⟨⟨by show 0 ≤ ρ.σ.next + 2; omega, by show ρ.σ.next + 2 ≤ 300; omega, fun _ => ?_, hI.stack, hI.input, hI.out, hs0, hs1⟩, fun _ => ?_⟩
      · show Start (ρ.σ.next + 2).toNat
        rw [show (ρ.σ.next + 2).toNat = ρ.σ.next.toNat + szOf 20 by rw [e2]; omega]
        exact hnx
      · show (fuel - ρ.σ.steps).toNat * 400 + (400 - (ρ.σ.next + 2).toNat) + 1 < _
        omega
    rw [if_neg e20] at hτ
    by_cases es : ρ.σ.steps = fuel
    · rw [if_pos es] at hτ
      subst hτ
      exact ⟨⟨hn0, hI.nextL, fun c => (by cases c), hI.stack, hI.input, hI.out, hs0, hs1⟩, fun c => (by cases c)⟩
    rw [if_neg es] at hτ
    have hlt : ρ.σ.steps + 1 ≤ fuel := by omega
    by_cases er : misfitS ρ.σ.stack.length (shp ((c ρ.σ.next.toNat).toNat * 3 + 1)) (shp ((c ρ.σ.next.toNat).toNat * 3 + 2)) ≠ 0
    · rw [if_pos er] at hτ
      subst hτ
      refine ⟨⟨?_, ?_, fun c => (by cases c), hI.stack, hI.input, hI.out, ?_, hlt⟩, fun c => (by cases c)⟩
      · show 0 ≤ ρ.σ.next + _; omega
      · show ρ.σ.next + _ ≤ 300; omega
      · show 0 ≤ ρ.σ.steps + 1; omega
    rw [if_neg er] at hτ
    obtain ⟨_, ⟨t1, t2⟩, ⟨l1, l2⟩⟩ := shp_bounds _ hk
    have hmz := misfit_zero (Classical.byContradiction er)
    have hq1 : tkOf (c ρ.σ.next.toNat).toNat ≤ ρ.σ.stack.length := by unfold tkOf; omega
    have hq2 : ρ.σ.stack.length - tkOf (c ρ.σ.next.toNat).toNat + lyOf (c ρ.σ.next.toNat).toNat ≤ 32 := by unfold tkOf lyOf; omega
    have F := doS_facts { ρ.σ with place := ρ.σ.next, steps := ρ.σ.steps + 1, next := ρ.σ.next + shp ((c ρ.σ.next.toNat).toNat * 3) } (c ρ.σ.next.toNat).toNat (second c ρ.σ.next.toNat) hk hq1 hq2 hI.out
    have hτ' : doS { ρ.σ with place := ρ.σ.next, steps := ρ.σ.steps + 1, next := ρ.σ.next + shp ((c ρ.σ.next.toNat).toNat * 3) } (c ρ.σ.next.toNat).toNat (second c ρ.σ.next.toNat) = τ := hτ
    rw [hτ'] at F
    obtain ⟨F1, _, F3, F4, F5, F6, F7⟩ := F
    simp only at F1 F3 F6 F7
    have hin := hI.input
    refine ⟨⟨?_, ?_, ?_, F5, by omega, F4, by omega, by omega⟩, ?_⟩
    · rcases F6 with f | ⟨f, _⟩ <;> omega
    · rcases F6 with f | ⟨f, _⟩ <;> omega
    · intro hne
      obtain ⟨g0, g19, g⟩ := F7 hne
      rcases g with ⟨f, g⟩ | ⟨f, g⟩
      · rw [f]
        have e2 : shp ((c ρ.σ.next.toNat).toNat * 3) = 2 := by rcases g with g | g <;> rw [g] <;> rfl
        unfold second
        rw [if_pos e2]
        exact hG.jump _ hst (by omega)
      · rw [f, show (ρ.σ.next + shp ((c ρ.σ.next.toNat).toNat * 3)).toNat = ρ.σ.next.toNat + szOf (c ρ.σ.next.toNat).toNat by omega]
        exact hG.next _ hst (by omega) (by omega) (by omega)
    · intro hne
      rw [F1]
      have : (fuel - (ρ.σ.steps + 1)).toNat + 1 = (fuel - ρ.σ.steps).toNat := by omega
      omega
  obtain ⟨⟨k1, k2, k3, k4, k5, k6, k7, k8⟩, km⟩ := key _ rfl
  refine ⟨⟨k1, k2, k3, k4, k5, k6, k7, k8, hT.1, hT.2.1, hT.2.2⟩, ?_⟩
  cases hx : (roundS c ent fuel ρ).σ.ended with
  | true => unfold mu; rw [hx, he]; simp
  | false =>
    have := km hx
    have e : mu fuel (roundS c ent fuel ρ) = (fuel - (roundS c ent fuel ρ).σ.steps).toNat * 400 + (400 - (roundS c ent fuel ρ).σ.next.toNat) + 1 := by
      conv => lhs; unfold mu
      rw [hx]; rfl
    rw [e]
    exact this
end Go.Proofs.YtebnlafjepfkdaaGreatDoor

namespace Go.Proofs.YtebnlafjepfkdaaGreatDoor
open Go.RowKit

def endsB (x : Int) : Bool := x == 0 || x == 14 || x == 19
def leadsB (x : Int) : Bool := x == 14 || x == 15
def holdsB (x : Int) : Bool := x == 16 || x == 17

theorem ends_any (x : Int) (w : World) : Calls Tryz.prog 101 #[.int .u8 x] w fun e w' => e = .returned (.bool (endsB x)) ∧ w' = w := by
  unfold endsB
  cases h0 : x == 0
  · cases h1 : x == 14
    · cases h2 : x == 19
      · go_enter Tryz.func101, Tryz.ntmps101; go_wp2; go_ret; exact ⟨rfl, rfl⟩
      · go_enter Tryz.func101, Tryz.ntmps101; go_wp2; go_ret; exact ⟨rfl, rfl⟩
    · go_enter Tryz.func101, Tryz.ntmps101; go_wp2; go_ret; exact ⟨rfl, rfl⟩
  · go_enter Tryz.func101, Tryz.ntmps101; go_wp2; go_ret; exact ⟨rfl, rfl⟩
theorem leads_any (x : Int) (w : World) : Calls Tryz.prog 92 #[.int .u8 x] w fun e w' => e = .returned (.bool (leadsB x)) ∧ w' = w := by
  unfold leadsB
  cases h0 : x == 14
  · cases h1 : x == 15
    · go_enter Tryz.func92, Tryz.ntmps92; go_wp2; go_ret; exact ⟨rfl, rfl⟩
    · go_enter Tryz.func92, Tryz.ntmps92; go_wp2; go_ret; exact ⟨rfl, rfl⟩
  · go_enter Tryz.func92, Tryz.ntmps92; go_wp2; go_ret; exact ⟨rfl, rfl⟩
theorem holds_any (x : Int) (w : World) : Calls Tryz.prog 117 #[.int .u8 x] w fun e w' => e = .returned (.bool (holdsB x)) ∧ w' = w := by
  unfold holdsB
  cases h0 : x == 16
  · cases h1 : x == 17
    · go_enter Tryz.func117, Tryz.ntmps117; go_wp2; go_ret; exact ⟨rfl, rfl⟩
    · go_enter Tryz.func117, Tryz.ntmps117; go_wp2; go_ret; exact ⟨rfl, rfl⟩
  · go_enter Tryz.func117, Tryz.ntmps117; go_wp2; go_ret; exact ⟨rfl, rfl⟩
end Go.Proofs.YtebnlafjepfkdaaGreatDoor

namespace Go.Proofs.YtebnlafjepfkdaaGreatDoor
open Go.RowKit

/-- Where the n-th instruction begins. -/
def pos (c : Nat → Int) : Nat → Nat
  | 0 => 0
  | n + 1 => pos c n + szOf (c (pos c n)).toNat

/-- A program of N instructions and L bytes. -/
structure VP (c : Nat → Int) (L N : Nat) : Prop where
  most : L ≤ 80
  one : 0 < N
  last : pos c N = L
  op : ∀ m, m < N → c (pos c m) ≤ 19
  byte : ∀ i, i < L → 0 ≤ c i ∧ c i ≤ 255
  cell : ∀ m, m < N → holdsB (c (pos c m)) = true → c (pos c m + 1) < 16
  stop : endsB (c (pos c (N - 1))) = true
  jump : ∀ m, m < N → leadsB (c (pos c m)) = true → ∃ t, t < N ∧ (pos c t : Int) = c (pos c m + 1)

theorem VP.succ {c : Nat → Int} {L N : Nat} (V : VP c L N) {m : Nat} (hm : m < N) : pos c m + 1 ≤ pos c (m + 1) := by
  have := V.op m hm
  have := (szOf_pos (c (pos c m)).toNat (by omega)).1
  show _ ≤ pos c m + szOf _
  omega
theorem VP.mono {c : Nat → Int} {L N : Nat} (V : VP c L N) {m : Nat} : ∀ d, m + d ≤ N → pos c m + d ≤ pos c (m + d) := by
  intro d
  induction d with
  | zero => intro _; exact Nat.le_refl _
  | succ d ih => intro h; have := ih (by omega); have h2 := V.succ (m := m + d) (by omega); rw [← Nat.add_assoc m d 1]; omega
theorem VP.lt {c : Nat → Int} {L N : Nat} (V : VP c L N) {m : Nat} (hm : m < N) : pos c m < L := by
  have := V.mono (m := m) (N - m) (by omega)
  rw [show m + (N - m) = N by omega, V.last] at this
  omega
theorem VP.fits {c : Nat → Int} {L N : Nat} (V : VP c L N) {m : Nat} (hm : m < N) : pos c m + szOf (c (pos c m)).toNat ≤ L := by
  have := V.mono (m := m + 1) (N - (m + 1)) (by omega)
  rw [show m + 1 + (N - (m + 1)) = N by omega, V.last] at this
  have e : pos c (m + 1) = pos c m + szOf (c (pos c m)).toNat := rfl
  omega

/-- What a loop over the instructions meets at the m-th. -/
structure At (c : Nat → Int) (L p kk : Nat) : Prop where
  lt : p < L
  most : L ≤ 80
  op : c p = (kk : Int)
  k : kk ≤ 19
  fits : p + szOf kk ≤ L
  sz : ((p + szOf kk : Nat) : Int) = (p : Int) + shp (kk * 3)
  s1 : 1 ≤ shp (kk * 3)
  s2 : shp (kk * 3) ≤ 2
  pos : 1 ≤ szOf kk
theorem VP.at {c : Nat → Int} {L N : Nat} (V : VP c L N) {m : Nat} (hm : m < N) : ∃ kk, At c L (pos c m) kk ∧ pos c (m + 1) = pos c m + szOf kk := by
  have h1 := V.lt hm
  have h2 := V.op m hm
  have h3 := V.byte _ h1
  have h4 := V.fits hm
  obtain ⟨a, b, d⟩ := szOf_pos (c (pos c m)).toNat (by omega)
  exact ⟨(c (pos c m)).toNat, ⟨h1, V.most, by omega, by omega, h4, by omega, by omega, by omega, a⟩, rfl⟩

theorem Tab.below {w wr : World} (hT : Tab w) (hB : Below w.heap.size w wr) : Tab wr := fun k hk => (hB.cell (p := ⟨0, k, none⟩) hT.pos).trans (hT k hk)

theorem field_sz (s t l : Int) (w : World) : (Instr.field 152 (.agg #[.int .i64 s, .int .i64 t, .int .i64 l]) 0).run Tryz.prog w = .ok (.int .i64 s) w := by kernel_rfl

/-- The code lies in memory. -/
structure Laid (w : World) (cb co L cap : Nat) (c : Nat → Int) : Prop where
  cell : ∀ i, i < L → w.cell? ⟨cb, co + i, none⟩ = some (.int .u8 (c i))
  room : L ≤ cap
  room' : cap ≤ 9223372036854775807
  some' : 0 < L

theorem Laid.blk {w : World} {cb co L cap : Nat} {c : Nat → Int} (h : Laid w cb co L cap c) : cb < w.heap.size := block_lt_of_cell (h.cell 0 h.some')
theorem Laid.at {w wr : World} {cb co L cap : Nat} {c : Nat → Int} (h : Laid w cb co L cap c) (hB : Below w.heap.size w wr) {p : Nat} (hp : p < L) : wr.cell? ⟨cb, co + p, none⟩ = some (.int .u8 (c p)) :=
  (hB.cell (p := ⟨cb, co + p, none⟩) h.blk).trans (h.cell p hp)
theorem Laid.below {w wr : World} {cb co L cap : Nat} {c : Nat → Int} (h : Laid w cb co L cap c) (hB : Below w.heap.size w wr) : Laid wr cb co L cap c := ⟨fun _ hi => h.at hB hi, h.room, h.room', h.some'⟩

set_option maxHeartbeats 400000 in
theorem hasProbe_no (w : World) (cb co L cap N : Nat) (c : Nat → Int) (V : VP c L N) (C : Laid w cb co L cap c) (hT : Tab w) :
    Calls Tryz.prog 80 #[.slice (some ⟨cb, co, none⟩) L cap] w fun e w' => e = .returned (.bool false) ∧ Below w.heap.size w w' := by
  have hfs := field_sz
  go_enter Tryz.func80, Tryz.ntmps80
  go_wp2
  go_loopw [3] (fun i wr => ∃ m : Nat, m ≤ N ∧ i = .int .i64 (pos c m) ∧ Below w.heap.size w wr) (fun i _ => L - (intOf i).toNat)
  case atStart => exact ⟨0, by omega, rfl, Below.refl _ _⟩
  case round =>
    obtain ⟨m, hm, rfl, hB⟩ := hrel
    by_cases hlt : m < N
    · obtain ⟨kk, A, hsucc⟩ := V.at hlt
      have hck := C.at hB A.lt
      rw [A.op] at hck
      have h1 := A.lt
      have h2 := A.fits
      have h3 := A.sz
      have h4 := A.s1
      have h5 := A.s2
      have h6 := A.pos
      have h7 := A.most
      have hk := A.k
      have h20 : ((kk : Int) == 20) = false := by rw [beq_eq_false_iff_ne]; omega
      have hTr : Hid (Tab wr) := hT.below hB
      have HS : Hid (pos c (m + 1) = pos c m + szOf kk) := hsucc
      have HZ : Hid (((pos c m + szOf kk : Nat) : Int) = (pos c m : Int) + shp (kk * 3)) := h3
      have hi1 : (pos c m : Int) < (L : Int) := by omega
      clear hsucc h3 A
      go_wp2_with (go_at_call 91; refine (shapeOf_any kk (by omega) _ hTr.out).mono ?_; rintro e w' ⟨rfl, cc, rfl⟩)
      go_roundw
      case rel => exact ⟨m + 1, by omega, by rw [HS.out, HZ.out], hB.alloc (by have := hB.size; omega) _⟩
      case measure => simp [intOf]; omega
    · have e : m = N := by omega
      subst e
      rw [V.last]
      go_wp2
      go_ret
      exact ⟨rfl, hB⟩
end Go.Proofs.YtebnlafjepfkdaaGreatDoor

