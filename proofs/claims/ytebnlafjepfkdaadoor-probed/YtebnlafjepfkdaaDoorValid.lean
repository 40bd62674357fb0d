import Derived.Test.YtebnlafjepfkdaaDoorPure
import Derived.Test.YtebnlafjepfkdaaDoorSmall
namespace Go.Proofs.YtebnlafjepfkdaaDoor
open Go.RowKit

/-- Where the n-th instruction begins. -/
def pos (c : Nat → Int) : Nat → Nat
  | 0 => 0
  | n + 1 => pos c n + szOf (c (pos c n)).toNat

/-- A program of N instructions and L bytes. -/
structure VP (c : Nat → Int) (L N : Nat) : Prop where
  most : L ≤ 80
  one : 0 < N
  last : pos c N = L
  op : ∀ m, m < N → c (pos c m) ≤ 19
  byte : ∀ i, i < L → 0 ≤ c i ∧ c i ≤ 255
  cell : ∀ m, m < N → holdsB (c (pos c m)) = true → c (pos c m + 1) < 16
  stop : endsB (c (pos c (N - 1))) = true
  jump : ∀ m, m < N → leadsB (c (pos c m)) = true → ∃ t, t < N ∧ (pos c t : Int) = c (pos c m + 1)

theorem VP.succ {c : Nat → Int} {L N : Nat} (V : VP c L N) {m : Nat} (hm : m < N) : pos c m + 1 ≤ pos c (m + 1) := by
  have := V.op m hm
  have := (szOf_pos (c (pos c m)).toNat (by omega)).1
  show _ ≤ pos c m + szOf _
  omega
theorem VP.mono {c : Nat → Int} {L N : Nat} (V : VP c L N) {m : Nat} : ∀ d, m + d ≤ N → pos c m + d ≤ pos c (m + d) := by
  intro d
  induction d with
  | zero => intro _; exact Nat.le_refl _
  | succ d ih => intro h; have := ih (by omega); have h2 := V.succ (m := m + d) (by omega); rw [← Nat.add_assoc m d 1]; omega
theorem VP.lt {c : Nat → Int} {L N : Nat} (V : VP c L N) {m : Nat} (hm : m < N) : pos c m < L := by
  have := V.mono (m := m) (N - m) (by omega)
  rw [show m + (N - m) = N by omega, V.last] at this
  omega
theorem VP.fits {c : Nat → Int} {L N : Nat} (V : VP c L N) {m : Nat} (hm : m < N) : pos c m + szOf (c (pos c m)).toNat ≤ L := by
  have := V.mono (m := m + 1) (N - (m + 1)) (by omega)
  rw [show m + 1 + (N - (m + 1)) = N by omega, V.last] at this
  have e : pos c (m + 1) = pos c m + szOf (c (pos c m)).toNat := rfl
  omega

/-- What a loop over the instructions meets at the m-th. -/
structure At (c : Nat → Int) (L p kk : Nat) : Prop where
  lt : p < L
  most : L ≤ 80
  op : c p = (kk : Int)
  k : kk ≤ 19
  fits : p + szOf kk ≤ L
  sz : ((p + szOf kk : Nat) : Int) = (p : Int) + shp (kk * 3)
  s1 : 1 ≤ shp (kk * 3)
  s2 : shp (kk * 3) ≤ 2
  pos : 1 ≤ szOf kk
theorem VP.at {c : Nat → Int} {L N : Nat} (V : VP c L N) {m : Nat} (hm : m < N) : ∃ kk, At c L (pos c m) kk ∧ pos c (m + 1) = pos c m + szOf kk := by
  have h1 := V.lt hm
  have h2 := V.op m hm
  have h3 := V.byte _ h1
  have h4 := V.fits hm
  obtain ⟨a, b, d⟩ := szOf_pos (c (pos c m)).toNat (by omega)
  exact ⟨(c (pos c m)).toNat, ⟨h1, V.most, by omega, by omega, h4, by omega, by omega, by omega, a⟩, rfl⟩

theorem Tab.below {w wr : World} (hT : Tab w) (hB : Below w.heap.size w wr) : Tab wr := fun k hk => (hB.cell (p := ⟨0, k, none⟩) hT.pos).trans (hT k hk)

theorem field_sz (s t l : Int) (w : World) : (Instr.field 66 (.agg #[.int .i64 s, .int .i64 t, .int .i64 l]) 0).run Tryd.prog w = .ok (.int .i64 s) w := by kernel_rfl

/-- The code lies in memory. -/
structure Laid (w : World) (cb co L cap : Nat) (c : Nat → Int) : Prop where
  cell : ∀ i, i < L → w.cell? ⟨cb, co + i, none⟩ = some (.int .u8 (c i))
  room : L ≤ cap
  room' : cap ≤ 9223372036854775807
  some' : 0 < L

theorem Laid.blk {w : World} {cb co L cap : Nat} {c : Nat → Int} (h : Laid w cb co L cap c) : cb < w.heap.size := block_lt_of_cell (h.cell 0 h.some')
theorem Laid.at {w wr : World} {cb co L cap : Nat} {c : Nat → Int} (h : Laid w cb co L cap c) (hB : Below w.heap.size w wr) {p : Nat} (hp : p < L) : wr.cell? ⟨cb, co + p, none⟩ = some (.int .u8 (c p)) :=
  (hB.cell (p := ⟨cb, co + p, none⟩) h.blk).trans (h.cell p hp)
theorem Laid.below {w wr : World} {cb co L cap : Nat} {c : Nat → Int} (h : Laid w cb co L cap c) (hB : Below w.heap.size w wr) : Laid wr cb co L cap c := ⟨fun _ hi => h.at hB hi, h.room, h.room', h.some'⟩

set_option maxHeartbeats 400000 in
theorem hasProbe_no (w : World) (cb co L cap N : Nat) (c : Nat → Int) (V : VP c L N) (C : Laid w cb co L cap c) (hT : Tab w) :
    Calls Tryd.prog 20 #[.slice (some ⟨cb, co, none⟩) L cap] w fun e w' => e = .returned (.bool false) ∧ Below w.heap.size w w' := by
  have hfs := field_sz
  go_enter Tryd.func20, Tryd.ntmps20
  go_wp2
  go_loopw [3] (fun i wr => ∃ m : Nat, m ≤ N ∧ i = .int .i64 (pos c m) ∧ Below w.heap.size w wr) (fun i _ => L - (intOf i).toNat)
  case atStart => exact ⟨0, by omega, rfl, Below.refl _ _⟩
  case round =>
    obtain ⟨m, hm, rfl, hB⟩ := hrel
    by_cases hlt : m < N
    · obtain ⟨kk, A, hsucc⟩ := V.at hlt
      have hck := C.at hB A.lt
      rw [A.op] at hck
      have h1 := A.lt
      have h2 := A.fits
      have h3 := A.sz
      have h4 := A.s1
      have h5 := A.s2
      have h6 := A.pos
      have h7 := A.most
      have hk := A.k
      have h20 : ((kk : Int) == 20) = false := by rw [beq_eq_false_iff_ne]; omega
      have hTr : Hid (Tab wr) := hT.below hB
      have HS : Hid (pos c (m + 1) = pos c m + szOf kk) := hsucc
      have HZ : Hid (((pos c m + szOf kk : Nat) : Int) = (pos c m : Int) + shp (kk * 3)) := h3
      have hi1 : (pos c m : Int) < (L : Int) := by omega
      clear hsucc h3 A
      go_wp2_with (go_at_call 29; refine (shapeOf_any kk (by omega) _ hTr.out).mono ?_; rintro e w' ⟨rfl, cc, rfl⟩)
      go_roundw
      case rel => exact ⟨m + 1, by omega, by rw [HS.out, HZ.out], hB.alloc (by have := hB.size; omega) _⟩
      case measure => simp [intOf]; omega
    · have e : m = N := by omega
      subst e
      rw [V.last]
      go_wp2
      go_ret
      exact ⟨rfl, hB⟩
end Go.Proofs.YtebnlafjepfkdaaDoor
