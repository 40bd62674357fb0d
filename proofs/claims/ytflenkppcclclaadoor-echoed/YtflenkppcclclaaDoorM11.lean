import Derived.Test.YtflenkppcclclaaDoorM10
import Derived.Lib.IndexBytes
namespace Go.Proofs.YtflenkppcclclaaDoor
open Go.RowKit

theorem ba_ext {s t : ByteArray} (h : s.data.toList = t.data.toList) : s = t := by rw [← Lib.mk_data s, ← Lib.mk_data t, h]
theorem tail_size (s : ByteArray) (j : Nat) : (s.extract j s.size).size = s.size - j := by
  rw [Lib.size_eq, Lib.extract_to_end, List.length_drop, ← Lib.size_eq]
theorem tail_zero (s : ByteArray) : s.extract 0 s.size = s := ba_ext (by rw [Lib.extract_to_end]; rfl)
theorem tail_tail (s : ByteArray) (j : Nat) : (s.extract j s.size).extract 1 (s.extract j s.size).size = s.extract (j + 1) s.size :=
  ba_ext (by rw [Lib.extract_to_end, Lib.extract_to_end, Lib.extract_to_end, List.drop_drop])
theorem tail_head (s : ByteArray) (j : Nat) (h : j < s.size) (h' : 0 < (s.extract j s.size).size) : (s.extract j s.size)[0]'h' = s[j]'h := by
  have a := Lib.data_getElem? (s.extract j s.size) 0 h'
  have b := Lib.data_getElem? s j h
  rw [Lib.extract_to_end, List.getElem?_drop, Nat.add_zero, b] at a
  exact (Option.some.inj a).symm

/-- The first j bytes, as numbers. -/
def outl (s : ByteArray) (j : Nat) : List Int := (s.data.toList.take j).map fun b => (b.toNat : Int)
theorem outl_len (s : ByteArray) (j : Nat) (h : j ≤ s.size) : (outl s j).length = j := by
  rw [outl, List.length_map, List.length_take, ← Lib.size_eq]; omega
theorem outl_succ (s : ByteArray) (j : Nat) (h : j < s.size) : outl s (j + 1) = outl s j ++ [((s[j]'h).toNat : Int)] := by
  unfold outl
  rw [List.take_succ_eq_append_getElem (by rw [← Lib.size_eq]; exact h), List.map_append]
  rfl
theorem outl_str (s : ByteArray) (j : Nat) : strOfNums (outl s j) = s.extract 0 j := by
  refine ba_ext ?_
  rw [strOfNums_data, outl, List.map_map, Lib.extract_data, List.drop_zero, Nat.sub_zero]
  have : (fun n => UInt8.ofNat n.toNat) ∘ (fun b : UInt8 => (b.toNat : Int)) = id := by
    funext b
    simp
  rw [this, List.map_id]

def ce0 : Nat → Int := fun _ => 0
/-- Ahead of the j-th byte. -/
def stA (s : ByteArray) (j : Nat) (pl a : Int) : St := ⟨[], ce0, s.extract j s.size, outl s j, 0, 0, 0, pl, a, false⟩

section
variable {f a x : Int} {σ : St} {n : Nat} {inp : ByteArray} {out : List Int} {pl : Int}
theorem m2 (h : Lives f σ n ⟨[x], ce0, inp, out, 1, 0, 0, 0, a + 1, false⟩) (hf : a + 1 < f) : Lives f σ (n + 1) ⟨[x, x], ce0, inp, out, 2, 0, 0, 1, a + 2, false⟩ :=
  h.step rfl ((q1 f x ce0 inp out 0 0 0 (a + 1) (by omega)).trans (by rw [show a + 1 + 1 = a + 2 by omega]))
theorem m3 (h : Lives f σ n ⟨[x, x], ce0, inp, out, 2, 0, 0, 1, a + 2, false⟩) (hf : a + 2 < f) : Lives f σ (n + 1) ⟨[x, x, 255], ce0, inp, out, 4, 0, 0, 2, a + 3, false⟩ :=
  h.step rfl ((q2 f x ce0 inp out 0 0 1 (a + 2) (by omega)).trans (by rw [show a + 2 + 1 = a + 3 by omega]))
theorem m4 (h : Lives f σ n ⟨[x, x, 255], ce0, inp, out, 4, 0, 0, 2, a + 3, false⟩) (hf : a + 3 < f) : Lives f σ (n + 1) ⟨[x, 255, x], ce0, inp, out, 5, 0, 0, 4, a + 4, false⟩ :=
  h.step rfl ((q4 f x ce0 inp out 0 0 2 (a + 3) (by omega)).trans (by rw [show a + 3 + 1 = a + 4 by omega]))
theorem m5 (h : Lives f σ n ⟨[x, 255, x], ce0, inp, out, 5, 0, 0, 4, a + 4, false⟩) (hf : a + 4 < f) : Lives f σ (n + 1) ⟨[x, tru (decide ((255 : Int) < x))], ce0, inp, out, 6, 0, 0, 5, a + 5, false⟩ :=
  h.step rfl ((q5 f x ce0 inp out 0 0 4 (a + 4) (by omega)).trans (by rw [show a + 4 + 1 = a + 5 by omega]))
theorem m6 (h : Lives f σ n ⟨[x, tru (decide ((255 : Int) < x))], ce0, inp, out, 6, 0, 0, 5, a + 5, false⟩) (hx : ¬ (255 : Int) < x) (hf : a + 5 < f) : Lives f σ (n + 1) ⟨[x], ce0, inp, out, 10, 0, 0, 6, a + 6, false⟩ := by
  have e : tru (decide ((255 : Int) < x)) = 0 := by rw [decide_eq_false hx]; rfl
  rw [e] at h
  exact h.step rfl ((q6 f x ce0 inp out 0 0 5 (a + 5) (by omega)).trans (by rw [show a + 5 + 1 = a + 6 by omega]))
theorem m6e (h : Lives f σ n ⟨[256, tru (decide ((255 : Int) < 256))], ce0, inp, out, 6, 0, 0, 5, a + 5, false⟩) (hf : a + 5 < f) : Lives f σ (n + 1) ⟨[256], ce0, inp, out, 8, 0, 0, 6, a + 6, false⟩ :=
  h.step rfl ((q6e f 256 ce0 inp out 0 0 5 (a + 5) (by omega)).trans (by rw [show a + 5 + 1 = a + 6 by omega]))
theorem m8 (h : Lives f σ n ⟨[256], ce0, inp, out, 8, 0, 0, 6, a + 6, false⟩) (hf : a + 6 < f) : Lives f σ (n + 1) ⟨[256], ce0, inp, out, 9, 0, 0, 8, a + 7, true⟩ :=
  h.step rfl ((q8 f 256 ce0 inp out 0 0 6 (a + 6) (by omega)).trans (by rw [show a + 6 + 1 = a + 7 by omega]))
theorem m10e (h : Lives f σ n ⟨[x], ce0, inp, out, 10, 0, 0, 6, a + 6, false⟩) (ho : out.length = 16) (hf : a + 6 < f) : Lives f σ (n + 1) ⟨[], ce0, inp, out, 11, 1, 4, 10, a + 7, true⟩ :=
  h.step rfl ((q10e f x ce0 inp out 0 0 6 (a + 6) (by omega) ho).trans (by rw [show a + 6 + 1 = a + 7 by omega]))
theorem m7 (h : Lives f σ n ⟨[x], ce0, inp, out, 10, 0, 0, 6, a + 6, false⟩) (ho : out.length ≠ 16) (hx0 : 0 ≤ x) (hx : x ≤ 255) (hf : a + 6 < f) : Lives f σ (n + 1) ⟨[], ce0, inp, out ++ [x], 11, 0, 0, 10, a + 7, false⟩ :=
  h.step rfl ((q10 f x ce0 inp out 0 0 6 (a + 6) (by omega) ho).trans (by rw [show a + 6 + 1 = a + 7 by omega, show IntKind.u8.wrap x = x by simp [IntKind.wrap, IntKind.signed, IntKind.bits]; omega]))
theorem m0 (h : Lives f σ n ⟨[], ce0, inp, out, 11, 0, 0, 10, a + 7, false⟩) (hf : a + 7 < f) : Lives f σ (n + 1) ⟨[], ce0, inp, out, 0, 0, 0, 11, a + 8, false⟩ :=
  h.step rfl ((q11 f ce0 inp out 0 0 10 (a + 7) (by omega)).trans (by rw [show a + 7 + 1 = a + 8 by omega]))
end

theorem m1 {s : ByteArray} {f a pl : Int} {σ : St} {n j : Nat} (hj : j < s.size) (h : Lives f σ n (stA s j pl a)) (hf : a < f) : Lives f σ (n + 1) ⟨[((s[j]'hj).toNat : Int)], ce0, s.extract (j + 1) s.size, outl s j, 1, 0, 0, 0, a + 1, false⟩ := by
  have hp : 0 < (s.extract j s.size).size := by rw [tail_size]; omega
  have := q0 f ce0 (s.extract j s.size) (outl s j) 0 0 pl a (by omega) hp
  rw [tail_tail, tail_head s j hj hp] at this
  exact h.step rfl this
theorem m1e {s : ByteArray} {f a pl : Int} {σ : St} {n j : Nat} (hj : s.size ≤ j) (h : Lives f σ n (stA s j pl a)) (hf : a < f) : Lives f σ (n + 1) ⟨[256], ce0, s.extract j s.size, outl s j, 1, 0, 0, 0, a + 1, false⟩ :=
  h.step rfl (q0e f ce0 (s.extract j s.size) (outl s j) 0 0 pl a (by omega) (by rw [tail_size]; omega))

theorem byte_le (b : UInt8) : 0 ≤ (b.toNat : Int) ∧ (b.toNat : Int) ≤ 255 := by have := b.toNat_lt; omega

/-- A whole pass. -/
theorem pass {s : ByteArray} {f a pl : Int} {σ : St} {n j : Nat} (hj : j < s.size) (h16 : j < 16) (h : Lives f σ n (stA s j pl a)) (hf : a + 8 ≤ f) : Lives f σ (n + 8) (stA s (j + 1) 11 (a + 8)) := by
  have hb := byte_le (s[j]'hj)
  have h7 := m7 (m6 (m5 (m4 (m3 (m2 (m1 hj h (by omega)) (by omega)) (by omega)) (by omega)) (by omega)) (by omega) (by omega)) (by rw [outl_len s j (by omega)]; omega) hb.1 hb.2 (by omega)
  rw [← outl_succ s j hj] at h7
  exact m0 h7 (by omega)

theorem passes {s : ByteArray} {f : Int} : ∀ j : Nat, j ≤ s.size → j ≤ 16 → 8 * (j : Int) ≤ f → ∃ pl, Lives f (σ0 s) (8 * j) (stA s j pl (8 * (j : Int)))
  | 0, _, _, _ => ⟨0, by
      have e : σ0 s = stA s 0 0 (8 * ((0 : Nat) : Int)) := by unfold σ0 stA; rw [tail_zero]; rfl
      rw [← e]; exact Lives.zero f _⟩
  | j + 1, h1, h2, h3 => by
    obtain ⟨pl, h⟩ := passes (s := s) (f := f) j (by omega) (by omega) (by omega)
    have := pass (by omega) (by omega) h (by omega)
    refine ⟨11, ?_⟩
    rw [show 8 * (j + 1) = 8 * j + 8 by omega, show 8 * ((j + 1 : Nat) : Int) = 8 * (j : Int) + 8 by omega]
    exact this

/-- How a run comes to its end. -/
structure Ends (f : Int) (s : ByteArray) (kd fl pl : Int) (o : List Int) (st : Int) : Prop where
  ends : ∃ n τ, Lives f (σ0 s) n τ ∧ τ.ended = true ∧ τ.kind = kd ∧ τ.fault = fl ∧ τ.place = pl ∧ τ.out = o ∧ τ.steps = st

theorem hung {f : Int} {s : ByteArray} {n : Nat} {τ : St} (h : Lives f (σ0 s) n τ) (he : τ.ended = false) (hs : τ.steps = f) (hk : (cQ τ.next.toNat).toNat ≠ 20) : Ends f s 2 0 τ.next τ.out f :=
  ⟨n + 1, _, h.step he (qh f τ hs hk), rfl, rfl, rfl, rfl, rfl, hs⟩

theorem done {f : Int} {s : ByteArray} (h16 : s.size ≤ 16) (hf : 8 * (s.size : Int) + 7 ≤ f) : Ends f s 0 0 8 (outl s s.size) (8 * (s.size : Int) + 7) := by
  obtain ⟨pl, h⟩ := passes (f := f) s.size (Nat.le_refl _) h16 (by omega)
  have := m8 (m6e (m5 (m4 (m3 (m2 (m1e (Nat.le_refl _) h (by omega)) (by omega)) (by omega)) (by omega)) (by omega)) (by omega)) (by omega)
  exact ⟨_, _, this, rfl, rfl, rfl, rfl, rfl, rfl⟩

theorem full {f : Int} {s : ByteArray} (h16 : 16 < s.size) (hf : 135 ≤ f) : Ends f s 1 4 10 (outl s 16) 135 := by
  obtain ⟨pl, h⟩ := passes (s := s) (f := f) 16 (by omega) (by omega) (by omega)
  have hb := byte_le (s[16]'h16)
  have := m10e (m6 (m5 (m4 (m3 (m2 (m1 h16 h (by omega)) (by omega)) (by omega)) (by omega)) (by omega)) (by omega) (by omega)) (outl_len s 16 (by omega)) (by omega)
  exact ⟨_, _, this, rfl, rfl, rfl, rfl, rfl, rfl⟩

/-- Where the k-th step of a pass is. -/
def placeOf (k : Nat) : Int := [0, 1, 2, 4, 5, 6, 10, 11].getD k 0

theorem hangs {f : Int} {s : ByteArray} {j k : Nat} (hf : f = 8 * (j : Int) + k) (hj : j < s.size) (h16 : j ≤ 16) (hk : k ≤ 6) : Ends f s 2 0 (placeOf k) (outl s j) f := by
  obtain ⟨pl, h⟩ := passes (s := s) (f := f) j (by omega) h16 (by omega)
  have hb := byte_le (s[j]'hj)
  match k, hk with
  | 0, _ => exact hung h rfl (by show 8 * (j : Int) = f; omega) (by show (2 : Nat) ≠ 20; decide)
  | 1, _ => exact hung (m1 hj h (by omega)) rfl (by show 8 * (j : Int) + 1 = f; omega) (by show (3 : Nat) ≠ 20; decide)
  | 2, _ => exact hung (m2 (m1 hj h (by omega)) (by omega)) rfl (by show 8 * (j : Int) + 2 = f; omega) (by show (1 : Nat) ≠ 20; decide)
  | 3, _ => exact hung (m3 (m2 (m1 hj h (by omega)) (by omega)) (by omega)) rfl (by show 8 * (j : Int) + 3 = f; omega) (by show (5 : Nat) ≠ 20; decide)
  | 4, _ => exact hung (m4 (m3 (m2 (m1 hj h (by omega)) (by omega)) (by omega)) (by omega)) rfl (by show 8 * (j : Int) + 4 = f; omega) (by show (13 : Nat) ≠ 20; decide)
  | 5, _ => exact hung (m5 (m4 (m3 (m2 (m1 hj h (by omega)) (by omega)) (by omega)) (by omega)) (by omega)) rfl (by show 8 * (j : Int) + 5 = f; omega) (by show (15 : Nat) ≠ 20; decide)
  | 6, _ => exact hung (m6 (m5 (m4 (m3 (m2 (m1 hj h (by omega)) (by omega)) (by omega)) (by omega)) (by omega)) (by omega) (by omega)) rfl (by show 8 * (j : Int) + 6 = f; omega) (by show (18 : Nat) ≠ 20; decide)
theorem hangs7 {f : Int} {s : ByteArray} {j : Nat} (hf : f = 8 * (j : Int) + 7) (hj : j < s.size) (h16 : j < 16) : Ends f s 2 0 11 (outl s (j + 1)) f := by
  obtain ⟨pl, h⟩ := passes (s := s) (f := f) j (by omega) (by omega) (by omega)
  have hb := byte_le (s[j]'hj)
  have h7 := m7 (m6 (m5 (m4 (m3 (m2 (m1 hj h (by omega)) (by omega)) (by omega)) (by omega)) (by omega)) (by omega) (by omega)) (by rw [outl_len s j (by omega)]; omega) hb.1 hb.2 (by omega)
  rw [← outl_succ s j hj] at h7
  exact hung h7 rfl (by show 8 * (j : Int) + 7 = f; omega) (by show (14 : Nat) ≠ 20; decide)
theorem hangsE {f : Int} {s : ByteArray} {k : Nat} (hf : f = 8 * (s.size : Int) + k) (h16 : s.size ≤ 16) (hk : k ≤ 6) : Ends f s 2 0 (if k = 6 then 8 else placeOf k) (outl s s.size) f := by
  obtain ⟨pl, h⟩ := passes (s := s) (f := f) s.size (Nat.le_refl _) h16 (by omega)
  have hj := Nat.le_refl s.size
  match k, hk with
  | 0, _ => exact hung h rfl (by show 8 * (s.size : Int) = f; omega) (by show (2 : Nat) ≠ 20; decide)
  | 1, _ => exact hung (m1e hj h (by omega)) rfl (by show 8 * (s.size : Int) + 1 = f; omega) (by show (3 : Nat) ≠ 20; decide)
  | 2, _ => exact hung (m2 (m1e hj h (by omega)) (by omega)) rfl (by show 8 * (s.size : Int) + 2 = f; omega) (by show (1 : Nat) ≠ 20; decide)
  | 3, _ => exact hung (m3 (m2 (m1e hj h (by omega)) (by omega)) (by omega)) rfl (by show 8 * (s.size : Int) + 3 = f; omega) (by show (5 : Nat) ≠ 20; decide)
  | 4, _ => exact hung (m4 (m3 (m2 (m1e hj h (by omega)) (by omega)) (by omega)) (by omega)) rfl (by show 8 * (s.size : Int) + 4 = f; omega) (by show (13 : Nat) ≠ 20; decide)
  | 5, _ => exact hung (m5 (m4 (m3 (m2 (m1e hj h (by omega)) (by omega)) (by omega)) (by omega)) (by omega)) rfl (by show 8 * (s.size : Int) + 5 = f; omega) (by show (15 : Nat) ≠ 20; decide)
  | 6, _ => exact hung (m6e (m5 (m4 (m3 (m2 (m1e hj h (by omega)) (by omega)) (by omega)) (by omega)) (by omega)) (by omega)) rfl (by show 8 * (s.size : Int) + 6 = f; omega) (by show (0 : Nat) ≠ 20; decide)

/-- What 'Run' answers is what the run comes to. -/
theorem answer {f : Int} {s : ByteArray} {kd fl pl st : Int} {o : List Int} (E : Ends f s kd fl pl o st) {w w' : World} {e : Ending} (A : Answer cQ 13 10 s f w e w') :
    Below w.heap.size w w' ∧ ∃ g, e = .returned (.tuple #[.agg #[.int .i64 kd, .int .i64 fl, .int .i64 pl, .string (strOfNums o), .int .i64 st], .slice (some ⟨g, 0, none⟩) 64 64, .int .i64 0]) := by
  obtain ⟨n, τ, rfl, h2, h3, h4, g, _, _, h7⟩ := A
  obtain ⟨n0, τ0, L, e1, e2, e3, e4, e5, e6⟩ := E.ends
  have hn : n = n0 := by
    rcases Nat.lt_trichotomy n n0 with h | h | h
    · rw [after_itf, show (ρ0 s).σ = σ0 s from rfl, L.lives n h] at h2; cases h2
    · exact h
    · have := h3 n0 h
      rw [after_itf, show (ρ0 s).σ = σ0 s from rfl, L.comes, e1] at this
      cases this
  subst hn
  refine ⟨h4, g, ?_⟩
  rw [h7, after_itf, show (ρ0 s).σ = σ0 s from rfl, L.comes, e2, e3, e4, e5, e6]
end Go.Proofs.YtflenkppcclclaaDoor

namespace Go.Proofs.YtflenkppcclclaaDoor
open Go.RowKit

def pickS (c n : Int) : Int := if c < 0 then -((c + 1).tmod n) else c % n
theorem pickS_bd (c n : Int) (hn : 1 ≤ n) : 0 ≤ pickS c n ∧ pickS c n < n := by
  unfold pickS
  by_cases h : c < 0
  · rw [if_pos h]
    have e : -((c + 1).tmod n) = (-(c + 1)) % n := by rw [← Int.tmod_eq_emod_of_nonneg (by omega), Int.neg_tmod]
    rw [e]
    exact ⟨Int.emod_nonneg _ (by omega), Int.emod_lt_of_pos _ (by omega)⟩
  · rw [if_neg h]
    exact ⟨Int.emod_nonneg _ (by omega), Int.emod_lt_of_pos _ (by omega)⟩
theorem pickS_any (c n : Int) (h1 : -9223372036854775808 ≤ c) (h2 : c ≤ 9223372036854775807) (hn : 1 ≤ n) (hn' : n ≤ 1000) (w : World) : Calls Tryd.prog 9 #[.int .i64 c, .int .i64 n] w fun e w' => e = .returned (.int .i64 (pickS c n)) ∧ w' = w := by
  unfold pickS
  by_cases h : c < 0
  · rw [if_pos h]
    go_enter Tryd.func9, Tryd.ntmps9
    go_wp2
    go_ret
    exact ⟨rfl, rfl⟩
  · rw [if_neg h]
    go_enter Tryd.func9, Tryd.ntmps9
    go_wp2
    go_ret
    exact ⟨rfl, rfl⟩

def blkQ : Obj := .cells #[.int .u8 2, .int .u8 3, .int .u8 1, .int .u8 255, .int .u8 5, .int .u8 13, .int .u8 15, .int .u8 10, .int .u8 0, .int .u8 0, .int .u8 18, .int .u8 14, .int .u8 0] 5
theorem laidQ (w : World) : Laid (w.alloc blkQ) w.heap.size 0 13 13 cQ where
  cell := by
    intro i hi
    rw [Nat.zero_add, blkQ, World.cell?_alloc_new]
    match i, hi with
    | 0, _ | 1, _ | 2, _ | 3, _ | 4, _ | 5, _ | 6, _ | 7, _ | 8, _ | 9, _ | 10, _ | 11, _ | 12, _ => rfl
    | i + 13, hi => omega
  room := Nat.le_refl _
  room' := by decide
  some' := by decide

/-- 'Run' of the echo, as far as the law looks at it. -/
theorem runQ {f : Int} {s t : ByteArray} {kd fl pl st : Int} {o : List Int} (E : Ends f s kd fl pl o st) (ht : strOfNums o = t) (hs : s.size ≤ 24) (hf0 : 0 ≤ f) (hf1 : f ≤ 500) (w : World) (hT : Tab w) :
    Calls Tryd.prog 10 #[.slice (some ⟨w.heap.size, 0, none⟩) 13 13, .string s, .int .i64 f] (w.alloc blkQ) fun e w' => Below (w.heap.size + 1) (w.alloc blkQ) w' ∧ ∃ g, e = .returned (.tuple #[.agg #[.int .i64 kd, .int .i64 fl, .int .i64 pl, .string t, .int .i64 st], .slice (some ⟨g, 0, none⟩) 64 64, .int .i64 0]) := by
  refine (xRun_any (w.alloc blkQ) w.heap.size 0 13 13 10 cQ vQ (laidQ w) (hT.alloc _) s f hs hf0 hf1).mono ?_
  intro e w' A
  have := answer E A
  rw [ht, World.size_alloc] at this
  exact this
end Go.Proofs.YtflenkppcclclaaDoor

namespace Go.Proofs.YtflenkppcclclaaDoor
open Go.RowKit

set_option maxHeartbeats 1000000 in
set_option maxRecDepth 100000 in
theorem ech_done (input s : ByteArray) (fuel f : Int) (w : World) (hT : Tab w) (hsh : Hid (∀ w, Calls Tryd.prog 8 #[.string input, .int .i64 24] w fun e w' => e = .returned (.string s) ∧ w' = w)) (hpk : Hid (∀ w, Calls Tryd.prog 9 #[.int .i64 fuel, .int .i64 501] w fun e w' => e = .returned (.int .i64 f) ∧ w' = w))
    (hs : s.size ≤ 24) (hf0 : 0 ≤ f) (hf1 : f ≤ 500) (h16 : s.size ≤ 16) (hT2 : 8 * (s.size : Int) + 7 ≤ f) :
    Calls Tryd.prog 3 #[.string input, .int .i64 fuel] w fun e w' => e = .returned (.bool true) ∧ Below w.heap.size w w' := by
  have HE : Hid (Ends f s 0 0 8 (outl s s.size) (8 * (s.size : Int) + 7)) := done h16 hT2
  have HT : Hid (strOfNums (outl s s.size) = s) := by show strOfNums (outl s s.size) = s; rw [outl_str]; exact tail_zero s
  have d1 : ¬ (16 : Int) < (s.size : Int) := by omega
  have d2 : ¬ f < 8 * (s.size : Int) + 7 := by omega
  have d0 : (s.size : Int) ≤ 24 := by omega
  clear h16 hT2
  go_enter Tryd.func3, Tryd.ntmps3
  go_wp2_with fail
  refine (ran_any w hT).mono ?_
  rintro e w1 ⟨rfl, B1⟩
  go_wp2_with fail
  refine (hsh.out _).mono ?_
  rintro e w1 ⟨rfl, rfl⟩
  go_wp2_with fail
  refine (hpk.out _).mono ?_
  rintro e w1 ⟨rfl, rfl⟩
  go_wp2_with fail
  refine (runQ HE.out HT.out hs hf0 hf1 w1 (hT.below B1)).mono ?_
  rintro e w3 ⟨B3, g, rfl⟩
  have B2 : Below w.heap.size w (w1.alloc blkQ) := B1.alloc B1.size _
  have B03 : Below w.heap.size w w3 := B2.trans (B3.mono (by have := B1.size; omega))
  have BH : Hid (Below w.heap.size w w3) := B03
  have hz := B03.size
  clear hT B1 B2 B3 B03 hsh hpk
  go_wp2
  go_ret
  refine ⟨rfl, ?_⟩
  have BB := BH.out
  have z2 : ∀ o, w.heap.size ≤ (w3.alloc o).heap.size := fun o => by simp; omega
  have z3 : ∀ o p, w.heap.size ≤ ((w3.alloc o).alloc p).heap.size := fun o p => by simp; omega
  first
    | exact (BB.alloc hz _).alloc (z2 _) _
    | exact (((BB.alloc hz _).alloc (z2 _) _).alloc (z3 _ _) _).drew

set_option maxHeartbeats 1000000 in
set_option maxRecDepth 100000 in
theorem ech_full (input s : ByteArray) (fuel f : Int) (w : World) (hT : Tab w) (hsh : Hid (∀ w, Calls Tryd.prog 8 #[.string input, .int .i64 24] w fun e w' => e = .returned (.string s) ∧ w' = w)) (hpk : Hid (∀ w, Calls Tryd.prog 9 #[.int .i64 fuel, .int .i64 501] w fun e w' => e = .returned (.int .i64 f) ∧ w' = w))
    (hs : s.size ≤ 24) (hf0 : 0 ≤ f) (hf1 : f ≤ 500) (h16 : 16 < s.size) (hT2 : 135 ≤ f) :
    Calls Tryd.prog 3 #[.string input, .int .i64 fuel] w fun e w' => e = .returned (.bool true) ∧ Below w.heap.size w w' := by
  have HE : Hid (Ends f s 1 4 10 (outl s 16) 135) := full h16 hT2
  have HT : Hid (strOfNums (outl s 16) = s.extract 0 16) := outl_str s 16
  have d1 : (16 : Int) < (s.size : Int) := by omega
  have d1' : (16 : Int) ≤ (s.size : Int) := by omega
  have d2 : ¬ f < 135 := by omega
  have d0 : (s.size : Int) ≤ 24 := by omega
  clear h16 hT2
  go_enter Tryd.func3, Tryd.ntmps3
  go_wp2_with fail
  refine (ran_any w hT).mono ?_
  rintro e w1 ⟨rfl, B1⟩
  go_wp2_with fail
  refine (hsh.out _).mono ?_
  rintro e w1 ⟨rfl, rfl⟩
  go_wp2_with fail
  refine (hpk.out _).mono ?_
  rintro e w1 ⟨rfl, rfl⟩
  go_wp2_with fail
  refine (runQ HE.out HT.out hs hf0 hf1 w1 (hT.below B1)).mono ?_
  rintro e w3 ⟨B3, g, rfl⟩
  have B2 : Below w.heap.size w (w1.alloc blkQ) := B1.alloc B1.size _
  have B03 : Below w.heap.size w w3 := B2.trans (B3.mono (by have := B1.size; omega))
  have BH : Hid (Below w.heap.size w w3) := B03
  have hz := B03.size
  clear hT B1 B2 B3 B03 hsh hpk
  go_wp2
  go_ret
  refine ⟨rfl, ?_⟩
  have BB := BH.out
  have z2 : ∀ o, w.heap.size ≤ (w3.alloc o).heap.size := fun o => by simp; omega
  have z3 : ∀ o p, w.heap.size ≤ ((w3.alloc o).alloc p).heap.size := fun o p => by simp; omega
  first
    | exact (BB.alloc hz _).alloc (z2 _) _
    | exact (((BB.alloc hz _).alloc (z2 _) _).alloc (z3 _ _) _).drew

end Go.Proofs.YtflenkppcclclaaDoor

