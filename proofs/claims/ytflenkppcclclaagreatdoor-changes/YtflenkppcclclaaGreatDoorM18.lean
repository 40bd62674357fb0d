import Derived.Test.YtflenkppcclclaaGreatDoorM17
import Derived.Lib.IndexBytes
namespace Go.Proofs.YtflenkppcclclaaGreatDoor
open Go.RowKit

theorem u16_wrap (x : Int) : IntKind.u16.wrap x = x % 65536 := by
  simp [IntKind.wrap, IntKind.signed, IntKind.bits]
theorem u8_wrap_mod (x : Int) : IntKind.u8.wrap x = x % 256 := by
  simp [IntKind.wrap, IntKind.signed, IntKind.bits]
theorem i64_wrap_small {x : Int} (h0 : 0 ≤ x) (h1 : x ≤ 65535) : IntKind.i64.wrap x = x := by
  simp [IntKind.wrap, IntKind.signed, IntKind.bits]
  omega
theorem bv16 {a : Int} (h0 : 0 ≤ a) (h1 : a ≤ 65535) : (BitVec.ofInt 16 a).toNat = a.toNat := by
  rw [BitVec.toNat_ofInt]
  have : ((2 : Nat) ^ 16 : Nat) = 65536 := by decide
  rw [this]
  omega
theorem bv64 {a : Int} (h0 : 0 ≤ a) (h1 : a ≤ 65535) : (BitVec.ofInt 64 a).toNat = a.toNat := by
  rw [BitVec.toNat_ofInt]
  have : ((2 : Nat) ^ 64 : Nat) = 18446744073709551616 := by decide
  rw [this]
  omega
theorem and_is {a b : Int} (a0 : 0 ≤ a) (a1 : a ≤ 65535) (b0 : 0 ≤ b) (b1 : b ≤ 65535) : bits .and .u16 a b = ((a.toNat &&& b.toNat : Nat) : Int) ∧ bits .and .i64 a b = ((a.toNat &&& b.toNat : Nat) : Int) ∧ (a.toNat &&& b.toNat) < 65536 := by
  have h : (a.toNat &&& b.toNat) < 2 ^ 16 := Nat.and_lt_two_pow _ (by omega)
  have h' : (a.toNat &&& b.toNat) < 65536 := h
  refine ⟨?_, ?_, h'⟩
  · show IntKind.u16.wrap ((BitVec.ofInt 16 a &&& BitVec.ofInt 16 b).toNat : Int) = _
    rw [BitVec.toNat_and, bv16 a0 a1, bv16 b0 b1, u16_wrap]
    omega
  · show IntKind.i64.wrap ((BitVec.ofInt 64 a &&& BitVec.ofInt 64 b).toNat : Int) = _
    rw [BitVec.toNat_and, bv64 a0 a1, bv64 b0 b1, i64_wrap_small (by omega) (by omega)]
theorem xor_is {a b : Int} (a0 : 0 ≤ a) (a1 : a ≤ 65535) (b0 : 0 ≤ b) (b1 : b ≤ 65535) : bits .xor .u16 a b = ((a.toNat ^^^ b.toNat : Nat) : Int) ∧ bits .xor .i64 a b = ((a.toNat ^^^ b.toNat : Nat) : Int) ∧ (a.toNat ^^^ b.toNat) < 65536 := by
  have h : (a.toNat ^^^ b.toNat) < 2 ^ 16 := Nat.xor_lt_two_pow (by omega) (by omega)
  have h' : (a.toNat ^^^ b.toNat) < 65536 := h
  refine ⟨?_, ?_, h'⟩
  · show IntKind.u16.wrap ((BitVec.ofInt 16 a ^^^ BitVec.ofInt 16 b).toNat : Int) = _
    rw [BitVec.toNat_xor, bv16 a0 a1, bv16 b0 b1, u16_wrap]
    omega
  · show IntKind.i64.wrap ((BitVec.ofInt 64 a ^^^ BitVec.ofInt 64 b).toNat : Int) = _
    rw [BitVec.toNat_xor, bv64 a0 a1, bv64 b0 b1, i64_wrap_small (by omega) (by omega)]
theorem xor_zero_iff {x y : Nat} : x ^^^ y = 0 ↔ x = y := by
  constructor
  · intro h
    have : (x ^^^ y) ^^^ y = 0 ^^^ y := by rw [h]
    rw [Nat.xor_assoc, Nat.xor_self, Nat.xor_zero, Nat.zero_xor] at this
    exact this
  · intro h; rw [h, Nat.xor_self]

/-- What two numbers make: the program's and the document's way. -/
theorem wk_is {a b : Int} (a0 : 0 ≤ a) (a1 : a ≤ 65535) (b0 : 0 ≤ b) (b1 : b ≤ 65535) :
    IntKind.u16.wrap (a + b) = wk 6 a b ∧ IntKind.u16.wrap (a + IntKind.u16.wrap (-b)) = wk 7 a b ∧ IntKind.u16.wrap (a * b) = wk 8 a b ∧ bits .and .u16 a b = wk 9 a b ∧ bits .xor .u16 a b = wk 10 a b ∧
    (0 < b → IntKind.u16.wrap (a.tdiv b) = wk 11 a b) ∧ tru (decide (bits .xor .u16 a b < 1)) = wk 12 a b ∧ tru (decide (a < b)) = wk 13 a b := by
  refine ⟨?_, ?_, ?_, ?_, ?_, ?_, ?_, ?_⟩
  · rw [u16_wrap]; rfl
  · rw [u16_wrap, u16_wrap]
    show _ = (a + 65536 - b) % 65536
    omega
  · rw [u16_wrap]; rfl
  · rw [(and_is a0 a1 b0 b1).1]; exact (and_is a0 a1 b0 b1).2.1.symm
  · rw [(xor_is a0 a1 b0 b1).1]; exact (xor_is a0 a1 b0 b1).2.1.symm
  · intro hb
    rw [u16_wrap]
    show _ = a.tdiv b
    rw [Int.tdiv_eq_ediv_of_nonneg a0]
    have h1 := Int.ediv_nonneg a0 b0
    have h2 := Int.ediv_le_self b a0
    omega
  · rw [(xor_is a0 a1 b0 b1).1]
    have e : wk 12 a b = if a = b then 1 else 0 := by unfold wk; simp
    rw [e]
    unfold tru
    by_cases h : a = b
    · subst h; simp
    · have hx : a.toNat ^^^ b.toNat ≠ 0 := fun hx => h (by have := xor_zero_iff.1 hx; omega)
      rw [if_neg h, if_neg (by simp; omega)]
  · have e : wk 13 a b = if a < b then 1 else 0 := by unfold wk; simp
    rw [e]
    unfold tru
    by_cases h : a < b
    · simp [h]
    · simp [h]
theorem wk_bd {a b : Int} (a0 : 0 ≤ a) (a1 : a ≤ 65535) (b0 : 0 ≤ b) (b1 : b ≤ 65535) (x : Int) (hx : 6 ≤ x ∧ x ≤ 13) (hd : x = 11 → 0 < b) : 0 ≤ wk x a b ∧ wk x a b ≤ 65535 := by
  have h : x = 6 ∨ x = 7 ∨ x = 8 ∨ x = 9 ∨ x = 10 ∨ x = 11 ∨ x = 12 ∨ x = 13 := by omega
  rcases h with rfl | rfl | rfl | rfl | rfl | rfl | rfl | rfl
  · show 0 ≤ (a + b) % 65536 ∧ _; exact ⟨by omega, by show (a + b) % 65536 ≤ _; omega⟩
  · show 0 ≤ (a + 65536 - b) % 65536 ∧ _; exact ⟨by omega, by show (a + 65536 - b) % 65536 ≤ _; omega⟩
  · show 0 ≤ a * b % 65536 ∧ _; exact ⟨by omega, by show a * b % 65536 ≤ _; omega⟩
  · have := and_is a0 a1 b0 b1
    rw [show wk 9 a b = bits .and .i64 a b from rfl, this.2.1]; omega
  · have := xor_is a0 a1 b0 b1
    rw [show wk 10 a b = bits .xor .i64 a b from rfl, this.2.1]; omega
  · rw [show wk 11 a b = a.tdiv b from rfl, Int.tdiv_eq_ediv_of_nonneg a0]
    have h1 := Int.ediv_nonneg a0 b0
    have h2 := Int.ediv_le_self b a0
    omega
  · have e : wk 12 a b = if a = b then 1 else 0 := by unfold wk; simp
    rw [e]; split <;> omega
  · have e : wk 13 a b = if a < b then 1 else 0 := by unfold wk; simp
    rw [e]; split <;> omega
end Go.Proofs.YtflenkppcclclaaGreatDoor

namespace Go.Proofs.YtflenkppcclclaaGreatDoor
open Go.RowKit

/-- One instruction, by the document: behind the looks at what it takes and lays. -/
def stepD (inp : ByteArray) (ρ : RR) (kk : Nat) (k : Int) : RR :=
  let q := ρ.stack.length - tkOf kk
  let a := if tkOf kk = 0 then 0 else ρ.stack.getD q 0
  let b := if tkOf kk = 2 then ρ.stack.getD (q + 1) 0 else 0
  if kk = 0 then rfin { ρ with steps := ρ.steps + 1 } 0 0
  else if kk = 11 ∧ b = 0 then rfin { ρ with steps := ρ.steps + 1 } 1 1
  else if kk = 18 ∧ 16 ≤ ρ.out.size then rfin { ρ with steps := ρ.steps + 1 } 1 4
  else if kk = 19 then rfin { ρ with steps := ρ.steps + 1 } 1 (16 + k)
  else { doesR inp { ρ with steps := ρ.steps + 1, stack := ρ.stack.take q } kk a b k with here := if kk = 14 ∨ (kk = 15 ∧ a = 0) then k else ρ.here + (szOf kk : Int) }
/-- One instruction, by the document. -/
def stepR (inp : ByteArray) (ρ : RR) (kk : Nat) (k : Int) : RR :=
  if misfitS ρ.stack.length (shp (kk * 3 + 1)) (shp (kk * 3 + 2)) ≠ 0 then rfin { ρ with steps := ρ.steps + 1 } 1 (misfitS ρ.stack.length (shp (kk * 3 + 1)) (shp (kk * 3 + 2)))
  else stepD inp ρ kk k
/-- A block begins, or none. -/
def cameR (e : Int) (ρ : RR) : RR := if e = -1 then ρ else { ρ with cnt := comeS ρ.cnt ρ.ah e, ah := e + 1 }
/-- A round of the document's run. -/
def rroundR (inp : ByteArray) (c ent : Nat → Int) (fuel : Int) (ρ : RR) : RR :=
  if (c ρ.here.toNat).toNat = 20 then { cameR (ent ρ.here.toNat) ρ with here := ρ.here + 2 }
  else if fuel ≤ ρ.steps then rfin (cameR (ent ρ.here.toNat) ρ) 2 0
  else stepR inp (cameR (ent ρ.here.toNat) ρ) (c ρ.here.toNat).toNat (second c ρ.here.toNat)

structure Alive (inp : ByteArray) (ρ : RR) (σ : St) : Prop where
  stack : ρ.stack = σ.stack
  cells : ρ.cells = σ.cells
  rd0 : 0 ≤ ρ.read
  rd1 : ρ.read ≤ (inp.size : Int)
  input : σ.input = inp.extract ρ.read.toNat inp.size
  here : ρ.here = σ.next
  num : ∀ x ∈ σ.stack, 0 ≤ x ∧ x ≤ 65535
  cel : ∀ i, 0 ≤ σ.cells i ∧ σ.cells i ≤ 65535
/-- The document's run is where the program's is. -/
structure Rel (inp : ByteArray) (ρ : RR) (τ : RS) : Prop where
  alive : τ.σ.ended = false → Alive inp ρ τ.σ
  cnt : ρ.cnt = τ.cnt
  ah : ρ.ah = τ.ah
  kind : ρ.kind = τ.σ.kind
  fault : ρ.fault = τ.σ.fault
  steps : ρ.steps = τ.σ.steps
  out : ρ.out = strOfNums τ.σ.out
  over : ρ.over = τ.σ.ended
  place : τ.σ.ended = true → ρ.place = τ.σ.place

theorem rb_ext {a b : ByteArray} (h : a.data.toList = b.data.toList) : a = b := by
  obtain ⟨⟨l⟩⟩ := a
  obtain ⟨⟨m⟩⟩ := b
  have : l = m := h
  rw [this]
theorem rt_size (s : ByteArray) (j : Nat) : (s.extract j s.size).size = s.size - j := by
  rw [Lib.size_eq, Lib.extract_to_end, List.length_drop, ← Lib.size_eq]
theorem rt_tail (s : ByteArray) (j : Nat) : (s.extract j s.size).extract 1 (s.extract j s.size).size = s.extract (j + 1) s.size :=
  rb_ext (by rw [Lib.extract_to_end, Lib.extract_to_end, Lib.extract_to_end, List.drop_drop])
theorem rt_head (s : ByteArray) (j : Nat) (h : j < s.size) (h' : 0 < (s.extract j s.size).size) : (s.extract j s.size)[0]'h' = s[j]'h := by
  have a := Lib.data_getElem? (s.extract j s.size) 0 h'
  have b := Lib.data_getElem? s j h
  rw [Lib.extract_to_end, List.getElem?_drop, Nat.add_zero, b] at a
  exact (Option.some.inj a).symm

theorem getD_bd {s : List Int} (h : ∀ x ∈ s, 0 ≤ x ∧ x ≤ 65535) (i : Nat) : 0 ≤ s.getD i 0 ∧ s.getD i 0 ≤ 65535 := by
  rw [List.getD_eq_getElem?_getD]
  cases e : s[i]? with
  | none => simp
  | some x => exact h x (List.mem_of_getElem? e)
theorem num_app {s t : List Int} {q : Nat} (h : ∀ x ∈ s, 0 ≤ x ∧ x ≤ 65535) (ht : ∀ x ∈ t, 0 ≤ x ∧ x ≤ 65535) : ∀ x ∈ s.take q ++ t, 0 ≤ x ∧ x ≤ 65535 := by
  intro x hx
  rcases List.mem_append.1 hx with hx | hx
  · exact h x (List.mem_of_mem_take hx)
  · exact ht x hx
theorem num_one {x : Int} (h : 0 ≤ x ∧ x ≤ 65535) : ∀ y ∈ [x], 0 ≤ y ∧ y ≤ 65535 := fun y hy => by simp at hy; subst hy; exact h
theorem num_two {x y : Int} (h : 0 ≤ x ∧ x ≤ 65535) (h' : 0 ≤ y ∧ y ≤ 65535) : ∀ z ∈ [x, y], 0 ≤ z ∧ z ≤ 65535 := fun z hz => by
  simp at hz
  rcases hz with rfl | rfl
  · exact h
  · exact h'
theorem str_app (o : List Int) (x : Int) : strOfNums (o ++ [IntKind.u8.wrap x]) = strOfNums o ++ strOfNums [x % 256] := by
  rw [u8_wrap_mod]
  unfold strOfNums
  apply ByteArray.ext
  simp

set_option maxHeartbeats 1000000 in
theorem rel_do {inp : ByteArray} {ρ : RR} {τ : RS} (h : Rel inp ρ τ) (hne : τ.σ.ended = false) (kk : Nat) (n : Int) (hk : kk ≤ 19) (hn0 : 0 ≤ n) (hn1 : n ≤ 255) (ho : τ.σ.out.length ≤ 16) :
    Rel inp (stepD inp ρ kk n) { σ := doS { τ.σ with place := τ.σ.next, steps := τ.σ.steps + 1, next := τ.σ.next + shp (kk * 3) } kk n, cnt := τ.cnt, ah := τ.ah } := by
  obtain ⟨hs, hc, hr0, hr1, hi, hh, hnum, hcel⟩ := h.alive hne
  obtain ⟨_, h1, h2, h3, h4, h5, h6, h7, _⟩ := h
  obtain ⟨⟨st, ce, inn, ou, nx, ki, fa, pl, sp, en⟩, cn, ah⟩ := τ
  obtain ⟨st', ce', rd, he, cn', ah', ki', fa', pl', ou', sp', ov'⟩ := ρ
  simp only at hs hc hr0 hr1 hi hh hnum hcel h1 h2 h3 h4 h5 h6 h7 hne ho
  subst hs hc hh h1 h2 h3 h4 h5 h6 h7 hne
  have bd := fun i => getD_bd hnum i
  match kk, hk with
  | 0, _ => exact ⟨(fun e => by cases e), rfl, rfl, rfl, rfl, rfl, rfl, rfl, fun _ => rfl⟩
  | 1, _ => exact ⟨fun _ => ⟨rfl, rfl, hr0, hr1, hi, rfl, num_app hnum (num_one ⟨hn0, by omega⟩), hcel⟩, rfl, rfl, rfl, rfl, rfl, rfl, rfl, fun e => by cases e⟩
  | 2, _ =>
    subst hi
    by_cases hlt : rd.toNat < inp.size
    · have hp : 0 < (inp.extract rd.toNat inp.size).size := by rw [rt_size]; omega
      have hb := rt_head inp rd.toNat hlt hp
      have e1 : stepD inp ⟨st', ce', rd, he, cn', ah', ki', fa', pl', strOfNums ou, sp', false⟩ 2 n = ⟨st'.take (st'.length - 0) ++ [((inp[rd.toNat]'hlt).toNat : Int)], ce', (rd.toNat : Int) + 1, he + 1, cn', ah', ki', fa', pl', strOfNums ou, sp' + 1, false⟩ := by
        simp [stepD, doesR, hlt, tkOf, szOf, shp, shapeCells]
      have e2 : doS ⟨st', ce', inp.extract rd.toNat inp.size, ou, he + shp (2 * 3), ki', fa', he, sp' + 1, false⟩ 2 n = ⟨st'.take (st'.length - 0) ++ [((inp[rd.toNat]'hlt).toNat : Int)], ce', (inp.extract rd.toNat inp.size).extract 1 (inp.extract rd.toNat inp.size).size, ou, he + 1, ki', fa', he, sp' + 1, false⟩ := by
        have : doS ⟨st', ce', inp.extract rd.toNat inp.size, ou, he + shp (2 * 3), ki', fa', he, sp' + 1, false⟩ 2 n = if h : 0 < (inp.extract rd.toNat inp.size).size then ⟨st'.take (st'.length - 0) ++ [(((inp.extract rd.toNat inp.size)[0]'h).toNat : Int)], ce', (inp.extract rd.toNat inp.size).extract 1 (inp.extract rd.toNat inp.size).size, ou, he + 1, ki', fa', he, sp' + 1, false⟩ else ⟨st'.take (st'.length - 0) ++ [256], ce', inp.extract rd.toNat inp.size, ou, he + 1, ki', fa', he, sp' + 1, false⟩ := rfl
        rw [this, dif_pos hp, hb]
      rw [e1, e2, rt_tail]
      have hbyte := (inp[rd.toNat]'hlt).toNat_lt
      have e3 : ((rd.toNat : Int) + 1).toNat = rd.toNat + 1 := by omega
      exact ⟨fun _ => ⟨rfl, rfl, by show (0 : Int) ≤ (rd.toNat : Int) + 1; omega, by show (rd.toNat : Int) + 1 ≤ _; omega, by show _ = inp.extract ((rd.toNat : Int) + 1).toNat inp.size; rw [e3], rfl, num_app hnum (num_one ⟨by omega, by omega⟩), hcel⟩, rfl, rfl, rfl, rfl, rfl, rfl, rfl, fun e => by cases e⟩
    · have hp : ¬ 0 < (inp.extract rd.toNat inp.size).size := by rw [rt_size]; omega
      have e1 : stepD inp ⟨st', ce', rd, he, cn', ah', ki', fa', pl', strOfNums ou, sp', false⟩ 2 n = ⟨st'.take (st'.length - 0) ++ [256], ce', rd, he + 1, cn', ah', ki', fa', pl', strOfNums ou, sp' + 1, false⟩ := by
        simp [stepD, doesR, hlt, tkOf, szOf, shp, shapeCells]
      have e2 : doS ⟨st', ce', inp.extract rd.toNat inp.size, ou, he + shp (2 * 3), ki', fa', he, sp' + 1, false⟩ 2 n = ⟨st'.take (st'.length - 0) ++ [256], ce', inp.extract rd.toNat inp.size, ou, he + 1, ki', fa', he, sp' + 1, false⟩ := by
        have : doS ⟨st', ce', inp.extract rd.toNat inp.size, ou, he + shp (2 * 3), ki', fa', he, sp' + 1, false⟩ 2 n = if h : 0 < (inp.extract rd.toNat inp.size).size then ⟨st'.take (st'.length - 0) ++ [(((inp.extract rd.toNat inp.size)[0]'h).toNat : Int)], ce', (inp.extract rd.toNat inp.size).extract 1 (inp.extract rd.toNat inp.size).size, ou, he + 1, ki', fa', he, sp' + 1, false⟩ else ⟨st'.take (st'.length - 0) ++ [256], ce', inp.extract rd.toNat inp.size, ou, he + 1, ki', fa', he, sp' + 1, false⟩ := rfl
        rw [this, dif_neg hp]
      rw [e1, e2]
      exact ⟨fun _ => ⟨rfl, rfl, hr0, hr1, rfl, rfl, num_app hnum (num_one (by omega)), hcel⟩, rfl, rfl, rfl, rfl, rfl, rfl, rfl, fun e => by cases e⟩
  | 3, _ => exact ⟨fun _ => ⟨List.append_assoc _ _ _, rfl, hr0, hr1, hi, rfl, num_app hnum (num_two (bd _) (bd _)), hcel⟩, rfl, rfl, rfl, rfl, rfl, rfl, rfl, fun e => by cases e⟩
  | 4, _ => exact ⟨fun _ => ⟨rfl, rfl, hr0, hr1, hi, rfl, fun x hx => hnum x (List.mem_of_mem_take hx), hcel⟩, rfl, rfl, rfl, rfl, rfl, rfl, rfl, fun e => by cases e⟩
  | 5, _ => exact ⟨fun _ => ⟨List.append_assoc _ _ _, rfl, hr0, hr1, hi, rfl, num_app hnum (num_two (bd _) (bd _)), hcel⟩, rfl, rfl, rfl, rfl, rfl, rfl, rfl, fun e => by cases e⟩
  | 6, _ =>
    have W := wk_is (bd (st'.length - 2)).1 (bd (st'.length - 2)).2 (bd (st'.length - 2 + 1)).1 (bd (st'.length - 2 + 1)).2
    have B := wk_bd (bd (st'.length - 2)).1 (bd (st'.length - 2)).2 (bd (st'.length - 2 + 1)).1 (bd (st'.length - 2 + 1)).2 6 (by omega) (fun e => by omega)
    exact ⟨fun _ => ⟨congrArg (fun z => st'.take (st'.length - 2) ++ [z]) W.1.symm, rfl, hr0, hr1, hi, rfl, num_app hnum (num_one (by have := W.1; rw [← this] at B; exact B)), hcel⟩, rfl, rfl, rfl, rfl, rfl, rfl, rfl, fun e => by cases e⟩
  | 7, _ =>
    have W := wk_is (bd (st'.length - 2)).1 (bd (st'.length - 2)).2 (bd (st'.length - 2 + 1)).1 (bd (st'.length - 2 + 1)).2
    have B := wk_bd (bd (st'.length - 2)).1 (bd (st'.length - 2)).2 (bd (st'.length - 2 + 1)).1 (bd (st'.length - 2 + 1)).2 7 (by omega) (fun e => by omega)
    exact ⟨fun _ => ⟨congrArg (fun z => st'.take (st'.length - 2) ++ [z]) W.2.1.symm, rfl, hr0, hr1, hi, rfl, num_app hnum (num_one (by have := W.2.1; rw [← this] at B; exact B)), hcel⟩, rfl, rfl, rfl, rfl, rfl, rfl, rfl, fun e => by cases e⟩
  | 8, _ =>
    have W := wk_is (bd (st'.length - 2)).1 (bd (st'.length - 2)).2 (bd (st'.length - 2 + 1)).1 (bd (st'.length - 2 + 1)).2
    have B := wk_bd (bd (st'.length - 2)).1 (bd (st'.length - 2)).2 (bd (st'.length - 2 + 1)).1 (bd (st'.length - 2 + 1)).2 8 (by omega) (fun e => by omega)
    exact ⟨fun _ => ⟨congrArg (fun z => st'.take (st'.length - 2) ++ [z]) W.2.2.1.symm, rfl, hr0, hr1, hi, rfl, num_app hnum (num_one (by have := W.2.2.1; rw [← this] at B; exact B)), hcel⟩, rfl, rfl, rfl, rfl, rfl, rfl, rfl, fun e => by cases e⟩
  | 9, _ =>
    have W := wk_is (bd (st'.length - 2)).1 (bd (st'.length - 2)).2 (bd (st'.length - 2 + 1)).1 (bd (st'.length - 2 + 1)).2
    have B := wk_bd (bd (st'.length - 2)).1 (bd (st'.length - 2)).2 (bd (st'.length - 2 + 1)).1 (bd (st'.length - 2 + 1)).2 9 (by omega) (fun e => by omega)
    exact ⟨fun _ => ⟨congrArg (fun z => st'.take (st'.length - 2) ++ [z]) W.2.2.2.1.symm, rfl, hr0, hr1, hi, rfl, num_app hnum (num_one (by have := W.2.2.2.1; rw [← this] at B; exact B)), hcel⟩, rfl, rfl, rfl, rfl, rfl, rfl, rfl, fun e => by cases e⟩
  | 10, _ =>
    have W := wk_is (bd (st'.length - 2)).1 (bd (st'.length - 2)).2 (bd (st'.length - 2 + 1)).1 (bd (st'.length - 2 + 1)).2
    have B := wk_bd (bd (st'.length - 2)).1 (bd (st'.length - 2)).2 (bd (st'.length - 2 + 1)).1 (bd (st'.length - 2 + 1)).2 10 (by omega) (fun e => by omega)
    exact ⟨fun _ => ⟨congrArg (fun z => st'.take (st'.length - 2) ++ [z]) W.2.2.2.2.1.symm, rfl, hr0, hr1, hi, rfl, num_app hnum (num_one (by have := W.2.2.2.2.1; rw [← this] at B; exact B)), hcel⟩, rfl, rfl, rfl, rfl, rfl, rfl, rfl, fun e => by cases e⟩
  | 11, _ =>
    by_cases hb0 : st'.getD (st'.length - 2 + 1) 0 = 0
    · have e1 : stepD inp ⟨st', ce', rd, he, cn', ah', ki', fa', pl', strOfNums ou, sp', false⟩ 11 n = rfin ⟨st', ce', rd, he, cn', ah', ki', fa', pl', strOfNums ou, sp' + 1, false⟩ 1 1 := if_pos (c := (11 : Nat) = 11 ∧ st'.getD (st'.length - 2 + 1) 0 = 0) ⟨rfl, hb0⟩
      have e2 : doS ⟨st', ce', inn, ou, he + shp (11 * 3), ki', fa', he, sp' + 1, false⟩ 11 n = fin ⟨st'.take (st'.length - 2), ce', inn, ou, he + shp (11 * 3), ki', fa', he, sp' + 1, false⟩ 1 1 := if_pos (c := st'.getD (st'.length - 2 + 1) 0 = 0) hb0
      rw [e1, e2]
      exact ⟨(fun e => by cases e), rfl, rfl, rfl, rfl, rfl, rfl, rfl, fun _ => rfl⟩
    · have hpos : 0 < st'.getD (st'.length - 2 + 1) 0 := by have := (bd (st'.length - 2 + 1)).1; omega
      have W := wk_is (bd (st'.length - 2)).1 (bd (st'.length - 2)).2 (bd (st'.length - 2 + 1)).1 (bd (st'.length - 2 + 1)).2
      have B := wk_bd (bd (st'.length - 2)).1 (bd (st'.length - 2)).2 (bd (st'.length - 2 + 1)).1 (bd (st'.length - 2 + 1)).2 11 (by omega) (fun _ => hpos)
      have Wd := W.2.2.2.2.2.1 hpos
      have e1 : stepD inp ⟨st', ce', rd, he, cn', ah', ki', fa', pl', strOfNums ou, sp', false⟩ 11 n = ⟨st'.take (st'.length - 2) ++ [wk 11 (st'.getD (st'.length - 2) 0) (st'.getD (st'.length - 2 + 1) 0)], ce', rd, he + 1, cn', ah', ki', fa', pl', strOfNums ou, sp' + 1, false⟩ := if_neg (c := (11 : Nat) = 11 ∧ st'.getD (st'.length - 2 + 1) 0 = 0) (fun e => hb0 e.2)
      have e2 : doS ⟨st', ce', inn, ou, he + shp (11 * 3), ki', fa', he, sp' + 1, false⟩ 11 n = ⟨st'.take (st'.length - 2) ++ [IntKind.u16.wrap ((st'.getD (st'.length - 2) 0).tdiv (st'.getD (st'.length - 2 + 1) 0))], ce', inn, ou, he + shp (11 * 3), ki', fa', he, sp' + 1, false⟩ := if_neg (c := st'.getD (st'.length - 2 + 1) 0 = 0) hb0
      rw [e1, e2, Wd]
      exact ⟨fun _ => ⟨rfl, rfl, hr0, hr1, hi, rfl, num_app hnum (num_one B), hcel⟩, rfl, rfl, rfl, rfl, rfl, rfl, rfl, fun e => by cases e⟩
  | 12, _ =>
    have W := wk_is (bd (st'.length - 2)).1 (bd (st'.length - 2)).2 (bd (st'.length - 2 + 1)).1 (bd (st'.length - 2 + 1)).2
    have B := wk_bd (bd (st'.length - 2)).1 (bd (st'.length - 2)).2 (bd (st'.length - 2 + 1)).1 (bd (st'.length - 2 + 1)).2 12 (by omega) (fun e => by omega)
    exact ⟨fun _ => ⟨congrArg (fun z => st'.take (st'.length - 2) ++ [z]) W.2.2.2.2.2.2.1.symm, rfl, hr0, hr1, hi, rfl, num_app hnum (num_one (by have := W.2.2.2.2.2.2.1; rw [← this] at B; exact B)), hcel⟩, rfl, rfl, rfl, rfl, rfl, rfl, rfl, fun e => by cases e⟩
  | 13, _ =>
    have W := wk_is (bd (st'.length - 2)).1 (bd (st'.length - 2)).2 (bd (st'.length - 2 + 1)).1 (bd (st'.length - 2 + 1)).2
    have B := wk_bd (bd (st'.length - 2)).1 (bd (st'.length - 2)).2 (bd (st'.length - 2 + 1)).1 (bd (st'.length - 2 + 1)).2 13 (by omega) (fun e => by omega)
    exact ⟨fun _ => ⟨congrArg (fun z => st'.take (st'.length - 2) ++ [z]) W.2.2.2.2.2.2.2.symm, rfl, hr0, hr1, hi, rfl, num_app hnum (num_one (by have := W.2.2.2.2.2.2.2; rw [← this] at B; exact B)), hcel⟩, rfl, rfl, rfl, rfl, rfl, rfl, rfl, fun e => by cases e⟩
  | 14, _ => exact ⟨fun _ => ⟨rfl, rfl, hr0, hr1, hi, rfl, fun x hx => hnum x (List.mem_of_mem_take hx), hcel⟩, rfl, rfl, rfl, rfl, rfl, rfl, rfl, fun e => by cases e⟩
  | 15, _ =>
    have e1 : stepD inp ⟨st', ce', rd, he, cn', ah', ki', fa', pl', strOfNums ou, sp', false⟩ 15 n = ⟨st'.take (st'.length - 1), ce', rd, if (15 : Nat) = 14 ∨ ((15 : Nat) = 15 ∧ st'.getD (st'.length - 1) 0 = 0) then n else he + 2, cn', ah', ki', fa', pl', strOfNums ou, sp' + 1, false⟩ := rfl
    by_cases ha0 : st'.getD (st'.length - 1) 0 = 0
    · rw [if_pos (Or.inr ⟨rfl, ha0⟩)] at e1
      have e2 : doS ⟨st', ce', inn, ou, he + shp (15 * 3), ki', fa', he, sp' + 1, false⟩ 15 n = ⟨st'.take (st'.length - 1), ce', inn, ou, n, ki', fa', he, sp' + 1, false⟩ := if_pos (c := st'.getD (st'.length - 1) 0 = 0) ha0
      rw [e1, e2]
      exact ⟨fun _ => ⟨rfl, rfl, hr0, hr1, hi, rfl, fun x hx => hnum x (List.mem_of_mem_take hx), hcel⟩, rfl, rfl, rfl, rfl, rfl, rfl, rfl, fun e => by cases e⟩
    · rw [if_neg (fun e => ha0 (by rcases e with e | e; (cases e); (exact e.2)))] at e1
      have e2 : doS ⟨st', ce', inn, ou, he + shp (15 * 3), ki', fa', he, sp' + 1, false⟩ 15 n = ⟨st'.take (st'.length - 1), ce', inn, ou, he + shp (15 * 3), ki', fa', he, sp' + 1, false⟩ := if_neg (c := st'.getD (st'.length - 1) 0 = 0) ha0
      rw [e1, e2]
      exact ⟨fun _ => ⟨rfl, rfl, hr0, hr1, hi, rfl, fun x hx => hnum x (List.mem_of_mem_take hx), hcel⟩, rfl, rfl, rfl, rfl, rfl, rfl, rfl, fun e => by cases e⟩
  | 16, _ => exact ⟨fun _ => ⟨rfl, rfl, hr0, hr1, hi, rfl, num_app hnum (num_one (hcel _)), hcel⟩, rfl, rfl, rfl, rfl, rfl, rfl, rfl, fun e => by cases e⟩
  | 17, _ => exact ⟨fun _ => ⟨rfl, rfl, hr0, hr1, hi, rfl, fun x hx => hnum x (List.mem_of_mem_take hx), fun i => by
      show 0 ≤ (if i = n.toNat then st'.getD (st'.length - 1) 0 else ce' i) ∧ (if i = n.toNat then st'.getD (st'.length - 1) 0 else ce' i) ≤ 65535
      split
      · exact bd _
      · exact hcel i⟩, rfl, rfl, rfl, rfl, rfl, rfl, rfl, fun e => by cases e⟩
  | 18, _ =>
    have hos : (strOfNums ou).size = ou.length := strOfNums_size ou
    by_cases hf : ou.length = 16
    · have e1 : stepD inp ⟨st', ce', rd, he, cn', ah', ki', fa', pl', strOfNums ou, sp', false⟩ 18 n = rfin ⟨st', ce', rd, he, cn', ah', ki', fa', pl', strOfNums ou, sp' + 1, false⟩ 1 4 := if_pos (c := (18 : Nat) = 18 ∧ 16 ≤ (strOfNums ou).size) ⟨rfl, by omega⟩
      have e2 : doS ⟨st', ce', inn, ou, he + shp (18 * 3), ki', fa', he, sp' + 1, false⟩ 18 n = fin ⟨st'.take (st'.length - 1), ce', inn, ou, he + shp (18 * 3), ki', fa', he, sp' + 1, false⟩ 1 4 := if_pos (c := ou.length = 16) hf
      rw [e1, e2]
      exact ⟨(fun e => by cases e), rfl, rfl, rfl, rfl, rfl, rfl, rfl, fun _ => rfl⟩
    · have e1 : stepD inp ⟨st', ce', rd, he, cn', ah', ki', fa', pl', strOfNums ou, sp', false⟩ 18 n = ⟨st'.take (st'.length - 1), ce', rd, he + 1, cn', ah', ki', fa', pl', strOfNums ou ++ strOfNums [st'.getD (st'.length - 1) 0 % 256], sp' + 1, false⟩ := if_neg (c := (18 : Nat) = 18 ∧ 16 ≤ (strOfNums ou).size) (fun e => by have := e.2; omega)
      have e2 : doS ⟨st', ce', inn, ou, he + shp (18 * 3), ki', fa', he, sp' + 1, false⟩ 18 n = ⟨st'.take (st'.length - 1), ce', inn, ou ++ [IntKind.u8.wrap (st'.getD (st'.length - 1) 0)], he + shp (18 * 3), ki', fa', he, sp' + 1, false⟩ := if_neg (c := ou.length = 16) hf
      rw [e1, e2]
      exact ⟨fun _ => ⟨rfl, rfl, hr0, hr1, hi, rfl, fun x hx => hnum x (List.mem_of_mem_take hx), hcel⟩, rfl, rfl, rfl, rfl, rfl, (str_app _ _).symm, rfl, fun e => by cases e⟩
  | 19, _ => exact ⟨(fun e => by cases e), rfl, rfl, rfl, rfl, rfl, rfl, rfl, fun _ => rfl⟩
  | k + 20, hk => omega
end Go.Proofs.YtflenkppcclclaaGreatDoor

