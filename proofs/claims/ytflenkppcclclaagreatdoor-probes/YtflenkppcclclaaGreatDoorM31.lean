import Derived.Test.YtflenkppcclclaaGreatDoorM30
namespace Go.Proofs.YtflenkppcclclaaGreatDoor
open Go.RowKit

theorem num_any (x : Int) (w : World) : Calls Tryz.prog 56 #[.int .i64 x] w fun e w' => e = .returned (.int .i64 x) ∧ w' = w := by
  go_enter Tryz.func56, Tryz.ntmps56
  go_wp2
  go_ret
  exact ⟨rfl, rfl⟩

theorem CanIs.not {c : Nat → Int} {L : Nat} (h : CanIs c L true) : ¬ CanIs c L false := by
  intro k
  rcases k with k | ⟨r', hF', k⟩
  · cases k.1
  rcases h with ⟨_, hL, N, F⟩ | ⟨r, hF, h⟩
  · have := hF'.same (Or.inr ⟨hL, N, F.sp, Or.inr ⟨F.last, Or.inr ⟨F.well, Or.inl ⟨rfl, rfl, F.led⟩⟩⟩⟩)
    cases this.2
  · rcases h with ⟨_, N, F, hp⟩ | ⟨h, _⟩
    · rcases k with ⟨k, _⟩ | ⟨_, ⟨r2, hF2⟩ | ⟨M, G, hp'⟩⟩
      · cases k
      · have := hF2.same (Or.inr ⟨F.sp.most, N, F.sp, Or.inr ⟨F.last, Or.inr ⟨F.well, Or.inl ⟨rfl, rfl, F.led⟩⟩⟩⟩)
        cases this.2
      · have := F.sp.same F.last G.sp (Or.inl G.last)
        subst this
        rw [hp] at hp'; cases hp'
    · cases h
theorem EntIs.can {c : Nat → Int} {L : Nat} {ent : Nat → Int} (h : EntIs c L ent) : CanIs c L true := by
  rcases h with ⟨N, hL, F, _⟩ | ⟨N, r, hF, F, hp, _⟩
  · exact Or.inl ⟨rfl, hL, N, F⟩
  · exact Or.inr ⟨r, hF, Or.inl ⟨rfl, N, F, hp⟩⟩
theorem EntIs.same {c : Nat → Int} {L : Nat} {ent ent' : Nat → Int} (h : EntIs c L ent) (k : EntIs c L ent') : ent = ent' := by
  rcases h with ⟨N, hL, F, rfl⟩ | ⟨N, r, hF, F, hp, rfl⟩ <;> rcases k with ⟨M, kL, G, rfl⟩ | ⟨M, s, kF, G, kp, rfl⟩
  · have := F.sp.same F.last G.sp (Or.inl G.last)
    subst this; rfl
  · have := kF.same (Or.inr ⟨hL, N, F.sp, Or.inr ⟨F.last, Or.inr ⟨F.well, Or.inl ⟨rfl, rfl, F.led⟩⟩⟩⟩)
    cases this.2
  · have := hF.same (Or.inr ⟨kL, M, G.sp, Or.inr ⟨G.last, Or.inr ⟨G.well, Or.inl ⟨rfl, rfl, G.led⟩⟩⟩⟩)
    cases this.2
  · have := F.sp.same F.last G.sp (Or.inl G.last)
    subst this; rfl
theorem ends_once {c ent : Nat → Int} {fuel : Int} {ρ : RS} {n n0 : Nat} (he : (after c ent fuel ρ n).σ.ended = true) (hN : ∀ m, m < n → (after c ent fuel ρ m).σ.ended = false)
    (he0 : (after c ent fuel ρ n0).σ.ended = true) (hN0 : ∀ m, m < n0 → (after c ent fuel ρ m).σ.ended = false) : n = n0 := by
  rcases Nat.lt_trichotomy n n0 with h | h | h
  · rw [hN0 n h] at he; cases he
  · exact h
  · rw [hN n0 h] at he0; cases he0

/-- A run's answer, as the law looks at it: refused, or an outcome and a cover. -/
def Ans (w : World) (e : Ending) (w' : World) (r : Option RS) (k : Int) : Prop :=
  Below w.heap.size w w' ∧ match r with
  | none => (k = 1 ∨ k = 2) ∧ e = refusal k
  | some τ => k = 0 ∧ ∃ g, w.heap.size ≤ g ∧ w'.heap[g]? = some (.cells (covL τ.cnt 64).toArray 5 (0, 0)) ∧ e = .returned (.tuple #[.agg #[.int .i64 τ.σ.kind, .int .i64 τ.σ.fault, .int .i64 τ.σ.place, .string (strOfNums τ.σ.out), .int .i64 τ.σ.steps], .slice (some ⟨g, 0, none⟩) 64 64, .int .i64 0])
theorem run_ans {c : Nat → Int} {L : Nat} {input : ByteArray} {fuel : Int} {w w' : World} {e : Ending} (h : RunIs c L input fuel w e w') : ∃ r k, Ans w e w' r k := by
  rcases h with ⟨_, he, hB⟩ | ⟨_, _, he, hB⟩ | ⟨_, ent, _, n, τ, _, _, _, hB, g, hg, hc, he⟩
  · exact ⟨none, 1, hB, Or.inl rfl, he⟩
  · exact ⟨none, 2, hB, Or.inr rfl, he⟩
  · exact ⟨some τ, 0, hB, rfl, g, hg, hc, he⟩
theorem run_same {c : Nat → Int} {L : Nat} {input : ByteArray} {fuel : Int} {w w' v v' : World} {e f : Ending} {r : Option RS} {k : Int} (h : RunIs c L input fuel w e w') (hA : Ans w e w' r k) (h2 : RunIs c L input fuel v f v') : Ans v f v' r k := by
  have key : (∃ τ, r = some τ ∧ ∃ ent n, EntIs c L ent ∧ ¬ badArg input fuel ∧ τ.cnt = (after c ent fuel (ρ0 input) n).cnt ∧ True) ∨ True := Or.inr trivial
  clear key
  rcases h with ⟨hc1, he1, hB1⟩ | ⟨hc1, hb1, he1, hB1⟩ | ⟨hb1, ent, hent, n, τ, rfl, h1, h2', hB1, g, hg, hcv, he1⟩ <;> rcases h2 with ⟨hc2, he2, hB2⟩ | ⟨hc2, hb2, he2, hB2⟩ | ⟨hb2, ent2, hent2, n2, τ2, rfl, k1, k2, hB2, g2, hg2, hcv2, he2⟩
  · refine ⟨hB2, ?_⟩
    cases r with
    | none =>
      obtain ⟨hk, he⟩ := hA.2
      refine ⟨hk, ?_⟩
      rw [he1] at he
      have : k = 1 := by
        unfold refusal at he
        simp at he
        exact he.symm
      rw [he2, this]
    | some τ =>
      obtain ⟨_, g, _, _, he⟩ := hA.2
      rw [he1] at he
      unfold refusal at he
      simp at he
  · exact absurd hc1 (CanIs.not hc2)
  · exact absurd hc1 (CanIs.not hent2.can)
  · exact absurd hc2 (CanIs.not hc1)
  · refine ⟨hB2, ?_⟩
    cases r with
    | none =>
      obtain ⟨hk, he⟩ := hA.2
      refine ⟨hk, ?_⟩
      rw [he1] at he
      have : k = 2 := by
        unfold refusal at he
        simp at he
        exact he.symm
      rw [he2, this]
    | some τ =>
      obtain ⟨_, g, _, _, he⟩ := hA.2
      rw [he1] at he
      unfold refusal at he
      simp at he
  · exact absurd hb1 hb2
  · exact absurd hc2 (CanIs.not hent.can)
  · exact absurd hb2 hb1
  · have := hent.same hent2
    subst this
    have := ends_once h1 h2' k1 k2
    subst this
    refine ⟨hB2, ?_⟩
    cases r with
    | none =>
      obtain ⟨hk, he⟩ := hA.2
      rw [he1] at he
      unfold refusal at he
      simp at he
    | some τ =>
      obtain ⟨hk, g', _, hc', he⟩ := hA.2
      refine ⟨hk, g2, hg2, ?_, ?_⟩
      · rw [he1] at he
        simp at he
        rw [hcv2]
        have : g = g' := he.2
        subst this
        rw [hcv] at hc'
        simpa using hc'
      · rw [he2]
        rw [he1] at he
        simp at he
        obtain ⟨⟨a1, a2, a3, a4, a5⟩, _⟩ := he
        rw [a1, a2, a3, a4, a5]

def covS' (cnt : Nat → Int) : ByteArray := strOfNums ((List.range 64).map fun i => classS (cnt i))
theorem conv_cov' {w : World} {g : Nat} {cnt : Nat → Int} (hh : w.heap[g]? = some (.cells (covL cnt 64).toArray 5 (0, 0))) :
    (convert 25 9 (.slice (some ⟨g, 0, none⟩) 64 64)).run Tryz.prog w = .ok (.string (covS' cnt)) w := by
  refine run_convert_bytes_arg w 25 5 Tryz.underlying25 Tryz.underlying5 g 0 64 64 ((List.range 64).map fun i => classS (cnt i)) (by simp) (fun i hi => ?_) 9 Tryz.underlying9
  have hi' : i < 64 := by simpa using hi
  rw [Nat.zero_add, cell_of_row w g _ _ _ _ hh, List.getElem?_toArray, covL_get cnt 64 i hi', if_pos hi']
  simp [List.getD, List.getElem?_range hi']
theorem conv_nil' (w : World) : (convert 25 9 (.slice none 0 0)).run Tryz.prog w = .ok (.string ByteArray.empty) w :=
  run_convert_bytes_nil w 25 5 Tryz.underlying25 Tryz.underlying5 0 0 9 Tryz.underlying9
theorem own_below' {w w' : World} {base : Nat} {e : TypeId} {size : Nat} {v : Value} {n : Nat} {xs : List Value} (h : w.ownsRow base e size v n xs) (hb : ∀ g, v.ownBlock = some g → w'.heap[g]? = w.heap[g]?) : w'.ownsRow base e size v n xs := by
  refine ⟨h.1, ?_⟩
  rcases h.2 with hn | ⟨g, cap, cur, hv, hg, hh, q⟩
  · exact .inl hn
  · exact .inr ⟨g, cap, cur, hv, hg, (hb g (by rw [hv]; rfl)).trans hh, q⟩
theorem cov_own {w : World} {base g : Nat} {cnt : Nat → Int} (hh : w.heap[g]? = some (.cells (covL cnt 64).toArray 5 (0, 0))) (hg : base ≤ g) : w.ownsRow base 5 1 (.slice (some ⟨g, 0, none⟩) 64 64) 64 (covL cnt 64) :=
  ⟨by rw [covL_len], .inr ⟨g, 64, _, rfl, hg, hh, by omega, by unfold maxLen; omega, by simp [covL_len], List.take_of_length_le (by show (covL cnt 64).length ≤ 64 * 1; rw [covL_len]; omega)⟩⟩
/-- What is lent can be handed in. -/
theorem lent_coded {w : World} {base g L cap : Nat} {c : Nat → Int} (h : w.ownsRow base 5 1 (.slice (some ⟨g, 0, none⟩) (L + 8) cap) (L + 8) (bytesL (lentAt c L) (L + 8))) : Coded w (.slice (some ⟨g, 0, none⟩) L cap) L c ∧ L + 8 ≤ cap ∧ cap ≤ 9223372036854775807 := by
  rcases h.2 with ⟨hv, _⟩ | ⟨g', cap', cur, hv, _, hh, hle, hcap, _, _⟩
  · cases hv
  · simp only [Value.slice.injEq, Option.some.injEq, Addr.mk.injEq, and_true, true_and] at hv
    obtain ⟨rfl, rfl⟩ := hv
    refine ⟨?_, hle, by unfold maxLen at hcap; omega⟩
    by_cases h0 : L = 0
    · subst h0; exact .bare _ cap rfl rfl
    · refine .full g 0 cap rfl ⟨fun i hi => ?_, by omega, by unfold maxLen at hcap; omega, by omega⟩
      rw [Nat.zero_add, h.cellAt i (by omega), bytesL_get _ (by omega)]
      unfold lentAt
      rw [if_pos hi]
end Go.Proofs.YtflenkppcclclaaGreatDoor

namespace Go.Proofs.YtflenkppcclclaaGreatDoor
open Go.RowKit

/-- One step of a script. -/
def opC (kd p n f : Int) (cv : Value) (s t : ByteArray) (sd : Int) (fv : Value) : Array Value := #[.int .i64 kd, .int .i64 p, .int .i64 n, .int .i64 f, cv, .string s, .string t, .int .u64 sd, fv]
theorem opbox (kd p n f : Int) (a : Option Addr) (l c : Nat) (s t : ByteArray) (sd : Int) (b : Option Addr) (k e : Nat) (w : World) :
    (Instr.box 70 (.agg (opC kd p n f (.slice a l c) s t sd (.slice b k e)))).run Tryz.prog w = .ok (.pointer (some ⟨w.heap.size, 0, none⟩)) (w.alloc (.cells (opC kd p n f (.slice a l c) s t sd (.slice b k e)) 70)) := by kernel_rfl

/-- What a step leaves: the book, a little longer. -/
def Stepped (base M : Nat) (w : World) (X : Nat → List Value) (e : Ending) (w' : World) : Prop :=
  e = .returned (.bool true) ∧ ∃ F' X', BK base M w' F' X' ∧ BD M w' F' X' ∧ Kept base M w w' ∧ (X' 0).length ≤ (X 0).length + 4 ∧ (X' 8).length ≤ (X 8).length + 1 ∧ (X' 1).length ≤ (X 1).length + 4

theorem Coded.form {w : World} {v : Value} {L : Nat} {c : Nat → Int} (h : Coded w v L c) : ∃ p cap, v = .slice p L cap := by
  cases h with
  | full cb co cap hv C => exact ⟨_, _, hv⟩
  | bare p cap hv hL => exact ⟨p, cap, by rw [hv, hL]⟩
theorem Coded.blk {w : World} {v : Value} {L : Nat} {c : Nat → Int} (h : Coded w v L c) (hL : 0 < L) {g : Nat} (hg : w.heap.size ≤ g) : v.ownBlock ≠ some g := by
  cases h with
  | full cb co cap hv C =>
    rw [hv]
    intro e
    have : cb = g := by simpa [Value.ownBlock] using e
    have := C.blk
    omega
  | bare p cap hv hL => omega

set_option maxHeartbeats 2000000 in
set_option maxRecDepth 100000 in
theorem machine_check (base M W0 : Nat) (w : World) (F : Nat → Value) (X : Nat → List Value) (h : BK base M w F X) (d : BD M w F X) (hw : w.cell? ⟨W0, 0, none⟩ = some (.pointer (some ⟨M, 0, none⟩))) (hT : Tab w)
    (p n f : Int) (cv : Value) (L : Nat) (c : Nat → Int) (C : Coded w cv L c) (hby : ∀ i, i < L → 0 ≤ c i ∧ c i ≤ 255) (hL : L + 8 ≤ 140737488355328) (s t : ByteArray) (sd : Int) (b : Option Addr) (k e : Nat) (hX : ((X 8).length + 1) * 24 ≤ 140737488355328) :
    Calls Tryz.prog 50 #[.pointer (some ⟨W0, 0, none⟩), .agg (opC 1 p n f cv s t sd (.slice b k e))] w (Stepped base M w X) := by
  obtain ⟨pc, capc, rfl⟩ := C.form
  have hW0 : W0 < w.heap.size := block_lt_of_cell hw
  have B0 : Below w.heap.size w (w.alloc (.cells (opC 1 p n f (.slice pc L capc) s t sd (.slice b k e)) 70)) := (Below.refl _ _).alloc (Nat.le_refl _) _
  have hz0 : (w.alloc (.cells (opC 1 p n f (.slice pc L capc) s t sd (.slice b k e)) 70)).heap.size = w.heap.size + 1 := by simp
  have hh0 := heap_alloc_new w (.cells (opC 1 p n f (.slice pc L capc) s t sd (.slice b k e)) 70)
  have e0 : (w.alloc (.cells (opC 1 p n f (.slice pc L capc) s t sd (.slice b k e)) 70)).cell? ⟨w.heap.size, 0, none⟩ = some (.int .i64 1) := cell_of_row _ _ _ _ _ _ hh0
  have e4 : (w.alloc (.cells (opC 1 p n f (.slice pc L capc) s t sd (.slice b k e)) 70)).cell? ⟨w.heap.size, 4, none⟩ = some (.slice pc L capc) := cell_of_row _ _ _ _ _ _ hh0
  have e5 : (w.alloc (.cells (opC 1 p n f (.slice pc L capc) s t sd (.slice b k e)) 70)).cell? ⟨w.heap.size, 5, none⟩ = some (.string s) := cell_of_row _ _ _ _ _ _ hh0
  have e3 : (w.alloc (.cells (opC 1 p n f (.slice pc L capc) s t sd (.slice b k e)) 70)).cell? ⟨w.heap.size, 3, none⟩ = some (.int .i64 f) := cell_of_row _ _ _ _ _ _ hh0
  clear hh0
  go_enter Tryz.func50, Tryz.ntmps50
  go_wp2_with (refine wpList_box_c rfl 70 _ rfl (.agg (opC 1 p n f (.slice pc L capc) s t sd (.slice b k e))) rfl (opC 1 p n f (.slice pc L capc) s t sd (.slice b k e)) (opbox _ _ _ _ _ _ _ _ _ _ _ _ _) ?_)
  generalize (w.alloc (.cells (opC 1 p n f (.slice pc L capc) s t sd (.slice b k e)) 70)) = w0 at *
  refine (lend_any w0 (.slice pc L capc) L c (C.below B0) hL).mono ?_
  rintro e1 w1 ⟨g, cap, rfl, hown, B1⟩
  have B01 := B0.trans (B1.mono B0.size)
  have hg : w0.heap.size ≤ g ∧ g < w1.heap.size := hown.lt g rfl
  obtain ⟨Cin, hcap, hcap'⟩ := lent_coded hown
  have e0' := (B1.cell (p := ⟨w.heap.size, 0, none⟩) (by show w.heap.size < w0.heap.size; omega)).trans e0
  have hi1 : (L : Int) ≤ (cap : Int) := by omega
  have HOWN : Hid (w1.ownsRow w0.heap.size 5 1 (.slice (some ⟨g, 0, none⟩) (L + 8) cap) (L + 8) (bytesL (lentAt c L) (L + 8))) := hown
  have HD : Hid (BD M w F X) := d
  have HBK : Hid (BK base M w F X) := h
  have hle := h.le
  clear hown h d
  go_wp2_with fail
  refine (xCheck_gen w1 _ L c hby Cin (hT.below B01)).mono ?_
  rintro e2 w2 ⟨n1, b1, hC1, rfl, B2⟩
  obtain ⟨q, hq⟩ : ∃ q : Int, (if b1 = true then (0 : Int) else 1) = q := ⟨_, rfl⟩
  rw [hq]
  have HQ : Hid ((if b1 = true then (0 : Int) else 1) = q) := hq
  clear hq
  have B02 := B01.trans (B2.mono B01.size)
  go_wp2_with fail
  refine (rCheck_gen w2 _ L c hby (C.below B02)).mono ?_
  rintro e3' w3 ⟨n2, b2, hC2, rfl, B3⟩
  obtain ⟨rfl, rfl⟩ := same_check hC1 hC2
  rw [HQ.out]
  have B03 := B02.trans (B3.mono B02.size)
  have B13 : Below w1.heap.size w1 w3 := B2.trans (B3.mono B2.size)
  have hw3 := (B03.cell (p := ⟨W0, 0, none⟩) hW0).trans hw
  have hBK0 := HBK.out.below B0
  have hBD0 := HD.out.below B0
  have WH : Hid (Calls Tryz.prog 105 #[.pointer (some ⟨M, 0, none⟩), .slice (some ⟨g, 0, none⟩) (L + 8) cap, .slice pc L capc] w3 fun e w' => e = .returned (.bool true) ∧ ∃ F', BK base M w' F' (upd X 8 (X 8 ++ [.slice (some ⟨g, 0, none⟩) (L + 8) cap])) ∧ BD M w' F' (upd X 8 (X 8 ++ [.slice (some ⟨g, 0, none⟩) (L + 8) cap])) ∧ Kept base M w3 w') :=
    whole_any base M w3 F X (HBK.out.below B03) (HD.out.below B03) g cap L c _ (own_lower (own_below' HOWN.out (fun k hk => by
      obtain rfl : g = k := by simpa [Value.ownBlock] using hk
      exact B13.block g hg.2)) (by omega)) (hBK0.fresh hg.1) (fun u hu c => by have := (hBD0.lt hu c).1; omega) (C.below B03) (fun h0 => C.blk h0 (by omega)) hL hX
  have HK : Hid (Kept base M w w3) := Kept.of_below (B03.mono hle)
  clear hC1 hC2 HQ B0 B1 B2 B3 B01 B02 B03 B13 hBK0 hBD0 HBK HD HOWN Cin C
  go_wp2_with (go_at_call 56; refine (num_any _ _).mono ?_; rintro e' w' ⟨rfl, hw'⟩; obtain rfl := hw'.symm)
  refine WH.out.mono ?_
  rintro e4' w4 ⟨rfl, F', R4, D4, K4⟩
  have HFIN : Hid (∃ F' X', BK base M w4 F' X' ∧ BD M w4 F' X' ∧ Kept base M w w4 ∧ (X' 0).length ≤ (X 0).length + 4 ∧ (X' 8).length ≤ (X 8).length + 1 ∧ (X' 1).length ≤ (X 1).length + 4) := by
    refine ⟨F', _, R4, D4, HK.out.trans K4, ?_, ?_, ?_⟩
    · rw [upd_other _ _ (show (0 : Nat) ≠ 8 by omega)]; omega
    · rw [upd_same, List.length_append]; simp
    · rw [upd_other _ _ (show (1 : Nat) ≠ 8 by omega)]; omega
  clear R4 D4 K4
  go_wp2_with fail
  go_ret
  exact ⟨rfl, HFIN.out⟩
end Go.Proofs.YtflenkppcclclaaGreatDoor

