import Derived.Test.YtebnlafjepfkdaaGreatDoorM14
import Derived.Test.YtebnlafjepfkdaaGreatDoorM45
import Derived.Test.YtebnlafjepfkdaaGreatDoorM17
import Derived.Test.YtebnlafjepfkdaaGreatDoorM50
import Derived.Test.YtebnlafjepfkdaaGreatDoorM49
namespace Go.Proofs.YtebnlafjepfkdaaGreatDoor
open Go.RowKit

def lE : List Int := [2, 1, 97, 12, 15, 9, 19, 7, 0, 0]
def cE (i : Nat) : Int := lE.getD i 0
theorem vE : VP cE 10 7 where
  most := by decide
  one := by decide
  last := by decide
  op := by decide
  byte := by decide
  cell := by decide
  stop := by decide
  jump := by
    intro m hm
    match m, hm with
    | 0, _ | 1, _ | 2, _ | 4, _ | 5, _ | 6, _ => intro h; exact absurd h (by decide)
    | 3, _ => intro _; exact ⟨6, by decide, by decide⟩
    | m + 7, hm => omega

def entE : Nat → Int := entAt (bgn cE 7) 10
theorem cntE : cntB (bgn cE 7) 10 = 4 := by decide

theorem once {c ent : Nat → Int} {fuel : Int} {ρ : RS} {n n0 : Nat} (he : (after c ent fuel ρ n).σ.ended = true) (hN : ∀ m, m < n → (after c ent fuel ρ m).σ.ended = false)
    (he0 : (after c ent fuel ρ n0).σ.ended = true) (hN0 : ∀ m, m < n0 → (after c ent fuel ρ m).σ.ended = false) : n = n0 := by
  rcases Nat.lt_trichotomy n n0 with h | h | h
  · rw [hN0 n h] at he; cases he
  · exact h
  · rw [hN n0 h] at he0; cases he0

def rA (n : Nat) : RS := after cE entE 100 (ρ0 ⟨#[97]⟩) n
def rB (n : Nat) : RS := after cE entE 100 (ρ0 ⟨#[98]⟩) n
theorem rA_end : (rA 5).σ.ended = true := by kernel_rfl
theorem rA_not : ∀ m, m < 5 → (rA m).σ.ended = false := by
  intro m hm
  match m, hm with
  | 0, _ => exact (show (rA 0).σ.ended = false by kernel_rfl)
  | 1, _ => exact (show (rA 1).σ.ended = false by kernel_rfl)
  | 2, _ => exact (show (rA 2).σ.ended = false by kernel_rfl)
  | 3, _ => exact (show (rA 3).σ.ended = false by kernel_rfl)
  | 4, _ => exact (show (rA 4).σ.ended = false by kernel_rfl)
  | m + 5, hm => omega
theorem rA_kind : (rA 5).σ.kind = 1 := by kernel_rfl
theorem rA_fault : (rA 5).σ.fault = 23 := by kernel_rfl
theorem rA_place : (rA 5).σ.place = 6 := by kernel_rfl
theorem rA_steps : (rA 5).σ.steps = 5 := by kernel_rfl
theorem rA_out : (rA 5).σ.out = [] := by kernel_rfl
theorem rA_0 : classS ((rA 5).cnt 0) = 1 := by kernel_rfl
theorem rA_8 : classS ((rA 5).cnt 8) = 1 := by kernel_rfl
theorem rA_10 : classS ((rA 5).cnt 10) = 0 := by kernel_rfl
theorem rB_end : (rB 5).σ.ended = true := by kernel_rfl
theorem rB_not : ∀ m, m < 5 → (rB m).σ.ended = false := by
  intro m hm
  match m, hm with
  | 0, _ => exact (show (rB 0).σ.ended = false by kernel_rfl)
  | 1, _ => exact (show (rB 1).σ.ended = false by kernel_rfl)
  | 2, _ => exact (show (rB 2).σ.ended = false by kernel_rfl)
  | 3, _ => exact (show (rB 3).σ.ended = false by kernel_rfl)
  | 4, _ => exact (show (rB 4).σ.ended = false by kernel_rfl)
  | m + 5, hm => omega
theorem rB_kind : (rB 5).σ.kind = 0 := by kernel_rfl
theorem rB_fault : (rB 5).σ.fault = 0 := by kernel_rfl
theorem rB_place : (rB 5).σ.place = 9 := by kernel_rfl
theorem rB_steps : (rB 5).σ.steps = 5 := by kernel_rfl
theorem rB_out : (rB 5).σ.out = [] := by kernel_rfl
theorem rB_0 : classS ((rB 5).cnt 0) = 1 := by kernel_rfl
theorem rB_8 : classS ((rB 5).cnt 8) = 0 := by kernel_rfl
theorem rB_10 : classS ((rB 5).cnt 10) = 1 := by kernel_rfl
end Go.Proofs.YtebnlafjepfkdaaGreatDoor

namespace Go.Proofs.YtebnlafjepfkdaaGreatDoor
open Go.RowKit

theorem inv0 {c : Nat → Int} {L : Nat} {S : Nat → Prop} (hG : Good c L S) {input : ByteArray} {fuel : Int} (hin : input.size ≤ 24) (hf0 : 0 ≤ fuel) : Inv L S fuel (ρ0 input) :=
  ⟨Int.le_refl 0, by show (0 : Int) ≤ 300; omega, fun _ => hG.zero, by show 0 ≤ 32; omega, hin, by show 0 ≤ 16; omega, Int.le_refl 0, hf0, fun _ => Int.le_refl 0, Int.le_refl 0, by show (0 : Int) ≤ 256; omega⟩

theorem twin_after {c : Nat → Int} {L N : Nat} (V : VP c L N) {input : ByteArray} {fuel : Int} (hin : input.size ≤ 24) (hf0 : 0 ≤ fuel) :
    ∀ k, (∀ i, i < k → (after c (entAt (bgn c N) L) fuel (ρ0 input) i).σ.ended = false) →
      Inv L (fun p => ∃ m, m < N ∧ pos c m = p) fuel (after c (entAt (bgn c N) L) fuel (ρ0 input) k) ∧
      ∃ k', Twin c N (after c (entAt (bgn c N) L) fuel (ρ0 input) k) (after (pc c N L) (pent (pc c N L) (nOf c N N)) fuel (ρ0 input) k') ∧ ∀ i, i < k' → (after (pc c N L) (pent (pc c N L) (nOf c N N)) fuel (ρ0 input) i).σ.ended = false := by
  intro k
  induction k with
  | zero =>
    intro _
    exact ⟨inv0 V.good hin hf0, 0, ⟨rfl, rfl, rfl, rfl, rfl, rfl, rfl, rfl, rfl, rfl, fun _ => ⟨0, V.one, rfl, rfl⟩, fun h => by cases h⟩, fun i hi => by omega⟩
  | succ k ih =>
    intro h
    obtain ⟨hI, k', hT, hk'⟩ := ih (fun i hi => h i (by omega))
    have he := h k (by omega)
    have hI2 := (advS_inv V.good (fun p hp => ent_bounds (bgn c N) L p hp V.most) hI he).1
    refine ⟨hI2, ?_⟩
    have hfit : ∀ τ, τ = roundS c (entAt (bgn c N) L) fuel (after c (entAt (bgn c N) L) fuel (ρ0 input) k) → τ.σ.ended = false → ∃ t, t < N ∧ τ.σ.next = (pos c t : Int) := by
      intro τ hτ hne
      subst hτ
      obtain ⟨t, ht, e⟩ := hI2.start hne
      have := hI2.next0
      exact ⟨t, ht, by omega⟩
    have hlast : (after (pc c N L) (pent (pc c N L) (nOf c N N)) fuel (ρ0 input) k').σ.ended = false := hT.ended.trans he
    rcases twin_round V hT he hfit with h1 | ⟨h0, h1⟩
    · refine ⟨k' + 1, h1, fun i hi => ?_⟩
      by_cases e : i = k'
      · subst e; exact hlast
      · exact hk' i (by omega)
    · refine ⟨k' + 2, h1, fun i hi => ?_⟩
      by_cases e : i = k'
      · subst e; exact hlast
      · by_cases e2 : i = k' + 1
        · subst e2; exact h0
        · exact hk' i (by omega)

theorem twin_end {c : Nat → Int} {L N : Nat} (V : VP c L N) {input : ByteArray} {fuel : Int} (hin : input.size ≤ 24) (hf0 : 0 ≤ fuel) {n n' : Nat}
    (h1 : (after c (entAt (bgn c N) L) fuel (ρ0 input) n).σ.ended = true) (h2 : ∀ i, i < n → (after c (entAt (bgn c N) L) fuel (ρ0 input) i).σ.ended = false)
    (h3 : (after (pc c N L) (pent (pc c N L) (nOf c N N)) fuel (ρ0 input) n').σ.ended = true) (h4 : ∀ i, i < n' → (after (pc c N L) (pent (pc c N L) (nOf c N N)) fuel (ρ0 input) i).σ.ended = false) :
    Twin c N (after c (entAt (bgn c N) L) fuel (ρ0 input) n) (after (pc c N L) (pent (pc c N L) (nOf c N N)) fuel (ρ0 input) n') := by
  obtain ⟨_, k', hT, hk'⟩ := twin_after V hin hf0 n h2
  have := once h3 h4 (hT.ended.trans h1) hk'
  subst this
  exact hT

/-- The probed code can be run, and its entries are its Probes. -/
theorem VP.canP {c : Nat → Int} {L N : Nat} (V : VP c L N) : ¬ CanIs (pc c N L) (qOf (bgn c N) L) false := by
  have F := V.fineP
  have hF : FlawIs (pc c N L) (qOf (bgn c N) L) 240 20 0 false := Or.inr ⟨F.sp.most, nOf c N N, F.sp, Or.inr ⟨F.last, Or.inr ⟨F.well, Or.inl ⟨rfl, rfl, F.led⟩⟩⟩⟩
  rintro (h | ⟨r, _, h | ⟨_, ⟨r2, h⟩ | ⟨M, F2, h⟩⟩⟩)
  · cases h.1
  · cases h.1
  · have := (hF.same h).2; cases this
  · have := F.sp.same F.last F2.sp (Or.inl F2.last)
    subst this
    rw [V.probeP] at h; cases h
theorem VP.entsP {c : Nat → Int} {L N : Nat} (V : VP c L N) {ent : Nat → Int} (h : EntIs (pc c N L) (qOf (bgn c N) L) ent) : ent = pent (pc c N L) (nOf c N N) := by
  rcases h with ⟨M, _, F, _⟩ | ⟨M, r, _, F, _, rfl⟩
  · have h1 := F.sp.op 0 F.one
    have h2 : pc c N L (pos (pc c N L) 0) = 20 := (pc_q c N (V.lt V.one) V.first).1
    rw [h2] at h1
    omega
  · have := V.fineP.sp.same V.fineP.last F.sp (Or.inl F.last)
    subst this
    rfl
end Go.Proofs.YtebnlafjepfkdaaGreatDoor

namespace Go.Proofs.YtebnlafjepfkdaaGreatDoor
open Go.RowKit

theorem own_at {w : World} {base : Nat} {e : TypeId} {v : Value} {N : Nat} {xs : List Value} (h : w.ownsRow base e 1 v N xs) (hN : 0 < N) :
    ∃ g cap, v = .slice (some ⟨g, 0, none⟩) N cap ∧ base ≤ g ∧ N ≤ cap ∧ cap ≤ maxLen ∧ ∀ (i : Nat) (u : Value), xs[i]? = some u → w.cell? ⟨g, i, none⟩ = some u := by
  rcases h.2 with ⟨_, h0⟩ | ⟨g, cap, cur, hv, hb, hh, hle, hcap, hcs, htake⟩
  · omega
  · refine ⟨g, cap, hv, hb, hle, hcap, fun i u hx => ?_⟩
    rw [cell_of_row w g _ _ _ _ hh]
    have hi : i < N := by
      have h1 := (List.getElem?_eq_some_iff.1 hx).1
      have h2 := h.1
      omega
    have h2 : (cur.toList.take (N * 1))[i]? = some u := by rw [htake]; exact hx
    rw [List.getElem?_take, if_pos (by omega)] at h2
    simpa using h2

theorem xProbe_any (w : World) (cb co L cap N : Nat) (c : Nat → Int) (V : VP c L N) (C : Laid w cb co L cap c) (hT : Tab w) :
    Calls Tryz.prog 29 #[.slice (some ⟨cb, co, none⟩) L cap] w fun e w' => ∃ base W vc vf, w.heap.size ≤ W ∧ WR base W w' vc vf (pcode c N L) (pfrom c N L) ∧ e = .returned (.tuple #[vc, vf, .int .i64 0]) ∧ Below w.heap.size w w' := by
  go_enter Tryz.func29, Tryz.ntmps29
  go_wp2_with fail
  refine (pCheck_any w cb co L cap N c V C hT).mono ?_
  rintro e w1 ⟨rfl, B1⟩
  go_wp2_with fail
  refine (withProbes_any w1 cb co L cap N c V (C.below B1) (hT.below B1)).mono ?_
  rintro e w2 ⟨base, W, vc, vf, hW, hR, rfl, B2⟩
  have HR : Hid (WR base W w2 vc vf (pcode c N L) (pfrom c N L)) := hR
  clear hR
  go_wp2_with fail
  refine bodyPost_ret (v := .tuple #[vc, vf, .int .i64 0]) (by simp [results, Tryz.results29, go_sem]) rfl ?_
  exact ⟨base, W, vc, vf, by have := B1.size; omega, HR.out, rfl, B1.trans (B2.mono B1.size)⟩

theorem xProbe_bad (w : World) (v : Value) (L : Nat) (c : Nat → Int) (hby : ∀ i, i < L → 0 ≤ c i ∧ c i ≤ 255) (C : Coded w v L c) (hT : Tab w) (hbad : ¬ ∃ N, VP c L N) :
    Calls Tryz.prog 29 #[v] w fun e w' => e = .returned (.tuple #[.slice none 0 0, .slice none 0 0, .int .i64 1]) ∧ Below w.heap.size w w' := by
  go_enter Tryz.func29, Tryz.ntmps29
  go_wp2_with fail
  refine (pCheck_gen w v L c hby C hT).mono ?_
  rintro e w1 ⟨n, b, hC, rfl, B1⟩
  cases b with
  | true =>
    rcases hC with ⟨h, _⟩ | ⟨_, hL, N, F, _⟩
    · cases h
    · exact absurd ⟨N, F.vp hL⟩ hbad
  | false =>
    go_wp2_with fail
    refine bodyPost_ret (v := .tuple #[.slice none 0 0, .slice none 0 0, .int .i64 1]) (by simp [results, Tryz.results29, go_sem]) rfl ?_
    exact ⟨rfl, B1⟩

/-- Two rows, as they come out: the probed code, and the places. -/
structure Two (w : World) (B g1 cap1 g2 cap2 Q : Nat) (d f : Nat → Int) : Prop where
  code : Laid w g1 0 Q cap1 d
  from' : ∀ i, i < Q → w.cell? ⟨g2, i, none⟩ = some (.int .i64 (f i))
  b1 : B ≤ g1
  b2 : B ≤ g2
  ne : g1 ≠ g2
  room : Q ≤ cap2
  lt : g2 < w.heap.size
theorem WR.two {base W B : Nat} {w : World} {vc vf : Value} {c : Nat → Int} {N L : Nat} (h : WR base W w vc vf (pcode c N L) (pfrom c N L)) (hB : B ≤ W) (hQ : 0 < qOf (bgn c N) L) :
    ∃ g1 cap1 g2 cap2, vc = .slice (some ⟨g1, 0, none⟩) (qOf (bgn c N) L) cap1 ∧ vf = .slice (some ⟨g2, 0, none⟩) (qOf (bgn c N) L) cap2 ∧ Two w B g1 cap1 g2 cap2 (qOf (bgn c N) L) (pc c N L) (pf c N L) := by
  have h1 := h.own1
  have h2 := h.own2
  rw [pcode_len] at h1
  rw [pfrom_len] at h2
  obtain ⟨g1, cap1, e1, b1, r1, m1, c1⟩ := own_at h1 hQ
  obtain ⟨g2, cap2, e2, b2, r2, m2, c2⟩ := own_at h2 hQ
  have hlt := h.lt
  have hcell : ∀ i, i < qOf (bgn c N) L → w.cell? ⟨g2, i, none⟩ = some (.int .i64 (pf c N L i)) := fun i hi => c2 i _ (by
      rw [← pfrom_len c N L] at hi
      rw [List.getElem?_map, List.getElem?_eq_getElem hi]
      unfold pf
      rw [List.getD_eq_getElem?_getD, List.getElem?_eq_getElem hi]; rfl)
  refine ⟨g1, cap1, g2, cap2, e1, e2, ⟨fun i hi => ?_, r1, m1, hQ⟩, hcell, by omega, by omega, ?_, r2, block_lt_of_cell (hcell 0 hQ)⟩
  · rw [Nat.zero_add]
    refine c1 i _ ?_
    rw [← pcode_len c N L] at hi
    rw [List.getElem?_map, List.getElem?_eq_getElem hi]
    unfold pc
    rw [List.getD_eq_getElem?_getD, List.getElem?_eq_getElem hi]; rfl
  · have := h.apart
    rw [e1, e2] at this
    rcases this with h | h
    · cases h
    · intro e; exact h (by rw [e]; rfl)
theorem VP.qPos {c : Nat → Int} {L N : Nat} (V : VP c L N) : 0 < qOf (bgn c N) L := by
  have := V.lt V.one
  unfold qOf
  have : pos c 0 = 0 := rfl
  omega
end Go.Proofs.YtebnlafjepfkdaaGreatDoor

namespace Go.Proofs.YtebnlafjepfkdaaGreatDoor
open Go.RowKit

/-- What a Probe answers: bytes, places, and a number; in new memory. -/
def ProbeAns (cs fs : List Int) (k : Int) (w : World) (e : Ending) (w' : World) : Prop :=
  ∃ base vc vf, w.heap.size ≤ base ∧ TR base w' vc vf cs fs ∧ e = .returned (.tuple #[vc, vf, .int .i64 k]) ∧ Below w.heap.size w w'

theorem WR.tr {base W : Nat} {w : World} {vc vf : Value} {cs fs : List Int} (h : WR base W w vc vf cs fs) : TR base w vc vf cs fs := ⟨h.own1, h.own2, h.apart, h.le⟩

theorem VP.fine0 {c : Nat → Int} {L N : Nat} (V : VP c L N) : Fine c L N 19 where
  sp := ⟨by have := V.most; omega, by omega, V.byte, fun m hm => V.op m hm, fun m hm => V.fits hm, V.cell⟩
  last := V.last
  well := by
    unfold wellAt
    rw [if_neg (by have := V.one; omega)]
    exact V.stop
  led := by
    intro m hm
    unfold badT
    cases hl : leadsB (c (pos c m)) with
    | false => rfl
    | true =>
      obtain ⟨t, ht, e⟩ := V.jump m hm hl
      have : started c N (c (pos c m + 1)).toNat = true := by
        unfold started
        rw [List.any_eq_true]
        exact ⟨t, List.mem_range.2 ht, by rw [← e]; simp⟩
      rw [this]; rfl

/-- The program's Probe and the document's answer alike. -/
theorem probe_same (L : Nat) (c : Nat → Int) (hby : ∀ i, i < L → 0 ≤ c i ∧ c i ≤ 255) :
    ∃ cs fs k, cs.length ≤ 240 ∧ fs.length ≤ 240 ∧ (∀ w v, Coded w v L c → Tab w → Calls Tryz.prog 29 #[v] w (ProbeAns cs fs k w)) ∧ (∀ w v, Coded w v L c → Calls Tryz.prog 22 #[v] w (ProbeAns cs fs k w)) := by
  by_cases hV : ∃ N, VP c L N
  · obtain ⟨N, V⟩ := hV
    have hL0 : 0 < L := by have := V.lt V.one; omega
    have hq := V.pLen'
    refine ⟨pcode c N L, pfrom c N L, 0, by rw [pcode_len]; exact hq, by rw [pfrom_len]; exact hq, ?_, ?_⟩
    · intro w v C hT
      cases C with
      | bare p cap hv hL => omega
      | full cb co cap hv C =>
        subst hv
        refine (xProbe_any w cb co L cap N c V C hT).mono ?_
        rintro e w' ⟨base, W, vc, vf, h1, h2, h3, h4⟩
        exact ⟨base, vc, vf, by have := h2.lt; omega, h2.tr, h3, h4⟩
    · intro w v C
      cases C with
      | bare p cap hv hL => omega
      | full cb co cap hv C =>
        subst hv
        exact (rProbe_any w cb co L cap N c V.fine0 V.most hby C).mono fun e w' h => h
  · refine ⟨[], [], 1, by simp, by simp, ?_, ?_⟩
    · intro w v C hT
      refine (xProbe_bad w v L c hby C hT hV).mono ?_
      rintro e w' ⟨rfl, hB⟩
      exact ⟨w.heap.size, _, _, Nat.le_refl _, ⟨World.ownsRow_nil _ _ _ _, World.ownsRow_nil _ _ _ _, Or.inl rfl, hB.size⟩, rfl, hB⟩
    · intro w v C
      refine (rProbe_bad w v L c hby C hV).mono ?_
      rintro e w' ⟨rfl, hB⟩
      exact ⟨w.heap.size, _, _, Nat.le_refl _, ⟨World.ownsRow_nil _ _ _ _, World.ownsRow_nil _ _ _ _, Or.inl rfl, hB.size⟩, rfl, hB⟩
end Go.Proofs.YtebnlafjepfkdaaGreatDoor

