import Derived.Test.YtflenkppcclclaaGreatDoorM37
import Derived.Test.YtflenkppcclclaaGreatDoorM14
import Derived.Test.YtflenkppcclclaaGreatDoorM12
import Derived.Test.YtflenkppcclclaaGreatDoorM40
namespace Go.Proofs.YtflenkppcclclaaGreatDoor
open Go.RowKit

theorem inv0 {c : Nat → Int} {L : Nat} {S : Nat → Prop} (hG : Good c L S) {input : ByteArray} {fuel : Int} (hin : input.size ≤ 24) (hf0 : 0 ≤ fuel) : Inv L S fuel (ρ0 input) :=
  ⟨Int.le_refl 0, by show (0 : Int) ≤ 300; omega, fun _ => hG.zero, by show 0 ≤ 32; omega, hin, by show 0 ≤ 16; omega, Int.le_refl 0, hf0, fun _ => Int.le_refl 0, Int.le_refl 0, by show (0 : Int) ≤ 256; omega⟩

theorem twin_after {c : Nat → Int} {L N : Nat} (V : VP c L N) {input : ByteArray} {fuel : Int} (hin : input.size ≤ 24) (hf0 : 0 ≤ fuel) :
    ∀ k, (∀ i, i < k → (after c (entAt (bgn c N) L) fuel (ρ0 input) i).σ.ended = false) →
      Inv L (fun p => ∃ m, m < N ∧ pos c m = p) fuel (after c (entAt (bgn c N) L) fuel (ρ0 input) k) ∧
      ∃ k', Twin c N (after c (entAt (bgn c N) L) fuel (ρ0 input) k) (after (pc c N L) (pent (pc c N L) (nOf c N N)) fuel (ρ0 input) k') ∧ ∀ i, i < k' → (after (pc c N L) (pent (pc c N L) (nOf c N N)) fuel (ρ0 input) i).σ.ended = false := by
  intro k
  induction k with
  | zero =>
    intro _
    exact ⟨inv0 V.good hin hf0, 0, ⟨rfl, rfl, rfl, rfl, rfl, rfl, rfl, rfl, rfl, rfl, fun _ => ⟨0, V.one, rfl, rfl⟩, fun h => by cases h⟩, fun i hi => by omega⟩
  | succ k ih =>
    intro h
    obtain ⟨hI, k', hT, hk'⟩ := ih (fun i hi => h i (by omega))
    have he := h k (by omega)
    have hI2 := (advS_inv V.good (fun p hp => ent_bounds (bgn c N) L p hp V.most) hI he).1
    refine ⟨hI2, ?_⟩
    have hfit : ∀ τ, τ = roundS c (entAt (bgn c N) L) fuel (after c (entAt (bgn c N) L) fuel (ρ0 input) k) → τ.σ.ended = false → ∃ t, t < N ∧ τ.σ.next = (pos c t : Int) := by
      intro τ hτ hne
      subst hτ
      obtain ⟨t, ht, e⟩ := hI2.start hne
      have := hI2.next0
      exact ⟨t, ht, by omega⟩
    have hlast : (after (pc c N L) (pent (pc c N L) (nOf c N N)) fuel (ρ0 input) k').σ.ended = false := hT.ended.trans he
    rcases twin_round V hT he hfit with h1 | ⟨h0, h1⟩
    · refine ⟨k' + 1, h1, fun i hi => ?_⟩
      by_cases e : i = k'
      · subst e; exact hlast
      · exact hk' i (by omega)
    · refine ⟨k' + 2, h1, fun i hi => ?_⟩
      by_cases e : i = k'
      · subst e; exact hlast
      · by_cases e2 : i = k' + 1
        · subst e2; exact h0
        · exact hk' i (by omega)

theorem twin_end {c : Nat → Int} {L N : Nat} (V : VP c L N) {input : ByteArray} {fuel : Int} (hin : input.size ≤ 24) (hf0 : 0 ≤ fuel) {n n' : Nat}
    (h1 : (after c (entAt (bgn c N) L) fuel (ρ0 input) n).σ.ended = true) (h2 : ∀ i, i < n → (after c (entAt (bgn c N) L) fuel (ρ0 input) i).σ.ended = false)
    (h3 : (after (pc c N L) (pent (pc c N L) (nOf c N N)) fuel (ρ0 input) n').σ.ended = true) (h4 : ∀ i, i < n' → (after (pc c N L) (pent (pc c N L) (nOf c N N)) fuel (ρ0 input) i).σ.ended = false) :
    Twin c N (after c (entAt (bgn c N) L) fuel (ρ0 input) n) (after (pc c N L) (pent (pc c N L) (nOf c N N)) fuel (ρ0 input) n') := by
  obtain ⟨_, k', hT, hk'⟩ := twin_after V hin hf0 n h2
  have := once h3 h4 (hT.ended.trans h1) hk'
  subst this
  exact hT

/-- The probed code can be run, and its entries are its Probes. -/
theorem VP.canP {c : Nat → Int} {L N : Nat} (V : VP c L N) : ¬ CanIs (pc c N L) (qOf (bgn c N) L) false := by
  have F := V.fineP
  have hF : FlawIs (pc c N L) (qOf (bgn c N) L) 240 20 0 false := Or.inr ⟨F.sp.most, nOf c N N, F.sp, Or.inr ⟨F.last, Or.inr ⟨F.well, Or.inl ⟨rfl, rfl, F.led⟩⟩⟩⟩
  rintro (h | ⟨r, _, h | ⟨_, ⟨r2, h⟩ | ⟨M, F2, h⟩⟩⟩)
  · cases h.1
  · cases h.1
  · have := (hF.same h).2; cases this
  · have := F.sp.same F.last F2.sp (Or.inl F2.last)
    subst this
    rw [V.probeP] at h; cases h
theorem VP.entsP {c : Nat → Int} {L N : Nat} (V : VP c L N) {ent : Nat → Int} (h : EntIs (pc c N L) (qOf (bgn c N) L) ent) : ent = pent (pc c N L) (nOf c N N) := by
  rcases h with ⟨M, _, F, _⟩ | ⟨M, r, _, F, _, rfl⟩
  · have h1 := F.sp.op 0 F.one
    have h2 : pc c N L (pos (pc c N L) 0) = 20 := (pc_q c N (V.lt V.one) V.first).1
    rw [h2] at h1
    omega
  · have := V.fineP.sp.same V.fineP.last F.sp (Or.inl F.last)
    subst this
    rfl
end Go.Proofs.YtflenkppcclclaaGreatDoor

namespace Go.Proofs.YtflenkppcclclaaGreatDoor
open Go.RowKit

theorem own_at {w : World} {base : Nat} {e : TypeId} {v : Value} {N : Nat} {xs : List Value} (h : w.ownsRow base e 1 v N xs) (hN : 0 < N) :
    ∃ g cap, v = .slice (some ⟨g, 0, none⟩) N cap ∧ base ≤ g ∧ N ≤ cap ∧ cap ≤ maxLen ∧ ∀ (i : Nat) (u : Value), xs[i]? = some u → w.cell? ⟨g, i, none⟩ = some u := by
  rcases h.2 with ⟨_, h0⟩ | ⟨g, cap, cur, hv, hb, hh, hle, hcap, hcs, htake⟩
  · omega
  · refine ⟨g, cap, hv, hb, hle, hcap, fun i u hx => ?_⟩
    rw [cell_of_row w g _ _ _ _ hh]
    have hi : i < N := by
      have h1 := (List.getElem?_eq_some_iff.1 hx).1
      have h2 := h.1
      omega
    have h2 : (cur.toList.take (N * 1))[i]? = some u := by rw [htake]; exact hx
    rw [List.getElem?_take, if_pos (by omega)] at h2
    simpa using h2

theorem xProbe_any (w : World) (cb co L cap N : Nat) (c : Nat → Int) (V : VP c L N) (C : Laid w cb co L cap c) (hT : Tab w) :
    Calls Tryz.prog 102 #[.slice (some ⟨cb, co, none⟩) L cap] w fun e w' => ∃ base W vc vf, w.heap.size ≤ W ∧ WR base W w' vc vf (pcode c N L) (pfrom c N L) ∧ e = .returned (.tuple #[vc, vf, .int .i64 0]) ∧ Below w.heap.size w w' := by
  go_enter Tryz.func102, Tryz.ntmps102
  go_wp2_with fail
  refine (pCheck_any w cb co L cap N c V C hT).mono ?_
  rintro e w1 ⟨rfl, B1⟩
  go_wp2_with fail
  refine (withProbes_any w1 cb co L cap N c V (C.below B1) (hT.below B1)).mono ?_
  rintro e w2 ⟨base, W, vc, vf, hW, hR, rfl, B2⟩
  have HR : Hid (WR base W w2 vc vf (pcode c N L) (pfrom c N L)) := hR
  clear hR
  go_wp2_with fail
  refine bodyPost_ret (v := .tuple #[vc, vf, .int .i64 0]) (by simp [results, Tryz.results102, go_sem]) rfl ?_
  exact ⟨base, W, vc, vf, by have := B1.size; omega, HR.out, rfl, B1.trans (B2.mono B1.size)⟩

theorem xProbe_bad (w : World) (v : Value) (L : Nat) (c : Nat → Int) (hby : ∀ i, i < L → 0 ≤ c i ∧ c i ≤ 255) (C : Coded w v L c) (hT : Tab w) (hbad : ¬ ∃ N, VP c L N) :
    Calls Tryz.prog 102 #[v] w fun e w' => e = .returned (.tuple #[.slice none 0 0, .slice none 0 0, .int .i64 1]) ∧ Below w.heap.size w w' := by
  go_enter Tryz.func102, Tryz.ntmps102
  go_wp2_with fail
  refine (pCheck_gen w v L c hby C hT).mono ?_
  rintro e w1 ⟨n, b, hC, rfl, B1⟩
  cases b with
  | true =>
    rcases hC with ⟨h, _⟩ | ⟨_, hL, N, F, _⟩
    · cases h
    · exact absurd ⟨N, F.vp hL⟩ hbad
  | false =>
    go_wp2_with fail
    refine bodyPost_ret (v := .tuple #[.slice none 0 0, .slice none 0 0, .int .i64 1]) (by simp [results, Tryz.results102, go_sem]) rfl ?_
    exact ⟨rfl, B1⟩

/-- Two rows, as they come out: the probed code, and the places. -/
structure Two (w : World) (B g1 cap1 g2 cap2 Q : Nat) (d f : Nat → Int) : Prop where
  code : Laid w g1 0 Q cap1 d
  from' : ∀ i, i < Q → w.cell? ⟨g2, i, none⟩ = some (.int .i64 (f i))
  b1 : B ≤ g1
  b2 : B ≤ g2
  ne : g1 ≠ g2
  room : Q ≤ cap2
  lt : g2 < w.heap.size
theorem WR.two {base W B : Nat} {w : World} {vc vf : Value} {c : Nat → Int} {N L : Nat} (h : WR base W w vc vf (pcode c N L) (pfrom c N L)) (hB : B ≤ W) (hQ : 0 < qOf (bgn c N) L) :
    ∃ g1 cap1 g2 cap2, vc = .slice (some ⟨g1, 0, none⟩) (qOf (bgn c N) L) cap1 ∧ vf = .slice (some ⟨g2, 0, none⟩) (qOf (bgn c N) L) cap2 ∧ Two w B g1 cap1 g2 cap2 (qOf (bgn c N) L) (pc c N L) (pf c N L) := by
  have h1 := h.own1
  have h2 := h.own2
  rw [pcode_len] at h1
  rw [pfrom_len] at h2
  obtain ⟨g1, cap1, e1, b1, r1, m1, c1⟩ := own_at h1 hQ
  obtain ⟨g2, cap2, e2, b2, r2, m2, c2⟩ := own_at h2 hQ
  have hlt := h.lt
  have hcell : ∀ i, i < qOf (bgn c N) L → w.cell? ⟨g2, i, none⟩ = some (.int .i64 (pf c N L i)) := fun i hi => c2 i _ (by
      rw [← pfrom_len c N L] at hi
      rw [List.getElem?_map, List.getElem?_eq_getElem hi]
      unfold pf
      rw [List.getD_eq_getElem?_getD, List.getElem?_eq_getElem hi]; rfl)
  refine ⟨g1, cap1, g2, cap2, e1, e2, ⟨fun i hi => ?_, r1, m1, hQ⟩, hcell, by omega, by omega, ?_, r2, block_lt_of_cell (hcell 0 hQ)⟩
  · rw [Nat.zero_add]
    refine c1 i _ ?_
    rw [← pcode_len c N L] at hi
    rw [List.getElem?_map, List.getElem?_eq_getElem hi]
    unfold pc
    rw [List.getD_eq_getElem?_getD, List.getElem?_eq_getElem hi]; rfl
  · have := h.apart
    rw [e1, e2] at this
    rcases this with h | h
    · cases h
    · intro e; exact h (by rw [e]; rfl)
theorem VP.qPos {c : Nat → Int} {L N : Nat} (V : VP c L N) : 0 < qOf (bgn c N) L := by
  have := V.lt V.one
  unfold qOf
  have : pos c 0 = 0 := rfl
  omega
end Go.Proofs.YtflenkppcclclaaGreatDoor

namespace Go.Proofs.YtflenkppcclclaaGreatDoor
open Go.RowKit

/-- What a Probe answers: bytes, places, and a number; in new memory. -/
def ProbeAns (cs fs : List Int) (k : Int) (w : World) (e : Ending) (w' : World) : Prop :=
  ∃ base vc vf, w.heap.size ≤ base ∧ TR base w' vc vf cs fs ∧ e = .returned (.tuple #[vc, vf, .int .i64 k]) ∧ Below w.heap.size w w'

theorem WR.tr {base W : Nat} {w : World} {vc vf : Value} {cs fs : List Int} (h : WR base W w vc vf cs fs) : TR base w vc vf cs fs := ⟨h.own1, h.own2, h.apart, h.le⟩

theorem VP.fine0 {c : Nat → Int} {L N : Nat} (V : VP c L N) : Fine c L N 19 where
  sp := ⟨by have := V.most; omega, by omega, V.byte, fun m hm => V.op m hm, fun m hm => V.fits hm, V.cell⟩
  last := V.last
  well := by
    unfold wellAt
    rw [if_neg (by have := V.one; omega)]
    exact V.stop
  led := by
    intro m hm
    unfold badT
    cases hl : leadsB (c (pos c m)) with
    | false => rfl
    | true =>
      obtain ⟨t, ht, e⟩ := V.jump m hm hl
      have : started c N (c (pos c m + 1)).toNat = true := by
        unfold started
        rw [List.any_eq_true]
        exact ⟨t, List.mem_range.2 ht, by rw [← e]; simp⟩
      rw [this]; rfl

/-- The program's Probe and the document's answer alike. -/
theorem probe_same (L : Nat) (c : Nat → Int) (hby : ∀ i, i < L → 0 ≤ c i ∧ c i ≤ 255) :
    ∃ cs fs k, cs.length ≤ 240 ∧ fs.length ≤ 240 ∧ (∀ w v, Coded w v L c → Tab w → Calls Tryz.prog 102 #[v] w (ProbeAns cs fs k w)) ∧ (∀ w v, Coded w v L c → Calls Tryz.prog 97 #[v] w (ProbeAns cs fs k w)) := by
  by_cases hV : ∃ N, VP c L N
  · obtain ⟨N, V⟩ := hV
    have hL0 : 0 < L := by have := V.lt V.one; omega
    have hq := V.pLen'
    refine ⟨pcode c N L, pfrom c N L, 0, by rw [pcode_len]; exact hq, by rw [pfrom_len]; exact hq, ?_, ?_⟩
    · intro w v C hT
      cases C with
      | bare p cap hv hL => omega
      | full cb co cap hv C =>
        subst hv
        refine (xProbe_any w cb co L cap N c V C hT).mono ?_
        rintro e w' ⟨base, W, vc, vf, h1, h2, h3, h4⟩
        exact ⟨base, vc, vf, by have := h2.lt; omega, h2.tr, h3, h4⟩
    · intro w v C
      cases C with
      | bare p cap hv hL => omega
      | full cb co cap hv C =>
        subst hv
        exact (rProbe_any w cb co L cap N c V.fine0 V.most hby C).mono fun e w' h => h
  · refine ⟨[], [], 1, by simp, by simp, ?_, ?_⟩
    · intro w v C hT
      refine (xProbe_bad w v L c hby C hT hV).mono ?_
      rintro e w' ⟨rfl, hB⟩
      exact ⟨w.heap.size, _, _, Nat.le_refl _, ⟨World.ownsRow_nil _ _ _ _, World.ownsRow_nil _ _ _ _, Or.inl rfl, hB.size⟩, rfl, hB⟩
    · intro w v C
      refine (rProbe_bad w v L c hby C hV).mono ?_
      rintro e w' ⟨rfl, hB⟩
      exact ⟨w.heap.size, _, _, Nat.le_refl _, ⟨World.ownsRow_nil _ _ _ _, World.ownsRow_nil _ _ _ _, Or.inl rfl, hB.size⟩, rfl, hB⟩
end Go.Proofs.YtflenkppcclclaaGreatDoor

namespace Go.Proofs.YtflenkppcclclaaGreatDoor
open Go.RowKit

theorem own_ncoded {w : World} {base : Nat} {v : Value} {fs : List Int} (h : w.ownsRow base 3 1 v fs.length (fs.map (Value.int .i64))) : NCoded w v fs.length (fun i => fs.getD i 0) := by
  by_cases h0 : 0 < fs.length
  · obtain ⟨g, cap, rfl, _, hr, hm, hc⟩ := own_at' h h0
    refine .full g 0 cap rfl (fun i hi => ?_) hr hm h0
    rw [Nat.zero_add]
    refine hc i _ ?_
    rw [List.getElem?_map, List.getElem?_eq_getElem hi, List.getD_eq_getElem?_getD, List.getElem?_eq_getElem hi]; rfl
  · obtain ⟨p, cap, rfl⟩ := own_len h
    exact .bare p cap (by congr 1; omega) (by omega)

set_option maxHeartbeats 4000000 in
set_option maxRecDepth 100000 in
theorem machine_probe (base M W0 : Nat) (w : World) (F : Nat → Value) (X : Nat → List Value) (h : BK base M w F X) (d : BD M w F X) (hw : w.cell? ⟨W0, 0, none⟩ = some (.pointer (some ⟨M, 0, none⟩))) (hWb : W0 < base) (hWM : W0 ≠ M) (hT : Tab w)
    (p n f : Int) (cv : Value) (L : Nat) (c : Nat → Int) (C : Coded w cv L c) (hby : ∀ i, i < L → 0 ≤ c i ∧ c i ≤ 255) (hL : L + 8 ≤ 140737488355328) (hcv : 0 < L → ∀ g, cv.ownBlock = some g → g < base ∧ g ≠ M) (s t : ByteArray) (sd : Int) (b : Option Addr) (k e : Nat)
    (hX : ((X 8).length + 1) * 24 ≤ 140737488355328) (hX0 : ((X 0).length + 4) * 24 ≤ 140737488355328) (hX1 : ((X 1).length + 4) * 24 ≤ 140737488355328) :
    Calls Tryz.prog 50 #[.pointer (some ⟨W0, 0, none⟩), .agg (opC 3 p n f cv s t sd (.slice b k e))] w (Stepped base M w X) := by
  obtain ⟨pc, capc, rfl⟩ := C.form
  have hW0 : W0 < w.heap.size := block_lt_of_cell hw
  have B0 : Below w.heap.size w (w.alloc (.cells (opC 3 p n f (.slice pc L capc) s t sd (.slice b k e)) 70)) := (Below.refl _ _).alloc (Nat.le_refl _) _
  have hz0 : (w.alloc (.cells (opC 3 p n f (.slice pc L capc) s t sd (.slice b k e)) 70)).heap.size = w.heap.size + 1 := by simp
  have hh0 := heap_alloc_new w (.cells (opC 3 p n f (.slice pc L capc) s t sd (.slice b k e)) 70)
  have e0 : (w.alloc (.cells (opC 3 p n f (.slice pc L capc) s t sd (.slice b k e)) 70)).cell? ⟨w.heap.size, 0, none⟩ = some (.int .i64 3) := cell_of_row _ _ _ _ _ _ hh0
  have e4 : (w.alloc (.cells (opC 3 p n f (.slice pc L capc) s t sd (.slice b k e)) 70)).cell? ⟨w.heap.size, 4, none⟩ = some (.slice pc L capc) := cell_of_row _ _ _ _ _ _ hh0
  have e5 : (w.alloc (.cells (opC 3 p n f (.slice pc L capc) s t sd (.slice b k e)) 70)).cell? ⟨w.heap.size, 5, none⟩ = some (.string s) := cell_of_row _ _ _ _ _ _ hh0
  have e3 : (w.alloc (.cells (opC 3 p n f (.slice pc L capc) s t sd (.slice b k e)) 70)).cell? ⟨w.heap.size, 3, none⟩ = some (.int .i64 f) := cell_of_row _ _ _ _ _ _ hh0
  clear hh0
  obtain ⟨cs, fs, kk, hcl, hfl, hXP, hRP⟩ := probe_same L c hby
  have HXP : Hid (∀ w v, Coded w v L c → Tab w → Calls Tryz.prog 102 #[v] w (ProbeAns cs fs kk w)) := hXP
  have HRP : Hid (∀ w v, Coded w v L c → Calls Tryz.prog 97 #[v] w (ProbeAns cs fs kk w)) := hRP
  clear hXP hRP
  go_enter Tryz.func50, Tryz.ntmps50
  go_wp2_with (refine wpList_box_c rfl 70 _ rfl (.agg (opC 3 p n f (.slice pc L capc) s t sd (.slice b k e))) rfl (opC 3 p n f (.slice pc L capc) s t sd (.slice b k e)) (opbox _ _ _ _ _ _ _ _ _ _ _ _ _) ?_)
  generalize (w.alloc (.cells (opC 3 p n f (.slice pc L capc) s t sd (.slice b k e)) 70)) = w0 at *
  refine (lend_any w0 (.slice pc L capc) L c (C.below B0) hL).mono ?_
  rintro e1 w1 ⟨g, cap, rfl, hown, B1⟩
  have B01 := B0.trans (B1.mono B0.size)
  have hg : w0.heap.size ≤ g ∧ g < w1.heap.size := hown.lt g rfl
  obtain ⟨Cin, hcap, hcap'⟩ := lent_coded hown
  have a0 := (B1.cell (p := ⟨w.heap.size, 0, none⟩) (by show w.heap.size < w0.heap.size; omega)).trans e0
  have a3 := (B1.cell (p := ⟨w.heap.size, 3, none⟩) (by show w.heap.size < w0.heap.size; omega)).trans e3
  have a5 := (B1.cell (p := ⟨w.heap.size, 5, none⟩) (by show w.heap.size < w0.heap.size; omega)).trans e5
  have hi1 : (L : Int) ≤ (cap : Int) := by omega
  have HOWN : Hid (w1.ownsRow w0.heap.size 5 1 (.slice (some ⟨g, 0, none⟩) (L + 8) cap) (L + 8) (bytesL (lentAt c L) (L + 8))) := hown
  have HD : Hid (BD M w F X) := d
  have HBK : Hid (BK base M w F X) := h
  have hle := h.le
  have hlt := h.lt
  have hs1 := B1.size
  clear hown h d
  go_wp2_with fail
  refine (HXP.out w1 _ Cin (hT.below B01)).mono ?_
  rintro _ w2 ⟨bs1, vl, vp, hbs1, T1, rfl, B2⟩
  obtain ⟨pl, capl, rfl⟩ := own_len T1.own1
  obtain ⟨pp, capp, rfl⟩ := own_len T1.own2
  have B02 := B01.trans (B2.mono B01.size)
  have hs2 := B2.size
  have HT1 : Hid (TR bs1 w2 (.slice pl cs.length capl) (.slice pp fs.length capp) cs fs) := T1
  clear T1
  go_wp2_with fail
  refine (HRP.out w2 _ (C.below B02)).mono ?_
  rintro _ w3 ⟨bs2, vm, vq, hbs2, T2, rfl, B3⟩
  obtain ⟨pm, capm, rfl⟩ := own_len T2.own1
  obtain ⟨pq, capq, rfl⟩ := own_len T2.own2
  have B03 := B02.trans (B3.mono B02.size)
  have W13 : Below w1.heap.size w1 w3 := B2.trans (B3.mono B2.size)
  have hs3 := B3.size
  have T1 := HT1.out
  have hbl : ∀ gg, (Value.slice pl cs.length capl).ownBlock = some gg → w1.heap.size ≤ gg ∧ gg < w2.heap.size := fun gg hgg => by have := T1.own1.lt gg hgg; omega
  have hbp : ∀ gg, (Value.slice pp fs.length capp).ownBlock = some gg → w1.heap.size ≤ gg ∧ gg < w2.heap.size := fun gg hgg => by have := T1.own2.lt gg hgg; omega
  have n1 := own_ncoded (own_below' T1.own2 (fun gg hgg => B3.block gg (hbp gg hgg).2))
  have n2 := own_ncoded T2.own2
  have HSN : Hid (Calls Tryz.prog 103 #[.slice pp fs.length capp, .slice pq fs.length capq] w3 fun e w' => Sm w3 w' ∧ e = .returned (.bool true)) := sameNumbers_any w3 _ _ _ _ n1 n2 (by omega)
  have HCV : Hid (∀ wx, Sm w3 wx → (convert 25 9 (.slice pl cs.length capl)).run Tryz.prog wx = .ok (.string (strOfNums cs)) wx ∧ (convert 25 9 (.slice pm cs.length capm)).run Tryz.prog wx = .ok (.string (strOfNums cs)) wx) := fun wx hS =>
    ⟨conv_out (own_below' T1.own1 (fun gg hgg => by rw [hS.heap]; exact B3.block gg (hbl gg hgg).2)), conv_out (own_below' T2.own1 (fun gg _ => by rw [hS.heap]))⟩
  have HB03 : Hid (Below w.heap.size w w3 ∧ Below w1.heap.size w1 w3 ∧ Below w2.heap.size w2 w3) := ⟨B03, W13, B3⟩
  have hB1 := HBK.out.below B01
  have hB0 := HBK.out.below B0
  have hD0 := HD.out.below B0
  have HF1 : Hid (∀ gg, w1.heap.size ≤ gg → Out5 M F gg) := fun gg h => hB1.fresh h
  have HN1 : Hid (∀ u gg, Rec X u → u.ownBlock = some gg → gg < w0.heap.size) := fun u gg hu h => (hD0.lt hu h).1
  have HF0 : Hid (Out5 M F g) := hB0.fresh hg.1
  have HC : Hid (Coded w (.slice pc L capc) L c) := C
  clear n1 n2 T1 T2 HXP HRP B0 B01 B1 B2 B02 B3 B03 W13 hB1 hB0 hD0 Cin C
  go_wp2_with fail
  refine HSN.out.mono ?_
  rintro _ w4 ⟨S4, rfl⟩
  have cv1 := (HCV.out w4 S4).1
  have cv2 := (HCV.out w4 S4).2
  generalize strOfNums cs = sc at cv1 cv2
  have B34 : Below w3.heap.size w3 w4 := S4.below _
  have B04 : Below w.heap.size w w4 := HB03.out.1.trans (B34.mono HB03.out.1.size)
  have hw4 := (B04.cell (p := ⟨W0, 0, none⟩) hW0).trans hw
  have HLK : Hid (Calls Tryz.prog 27 #[.pointer (some ⟨M, 0, none⟩)] w4 fun e w' => e = .returned (.bool true) ∧ Sm w4 w') := looks_any base M _ F X (HBK.out.below B04) (HD.out.below B04) (by omega) (by omega) (by have := HD.out.len04; omega) (by omega)
  have HB04 : Hid (Below w.heap.size w w4 ∧ Below w1.heap.size w1 w4 ∧ Below w2.heap.size w2 w4) := ⟨B04, HB03.out.2.1.trans (B34.mono HB03.out.2.1.size), HB03.out.2.2.trans (B34.mono HB03.out.2.2.size)⟩
  clear HSN HCV S4 B34 B04
  go_wp2_with (go_at_call 56; refine (num_any _ _).mono ?_; rintro e' w' ⟨rfl, hw'⟩; obtain rfl := hw'.symm)
  clear cv1 cv2
  refine HLK.out.mono ?_
  rintro e5' w5 ⟨rfl, S5⟩
  have B5 : Below w4.heap.size w4 w5 := S5.below _
  have B05 := HB04.out.1.trans (B5.mono HB04.out.1.size)
  have W15 := HB04.out.2.1.trans (B5.mono HB04.out.2.1.size)
  have W25 := HB04.out.2.2.trans (B5.mono HB04.out.2.2.size)
  have hw5 := (B05.cell (p := ⟨W0, 0, none⟩) hW0).trans hw
  have hsz5 := W25.size
  have hsz15 := W15.size
  have T1 := HT1.out
  have hapart : ∀ gg, (Value.slice pp fs.length capp).ownBlock = some gg → (Value.slice pl cs.length capl).ownBlock ≠ some gg := fun gg h1 h2 => by
    rcases T1.apart with a | a
    · rw [a] at h2; cases h2
    · exact a (h2.trans h1.symm)
  have HOB := ownBytes_any base M w5 F X (HBK.out.below B05) (HD.out.below B05) (.slice pl cs.length capl) cs.length _ (own_lower (own_below' T1.own1 (fun gg hgg => W25.block gg (hbl gg hgg).2)) (by omega)) (by omega)
    (fun gg hgg => HF1.out gg (hbl gg hgg).1) (fun u gg hu hgg c => by have := HN1.out u gg hu c; have := hbl gg hgg; omega) hX0
  have HOB' : Hid (Calls Tryz.prog 101 #[.pointer (some ⟨M, 0, none⟩), .slice pl cs.length capl] w5 fun e w' => e = .returned (.tuple #[]) ∧ ∃ F' vs ns, vs.length = 4 ∧ ns.length = 4 ∧ BK base M w' F' (upd (upd X 0 (X 0 ++ vs)) 4 (X 4 ++ ns)) ∧ BD M w' F' (upd (upd X 0 (X 0 ++ vs)) 4 (X 4 ++ ns)) ∧ Kept base M w5 w' ∧ (∀ k, k < w5.heap.size → Out5 M F k → (Value.slice pl cs.length capl).ownBlock ≠ some k → w'.heap[k]? = w5.heap[k]?) ∧ (∀ k, k < w5.heap.size → Out5 M F k → Out5 M F' k) ∧ (∀ u ∈ vs, ∀ k, u.ownBlock = some k → (Value.slice pl cs.length capl).ownBlock = some k ∨ w5.heap.size ≤ k)) := HOB
  have HX5 : Hid (Below w.heap.size w w5 ∧ Below w1.heap.size w1 w5 ∧ Below w2.heap.size w2 w5) := ⟨B05, W15, W25⟩
  have HAP : Hid (∀ gg, (Value.slice pp fs.length capp).ownBlock = some gg → (Value.slice pl cs.length capl).ownBlock ≠ some gg) := hapart
  clear HOB hapart T1 S5 B5
  go_wp2_with fail
  refine HOB'.out.mono ?_
  rintro e6' w6 ⟨rfl, F', vs, ns, hvs, hns, R6, D6, K6, Fr6, Of6, Nw6⟩
  have hw6 := (K6.cell (p := ⟨W0, 0, none⟩) hWb hWM).trans hw5
  have hsz6 := K6.size
  have hbg : (Value.slice pl cs.length capl).ownBlock ≠ some g := fun c => by have := hbl g c; omega
  have e8 : upd (upd X 0 (X 0 ++ vs)) 4 (X 4 ++ ns) 8 = X 8 := by rw [upd_other _ _ (show (8 : Nat) ≠ 4 by omega), upd_other _ _ (show (8 : Nat) ≠ 0 by omega)]
  have e00 : upd (upd X 0 (X 0 ++ vs)) 4 (X 4 ++ ns) 0 = X 0 ++ vs := by rw [upd_other _ _ (show (0 : Nat) ≠ 4 by omega), upd_same]
  have e11 : upd (upd X 0 (X 0 ++ vs)) 4 (X 4 ++ ns) 1 = X 1 := by rw [upd_other _ _ (show (1 : Nat) ≠ 4 by omega), upd_other _ _ (show (1 : Nat) ≠ 0 by omega)]
  obtain ⟨X1, hX1e⟩ : ∃ X1, upd (upd X 0 (X 0 ++ vs)) 4 (X 4 ++ ns) = X1 := ⟨_, rfl⟩
  rw [hX1e] at R6 D6 e8 e00 e11
  have hrec : ∀ u, Rec X1 u → Rec X u ∨ u ∈ vs := fun u hu => by
    rcases hu with hu | hu | hu
    · rw [e00] at hu
      rcases List.mem_append.1 hu with hu | hu
      · exact Or.inl (Or.inl hu)
      · exact Or.inr hu
    · rw [e11] at hu; exact Or.inl (Or.inr (Or.inl hu))
    · rw [e8] at hu; exact Or.inl (Or.inr (Or.inr hu))
  have HOP := ownNumbers_any base M w6 F' X1 R6 D6 (.slice pp fs.length capp) fs.length _ (own_lower (own_below' HT1.out.own2 (fun gg hgg => (Fr6 gg (by have := hbp gg hgg; omega) (HF1.out gg (hbp gg hgg).1) (HAP.out gg hgg)).trans (W25.block gg (hbp gg hgg).2))) (by omega)) (by omega)
    (fun gg hgg => Of6 gg (by have := hbp gg hgg; omega) (HF1.out gg (hbp gg hgg).1)) (fun u gg hu hgg c => by
      have := hbp gg hgg
      rcases hrec u hu with hu' | hu'
      · have := HN1.out u gg hu' c; omega
      · rcases Nw6 u hu' gg c with q | q
        · exact HAP.out gg hgg q
        · omega) (by rw [e11]; exact hX1)
  have HOP' : Hid (Calls Tryz.prog 104 #[.pointer (some ⟨M, 0, none⟩), .slice pp fs.length capp] w6 fun e w' => e = .returned (.tuple #[]) ∧ ∃ F'' vs ns, vs.length = 4 ∧ ns.length = 4 ∧ BK base M w' F'' (upd (upd X1 1 (X1 1 ++ vs)) 5 (X1 5 ++ ns)) ∧ BD M w' F'' (upd (upd X1 1 (X1 1 ++ vs)) 5 (X1 5 ++ ns)) ∧ Kept base M w6 w' ∧ (∀ k, k < w6.heap.size → Out5 M F' k → (Value.slice pp fs.length capp).ownBlock ≠ some k → w'.heap[k]? = w6.heap[k]?) ∧ (∀ k, k < w6.heap.size → Out5 M F' k → Out5 M F'' k) ∧ (∀ u ∈ vs, ∀ k, u.ownBlock = some k → (Value.slice pp fs.length capp).ownBlock = some k ∨ w6.heap.size ≤ k)) := HOP
  have HG6 : Hid (Out5 M F' g ∧ w6.heap[g]? = w1.heap[g]? ∧ (∀ u, Rec X1 u → u.ownBlock ≠ some g)) := ⟨Of6 g (by omega) HF0.out, (Fr6 g (by omega) HF0.out hbg).trans (W15.block g hg.2), fun u hu c => by
      rcases hrec u hu with hu' | hu'
      · have := HN1.out u g hu' c; omega
      · rcases Nw6 u hu' g c with q | q
        · exact hbg q
        · omega⟩
  have HK6 : Hid (Kept base M w w6 ∧ Kept base M w5 w6) := ⟨(Kept.of_below (B05.mono hle)).trans K6, K6⟩
  have HE1 : Hid (X1 8 = X 8 ∧ X1 0 = X 0 ++ vs ∧ X1 1 = X 1 ∧ vs.length = 4) := ⟨e8, e00, e11, hvs⟩
  clear HOP R6 D6 K6 Fr6 Of6 Nw6 HOB' e8 e00 e11 hrec hX1e hvs hns
  go_wp2_with fail
  refine HOP'.out.mono ?_
  rintro e7' w7 ⟨rfl, F'', vs2, ns2, hvs2, hns2, R7, D7, K7, Fr7, Of7, Nw7⟩
  have hw7 := (K7.cell (p := ⟨W0, 0, none⟩) hWb hWM).trans hw6
  have hbg2 : (Value.slice pp fs.length capp).ownBlock ≠ some g := fun c => by have := hbp g c; omega
  have f8 : upd (upd X1 1 (X1 1 ++ vs2)) 5 (X1 5 ++ ns2) 8 = X 8 := by rw [upd_other _ _ (show (8 : Nat) ≠ 5 by omega), upd_other _ _ (show (8 : Nat) ≠ 1 by omega), HE1.out.1]
  have f0 : upd (upd X1 1 (X1 1 ++ vs2)) 5 (X1 5 ++ ns2) 0 = X1 0 := by rw [upd_other _ _ (show (0 : Nat) ≠ 5 by omega), upd_other _ _ (show (0 : Nat) ≠ 1 by omega)]
  have f1 : upd (upd X1 1 (X1 1 ++ vs2)) 5 (X1 5 ++ ns2) 1 = X1 1 ++ vs2 := by rw [upd_other _ _ (show (1 : Nat) ≠ 5 by omega), upd_same]
  obtain ⟨X2, hX2e⟩ : ∃ X2, upd (upd X1 1 (X1 1 ++ vs2)) 5 (X1 5 ++ ns2) = X2 := ⟨_, rfl⟩
  rw [hX2e] at R7 D7 f8 f0 f1
  have hC7 : Coded w7 (.slice pc L capc) L c := by
    by_cases h0 : 0 < L
    · refine (HC.out.below B05).keep (fun gg hgg hl => ?_)
      obtain ⟨q1, q2⟩ := hcv h0 gg hgg
      exact (K7.block gg q1 q2).trans (HK6.out.2.block gg q1 q2)
    · have hL0 : L = 0 := by omega
      subst hL0
      exact .bare pc capc rfl rfl
  have hsz7 := K7.size
  have WH := whole_any base M w7 F'' _ R7 D7 g cap L c (.slice pc L capc) (own_lower (own_below' HOWN.out (fun k hk => by
      obtain rfl : g = k := by simpa [Value.ownBlock] using hk
      exact (Fr7 g (by omega) HG6.out.1 hbg2).trans HG6.out.2.1)) (by omega)) (Of7 g (by omega) HG6.out.1) (fun u hu c => by
      have hu' : Rec X1 u ∨ u ∈ vs2 := by
        rcases hu with hu | hu | hu
        · rw [f0] at hu; exact Or.inl (Or.inl hu)
        · rw [f1] at hu
          rcases List.mem_append.1 hu with hu | hu
          · exact Or.inl (Or.inr (Or.inl hu))
          · exact Or.inr hu
        · rw [f8, ← HE1.out.1] at hu; exact Or.inl (Or.inr (Or.inr hu))
      rcases hu' with hu' | hu'
      · exact HG6.out.2.2 u hu' c
      · rcases Nw7 u hu' g c with q | q
        · exact hbg2 q
        · omega) hC7 (fun h0 => HC.out.blk h0 (by omega)) hL (by rw [f8]; exact hX)
  have WH' : Hid (Calls Tryz.prog 105 #[.pointer (some ⟨M, 0, none⟩), .slice (some ⟨g, 0, none⟩) (L + 8) cap, .slice pc L capc] w7 fun e w' => e = .returned (.bool true) ∧ ∃ F3, BK base M w' F3 (upd X2 8 (X2 8 ++ [.slice (some ⟨g, 0, none⟩) (L + 8) cap])) ∧ BD M w' F3 (upd X2 8 (X2 8 ++ [.slice (some ⟨g, 0, none⟩) (L + 8) cap])) ∧ Kept base M w7 w') := WH
  have HK7 : Hid (Kept base M w w7) := HK6.out.1.trans K7
  have HE2 : Hid (X2 8 = X 8 ∧ X2 0 = X 0 ++ vs ∧ X2 1 = X 1 ++ vs2 ∧ vs2.length = 4) := ⟨f8, f0.trans HE1.out.2.1, by rw [f1, HE1.out.2.2.1], hvs2⟩
  clear WH R7 D7 K7 Fr7 Of7 Nw7 f8 f0 f1 hC7 HOP' hvs2 hns2 hX2e HOWN HBK HD HF1 HN1 HF0 HG6 HK6 B05 W15 W25 HC HT1
  go_wp2_with fail
  refine WH'.out.mono ?_
  rintro e8' w8 ⟨rfl, F3, R8, D8, K8⟩
  have HFIN : Hid (∃ F' X', BK base M w8 F' X' ∧ BD M w8 F' X' ∧ Kept base M w w8 ∧ (X' 0).length ≤ (X 0).length + 4 ∧ (X' 8).length ≤ (X 8).length + 1 ∧ (X' 1).length ≤ (X 1).length + 4) := by
    refine ⟨F3, _, R8, D8, HK7.out.trans K8, ?_, ?_, ?_⟩
    · rw [upd_other _ _ (show (0 : Nat) ≠ 8 by omega), HE2.out.2.1, List.length_append, HE1.out.2.2.2]; omega
    · rw [upd_same, List.length_append, HE2.out.1]; simp
    · rw [upd_other _ _ (show (1 : Nat) ≠ 8 by omega), HE2.out.2.2.1, List.length_append, HE2.out.2.2.2]; omega
  clear R8 D8 K8
  go_wp2_with fail
  go_ret
  exact ⟨rfl, HFIN.out⟩
end Go.Proofs.YtflenkppcclclaaGreatDoor

