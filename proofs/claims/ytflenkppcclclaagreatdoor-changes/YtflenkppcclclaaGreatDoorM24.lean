import Derived.Test.YtflenkppcclclaaGreatDoorM23
import Derived.Deep.LoopGhost
import Derived.BigQuiet
namespace Go.Proofs.YtflenkppcclclaaGreatDoor
open Go.RowKit

/-- What the document's 'run' answers. -/
def RanR (c ent : Nat → Int) (input : ByteArray) (fuel : Int) (w : World) (e : Ending) (w' : World) : Prop :=
  ∃ (n : Nat) (τ : RS), τ = after c ent fuel (ρ0 input) n ∧ τ.σ.ended = true ∧ (∀ m, m < n → (after c ent fuel (ρ0 input) m).σ.ended = false) ∧ Below w.heap.size w w' ∧
    ∃ g, w.heap.size ≤ g ∧ w'.heap[g]? = some (.cells (covL τ.cnt 64).toArray 5 (0, 0)) ∧ e = .returned (.tuple #[.agg #[.int .i64 τ.σ.kind, .int .i64 τ.σ.fault, .int .i64 τ.σ.place, .string (strOfNums τ.σ.out), .int .i64 τ.σ.steps], .slice (some ⟨g, 0, none⟩) 64 64])

theorem RMS.ofOnly {M : Nat} {w w' : World} {vc vs : Value} {inp : ByteArray} {ρ : RR} (h : RMS M w vc vs inp ρ) (hh : w'.heap = w.heap) : RMS M w' vc vs inp ρ := h.same hh
theorem own_at' {w : World} {base : Nat} {e : TypeId} {v : Value} {N : Nat} {xs : List Value} (h : w.ownsRow base e 1 v N xs) (hN : 0 < N) :
    ∃ g cap, v = .slice (some ⟨g, 0, none⟩) N cap ∧ base ≤ g ∧ N ≤ cap ∧ cap ≤ maxLen ∧ ∀ (i : Nat) (u : Value), xs[i]? = some u → w.cell? ⟨g, i, none⟩ = some u := by
  rcases h.2 with ⟨_, h0⟩ | ⟨g, cap, cur, hv, hb, hh, hle, hcap, hcs, htake⟩
  · omega
  · refine ⟨g, cap, hv, hb, hle, hcap, fun i u hx => ?_⟩
    rw [cell_of_row w g _ _ _ _ hh]
    have hi : i < N := by
      have h1 := (List.getElem?_eq_some_iff.1 hx).1
      have h2 := h.1
      omega
    have h2 : (cur.toList.take (N * 1))[i]? = some u := by rw [htake]; exact hx
    rw [List.getElem?_take, if_pos (by omega)] at h2
    simpa using h2
theorem Kept.then' {B M : Nat} {a b d : World} (h : Kept B M a b) (k : Kept b.heap.size M b d) (hB : B ≤ b.heap.size := by omega) : Kept B M a d :=
  ⟨k.os.trans h.os, k.tape.trans h.tape, k.output.trans h.output, Nat.le_trans h.size k.size, fun i hi hm => (k.block i (by omega) hm).trans (h.block i hi hm)⟩
theorem rbeg_zero {c : Nat → Int} {N : Nat} : rbegAt c 0 N = true := by unfold rbegAt behindB; simp

set_option maxHeartbeats 4000000 in
set_option maxRecDepth 100000 in
theorem rrun_any (w : World) (cb co L cap N : Nat) (c ent : Nat → Int) (withp : Bool) (input : ByteArray) (fuel : Int) (S : SP c L N 20) (hN : pos c N = L) (hN0 : 0 < N) (hG : Good c L (fun p => ∃ m, m < N ∧ pos c m = p)) (hE : ∀ p, p < L → -1 ≤ ent p ∧ ent p ≤ 255)
    (hpr : probeIn c N = withp) (hent : ∀ m, m < N → ent (pos c m) = if withp then (if c (pos c m) = 20 then c (pos c m + 1) else -1) else (if rbegAt c m N then (cntR c N m : Int) else -1)) (h20 : withp = false → ∀ m, m < N → c (pos c m) ≤ 19)
    (hin : input.size ≤ 24) (hf0 : 0 ≤ fuel) (hf1 : fuel ≤ 500) (C : Laid w cb co L cap c) :
    Calls Tryz.prog 152 #[.slice (some ⟨cb, co, none⟩) L cap, .string input, .int .i64 fuel] w (RanR c ent input fuel w) := by
  have hroom := C.room
  have hroom' := C.room'
  have hcbw := C.blk
  have hnB0 : 0 < cntR c N N := by
    have h := cntR_lt (c := c) (N := N) rbeg_zero hN0
    have : cntR c N 0 = 0 := rfl
    omega
  have hnB := cntR_le c N N
  have hN240 := S.count
  have hmost := S.most
  go_enter Tryz.func152, Tryz.ntmps152
  go_wp2_with (first | refine wpList_alloc_c rfl 35 rfl z27 ralloc27 ?_ | refine wpList_build2_c rfl 253 0 1 _ _ rfl (.slice (some ⟨cb, co, none⟩) L cap) (.string input) rfl rfl (rcells (.slice (some ⟨cb, co, none⟩) L cap) input) (rbuild _ _ _ _) ?_ | refine wpList_box_c rfl 253 _ rfl (.agg (rcells (.slice (some ⟨cb, co, none⟩) L cap) input)) rfl (rcells (.slice (some ⟨cb, co, none⟩) L cap) input) (rbox _ _ _ _) ?_)
  have hB1 : Below w.heap.size w ((w.alloc (.cells z27 35)).alloc (.cells (rcells (.slice (some ⟨cb, co, none⟩) L cap) input) 253)) := ((Below.refl _ _).alloc (Nat.le_refl _) _).alloc (by simp) _
  have hz1 : ((w.alloc (.cells z27 35)).alloc (.cells (rcells (.slice (some ⟨cb, co, none⟩) L cap) input) 253)).heap.size = w.heap.size + 2 := by simp
  have hm1 : ((w.alloc (.cells z27 35)).alloc (.cells (rcells (.slice (some ⟨cb, co, none⟩) L cap) input) 253)).heap[w.heap.size + 1]? = some (.cells (rcells (.slice (some ⟨cb, co, none⟩) L cap) input) 253 (0, 0)) := heap_alloc2_new w _ _
  have hr1 : ((w.alloc (.cells z27 35)).alloc (.cells (rcells (.slice (some ⟨cb, co, none⟩) L cap) input) 253)).heap[w.heap.size]? = some (.cells z27 35 (0, 0)) := heap_alloc2_old w _ _
  generalize ((w.alloc (.cells z27 35)).alloc (.cells (rcells (.slice (some ⟨cb, co, none⟩) L cap) input) 253)) = w1 at *
  refine (rblocks_any w1 cb co L cap N c S hN (C.below hB1)).mono ?_
  rintro e w2 ⟨v, hown, rfl, B2⟩
  have B02 := hB1.trans (B2.mono hB1.size)
  obtain ⟨gb, capb, rfl, hgb, hbr, hbm, hbc⟩ := own_at' hown hnB0
  have HPR : Hid (Calls Tryz.prog 151 #[.slice (some ⟨cb, co, none⟩) L cap] w2 fun e w' => e = .returned (.bool withp) ∧ Below w2.heap.size w2 w') := by
    have := rprobed_any w2 cb co L cap N c S hN (C.below B02)
    rw [hpr] at this
    exact this
  have hgb2 : gb < w2.heap.size := by
    obtain ⟨t, _, h2, _, _⟩ := blk_at (c := c) (N := N) N 0 hnB0
    exact block_lt_of_cell (hbc 0 _ h2)
  have HBC : Hid (∀ k, k < cntR c N N → ∃ t, t < N ∧ w2.cell? ⟨gb, k, none⟩ = some (.int .i64 (pos c t)) ∧ rbegAt c t N = true ∧ cntR c N t = k) := by
    intro k hk
    obtain ⟨t, h1, h2, h3, h4⟩ := blk_at (c := c) (N := N) N k hk
    exact ⟨t, h1, hbc k _ h2, h3, h4⟩
  clear hown hbc hpr
  go_wp2_with fail
  refine HPR.out.mono ?_
  rintro e w3 ⟨rfl, B3⟩
  have B03 := B02.trans (B3.mono B02.size)
  have hz2 := B2.size
  have hz3 := B3.size
  have hm3 : w3.heap[w.heap.size + 1]? = some (.cells (rcells (.slice (some ⟨cb, co, none⟩) L cap) input) 253 (0, 0)) := (B3.block _ (by omega)).trans ((B2.block _ (by omega)).trans hm1)
  have hr3 : Hid (w3.heap[w.heap.size]? = some (.cells z27 35 (0, 0))) := (B3.block _ (by omega)).trans ((B2.block _ (by omega)).trans hr1)
  have R3 : Hid (RMS (w.heap.size + 1) w3 (.slice (some ⟨cb, co, none⟩) L cap) (.slice none 0 0) input r0) := rms_begin hm3
  have HB03 : Hid (Below w.heap.size w w3) := B03
  have HC3 : Hid (Laid w3 cb co L cap c) := C.below B03
  have hgb3 : gb < w3.heap.size := by omega
  have hgbM : gb ≠ w.heap.size + 1 := by omega
  have HBC3 : Hid (∀ k, k < cntR c N N → ∃ t, t < N ∧ w3.cell? ⟨gb, k, none⟩ = some (.int .i64 (pos c t)) ∧ rbegAt c t N = true ∧ cntR c N t = k) := by
    intro k hk
    obtain ⟨t, h1, h2, h3, h4⟩ := HBC.out k hk
    exact ⟨t, h1, (B3.cell (p := ⟨gb, k, none⟩) hgb2).trans h2, h3, h4⟩
  have hM3 : w.heap.size + 1 < w3.heap.size := by omega
  generalize hMM : w.heap.size + 1 = M at *
  have hMw : w.heap.size < M := by omega
  have HI0 : Hid (Inv L (fun p => ∃ m, m < N ∧ pos c m = p) fuel (ρ0 input)) := ⟨Int.le_refl 0, by show (0 : Int) ≤ 300; omega, fun _ => hG.zero, by show 0 ≤ 32; omega, hin, by show 0 ≤ 16; omega, Int.le_refl 0, hf0, fun _ => Int.le_refl 0, Int.le_refl 0, by show (0 : Int) ≤ 256; omega⟩
  clear hm3 hr1 hm1 hB1 B02 B03 HBC HPR B2 B3 C hMM
  go_wp2_with fail
  go_loopg [11] (mu fuel (ρ0 input)) (fun g _ wr => ∃ (n : Nat) (τ : RS) (ρ : RR) (vs : Value), τ = after c ent fuel (ρ0 input) n ∧ g = mu fuel τ ∧ Inv L (fun p => ∃ m, m < N ∧ pos c m = p) fuel τ ∧ (∀ m, m < n → (after c ent fuel (ρ0 input) m).σ.ended = false) ∧ Rel input ρ τ ∧
      RMS M wr (.slice (some ⟨cb, co, none⟩) L cap) vs input ρ ∧ Kept w3.heap.size M w3 wr)
  case atStart => exact ⟨0, ρ0 input, r0, _, rfl, rfl, HI0.out, fun m hm => absurd hm (by omega), rel_begin input, R3.out, Kept.refl _ _ _⟩
  case round =>
    clear HI0 R3
    obtain ⟨n, τ, ρ, vs, hτ, hgk, hI, hN', hRel, hR, hK⟩ := hrel
    have hK0 : Hid (Kept w3.heap.size M w3 wr) := hK
    have c91 : wr.cell? ⟨M, 91, none⟩ = some (.bool ρ.over) := hR.cell 91 (by omega)
    rw [hRel.over] at c91
    have hMr : M < wr.heap.size := hR.some_in
    cases hend : τ.σ.ended with
    | false =>
      rw [hend] at c91
      have Al := hRel.alive hend
      obtain ⟨m, hm, hmp⟩ := hI.start hend
      have hnx : τ.σ.next = (pos c m : Int) := by have := hI.next0; omega
      have hhere : ρ.here = (pos c m : Int) := Al.here.trans hnx
      obtain ⟨kk, A, _⟩ := S.at hm
      have hst : (fun p => ∃ m, m < N ∧ pos c m = p) (pos c m) := ⟨m, hm, rfl⟩
      obtain ⟨n0, n1⟩ := second_bounds hG hst
      have hkc : (c (pos c m)).toNat = kk := by rw [A.op]; omega
      have hpL := A.lt
      have hk20 := A.k
      have hi1 : (pos c m : Int) < (L : Int) := by omega
      have hcbM : cb ≠ M := by omega
      -- what the round comes to
      have hfin : Hid (∀ (w4 : World) (vs4 : Value), RMS M w4 (.slice (some ⟨cb, co, none⟩) L cap) vs4 input (rroundR input c ent fuel ρ) → Kept w3.heap.size M w3 w4 →
          mu fuel (roundS c ent fuel τ) < gk ∧ ∃ (n : Nat) (τ' : RS) (ρ' : RR) (vs : Value), τ' = after c ent fuel (ρ0 input) n ∧ mu fuel (roundS c ent fuel τ) = mu fuel τ' ∧ Inv L (fun p => ∃ m, m < N ∧ pos c m = p) fuel τ' ∧ (∀ m, m < n → (after c ent fuel (ρ0 input) m).σ.ended = false) ∧ Rel input ρ' τ' ∧
            RMS M w4 (.slice (some ⟨cb, co, none⟩) L cap) vs input ρ' ∧ Kept w3.heap.size M w3 w4) := by
        intro w4 vs4 hR4 hK4
        have AA := advS_inv (ent := ent) hG hE hI hend
        refine ⟨by rw [hgk]; exact AA.2, n + 1, roundS c ent fuel τ, rroundR input c ent fuel ρ, vs4, by rw [hτ]; rfl, rfl, AA.1, ?_, rel_round hG hI hRel hend, hR4, hK4⟩
        intro m hm
        by_cases e : m = n
        · subst e; rw [← hτ]; exact hend
        · exact hN' m (by omega)
      have hround : Hid (rroundR input c ent fuel ρ = if kk = 20 then { cameR (ent (pos c m)) ρ with here := (pos c m : Int) + 2 } else if fuel ≤ ρ.steps then rfin (cameR (ent (pos c m)) ρ) 2 0 else stepR input (cameR (ent (pos c m)) ρ) kk (second c (pos c m))) := by
        show rroundR input c ent fuel ρ = _
        unfold rroundR
        rw [hhere, Int.toNat_natCast, hkc]
      -- the state behind the counts
      obtain ⟨ρ1, hρ1⟩ : ∃ ρ1, cameR (ent (pos c m)) ρ = ρ1 := ⟨_, rfl⟩
      have hsame : ρ1.stack = ρ.stack ∧ ρ1.read = ρ.read ∧ ρ1.here = ρ.here ∧ ρ1.out = ρ.out ∧ ρ1.steps = ρ.steps := by rw [← hρ1]; unfold cameR; split <;> exact ⟨rfl, rfl, rfl, rfl, rfl⟩
      have hstep : Hid (∀ (wx : World) (vs1 : Value), RMS M wx (.slice (some ⟨cb, co, none⟩) L cap) vs1 input ρ1 → Kept w3.heap.size M w3 wx → kk ≠ 20 → ρ.steps < fuel → Calls Tryz.prog 196 #[.pointer (some ⟨M, 0, none⟩)] wx (DoesIs M wx (.slice (some ⟨cb, co, none⟩) L cap) input (stepR input ρ1 kk (second c (pos c m))))) := by
        intro wx vs1 hRx hKx hk hfu
        have hcx : ∀ i, i < L → wx.cell? ⟨cb, co + i, none⟩ = some (.int .u8 (c i)) := fun i hi => (hKx.cell (p := ⟨cb, co + i, none⟩) (by show cb < w3.heap.size; omega) hcbM).trans (HC3.out.cell i hi)
        have hsz := szOf_pos kk (by omega)
        have hfit := A.fits
        refine rstep_any M wx vs1 input ρ1 cb co L cap (pos c m) kk (second c (pos c m)) ⟨hRx, hsame.2.2.1.trans hhere, ?_, hpL, ?_, ?_, n0, n1, hcbM, hroom, hroom', S.most, by omega, ?_, ?_, ?_⟩ ?_ ?_ ?_ ?_ ?_
        · have := hcx _ hpL; rw [A.op] at this; exact this
        · intro h2
          refine ⟨by omega, ?_⟩
          unfold second
          rw [hkc, if_pos (by omega)]
          exact hcx _ (by omega)
        · intro h2
          unfold second
          rw [hkc, if_neg (by omega)]
        · rw [hsame.1, Al.stack]; exact hI.stack
        · rw [hsame.2.2.2.2, hRel.steps]; exact hI.steps0
        · rw [hsame.2.2.2.2, hRel.steps]; have := hI.steps; omega
        · intro h16
          have e2 : shp (kk * 3) = 2 := by rcases h16 with h | h <;> rw [h] <;> rfl
          unfold second
          rw [hkc, if_pos e2]
          have hop := A.op
          exact hG.cell _ hst (by omega)
        · rw [hsame.1, Al.stack]; exact Al.num
        · rw [hsame.2.1]; exact Al.rd0
        · rw [hsame.2.1]; have := Al.rd1; omega
        · rw [hsame.2.2.2.1, hRel.out, strOfNums_size]; have := hI.out; omega
      have hcnts : Hid (0 ≤ ρ.ah ∧ ρ.ah ≤ 1000 ∧ ∀ i, 0 ≤ ρ.cnt i) := ⟨by rw [hRel.ah]; exact hI.ah0, by rw [hRel.ah]; have := hI.ah; omega, fun i => by rw [hRel.cnt]; exact hI.cnt i⟩
      have hck3 := HC3.out.cell _ hpL
      rw [A.op] at hck3
      have hentm := hent m hm
      have hb255 := S.byte
      have hszf := A.fits
      have hop := A.op
      have HH : Hid (ρ.here = (pos c m : Int)) := hhere
      have HS1 : Hid (ρ1.here = ρ.here ∧ ρ1.steps = ρ.steps) := ⟨hsame.2.2.1, hsame.2.2.2.2⟩
      clear hτ hgk hI hN' hRel hK hG hE Al hst hhere hnx hmp hsame
      cases withp with
      | false =>
        have hkk : kk ≠ 20 := by have := h20 rfl m hm; omega
        have hk20' : ((kk : Int) == 20) = false := by rw [beq_eq_false_iff_ne]; omega
        simp only [Bool.false_eq_true, if_false] at hentm
        have HENT : Hid (ent (pos c m) = if rbegAt c m N = true then (cntR c N m : Int) else -1) := hentm
        have HR : Hid (RMS M wr (.slice (some ⟨cb, co, none⟩) L cap) vs input ρ) := hR
        clear hentm hR h20 hent
        go_wp2_with fail
        go_loopw [11] (fun i wx => ∃ k : Nat, k ≤ cntR c N N ∧ i = .int .i64 k ∧ (∃ vs', RMS M wx (.slice (some ⟨cb, co, none⟩) L cap) vs' input (if rbegAt c m N = true ∧ cntR c N m < k then cameR (cntR c N m : Int) ρ else ρ)) ∧ Kept w3.heap.size M w3 wx) (fun i _ => cntR c N N - (intOf i).toNat)
        case atStart => exact ⟨0, by omega, rfl, ⟨vs, by rw [if_neg (fun h => by omega)]; exact HR.out⟩, hK0.out⟩
        case round =>
          clear HR hK0
          obtain ⟨k, hk, rfl, ⟨vsx, hRx⟩, hKx⟩ := hrel
          by_cases hlt : k < cntR c N N
          · obtain ⟨t, ht, hbt, hrt, hct⟩ := HBC3.out k hlt
            have hbx := (hKx.cell (p := ⟨gb, k, none⟩) hgb3 hgbM).trans hbt
            have c20 : wr.cell? ⟨M, 20, none⟩ = some (.int .i64 (pos c m : Int)) := (hRx.cell 20 (by omega)).trans (by
              have : (if rbegAt c m N = true ∧ cntR c N m < k then cameR (cntR c N m : Int) ρ else ρ).here = ρ.here := by unfold cameR; split <;> (try split) <;> rfl
              show some (Value.int .i64 (if rbegAt c m N = true ∧ cntR c N m < k then cameR (cntR c N m : Int) ρ else ρ).here) = _
              rw [this, HH.out])
            have hik : (k : Int) < (cntR c N N : Int) := by omega
            by_cases htm : t = m
            · subst htm
              have e0 : (if rbegAt c t N = true ∧ cntR c N t < k then cameR (cntR c N t : Int) ρ else ρ) = ρ := if_neg (fun h => by omega)
              rw [e0] at hRx
              have e1 : (if rbegAt c t N = true ∧ cntR c N t < k + 1 then cameR (cntR c N t : Int) ρ else ρ) = { ρ with cnt := comeS ρ.cnt ρ.ah (k : Int), ah := (k : Int) + 1 } := by
                rw [if_pos ⟨hrt, by omega⟩, hct]
                unfold cameR
                rw [if_neg (by omega)]
              have HB : Hid (∀ wy : World, wy.heap = wr.heap → Calls Tryz.prog 194 #[.pointer (some ⟨M, 0, none⟩), .int .i64 (k : Int)] wy fun e w' => e = .returned (.tuple #[]) ∧ RMS M w' (.slice (some ⟨cb, co, none⟩) L cap) vsx input { ρ with cnt := comeS ρ.cnt ρ.ah (k : Int), ah := (k : Int) + 1 } ∧ OnlyB M wy w') := fun wy hy =>
                rbegins_any M wy _ _ input ρ (k : Int) (hRx.same hy) hcnts.out.1 hcnts.out.2.1 (by omega) (by omega) hcnts.out.2.2
              have HE1 : Hid (_ = _) := e1
              have HKx : Hid (Kept w3.heap.size M w3 wr) := hKx
              have hsq : ((pos c t : Int) == (pos c t : Int)) = true := by simp
              clear hRx e0 e1 hKx
              go_wp2_with fail
              go_quiet (fail)
              go_wp2_with fail
              refine (HB.out _ ?hp).mono ?_
              case hp => rfl
              rintro e w5 ⟨rfl, R5, O5⟩
              have HR5 : Hid (RMS M w5 (.slice (some ⟨cb, co, none⟩) L cap) vsx input { ρ with cnt := comeS ρ.cnt ρ.ah (k : Int), ah := (k : Int) + 1 } ∧ Kept w3.heap.size M w3 w5) := ⟨R5, (Kept.ofOnly O5).from HKx.out rfl rfl rfl rfl⟩
              clear R5 O5
              go_wp2_with fail
              go_roundw
              case rel => exact ⟨k + 1, by omega, by go_num, ⟨vsx, by rw [HE1.out]; exact HR5.out.1⟩, HR5.out.2⟩
              case measure => simp [intOf]; omega
            · have hpne : ((pos c t : Int) == (pos c m : Int)) = false := by
                rw [beq_eq_false_iff_ne]
                intro h
                exact htm (S.inj (by omega) (by omega) (by omega))
              have e1 : (if rbegAt c m N = true ∧ cntR c N m < k + 1 then cameR (cntR c N m : Int) ρ else ρ) = (if rbegAt c m N = true ∧ cntR c N m < k then cameR (cntR c N m : Int) ρ else ρ) := by
                by_cases hq : rbegAt c m N = true ∧ cntR c N m < k
                · rw [if_pos hq, if_pos ⟨hq.1, by omega⟩]
                · rw [if_neg hq, if_neg (fun h => hq ⟨h.1, by
                    have hne2 : cntR c N m ≠ k := fun e => htm (cntR_inj hrt h.1 (by omega))
                    omega⟩)]
              have HR5 : Hid (RMS M wr (.slice (some ⟨cb, co, none⟩) L cap) vsx input (if rbegAt c m N = true ∧ cntR c N m < k + 1 then cameR (cntR c N m : Int) ρ else ρ) ∧ Kept w3.heap.size M w3 wr) := ⟨by rw [e1]; exact hRx, hKx⟩
              clear hRx e1 hKx
              go_wp2_with fail
              go_quiet (fail)
              go_wp2_with fail
              go_roundw
              case rel => exact ⟨k + 1, by omega, by go_num, ⟨vsx, HR5.out.1.same rfl⟩, (Kept.refl _ _ _).from HR5.out.2 rfl rfl rfl rfl⟩
              case measure => simp [intOf]; omega
          · have ek : k = cntR c N N := by omega
            subst ek
            have hcame : (if rbegAt c m N = true ∧ cntR c N m < cntR c N N then cameR (cntR c N m : Int) ρ else ρ) = ρ1 := by
              rw [← hρ1, HENT.out]
              cases hb : rbegAt c m N with
              | true => rw [if_pos ⟨rfl, cntR_lt hb hm⟩, if_pos rfl]
              | false => rw [if_neg (fun h => by cases h.1), if_neg (by simp)]; rfl
            rw [hcame] at hRx
            have hKK : ¬ ((cntR c N N : Nat) : Int) < ((cntR c N N : Nat) : Int) := by omega
            clear hcame HENT
            -- the rest of the round, behind the counts
            have c20 : wr.cell? ⟨M, 20, none⟩ = some (.int .i64 (pos c m : Int)) := (hRx.cell 20 (by omega)).trans (by show some (Value.int .i64 ρ1.here) = _; rw [HS1.out.1, HH.out])
            have c90 : wr.cell? ⟨M, 90, none⟩ = some (.int .i64 ρ.steps) := (hRx.cell 90 (by omega)).trans (by show some (Value.int .i64 ρ1.steps) = _; rw [HS1.out.2])
            have hckx : wr.cell? ⟨cb, co + pos c m, none⟩ = some (.int .u8 (kk : Int)) := (hKx.cell (p := ⟨cb, co + pos c m, none⟩) (by show cb < w3.heap.size; omega) hcbM).trans hck3
            by_cases hfu : fuel ≤ ρ.steps
            · have HE : Hid (Calls Tryz.prog 195 #[.pointer (some ⟨M, 0, none⟩), .int .i64 2, .int .i64 0] wr fun e w' => e = .returned (.tuple #[]) ∧ RMS M w' (.slice (some ⟨cb, co, none⟩) L cap) vsx input (rfin ρ1 2 0) ∧ OnlyB M wr w') := rends_any M wr _ _ input ρ1 2 0 hRx
              have HF : Hid (∀ w4, RMS M w4 (.slice (some ⟨cb, co, none⟩) L cap) vsx input (rfin ρ1 2 0) → OnlyB M wr w4 → RMS M w4 (.slice (some ⟨cb, co, none⟩) L cap) vsx input (rroundR input c ent fuel ρ) ∧ Kept w3.heap.size M w3 w4) := by
                intro w4 h4 o4
                rw [hround.out, if_neg (by omega), if_pos hfu, hρ1]
                exact ⟨h4, hKx.trans (Kept.ofOnly o4)⟩
              have hdf : decide (fuel ≤ ρ.steps) = true := by simp; exact hfu
              clear hRx hKx hρ1 hround
              go_wp2_with fail
              refine HE.out.mono ?_
              rintro e w4 ⟨rfl, R4, O4⟩
              obtain ⟨R5, K5⟩ := HF.out w4 R4 O4
              have F := hfin.out w4 _ R5 K5
              go_wp2_with fail
              go_roundg (mu fuel (roundS c ent fuel τ))
              case measure => exact F.1
              case rel => exact F.2
            · have HE : Hid (Calls Tryz.prog 196 #[.pointer (some ⟨M, 0, none⟩)] wr (DoesIs M wr (.slice (some ⟨cb, co, none⟩) L cap) input (stepR input ρ1 kk (second c (pos c m))))) := hstep.out wr vsx hRx hKx (by omega) (by omega)
              have HF : Hid (∀ w4 vs4, RMS M w4 (.slice (some ⟨cb, co, none⟩) L cap) vs4 input (stepR input ρ1 kk (second c (pos c m))) → Kept wr.heap.size M wr w4 → RMS M w4 (.slice (some ⟨cb, co, none⟩) L cap) vs4 input (rroundR input c ent fuel ρ) ∧ Kept w3.heap.size M w3 w4) := by
                intro w4 vs4 h4 k4
                rw [hround.out, if_neg (by omega), if_neg hfu, hρ1]
                exact ⟨h4, hKx.then' k4 hKx.size⟩
              have hdf : decide (fuel ≤ ρ.steps) = false := by simp; omega
              have hfu' : ¬ fuel ≤ ρ.steps := hfu
              clear hRx hKx hρ1 hround
              go_wp2_with fail
              refine HE.out.mono ?_
              rintro e w4 ⟨rfl, ⟨vs4, R4⟩, K4⟩
              obtain ⟨R5, K5⟩ := HF.out w4 vs4 R4 K4
              have F := hfin.out w4 _ R5 K5
              go_wp2_with fail
              go_roundg (mu fuel (roundS c ent fuel τ))
              case measure => exact F.1
              case rel => exact F.2
      | true =>
        simp only [if_true] at hentm
        have HENT : Hid (ent (pos c m) = if c (pos c m) = 20 then c (pos c m + 1) else -1) := hentm
        have HR : Hid (RMS M wr (.slice (some ⟨cb, co, none⟩) L cap) vs input ρ) := hR
        clear hentm hR h20 hent
        go_wp2_with fail
        go_loopw [11] (fun i wx => i = .int .i64 0 ∧ RMS M wx (.slice (some ⟨cb, co, none⟩) L cap) vs input ρ ∧ Kept w3.heap.size M w3 wx) (fun i _ => 0)
        case atStart => exact ⟨rfl, HR.out, hK0.out⟩
        case round =>
          clear HR hK0
          obtain ⟨rfl, hRx, hKx⟩ := hrel
          have hgg' : (0 : Int) < ((cntR c N N : Nat) : Int) := by omega
          by_cases hkk : kk = 20
          · have hk20' : ((kk : Int) == 20) = true := by rw [beq_iff_eq]; omega
            have hsz2 : szOf kk = 2 := by rw [hkk]; rfl
            have hp1 : pos c m + 1 < L := by omega
            have hby := hb255 (pos c m + 1) hp1
            have c20 : wr.cell? ⟨M, 20, none⟩ = some (.int .i64 (pos c m : Int)) := (hRx.cell 20 (by omega)).trans (by show some (Value.int .i64 ρ.here) = _; rw [HH.out])
            have hckx : wr.cell? ⟨cb, co + pos c m, none⟩ = some (.int .u8 (kk : Int)) := (hKx.cell (p := ⟨cb, co + pos c m, none⟩) (by show cb < w3.heap.size; omega) hcbM).trans hck3
            have hckx2 : wr.cell? ⟨cb, co + (pos c m + 1), none⟩ = some (.int .u8 (c (pos c m + 1))) := (hKx.cell (p := ⟨cb, co + (pos c m + 1), none⟩) (by show cb < w3.heap.size; omega) hcbM).trans (HC3.out.cell _ hp1)
            have hi2 : (pos c m : Int) + 1 < (L : Int) := by omega
            have hE1 : Hid (rroundR input c ent fuel ρ = { ρ with cnt := comeS ρ.cnt ρ.ah (c (pos c m + 1)), ah := c (pos c m + 1) + 1, here := (pos c m : Int) + 2 }) := by
              show rroundR input c ent fuel ρ = _
              rw [hround.out, if_pos hkk, HENT.out, if_pos (by omega)]
              unfold cameR
              rw [if_neg (by omega)]
            have HB : Hid (Calls Tryz.prog 194 #[.pointer (some ⟨M, 0, none⟩), .int .i64 (c (pos c m + 1))] wr fun e w' => e = .returned (.tuple #[]) ∧ RMS M w' (.slice (some ⟨cb, co, none⟩) L cap) vs input { ρ with cnt := comeS ρ.cnt ρ.ah (c (pos c m + 1)), ah := c (pos c m + 1) + 1 } ∧ OnlyB M wr w') :=
              rbegins_any M wr _ _ input ρ _ hRx hcnts.out.1 hcnts.out.2.1 (by omega) (by omega) hcnts.out.2.2
            have HKx : Hid (Kept w3.heap.size M w3 wr) := hKx
            have hb0 := hby.1
            have hb1 := hby.2
            clear hRx hKx hρ1 hround HENT hby hkk hsz2
            go_wp2_with fail
            refine HB.out.mono ?_
            rintro e w5 ⟨rfl, R5, O5⟩
            have d20 : w5.cell? ⟨M, 20, none⟩ = some (.int .i64 (pos c m : Int)) := (R5.cell 20 (by omega)).trans (by show some (Value.int .i64 ρ.here) = _; rw [HH.out])
            have f20 := R5.thaw 20
            have HR6 : Hid (RMS M (w5.setCell ⟨M, 20, none⟩ (.int .i64 ((pos c m : Int) + 2))) (.slice (some ⟨cb, co, none⟩) L cap) vs input { ρ with cnt := comeS ρ.cnt ρ.ah (c (pos c m + 1)), ah := c (pos c m + 1) + 1, here := (pos c m : Int) + 2 } ∧ Kept w3.heap.size M w3 (w5.setCell ⟨M, 20, none⟩ (.int .i64 ((pos c m : Int) + 2)))) := ⟨R5.setHere _, (HKx.out.trans (Kept.ofOnly O5)).trans (Kept.set _ _ _ _ _)⟩
            clear R5 O5
            have F := hfin.out _ vs (by rw [hE1.out]; exact HR6.out.1) HR6.out.2
            go_wp2_with fail
            go_roundg (mu fuel (roundS c ent fuel τ))
            case measure => exact F.1
            case rel => exact F.2
          · have hk20' : ((kk : Int) == 20) = false := by rw [beq_eq_false_iff_ne]; omega
            have hcame : ρ = ρ1 := by
              rw [← hρ1, HENT.out, if_neg (by omega)]; rfl
            rw [hcame] at hRx
            have hst1 : Hid (ρ = ρ1) := hcame
            clear hcame HENT
            -- the rest of the round, behind the counts
            have c20 : wr.cell? ⟨M, 20, none⟩ = some (.int .i64 (pos c m : Int)) := (hRx.cell 20 (by omega)).trans (by show some (Value.int .i64 ρ1.here) = _; rw [HS1.out.1, HH.out])
            have c90 : wr.cell? ⟨M, 90, none⟩ = some (.int .i64 ρ.steps) := (hRx.cell 90 (by omega)).trans (by show some (Value.int .i64 ρ1.steps) = _; rw [HS1.out.2])
            have hckx : wr.cell? ⟨cb, co + pos c m, none⟩ = some (.int .u8 (kk : Int)) := (hKx.cell (p := ⟨cb, co + pos c m, none⟩) (by show cb < w3.heap.size; omega) hcbM).trans hck3
            by_cases hfu : fuel ≤ ρ.steps
            · have HE : Hid (Calls Tryz.prog 195 #[.pointer (some ⟨M, 0, none⟩), .int .i64 2, .int .i64 0] wr fun e w' => e = .returned (.tuple #[]) ∧ RMS M w' (.slice (some ⟨cb, co, none⟩) L cap) vs input (rfin ρ1 2 0) ∧ OnlyB M wr w') := rends_any M wr _ _ input ρ1 2 0 hRx
              have HF : Hid (∀ w4, RMS M w4 (.slice (some ⟨cb, co, none⟩) L cap) vs input (rfin ρ1 2 0) → OnlyB M wr w4 → RMS M w4 (.slice (some ⟨cb, co, none⟩) L cap) vs input (rroundR input c ent fuel ρ) ∧ Kept w3.heap.size M w3 w4) := by
                intro w4 h4 o4
                rw [hround.out, if_neg (by omega), if_pos hfu, hρ1]
                exact ⟨h4, hKx.trans (Kept.ofOnly o4)⟩
              have hdf : decide (fuel ≤ ρ.steps) = true := by simp; exact hfu
              clear hRx hKx hρ1 hround
              go_wp2_with fail
              refine HE.out.mono ?_
              rintro e w4 ⟨rfl, R4, O4⟩
              obtain ⟨R5, K5⟩ := HF.out w4 R4 O4
              have F := hfin.out w4 _ R5 K5
              go_wp2_with fail
              go_roundg (mu fuel (roundS c ent fuel τ))
              case measure => exact F.1
              case rel => exact F.2
            · have HE : Hid (Calls Tryz.prog 196 #[.pointer (some ⟨M, 0, none⟩)] wr (DoesIs M wr (.slice (some ⟨cb, co, none⟩) L cap) input (stepR input ρ1 kk (second c (pos c m))))) := hstep.out wr vs hRx hKx (by omega) (by omega)
              have HF : Hid (∀ w4 vs4, RMS M w4 (.slice (some ⟨cb, co, none⟩) L cap) vs4 input (stepR input ρ1 kk (second c (pos c m))) → Kept wr.heap.size M wr w4 → RMS M w4 (.slice (some ⟨cb, co, none⟩) L cap) vs4 input (rroundR input c ent fuel ρ) ∧ Kept w3.heap.size M w3 w4) := by
                intro w4 vs4 h4 k4
                rw [hround.out, if_neg (by omega), if_neg hfu, hρ1]
                exact ⟨h4, hKx.then' k4 hKx.size⟩
              have hdf : decide (fuel ≤ ρ.steps) = false := by simp; omega
              have hfu' : ¬ fuel ≤ ρ.steps := hfu
              clear hRx hKx hρ1 hround
              go_wp2_with fail
              refine HE.out.mono ?_
              rintro e w4 ⟨rfl, ⟨vs4, R4⟩, K4⟩
              obtain ⟨R5, K5⟩ := HF.out w4 vs4 R4 K4
              have F := hfin.out w4 _ R5 K5
              go_wp2_with fail
              go_roundg (mu fuel (roundS c ent fuel τ))
              case measure => exact F.1
              case rel => exact F.2
    | true =>
      rw [hend] at c91
      have hcov : Hid (∀ i, i < 64 → wr.cell? ⟨M, 21 + i, none⟩ = some (.int .i64 (τ.cnt i))) := fun i hi => (hR.cell (21 + i) (by omega)).trans (by
        unfold rmval
        rw [if_neg (by omega), if_neg (by omega), if_neg (by omega), if_neg (by omega), if_neg (by omega), if_neg (by omega), if_pos (by omega), Nat.add_sub_cancel_left, hRel.cnt])
      have c86 : wr.cell? ⟨M, 86, none⟩ = some (.int .i64 τ.σ.kind) := (hR.cell 86 (by omega)).trans (by show some (Value.int .i64 ρ.kind) = _; rw [hRel.kind])
      have c87 : wr.cell? ⟨M, 87, none⟩ = some (.int .i64 τ.σ.fault) := (hR.cell 87 (by omega)).trans (by show some (Value.int .i64 ρ.fault) = _; rw [hRel.fault])
      have c88 : wr.cell? ⟨M, 88, none⟩ = some (.int .i64 τ.σ.place) := (hR.cell 88 (by omega)).trans (by show some (Value.int .i64 ρ.place) = _; rw [hRel.place hend])
      have c89 : wr.cell? ⟨M, 89, none⟩ = some (.string (strOfNums τ.σ.out)) := (hR.cell 89 (by omega)).trans (by show some (Value.string ρ.out) = _; rw [hRel.out])
      have c90 : wr.cell? ⟨M, 90, none⟩ = some (.int .i64 τ.σ.steps) := (hR.cell 90 (by omega)).trans (by show some (Value.int .i64 ρ.steps) = _; rw [hRel.steps])
      have hcn : Hid (∀ i, 0 ≤ τ.cnt i) := hI.cnt
      have hH : wr.heap[w.heap.size]? = some (.cells z27 35 (0, 0)) := (hK.block _ (by omega) (by omega)).trans hr3.out
      have hBw : Below w.heap.size w wr := ⟨hK.os.trans HB03.out.os, hK.tape.trans HB03.out.tape, hK.output.trans HB03.out.output, Nat.le_trans HB03.out.size hK.size, fun k hk => (hK.block k (by omega) (by omega)).trans (HB03.out.block k hk)⟩
      have HFIN : Hid (τ = after c ent fuel (ρ0 input) n ∧ τ.σ.ended = true ∧ ∀ m, m < n → (after c ent fuel (ρ0 input) m).σ.ended = false) := ⟨hτ, hend, hN'⟩
      obtain ⟨so, hso⟩ : ∃ so, strOfNums τ.σ.out = so := ⟨_, rfl⟩
      rw [hso] at c89
      have HSO : Hid (strOfNums τ.σ.out = so) := hso
      have hmk := make64
      clear hτ hgk hI hN' hRel hR hK hK0 hG hE hent h20 hso hend HBC3 HC3 hr3
      obtain ⟨kd, hkd⟩ : ∃ x, τ.σ.kind = x := ⟨_, rfl⟩
      obtain ⟨fl, hfl⟩ : ∃ x, τ.σ.fault = x := ⟨_, rfl⟩
      obtain ⟨pl, hpl⟩ : ∃ x, τ.σ.place = x := ⟨_, rfl⟩
      obtain ⟨st, hst⟩ : ∃ x, τ.σ.steps = x := ⟨_, rfl⟩
      rw [hkd] at c86
      rw [hfl] at c87
      rw [hpl] at c88
      rw [hst] at c90
      have HEQ : Hid (τ.σ.kind = kd ∧ τ.σ.fault = fl ∧ τ.σ.place = pl ∧ τ.σ.steps = st) := ⟨hkd, hfl, hpl, hst⟩
      clear hkd hfl hpl hst
      obtain ⟨wd, hwd⟩ : ∃ wd, wd = wr := ⟨wr, rfl⟩
      subst hwd
      have hsd := hBw.size
      have HBW : Hid (Below w.heap.size w wd) := hBw
      have HHH : Hid (wd.heap[w.heap.size]? = some (.cells z27 35 (0, 0))) := hH
      clear hBw hH
      go_wp2_with fail
      clear hmk
      go_loopw [13] (fun i wx => ∃ k : Nat, k ≤ 64 ∧ i = .int .i64 k ∧ wx.heap[wd.heap.size]? = some (.cells (covL τ.cnt k).toArray 5 (0, 0)) ∧ Below wd.heap.size wd wx) (fun i _ => 64 - (intOf i).toNat)
      case atStart => exact ⟨0, by omega, rfl, by rw [← zero64_eq]; exact heap_alloc_new wd _, (Below.refl _ _).alloc (Nat.le_refl _) _⟩
      case round =>
        obtain ⟨k, hk, rfl, hh, hB⟩ := hrel
        by_cases hlt : k < 64
        · have cM : wr.cell? ⟨M, 21 + k, none⟩ = some (.int .i64 (τ.cnt k)) := (hB.cell (p := ⟨M, 21 + k, none⟩) hMr).trans (hcov.out k hlt)
          have c1 : wr.cell? ⟨wd.heap.size, k, none⟩ = some (.int .u8 (if k < k then classS (τ.cnt k) else 0)) := by
            rw [cell_of_row wr wd.heap.size k _ _ _ hh, List.getElem?_toArray]; exact covL_get τ.cnt k k hlt
          have f1 := frozen_of_row wr wd.heap.size k _ _ hh
          have R : (wr.setCell ⟨wd.heap.size, k, none⟩ (.int .u8 (classS (τ.cnt k)))).heap[wd.heap.size]? = some (.cells (covL τ.cnt (k + 1)).toArray 5 (0, 0)) := by
            rw [heap_setCell_same wr wd.heap.size k _ _ _ hh, ← covL_set τ.cnt k hlt]
            simp
          have B2 := hB.setCell (p := ⟨wd.heap.size, k, none⟩) (Nat.le_refl _) (.int .u8 (classS (τ.cnt k)))
          have HR2 : Hid ((wr.setCell ⟨wd.heap.size, k, none⟩ (.int .u8 (classS (τ.cnt k)))).heap[wd.heap.size]? = some (.cells (covL τ.cnt (k + 1)).toArray 5 (0, 0)) ∧ Below wd.heap.size wd (wr.setCell ⟨wd.heap.size, k, none⟩ (.int .u8 (classS (τ.cnt k))))) := ⟨R, B2⟩
          have hck := hcn.out k
          have hlt' : (k : Int) < 64 := by omega
          clear R hh B2 hB
          go_wp2_with (go_at_call 197; refine (rclass_any _ hck _).mono ?_; rintro e w' ⟨rfl, rfl⟩)
          go_roundw
          case rel => exact ⟨k + 1, by omega, by go_num, HR2.out.1, HR2.out.2⟩
          case measure => simp [intOf]; omega
        · have e : k = 64 := by omega
          subst e
          have hH : wr.heap[w.heap.size]? = some (.cells z27 35 (0, 0)) := (hB.block _ (by omega)).trans HHH.out
          have i0 : wr.cell? ⟨w.heap.size, 0, none⟩ = some (.int .i64 0) := cell_of_row _ _ _ _ _ _ hH
          have i1 : wr.cell? ⟨w.heap.size, 1, none⟩ = some (.int .i64 0) := cell_of_row _ _ _ _ _ _ hH
          have i2 : wr.cell? ⟨w.heap.size, 2, none⟩ = some (.int .i64 0) := cell_of_row _ _ _ _ _ _ hH
          have i3 : wr.cell? ⟨w.heap.size, 3, none⟩ = some (.string ByteArray.empty) := cell_of_row _ _ _ _ _ _ hH
          have i4 : wr.cell? ⟨w.heap.size, 4, none⟩ = some (.int .i64 0) := cell_of_row _ _ _ _ _ _ hH
          have j0 := frozen_of_row wr w.heap.size 0 _ _ hH
          have j1 := frozen_of_row wr w.heap.size 1 _ _ hH
          have j2 := frozen_of_row wr w.heap.size 2 _ _ hH
          have j3 := frozen_of_row wr w.heap.size 3 _ _ hH
          have j4 := frozen_of_row wr w.heap.size 4 _ _ hH
          have d86 := (hB.cell (p := ⟨M, 86, none⟩) hMr).trans c86
          have d87 := (hB.cell (p := ⟨M, 87, none⟩) hMr).trans c87
          have d88 := (hB.cell (p := ⟨M, 88, none⟩) hMr).trans c88
          have d89 := (hB.cell (p := ⟨M, 89, none⟩) hMr).trans c89
          have d90 := (hB.cell (p := ⟨M, 90, none⟩) hMr).trans c90
          have HBB : Hid (Below w.heap.size w wr ∧ wr.heap[wd.heap.size]? = some (.cells (covL τ.cnt 64).toArray 5 (0, 0))) := ⟨HBW.out.trans (hB.mono hsd), hh⟩
          clear hB hh hH c86 c87 c88 c89 c90
          go_wp2
          obtain ⟨F1, F2, F3⟩ := HFIN.out
          obtain ⟨BB, hg4⟩ := HBB.out
          refine bodyPost_ret (v := .tuple #[.agg #[.int .i64 kd, .int .i64 fl, .int .i64 pl, .string so, .int .i64 st], .slice (some ⟨wd.heap.size, 0, none⟩) 64 64]) (by simp [results, Tryz.results152, go_sem, i0, i1, i2, i3, i4]) rfl ?_
          refine ⟨n, τ, F1, F2, F3, ?_, wd.heap.size, hsd, ?_, ?_⟩
          · repeat (first | exact BB | refine below_set ?_ _ _ | refine Below.drew ?_)
          · refine (heap_setCell_other _ ⟨w.heap.size, 4, none⟩ _ _ (by show wd.heap.size ≠ w.heap.size; omega)).trans ?_
            refine (heap_setCell_other _ ⟨w.heap.size, 3, none⟩ _ _ (by show wd.heap.size ≠ w.heap.size; omega)).trans ?_
            refine (heap_setCell_other _ ⟨w.heap.size, 2, none⟩ _ _ (by show wd.heap.size ≠ w.heap.size; omega)).trans ?_
            refine (heap_setCell_other _ ⟨w.heap.size, 1, none⟩ _ _ (by show wd.heap.size ≠ w.heap.size; omega)).trans ?_
            refine (heap_setCell_other _ ⟨w.heap.size, 0, none⟩ _ _ (by show wd.heap.size ≠ w.heap.size; omega)).trans ?_
            exact hg4
          · rw [HSO.out, HEQ.out.1, HEQ.out.2.1, HEQ.out.2.2.1, HEQ.out.2.2.2]
end Go.Proofs.YtflenkppcclclaaGreatDoor

