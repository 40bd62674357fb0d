import Derived.Test.YtflenkppcclclaaGreatDoorM37
import Derived.Test.YtflenkppcclclaaGreatDoorM38
namespace Go.Proofs.YtflenkppcclclaaGreatDoor
open Go.RowKit

/-- Two rows that grow side by side: bytes and numbers. -/
structure TR (base : Nat) (w : World) (vo vf : Value) (cs fs : List Int) : Prop where
  own1 : w.ownsRow base 5 1 vo cs.length (cs.map (Value.int .u8))
  own2 : w.ownsRow base 3 1 vf fs.length (fs.map (Value.int .i64))
  apart : vo.ownBlock = none ∨ vo.ownBlock ≠ vf.ownBlock
  le : base ≤ w.heap.size
theorem TR.pushC {base : Nat} {w w1 : World} {vo vf v' : Value} {cs fs : List Int} (h : TR base w vo vf cs fs) (o : Obj) (ns : List Int) {k : Nat} {xs : List Value} (ho : w1.ownsRow base 5 1 v' k xs) (hk : k = (cs ++ ns).length) (hx : xs = (cs ++ ns).map (Value.int .u8))
    (hg : (w.alloc o).grownBy w1 vo.ownBlock) (hat : v'.ownBlock = vo.ownBlock ∨ v'.ownBlock = some (w.heap.size + 1)) : TR base w1 v' vf (cs ++ ns) fs ∧ Below base w w1 := by
  subst hk hx
  have hs := hg.size
  simp at hs
  have hle := h.le
  have key : ∀ g, vf.ownBlock = some g → some g ≠ vo.ownBlock ∧ g < w.heap.size := fun g e => ⟨fun c => by
    rcases h.apart with a | a
    · rw [a] at c; cases c
    · exact a (by rw [← c, e]), (h.own2.lt g e).2⟩
  refine ⟨⟨ho, own_below' h.own2 (fun g e => ?_), ?_, by omega⟩, ?_⟩
  · rw [hg.block g (by have := (key g e).2; simp; omega) (key g e).1, Below.heap_alloc w o g (key g e).2]
  · rcases hat with e | e
    · rw [e]; exact h.apart
    · right
      rw [e]
      intro c
      have := (key _ c.symm).2
      omega
  · refine ⟨hg.os, hg.tape, hg.output, by omega, fun j hj => ?_⟩
    rw [hg.block j (by simp; omega) (fun c => by have := (h.own1.lt j c.symm).1; omega), Below.heap_alloc w o j (by omega)]
theorem TR.pushF {base : Nat} {w w1 : World} {vo vf v' : Value} {cs fs : List Int} (h : TR base w vo vf cs fs) (o : Obj) (ns : List Int) {k : Nat} {xs : List Value} (ho : w1.ownsRow base 3 1 v' k xs) (hk : k = (fs ++ ns).length) (hx : xs = (fs ++ ns).map (Value.int .i64))
    (hg : (w.alloc o).grownBy w1 vf.ownBlock) (hat : v'.ownBlock = vf.ownBlock ∨ v'.ownBlock = some (w.heap.size + 1)) : TR base w1 vo v' cs (fs ++ ns) ∧ Below base w w1 := by
  subst hk hx
  have hs := hg.size
  simp at hs
  have hle := h.le
  have key : ∀ g, vo.ownBlock = some g → some g ≠ vf.ownBlock ∧ g < w.heap.size := fun g e => ⟨fun c => by
    rcases h.apart with a | a
    · rw [a] at e; cases e
    · exact a (by rw [e, c]), (h.own1.lt g e).2⟩
  refine ⟨⟨own_below' h.own1 (fun g e => ?_), ho, ?_, by omega⟩, ?_⟩
  · rw [hg.block g (by have := (key g e).2; simp; omega) (key g e).1, Below.heap_alloc w o g (key g e).2]
  · cases hb : vo.ownBlock with
    | none => exact Or.inl rfl
    | some g =>
      right
      rcases hat with e | e
      · rw [e]; exact (key g hb).1
      · rw [e]
        intro c
        have := (key g hb).2
        have := Option.some.inj c
        omega
  · refine ⟨hg.os, hg.tape, hg.output, by omega, fun j hj => ?_⟩
    rw [hg.block j (by simp; omega) (fun c => by have := (h.own2.lt j c.symm).1; omega), Below.heap_alloc w o j (by omega)]

theorem own_n {w : World} {base : Nat} {e : TypeId} {v : Value} {n m : Nat} {xs : List Value} (h : w.ownsRow base e 1 v n xs) (q : n = m) : w.ownsRow base e 1 v m xs := q ▸ h
/-- What the document's Probe answers. -/
def ProbedR (c : Nat → Int) (N L : Nat) (w : World) (e : Ending) (w' : World) : Prop := ∃ base vo vf, w.heap.size ≤ base ∧ TR base w' vo vf (pcode c N L) (pfrom c N L) ∧ e = .returned (.tuple #[vo, vf, .int .i64 0]) ∧ Below w.heap.size w w'
/-- What the first loop leaves. -/
structure P1 (base : Nat) (w2 wr : World) (vo vf : Value) (c : Nat → Int) (N p : Nat) : Prop where
  rows : TR base wr vo vf (gcode (bgn c N) c p) (pfrom c N p)
  below : Below base w2 wr

set_option maxHeartbeats 4000000 in
set_option maxRecDepth 100000 in
theorem rProbe_any (w : World) (cb co L cap N : Nat) (c : Nat → Int) (F : Fine c L N 19) (hL : L ≤ 80) (hby : ∀ i, i < L → 0 ≤ c i ∧ c i ≤ 255) (C : Laid w cb co L cap c) :
    Calls Tryz.prog 97 #[.slice (some ⟨cb, co, none⟩) L cap] w (ProbedR c N L w) := by
  obtain ⟨iu, hiu, hzu0, hzu1, hzu2⟩ := info_parts Tryz.infoU8
  obtain ⟨ii, hii, hzi0, hzi1, hzi2⟩ := info_parts Tryz.infoInt
  have V := F.vp hL
  have hroom := C.room
  have hroom' := C.room'
  have hq80 := V.pLen'
  have hL0 : 0 < L := F.pos
  have HW : Hid (Calls Tryz.prog 147 #[.slice (some ⟨cb, co, none⟩) L cap, .int .i64 80, .bool false] w fun e w' => e = .returned (.int .i64 (-1)) ∧ Below w.heap.size w w') := by
    refine (rwrong_full w cb co L cap 80 c false (by omega) hby C).mono ?_
    rintro e w' ⟨r, b, hf, rfl, hB⟩
    refine ⟨?_, hB⟩
    have hf2 : FlawIs c L 80 19 0 false := Or.inr ⟨hL, N, F.sp, Or.inr ⟨F.last, Or.inr ⟨F.well, Or.inl ⟨rfl, rfl, fun m hm => F.led m hm⟩⟩⟩⟩
    obtain ⟨_, rfl⟩ := hf.same hf2
    rfl
  have HBL : Hid (∀ w1, Below w.heap.size w w1 → Calls Tryz.prog 148 #[.slice (some ⟨cb, co, none⟩) L cap] w1 fun e w' => ∃ v, w'.ownsRow w1.heap.size 3 1 v (cntR c N N) (blkl c N N) ∧ e = .returned v ∧ Below w1.heap.size w1 w') := fun w1 hB =>
    rblocks_any w1 cb co L cap N c (F.sp.more (by omega) (by omega)) F.last (C.below hB)
  have hcb : cb < w.heap.size := C.blk
  have HC : Hid (Laid w cb co L cap c) := C
  have HF : Hid (Fine c L N 19) := F
  have HV : Hid (VP c L N) := V
  have HBY : Hid (∀ i, i < L → 0 ≤ c i ∧ c i ≤ 255) := hby
  clear C F V hby
  go_enter Tryz.func97, Tryz.ntmps97
  go_wp2_with fail
  refine HW.out.mono ?_
  rintro _ w1 ⟨rfl, B1⟩
  have HB1 : Hid (Below w.heap.size w w1) := B1
  have hz1 := B1.size
  clear B1 HW
  go_wp2_with fail
  refine (HBL.out w1 HB1.out).mono ?_
  rintro _ w2 ⟨vb, hob, rfl, B2⟩
  have hz2 := B2.size
  have HB2 : Hid (Below w.heap.size w w2) := HB1.out.trans (B2.mono hz1)
  have hn240 : cntR c N N ≤ 240 := by
    have := cntR_le c N N
    have := HF.out.sp.count
    omega
  have hbN : NCoded w2 vb (cntR c N N) (blN c N) := by
    by_cases h0 : 0 < cntR c N N
    · obtain ⟨g, cp, rfl, _, hr, hm, hc⟩ := own_at' hob h0
      refine .full g 0 cp rfl (fun i hi => ?_) hr hm h0
      rw [Nat.zero_add]
      obtain ⟨_, _, _, h, _⟩ := blN_at hi
      exact hc i _ h
    · rcases hob.2 with ⟨e, _⟩ | ⟨g, cp, cur, e, _⟩
      · exact .bare none 0 e (by omega)
      · exact .bare _ _ (by rw [e]; congr 1; omega) (by omega)
  have HPL : Hid (∀ wr, Below w2.heap.size w2 wr → ∀ p : Nat, Calls Tryz.prog 149 #[vb, .int .i64 (p : Int)] wr fun e w' => w' = wr ∧ e = .returned (.int .i64 (if bgn c N p then (cntB (bgn c N) p : Int) else -1))) := fun wr hB p => by
    refine (place_any wr vb _ _ (hbN.keep fun g _ hlt => hB.block g hlt) (by omega) (p : Int)).mono ?_
    rintro e w' ⟨rfl, r, hr, rfl⟩
    exact ⟨rfl, by rw [place_block HF.out hL hr]⟩
  obtain ⟨pb, capb, rfl⟩ : ∃ p cp, vb = .slice p (cntR c N N) cp := by
    cases hbN with
    | full g o cp hv _ _ _ _ => exact ⟨_, _, hv⟩
    | bare p cp hv hL => exact ⟨p, cp, by rw [hv, hL]⟩
  have HC2 : Hid (∀ wr, Below w2.heap.size w2 wr → ∀ p, p < L → wr.cell? ⟨cb, co + p, none⟩ = some (.int .u8 (c p))) := fun wr hB p hp => ((HC.out.below HB2.out).below hB).cell p hp
  have hcb2 : cb < w2.heap.size := by omega
  clear hob hbN B2 HBL HB1
  go_wp2_with fail
  go_loopw [7, 8, 9] (fun out from' i wr => ∃ (p : Nat) (vo vf : Value), p ≤ L ∧ out = vo ∧ from' = vf ∧ i = .int .i64 p ∧ P1 w2.heap.size w2 wr vo vf c N p) (fun _ _ i _ => L - (intOf i).toNat)
  case atStart => exact ⟨0, _, _, by omega, rfl, rfl, rfl, ⟨⟨World.ownsRow_nil _ _ _ _, World.ownsRow_nil _ _ _ _, Or.inl rfl, Nat.le_refl _⟩, Below.refl _ _⟩⟩
  case round =>
    obtain ⟨p, vo, vf, hp, ho7, hf8, rfl, hP⟩ := hrel
    subst ho7 hf8
    have HP : Hid (P1 w2.heap.size w2 wr u7 u8 c N p) := hP
    have hrs := hP.below.size
    clear hP
    by_cases hpL : p < L
    · have ck := HC2.out wr HP.out.below p hpL
      have hi1 : (p : Int) < (L : Int) := by omega
      have hcbr : cb < wr.heap.size := by omega
      have hqp : qOf (bgn c N) (p + 1) ≤ 240 := by have := q_le (f := bgn c N) (p := p + 1) (r := L) (by omega); omega
      have hq1 := q_succ (bgn c N) p
      have hq2 := q_le_r (bgn c N) p
      have hcl := gcode_len (bgn c N) c p
      have hfl := pfrom_len c N p
      have HT := HP.out.rows
      cases hb : bgn c N p with
      | false =>
        have hPL := HPL.out wr HP.out.below p
        rw [hb] at hPL
        have HPp : Hid (Calls Tryz.prog 149 #[.slice pb (cntR c N N) capb, .int .i64 (p : Int)] wr fun e w' => w' = wr ∧ e = .returned (.int .i64 (-1))) := hPL
        have HEND : Hid (∀ (w6 : World) (vo6 vf6 : Value), TR w2.heap.size w6 vo6 vf6 (gcode (bgn c N) c p ++ [c p]) (pfrom c N p ++ [(p : Int)]) → Below w2.heap.size wr w6 → P1 w2.heap.size w2 w6 vo6 vf6 c N (p + 1)) := fun w6 vo6 vf6 h6 b6 => by
          refine ⟨?_, HP.out.below.trans b6⟩
          unfold gcode pfrom
          rw [hb]
          exact h6
        have HO : Hid (wr.ownsRow w2.heap.size 5 1 u7 (qOf (bgn c N) p) ((gcode (bgn c N) c p).map (Value.int .u8))) := by have := HT.own1; rw [hcl] at this; exact this
        have HTR : Hid (TR w2.heap.size wr u7 u8 (gcode (bgn c N) c p) (pfrom c N p)) := HT
        have HLC : Hid ((gcode (bgn c N) c p).length = qOf (bgn c N) p ∧ (pfrom c N p).length = qOf (bgn c N) p) := ⟨hcl, hfl⟩
        clear hPL HT hcl hfl hb
        generalize gcode (bgn c N) c p = cs at *
        generalize pfrom c N p = fs at *
        generalize qOf (bgn c N) p = q at *
        generalize c p = y at *
        go_wp2_with fail
        refine HPp.out.mono ?_
        rintro _ w' ⟨hw', rfl⟩
        obtain rfl := hw'.symm
        go_wp2_with (at_builtin; refine wpList_append_own_at _ rfl (.tmp 41) (.tmp 46) 25 rfl w2.heap.size 5 iu (.int .u8 0) 1 1 Tryz.underlying25 hiu hzu0 hzu1 hzu2 rfl (by decide) _ (q) _ rfl (HO.out.alloc _) ⟨_, 0, none⟩ 1 1 [.int .u8 y] rfl rfl (cell_one_new _ _ _) ?c2 (by unfold maxLen; omega) (by omega) (by simp; omega) ?_)
        case c2 => first | rfl | exact ⟨rfl, rfl⟩ | (intro u hu; simp at hu; subst hu; rfl) | (intro u hu; simp at hu; rcases hu with rfl | rfl <;> rfl)
        intro v1 w4 ho1 hg1 _ hat1
        obtain ⟨g1, k1, rfl⟩ := own_form ho1 (by omega)
        have T1 := HTR.out.pushC (.cells #[.int .u8 y] 5) [y] ho1 (by simp [HLC.out.1]) (by simp) hg1 hat1
        have HT1 : Hid (TR w2.heap.size w4 (.slice (some ⟨g1, 0, none⟩) (q + 1) k1) u8 (cs ++ [y]) (fs)) := T1.1
        have HB1b : Hid (Below w2.heap.size wr w4) := T1.2
        have hs1b := T1.1.le
        have HO1 : Hid (w4.ownsRow w2.heap.size 3 1 u8 (q) ((fs).map (Value.int .i64))) := own_n T1.1.own2 (by simp [HLC.out.2])
        have hsz1 : wr.heap.size ≤ w4.heap.size := by have := hg1.size; simp at this; omega
        clear T1 ho1 hg1 hat1
        go_wp2_with (at_builtin; refine wpList_append_own_at _ rfl (.tmp 48) (.tmp 50) 45 rfl w2.heap.size 3 ii (.int .i64 0) 1 8 Tryz.underlying45 hii hzi0 hzi1 hzi2 rfl (by decide) _ (q) _ rfl (HO1.out.alloc _) ⟨_, 0, none⟩ 1 1 [.int .i64 (p : Int)] rfl rfl (cell_one_new _ _ _) ?c2 (by unfold maxLen; omega) (by omega) (by simp; omega) ?_)
        case c2 => first | rfl | exact ⟨rfl, rfl⟩ | (intro u hu; simp at hu; subst hu; rfl) | (intro u hu; simp at hu; rcases hu with rfl | rfl <;> rfl)
        intro v2 w5 ho2 hg2 _ hat2
        obtain ⟨g2, k2, rfl⟩ := own_form ho2 (by omega)
        have T2 := HT1.out.pushF (.cells #[.int .i64 (p : Int)] 3) [(p : Int)] ho2 (by simp [HLC.out.2]) (by simp) hg2 hat2
        have HT2 : Hid (TR w2.heap.size w5 (.slice (some ⟨g1, 0, none⟩) (q + 1) k1) (.slice (some ⟨g2, 0, none⟩) (q + 1) k2) (cs ++ [y]) (fs ++ [(p : Int)])) := T2.1
        have HB2b : Hid (Below w2.heap.size wr w5) := HB1b.out.trans T2.2
        have hs2b := T2.1.le
        have hsz2 : w4.heap.size ≤ w5.heap.size := by have := hg2.size; simp at this; omega
        clear T2 ho2 hg2 hat2
        have HZ : Hid (P1 w2.heap.size w2 w5 (.slice (some ⟨g1, 0, none⟩) (q + 1) k1) (.slice (some ⟨g2, 0, none⟩) (q + 1) k2) c N (p + 1)) := HEND.out w5 _ _ HT2.out HB2b.out
        clear HEND HT1 HT2 HB1b HB2b HO HO1 HTR HLC
        go_wp2_with fail
        go_roundw
        case rel => exact ⟨p + 1, _, _, by omega, rfl, rfl, by go_num, HZ.out⟩
        case measure => simp [intOf]; omega
      | true =>
        have hPL := HPL.out wr HP.out.below p
        rw [hb] at hPL
        have hcp := cnt_le_pos (bgn c N) p
        have HPp : Hid (Calls Tryz.prog 149 #[.slice pb (cntR c N N) capb, .int .i64 (p : Int)] wr fun e w' => w' = wr ∧ e = .returned (.int .i64 (cntB (bgn c N) p : Int))) := hPL
        have HEND : Hid (∀ (w6 : World) (vo6 vf6 : Value), TR w2.heap.size w6 vo6 vf6 (gcode (bgn c N) c p ++ [20, (cntB (bgn c N) p : Int)] ++ [c p]) (pfrom c N p ++ [-1, -1] ++ [(p : Int)]) → Below w2.heap.size wr w6 → P1 w2.heap.size w2 w6 vo6 vf6 c N (p + 1)) := fun w6 vo6 vf6 h6 b6 => by
          refine ⟨?_, HP.out.below.trans b6⟩
          unfold gcode pfrom
          rw [hb, if_pos rfl, if_pos rfl, ← List.append_assoc, ← List.append_assoc]
          exact h6
        have HO : Hid (wr.ownsRow w2.heap.size 5 1 u7 (qOf (bgn c N) p) ((gcode (bgn c N) c p).map (Value.int .u8))) := by have := HT.own1; rw [hcl] at this; exact this
        have HTR : Hid (TR w2.heap.size wr u7 u8 (gcode (bgn c N) c p) (pfrom c N p)) := HT
        have HLC : Hid ((gcode (bgn c N) c p).length = qOf (bgn c N) p ∧ (pfrom c N p).length = qOf (bgn c N) p) := ⟨hcl, hfl⟩
        have hr2 := r_yes hb
        have hwk : IntKind.u8.wrap (cntB (bgn c N) p : Int) = (cntB (bgn c N) p : Int) := u8_wrap (by omega) (by omega)
        clear hPL HT hcl hfl hb
        generalize cntB (bgn c N) p = kk at *
        generalize gcode (bgn c N) c p = cs at *
        generalize pfrom c N p = fs at *
        generalize qOf (bgn c N) p = q at *
        generalize c p = y at *
        go_wp2_with fail
        refine HPp.out.mono ?_
        rintro _ w' ⟨hw', rfl⟩
        obtain rfl := hw'.symm
        go_wp2_with (at_builtin; refine wpList_append_own_at _ rfl (.tmp 33) (.tmp 36) 25 rfl w2.heap.size 5 iu (.int .u8 0) 1 1 Tryz.underlying25 hiu hzu0 hzu1 hzu2 rfl (by decide) _ (q) _ rfl (HO.out.alloc _) ⟨_, 0, none⟩ 2 2 [.int .u8 20, .int .u8 (kk : Int)] rfl rfl (cells_new _ _ _) ?c2 (by unfold maxLen; omega) (by omega) (by simp; omega) ?_)
        case c2 => first | rfl | exact ⟨rfl, rfl⟩ | (intro u hu; simp at hu; subst hu; rfl) | (intro u hu; simp at hu; rcases hu with rfl | rfl <;> rfl)
        intro v1 w4 ho1 hg1 _ hat1
        obtain ⟨g1, k1, rfl⟩ := own_form ho1 (by omega)
        have T1 := HTR.out.pushC (.cells #[.int .u8 20, .int .u8 (kk : Int)] 5) [20, (kk : Int)] ho1 (by simp [HLC.out.1]) (by simp) hg1 hat1
        have HT1 : Hid (TR w2.heap.size w4 (.slice (some ⟨g1, 0, none⟩) (q + 2) k1) u8 (cs ++ [20, (kk : Int)]) (fs)) := T1.1
        have HB1b : Hid (Below w2.heap.size wr w4) := T1.2
        have hs1b := T1.1.le
        have HO1 : Hid (w4.ownsRow w2.heap.size 3 1 u8 (q) ((fs).map (Value.int .i64))) := own_n T1.1.own2 (by simp [HLC.out.2])
        have hsz1 : wr.heap.size ≤ w4.heap.size := by have := hg1.size; simp at this; omega
        clear T1 ho1 hg1 hat1
        go_wp2_with (at_builtin; refine wpList_append_own_at _ rfl (.tmp 38) (.tmp 39) 45 rfl w2.heap.size 3 ii (.int .i64 0) 1 8 Tryz.underlying45 hii hzi0 hzi1 hzi2 rfl (by decide) _ (q) _ rfl (HO1.out.alloc _) ⟨_, 0, none⟩ 2 2 [.int .i64 (-1), .int .i64 (-1)] rfl rfl (cells_new _ _ _) ?c2 (by unfold maxLen; omega) (by omega) (by simp; omega) ?_)
        case c2 => first | rfl | exact ⟨rfl, rfl⟩ | (intro u hu; simp at hu; subst hu; rfl) | (intro u hu; simp at hu; rcases hu with rfl | rfl <;> rfl)
        intro v2 w5 ho2 hg2 _ hat2
        obtain ⟨g2, k2, rfl⟩ := own_form ho2 (by omega)
        have T2 := HT1.out.pushF (.cells #[.int .i64 (-1), .int .i64 (-1)] 3) [(-1), (-1)] ho2 (by simp [HLC.out.2]) (by simp) hg2 hat2
        have HT2 : Hid (TR w2.heap.size w5 (.slice (some ⟨g1, 0, none⟩) (q + 2) k1) (.slice (some ⟨g2, 0, none⟩) (q + 2) k2) (cs ++ [20, (kk : Int)]) (fs ++ [-1, -1])) := T2.1
        have HB2b : Hid (Below w2.heap.size wr w5) := HB1b.out.trans T2.2
        have hs2b := T2.1.le
        have HO2 : Hid (w5.ownsRow w2.heap.size 5 1 (.slice (some ⟨g1, 0, none⟩) (q + 2) k1) (q + 2) ((cs ++ [20, (kk : Int)]).map (Value.int .u8))) := own_n T2.1.own1 (by simp [HLC.out.1])
        have hsz2 : w4.heap.size ≤ w5.heap.size := by have := hg2.size; simp at this; omega
        clear T2 ho2 hg2 hat2
        have ck5 := (HB2b.out.cell (p := ⟨cb, co + p, none⟩) hcb2).trans ck
        have hcb5 : cb < w5.heap.size := by omega
        go_wp2_with (at_builtin; refine wpList_append_own_at _ rfl (.tmp 41) (.tmp 46) 25 rfl w2.heap.size 5 iu (.int .u8 0) 1 1 Tryz.underlying25 hiu hzu0 hzu1 hzu2 rfl (by decide) _ (q + 2) _ rfl (HO2.out.alloc _) ⟨_, 0, none⟩ 1 1 [.int .u8 y] rfl rfl (cell_one_new _ _ _) ?c2 (by unfold maxLen; omega) (by omega) (by simp; omega) ?_)
        case c2 => first | rfl | exact ⟨rfl, rfl⟩ | (intro u hu; simp at hu; subst hu; rfl) | (intro u hu; simp at hu; rcases hu with rfl | rfl <;> rfl)
        intro v3 w6 ho3 hg3 _ hat3
        obtain ⟨g3, k3, rfl⟩ := own_form ho3 (by omega)
        have T3 := HT2.out.pushC (.cells #[.int .u8 y] 5) [y] ho3 (by simp [HLC.out.1]) (by simp) hg3 hat3
        have HT3 : Hid (TR w2.heap.size w6 (.slice (some ⟨g3, 0, none⟩) (q + 2 + 1) k3) (.slice (some ⟨g2, 0, none⟩) (q + 2) k2) (cs ++ [20, (kk : Int)] ++ [y]) (fs ++ [-1, -1])) := T3.1
        have HB3b : Hid (Below w2.heap.size wr w6) := HB2b.out.trans T3.2
        have hs3b := T3.1.le
        have HO3 : Hid (w6.ownsRow w2.heap.size 3 1 (.slice (some ⟨g2, 0, none⟩) (q + 2) k2) (q + 2) ((fs ++ [-1, -1]).map (Value.int .i64))) := own_n T3.1.own2 (by simp [HLC.out.2])
        have hsz3 : w5.heap.size ≤ w6.heap.size := by have := hg3.size; simp at this; omega
        clear T3 ho3 hg3 hat3
        go_wp2_with (at_builtin; refine wpList_append_own_at _ rfl (.tmp 48) (.tmp 50) 45 rfl w2.heap.size 3 ii (.int .i64 0) 1 8 Tryz.underlying45 hii hzi0 hzi1 hzi2 rfl (by decide) _ (q + 2) _ rfl (HO3.out.alloc _) ⟨_, 0, none⟩ 1 1 [.int .i64 (p : Int)] rfl rfl (cell_one_new _ _ _) ?c2 (by unfold maxLen; omega) (by omega) (by simp; omega) ?_)
        case c2 => first | rfl | exact ⟨rfl, rfl⟩ | (intro u hu; simp at hu; subst hu; rfl) | (intro u hu; simp at hu; rcases hu with rfl | rfl <;> rfl)
        intro v4 w7 ho4 hg4 _ hat4
        obtain ⟨g4, k4, rfl⟩ := own_form ho4 (by omega)
        have T4 := HT3.out.pushF (.cells #[.int .i64 (p : Int)] 3) [(p : Int)] ho4 (by simp [HLC.out.2]) (by simp) hg4 hat4
        have HT4 : Hid (TR w2.heap.size w7 (.slice (some ⟨g3, 0, none⟩) (q + 2 + 1) k3) (.slice (some ⟨g4, 0, none⟩) (q + 2 + 1) k4) (cs ++ [20, (kk : Int)] ++ [y]) (fs ++ [-1, -1] ++ [(p : Int)])) := T4.1
        have HB4b : Hid (Below w2.heap.size wr w7) := HB3b.out.trans T4.2
        have hs4b := T4.1.le
        have hsz4 : w6.heap.size ≤ w7.heap.size := by have := hg4.size; simp at this; omega
        clear T4 ho4 hg4 hat4
        have HZ : Hid (P1 w2.heap.size w2 w7 (.slice (some ⟨g3, 0, none⟩) (q + 2 + 1) k3) (.slice (some ⟨g4, 0, none⟩) (q + 2 + 1) k4) c N (p + 1)) := HEND.out w7 _ _ HT4.out HB4b.out
        clear HEND HT1 HT2 HT3 HT4 HB1b HB2b HB3b HB4b HO HO1 HO2 HO3 HTR HLC
        go_wp2_with fail
        go_roundw
        case rel => exact ⟨p + 1, _, _, by omega, rfl, rfl, by go_num, HZ.out⟩
        case measure => simp [intOf]; omega
    · obtain rfl : p = L := by omega
      have hnn : ¬ (p : Int) < (p : Int) := by omega
      have HCr : Hid (Laid wr cb co p cap c) := (HC.out.below HB2.out).below HP.out.below
      have HST : Hid (Calls Tryz.prog 150 #[.slice (some ⟨cb, co, none⟩) p cap, .bool false] wr fun e w' => ∃ v, w'.ownsRow wr.heap.size 3 1 v N (posl c N) ∧ e = .returned (.tuple #[v, .int .i64 (-1)]) ∧ Below wr.heap.size wr w') := by
        refine (rstarts_any wr cb co p cap c false (by omega) HBY.out HCr.out).mono ?_
        rintro e w' ⟨N', S', hB, ⟨h1, h2, _⟩ | ⟨h1, v, h2, rfl⟩⟩
        · obtain rfl := HF.out.sp.same HF.out.last S' (Or.inr ⟨h1, h2⟩)
          have := HF.out.last
          omega
        · obtain rfl := HF.out.sp.same HF.out.last S' (Or.inl h1)
          exact ⟨v, h2, rfl, hB⟩
      have hQ0 : 0 < qOf (bgn c N) p := by unfold qOf; omega
      have hcl := gcode_len (bgn c N) c p
      have hfl := pfrom_len c N p
      obtain ⟨go, capo, hvo⟩ := own_form HP.out.rows.own1 (by omega)
      obtain ⟨gf, capf, hvf⟩ := own_form HP.out.rows.own2 (by omega)
      rw [hcl] at hvo
      rw [hfl] at hvf
      subst hvo hvf
      have HN0 : 0 < N := HF.out.one
      have hN240 : N ≤ 240 := by have := HF.out.sp.count; omega
      clear hcl hfl
      go_wp2_with fail
      refine HST.out.mono ?_
      rintro _ w3 ⟨vl, hol, rfl, B3⟩
      obtain ⟨gl, capl, rfl, hgl, hlr, hlm, hlc⟩ := own_at' hol HN0
      have hz3 := B3.size
      have T3 : TR w2.heap.size w3 (.slice (some ⟨go, 0, none⟩) (qOf (bgn c N) p) capo) (.slice (some ⟨gf, 0, none⟩) (qOf (bgn c N) p) capf) (gcode (bgn c N) (vm c N 0) p) (pfrom c N p) := by
        have h := HP.out.rows
        rw [vm_zero]
        exact ⟨own_below' h.own1 (fun g e => B3.block g ((h.own1.lt g e).2)), own_below' h.own2 (fun g e => B3.block g ((h.own2.lt g e).2)), h.apart, by omega⟩
      have hgo : go < wr.heap.size := (HP.out.rows.own1.lt go rfl).2
      have hgf : gf < wr.heap.size := (HP.out.rows.own2.lt gf rfl).2
      have hgb : w2.heap.size ≤ go := (HP.out.rows.own1.lt go rfl).1
      have hgogf : go ≠ gf := by
        rcases HP.out.rows.apart with a | a
        · cases a
        · intro e; exact a (by rw [e]; rfl)
      have HLC : Hid (∀ wx, w3.grownBy wx (some go) → ∀ t, t < N → wx.cell? ⟨gl, t, none⟩ = some (.int .i64 (pos c t : Int))) := fun wx hg t ht => hg.cell (a := ⟨gl, t, none⟩) (hlc t _ (by unfold posl; rw [List.getElem?_map, List.getElem?_range ht]; rfl)) (by intro e; have := Option.some.inj e; simp at this; omega)
      have HCC : Hid (∀ wx, w3.grownBy wx (some go) → ∀ t, t < p → wx.cell? ⟨cb, co + t, none⟩ = some (.int .u8 (c t))) := fun wx hg t ht => hg.cell (a := ⟨cb, co + t, none⟩) ((HCr.out.below B3).cell t ht) (by intro e; have := Option.some.inj e; simp at this; omega)
      have HB03 : Hid (Below w.heap.size w w3) := (HB2.out.trans (HP.out.below.mono (by omega))).trans (B3.mono (by omega))
      have hwgo : w.heap.size ≤ go := by omega
      have HT3 : Hid (TR w2.heap.size w3 (.slice (some ⟨go, 0, none⟩) (qOf (bgn c N) p) capo) (.slice (some ⟨gf, 0, none⟩) (qOf (bgn c N) p) capf) (gcode (bgn c N) (vm c N 0) p) (pfrom c N p)) := T3
      clear hol hlc T3 B3 HST HPL HC2
      go_wp2_with fail
      go_loopw [13] (fun i wx => ∃ m : Nat, m ≤ N ∧ i = .int .i64 m ∧ TR w2.heap.size wx (.slice (some ⟨go, 0, none⟩) (qOf (bgn c N) p) capo) (.slice (some ⟨gf, 0, none⟩) (qOf (bgn c N) p) capf) (gcode (bgn c N) (vm c N m) p) (pfrom c N p) ∧ w3.grownBy wx (some go)) (fun i _ => N - (intOf i).toNat)
      case atStart => exact ⟨0, by omega, rfl, HT3.out, World.grownBy.refl _ _⟩
      case round =>
        obtain ⟨m, hm, rfl, hT, hG⟩ := hrel
        have HTm : Hid (TR w2.heap.size wr (.slice (some ⟨go, 0, none⟩) (qOf (bgn c N) p) capo) (.slice (some ⟨gf, 0, none⟩) (qOf (bgn c N) p) capf) (gcode (bgn c N) (vm c N m) p) (pfrom c N p)) := hT
        have HGm : Hid (w3.grownBy wr (some go)) := hG
        have hfl := pfrom_len c N p
        have hcl := gcode_len (bgn c N) (vm c N m) p
        by_cases hmN : m < N
        · obtain ⟨kk, A, hnext⟩ := HF.out.sp.at hmN
          have hpm := A.lt
          have lm := HLC.out wr hG m hmN
          have cm := HCC.out wr hG (pos c m) hpm
          have hi2 : (m : Int) < (N : Int) := by omega
          have hi3 : ((pos c m : Nat) : Int) < (p : Int) := by omega
          have HMN : Hid (m < N) := hmN
          by_cases hlead : leadsB (c (pos c m)) = true
          · have hsz := leads_size hlead
            have hfit := A.fits
            have hkk : (c (pos c m)).toNat = kk := by rw [A.op]; omega
            rw [hkk] at hsz
            have hp1 : pos c m + 1 < p := by omega
            have cm1 := HCC.out wr hG (pos c m + 1) hp1
            obtain ⟨t, ht, het⟩ := HF.out.jump hmN hlead
            have htp := HF.out.sp.lt ht
            have hbt := HV.out.leadsTo hmN hlead het.symm
            have hrt := r_yes hbt
            have hqt : qOf (bgn c N) (pos c t) ≤ 240 := by have := q_le (f := bgn c N) (p := pos c t) (r := p) (by omega); omega
            have hrp : rOf (bgn c N) (pos c m + 1) < qOf (bgn c N) p := by
              have h1 := q_succ (bgn c N) (pos c m + 1)
              have h2 := q_le (f := bgn c N) (p := pos c m + 1 + 1) (r := p) (by omega)
              omega
            have hfn : NCoded wr (.slice (some ⟨gf, 0, none⟩) (qOf (bgn c N) p) capf) (qOf (bgn c N) p) (pf c N p) := by
              have h2 := hT.own2
              rw [hfl] at h2
              obtain ⟨g', cp', e, _, hr, hmx, hc⟩ := own_at' h2 hQ0
              refine .full gf 0 capf rfl (fun i hi => ?_) (by simp at e; omega) (by simp at e; unfold maxLen at hmx; omega) hQ0
              rw [Nat.zero_add]
              have eg : gf = g' := by simp at e; exact e.1
              rw [eg]
              refine hc i _ ?_
              rw [← hfl] at hi
              rw [List.getElem?_map, List.getElem?_eq_getElem hi]
              unfold pf
              rw [List.getD_eq_getElem?_getD, List.getElem?_eq_getElem hi]; rfl
            have HP1 : Hid (Calls Tryz.prog 149 #[.slice (some ⟨gf, 0, none⟩) (qOf (bgn c N) p) capf, .int .i64 (pos c t : Int)] wr fun e w' => w' = wr ∧ e = .returned (.int .i64 ((qOf (bgn c N) (pos c t) : Int) + 2))) := by
              refine (place_any wr _ _ _ hfn (by omega) _).mono ?_
              rintro e w' ⟨rfl, r, hr, rfl⟩
              exact ⟨rfl, by rw [place_from htp hr, hrt]; rfl⟩
            have HP2 : Hid (Calls Tryz.prog 149 #[.slice (some ⟨gf, 0, none⟩) (qOf (bgn c N) p) capf, .int .i64 ((pos c m : Int) + 1)] wr fun e w' => w' = wr ∧ e = .returned (.int .i64 (rOf (bgn c N) (pos c m + 1) : Int))) := by
              refine (place_any wr _ _ _ hfn (by omega) _).mono ?_
              rintro e w' ⟨rfl, r, hr, rfl⟩
              exact ⟨rfl, by rw [place_from (p := pos c m + 1) hp1 hr]⟩
            have o1 := hT.own1
            rw [hcl] at o1
            obtain ⟨xo, hxo⟩ : ∃ x, ((gcode (bgn c N) (vm c N m) p).map (Value.int .u8))[rOf (bgn c N) (pos c m + 1)]? = some x := ⟨_, List.getElem?_eq_getElem (by rw [List.length_map, hcl]; exact hrp)⟩
            have cgo := o1.cellAt (rOf (bgn c N) (pos c m + 1)) (by omega)
            rw [hxo] at cgo
            have fo := o1.frozenAt (rOf (bgn c N) (pos c m + 1))
            obtain ⟨o2, g2⟩ := o1.stored (rOf (bgn c N) (pos c m + 1)) (.int .u8 (qOf (bgn c N) (pos c t) : Int))
            have HN2 : Hid (TR w2.heap.size (wr.setCell ⟨go, rOf (bgn c N) (pos c m + 1), none⟩ (.int .u8 (qOf (bgn c N) (pos c t) : Int))) (.slice (some ⟨go, 0, none⟩) (qOf (bgn c N) p) capo) (.slice (some ⟨gf, 0, none⟩) (qOf (bgn c N) p) capf) (gcode (bgn c N) (vm c N (m + 1)) p) (pfrom c N p) ∧ w3.grownBy (wr.setCell ⟨go, rOf (bgn c N) (pos c m + 1), none⟩ (.int .u8 (qOf (bgn c N) (pos c t) : Int))) (some go)) := by
              refine ⟨⟨?_, own_below' hT.own2 (fun g e => heap_setCell_other wr ⟨go, _, none⟩ g _ (by
                have : gf = g := by simpa [Value.ownBlock] using e
                show g ≠ go
                omega)), hT.apart, by have := hT.le; simpa using this⟩, World.grownBy.trans' hG g2⟩
              have hx : c (pos c m + 1) + 2 * cntB (bgn c N) (c (pos c m + 1)).toNat = (qOf (bgn c N) (pos c t) : Int) := by
                rw [← het, Int.toNat_natCast]
                unfold qOf
                omega
              rw [vm_yes hlead, hx, ← gcode_set _ _ _ _ _ hp1, List.length_set, hcl, List.map_set]
              exact o2
            rw [← het] at cm1
            have hwq : IntKind.u8.wrap (qOf (bgn c N) (pos c t) : Int) = (qOf (bgn c N) (pos c t) : Int) := u8_wrap (by omega) (by omega)
            have h1415 : c (pos c m) = 14 ∨ c (pos c m) = 15 := by simpa [leadsB] using hlead
            have ht80 : pos c t < 80 := by omega
            have hi4 : ((pos c m : Int) + 1) < (p : Int) := by omega
            have hi5 : (rOf (bgn c N) (pos c m + 1) : Int) < (qOf (bgn c N) p : Int) := by omega
            have hm80 : pos c m < 80 := by omega
            clear hT hG A hnext hlead hsz hkk hfit het hrt hbt hfn o1 hxo o2 g2 hfl hcl htp
            rcases h1415 with h14 | h14
            all_goals
              rw [h14] at cm
              clear h14
              go_wp2_with fail
              refine HP1.out.mono ?_
              rintro _ w' ⟨hw', rfl⟩
              obtain rfl := hw'.symm
              go_wp2_with fail
              refine HP2.out.mono ?_
              rintro _ w' ⟨hw', rfl⟩
              obtain rfl := hw'.symm
              go_wp2_with fail
              go_roundw
              case rel => exact ⟨m + 1, by have := HMN.out; omega, by go_num, HN2.out.1, HN2.out.2⟩
              case measure => have := HMN.out; simp [intOf]; omega
          · have hl0 : leadsB (c (pos c m)) = false := by simpa using hlead
            have hb14 : (c (pos c m) == 14) = false := by rw [beq_eq_false_iff_ne]; intro e; rw [e] at hlead; exact hlead rfl
            have hb15 : (c (pos c m) == 15) = false := by rw [beq_eq_false_iff_ne]; intro e; rw [e] at hlead; exact hlead rfl
            have HN2 : Hid (TR w2.heap.size wr (.slice (some ⟨go, 0, none⟩) (qOf (bgn c N) p) capo) (.slice (some ⟨gf, 0, none⟩) (qOf (bgn c N) p) capf) (gcode (bgn c N) (vm c N (m + 1)) p) (pfrom c N p)) := by
              show TR _ _ _ _ _ _
              rw [vm_no hl0]
              exact hT
            clear hT hG A hnext hlead hfl hcl hl0
            generalize c (pos c m) = x at *
            go_wp2_with fail
            go_roundw
            case rel => exact ⟨m + 1, by have := HMN.out; omega, by go_num, HN2.out, HGm.out⟩
            case measure => have := HMN.out; simp [intOf]; omega
        · obtain rfl : m = N := by omega
          have hnn2 : ¬ (m : Int) < (m : Int) := by omega
          have HFIN : Hid (∃ base vo vf, w.heap.size ≤ base ∧ TR base wr vo vf (pcode c m p) (pfrom c m p) ∧ (Ending.returned (.tuple #[.slice (some ⟨go, 0, none⟩) (qOf (bgn c m) p) capo, .slice (some ⟨gf, 0, none⟩) (qOf (bgn c m) p) capf, .int .i64 0]) : Ending) = .returned (.tuple #[vo, vf, .int .i64 0]) ∧ Below w.heap.size w wr) := by
            refine ⟨w2.heap.size, _, _, by omega, ?_, rfl, ?_⟩
            · rw [pcode_g]; exact hT
            · have b := HB03.out
              exact ⟨hG.os.trans b.os, hG.tape.trans b.tape, hG.output.trans b.output, Nat.le_trans b.size hG.size, fun j hj => (hG.block j (by have := b.size; omega) (fun e => by have := Option.some.inj e; omega)).trans (b.block j hj)⟩
          clear hT hG hfl hcl
          go_wp2_with fail
          refine bodyPost_ret (v := .tuple #[.slice (some ⟨go, 0, none⟩) (qOf (bgn c m) p) capo, .slice (some ⟨gf, 0, none⟩) (qOf (bgn c m) p) capf, .int .i64 0]) (by simp [results, Tryz.results97, go_sem]) rfl ?_
          exact HFIN.out
end Go.Proofs.YtflenkppcclclaaGreatDoor

