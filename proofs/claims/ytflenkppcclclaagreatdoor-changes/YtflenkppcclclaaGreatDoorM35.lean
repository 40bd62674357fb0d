import Derived.Test.YtflenkppcclclaaGreatDoorM33
import Derived.Test.YtflenkppcclclaaGreatDoorM12
import Derived.Test.YtflenkppcclclaaGreatDoorM32
import Derived.Test.YtflenkppcclclaaGreatDoorM14
import Derived.Test.YtflenkppcclclaaGreatDoorM34
namespace Go.Proofs.YtflenkppcclclaaGreatDoor
open Go.RowKit

theorem WR.drew {base W : Nat} {w : World} {vc vf : Value} {cs fs : List Int} (h : WR base W w vc vf cs fs) : WR base W w.drew vc vf cs fs :=
  ⟨h.c0, h.c1, h.thaw, h.own1, h.own2, h.apart, h.lt, h.le⟩
theorem own_lt {w : World} {base : Nat} {e : TypeId} {size : Nat} {v : Value} {n : Nat} {xs : List Value} (h : w.ownsRow base e size v n xs) : some w.heap.size ≠ v.ownBlock :=
  fun c => by have := (h.lt _ c.symm).2; omega
theorem given_two {base W : Nat} {w : World} {vc vf : Value} {cs fs : List Int} (h : WR base W w vc vf cs fs) (x y : Int) : Given (w.alloc (.cells #[.int .u8 x, .int .u8 y] 5)) W vc vf w.heap.size 0 [x, y] where
  cell := by
    intro j z hz
    rw [Nat.zero_add, World.cell?_alloc_new]
    match j, hz with
    | 0, hz => simp at hz; rw [← hz]; rfl
    | 1, hz => simp at hz; rw [← hz]; rfl
    | j + 2, hz => simp at hz
  lt := by simp
  n1 := own_lt h.own1
  n2 := own_lt h.own2
  n3 := by have := h.lt; have := h.le; omega
theorem given_code {base W : Nat} {w : World} {vc vf : Value} {cs fs : List Int} (h : WR base W w vc vf cs fs) {cb co : Nat} {xs : List Int} (hc : ∀ (j : Nat) (x : Int), xs[j]? = some x → w.cell? ⟨cb, co + j, none⟩ = some (.int .u8 x)) (hb : cb < W) : Given w W vc vf cb co xs where
  cell := hc
  lt := by have := h.lt; have := h.le; omega
  n1 := own_ne h.own1 (by have := h.lt; omega)
  n2 := own_ne h.own2 (by have := h.lt; omega)
  n3 := by omega
theorem Kept.drew {B M : Nat} {w w' : World} (h : Kept B M w w') : Kept B M w w'.drew := ⟨h.os, h.tape, h.output, h.size, h.block⟩

/-- What the rounds of 'WithProbes' share. -/
structure PW (w w2 : World) (cb co L cap N : Nat) (c : Nat → Int) (W : Nat) (wr : World) (cs fs : List Int) : Prop where
  kept : Kept (W + 1) W w2 wr
  own : ∃ vc vf, WR (W + 1) W wr vc vf cs fs
  low : Below w.heap.size w wr
  row : wr.heap[w.heap.size]? = some (.cells (il L (entAt (bgn c N) L)).toArray 3 (0, 0))
  code : Laid wr cb co L cap c
  tab : Tab wr
theorem PW.next {w w2 : World} {cb co L cap N : Nat} {c : Nat → Int} {W : Nat} {wr wx : World} {cs fs ds gs : List Int} (h : PW w w2 cb co L cap N c W wr cs fs) (hW : w.heap.size < W) (C : Laid w cb co L cap c) (hT : Tab w) (K : Kept (W + 1) W wr wx) (hR : ∃ vc vf, WR (W + 1) W wx vc vf ds gs) : PW w w2 cb co L cap N c W wx ds gs where
  kept := h.kept.trans K
  own := hR
  low := below_of_kept h.low K (by omega) (by omega)
  row := (K.block _ (by omega) (by omega)).trans h.row
  code := C.below (below_of_kept h.low K (by omega) (by omega))
  tab := hT.below (below_of_kept h.low K (by omega) (by omega))
theorem PW.alloc {w w2 : World} {cb co L cap N : Nat} {c : Nat → Int} {W : Nat} {wr : World} {cs fs : List Int} (h : PW w w2 cb co L cap N c W wr cs fs) (hW : w.heap.size < W) (C : Laid w cb co L cap c) (hT : Tab w) (o : Obj) : PW w w2 cb co L cap N c W (wr.alloc o) cs fs := by
  obtain ⟨vc, vf, hR⟩ := h.own
  exact h.next hW C hT (Kept.alloc _ hR.le o) ⟨vc, vf, hR.alloc o⟩
theorem PW.drew {w w2 : World} {cb co L cap N : Nat} {c : Nat → Int} {W : Nat} {wr : World} {cs fs : List Int} (h : PW w w2 cb co L cap N c W wr cs fs) (hW : w.heap.size < W) (C : Laid w cb co L cap c) (hT : Tab w) : PW w w2 cb co L cap N c W wr.drew cs fs := by
  obtain ⟨vc, vf, hR⟩ := h.own
  exact h.next hW C hT (Kept.refl _ _ _).drew ⟨vc, vf, hR.drew⟩

theorem two_size (c : Nat → Int) (p kk : Nat) (h : c p = (kk : Int)) : szOf (c p).toNat = szOf kk := by rw [h, Int.toNat_natCast]

set_option maxRecDepth 100000 in
set_option maxHeartbeats 2000000 in
theorem withProbes_any (w : World) (cb co L cap N : Nat) (c : Nat → Int) (V : VP c L N) (C : Laid w cb co L cap c) (hT : Tab w) :
    Calls Tryz.prog 153 #[.slice (some ⟨cb, co, none⟩) L cap] w fun e w' => ∃ base W vc vf, w.heap.size ≤ W ∧ WR base W w' vc vf (pcode c N L) (pfrom c N L) ∧ e = .returned (.tuple #[vc, vf]) ∧ Below w.heap.size w w' := by
  have hfs := field_sz
  have hmost := V.most
  have hroom := C.room
  have hroom' := C.room'
  go_enter Tryz.func153, Tryz.ntmps153
  go_wp2_with fail
  refine (blockEntries_any w cb co L cap N c V C hT).mono ?_
  rintro e w1 ⟨rfl, hg1, hB1⟩
  have hW : w.heap.size < w1.heap.size := (Array.getElem?_eq_some_iff.1 hg1).1
  have P0 : PW w (w1.alloc (.cells #[.slice none 0 0, .slice none 0 0] 255)) cb co L cap N c w1.heap.size (w1.alloc (.cells #[.slice none 0 0, .slice none 0 0] 255)) [] [] := by
    have hBa : Below w.heap.size w (w1.alloc (.cells #[.slice none 0 0, .slice none 0 0] 255)) := hB1.alloc (by omega) _
    refine ⟨Kept.refl _ _ _, ⟨.slice none 0 0, .slice none 0 0, ?_⟩, hBa, by rw [Below.heap_alloc _ _ _ hW]; exact hg1, C.below hBa, hT.below hBa⟩
    refine ⟨World.cell?_alloc_new _ _ _ _, World.cell?_alloc_new _ _ _ _, fun j => ?_, World.ownsRow_nil _ _ _ _, World.ownsRow_nil _ _ _ _, Or.inl rfl, by omega, by simp⟩
    exact frozen_of_row _ _ j _ _ (heap_alloc_new w1 _)
  have HP0 : Hid (PW w (w1.alloc (.cells #[.slice none 0 0, .slice none 0 0] 255)) cb co L cap N c w1.heap.size (w1.alloc (.cells #[.slice none 0 0, .slice none 0 0] 255)) [] []) := P0
  have hcb : cb < w.heap.size := C.blk
  clear P0 hg1
  go_wp2_with fail
  go_loopw [7] (fun i wr => ∃ m : Nat, m ≤ N ∧ i = .int .i64 (pos c m) ∧ PW w (w1.alloc (.cells #[.slice none 0 0, .slice none 0 0] 255)) cb co L cap N c w1.heap.size wr (pcode c N (pos c m)) (pfrom c N (pos c m))) (fun i _ => L - (intOf i).toNat)
  case atStart => exact ⟨0, by omega, rfl, HP0.out⟩
  case round =>
    clear HP0
    obtain ⟨m, hm, rfl, hP⟩ := hrel
    generalize w1.alloc (.cells #[.slice none 0 0, .slice none 0 0] 255) = w2 at hP ⊢
    generalize w1.heap.size = W at hP hW ⊢
    by_cases hlt : m < N
    · obtain ⟨kk, A, hsucc⟩ := V.at hlt
      have hck := hP.code.cell _ A.lt
      rw [A.op] at hck
      have h1 := A.lt
      have h2 := A.fits
      have h3 := A.sz
      have h4 := A.s1
      have h5 := A.s2
      have h6 := A.pos
      have hk := A.k
      have hop := A.op
      have HS : Hid (pos c (m + 1) = pos c m + szOf kk) := hsucc
      have hi1 : (pos c m : Int) < (L : Int) := by omega
      obtain ⟨HN1, HN2⟩ := V.pcode_next hlt
      have hszc := two_size c _ _ hop
      have hN1 : Hid (pcode c N (pos c (m + 1)) = (pcode c N (pos c m) ++ (if bgn c N (pos c m) then [20, (cntB (bgn c N) (pos c m) : Int)] else [])) ++ addC c N m) := HN1
      have hN2 : Hid (pfrom c N (pos c (m + 1)) = (pfrom c N (pos c m) ++ (if bgn c N (pos c m) then [-1, -1] else [])) ++ froms (pos c m) (szOf kk)) := by
        show pfrom c N (pos c (m + 1)) = _
        rw [HN2, hszc]
      clear HN1 HN2
      have hle1 : (pcode c N (pos c m)).length ≤ 240 := by rw [pcode_len]; have := q_le (f := bgn c N) (Nat.le_of_lt h1); have := V.pLen'; omega
      have hle2 : (pfrom c N (pos c m)).length ≤ 240 := by rw [pfrom_len]; have := q_le (f := bgn c N) (Nat.le_of_lt h1); have := V.pLen'; omega
      have ce : wr.cell? ⟨w.heap.size, pos c m, none⟩ = some (.int .i64 (if bgn c N (pos c m) then (cntB (bgn c N) (pos c m) : Int) else -1)) := by
        rw [cell_of_row wr w.heap.size _ _ _ _ hP.row, List.getElem?_toArray, il_get L _ _ h1]
        unfold entAt entB
        rw [if_pos h1]
      have hcnt := cntB_le (bgn c N) (pos c m)
      generalize hcs : pcode c N (pos c m) = cs at hP hN1 hle1
      generalize hfs' : pfrom c N (pos c m) = fs at hP hN2 hle2
      generalize hcn : cntB (bgn c N) (pos c m) = cn at ce hN1 hcnt
      cases hb : bgn c N (pos c m) with
      | false =>
        rw [hb] at ce hN1 hN2
        rw [if_neg (by decide), List.append_nil] at hN1 hN2
        have HP : Hid (PW w w2 cb co L cap N c W wr cs fs) := hP
        have HTr : Hid (Tab wr) := hP.tab
        clear hP hb hcn hcs hfs' hsucc A
        go_wp2_with fail
        refine (shapeOf_any kk (by omega) _ HTr.out).mono ?_
        rintro e w4 ⟨rfl, cc, hw4⟩
        have HP4 : Hid (PW w w2 cb co L cap N c W w4 cs fs) := by rw [hw4]; exact HP.out.alloc hW C hT _
        clear hw4
        have hck4 := HP4.out.code.cell _ h1
        rw [hop] at hck4
        have hcb4 : cb < w4.heap.size := HP4.out.code.blk
        cases hlb : leadsB (kk : Int) with
        | true =>
          obtain ⟨s, hs, hst⟩ := V.jump m hlt (by rw [hop]; exact hlb)
          have hsz2 := (leads_two hlb).1
          have hsh2 := (leads_two hlb).2
          have hck2 := HP4.out.code.cell (pos c m + 1) (by omega)
          rw [← hst] at hck2
          have hsL := V.lt hs
          have hi2 : (pos c s : Int) < (L : Int) := by omega
          have hi3 : (pos c m : Int) + 1 < (L : Int) := by omega
          have hi4 : (pos c s : Int) ≤ 255 := by omega
          have hbs := V.leadsTo hlt (by rw [hop]; exact hlb) hst.symm
          have hes : entAt (bgn c N) L (pos c s) = (cntB (bgn c N) (pos c s) : Int) := by unfold entAt entB; rw [if_pos hsL, hbs, if_pos rfl]
          have hcs0 := cntB_le (bgn c N) (pos c s)
          have HMV : Hid (Calls Tryz.prog 200 #[.int .u8 (pos c s : Int), .slice (some ⟨w.heap.size, 0, none⟩) L L] w4 fun e w' => e = .returned (.int .u8 ((pos c s : Int) + 2 * (cntB (bgn c N) (pos c s) : Int))) ∧ ∃ cc, w' = w4.drew.alloc (.cells cc 179)) := by
            have := moved_any w4 (pos c s) w.heap.size L (entAt (bgn c N) L) HP4.out.row hsL (by omega) (by rw [hes]; omega) (by rw [hes]; omega) HP4.out.tab
            rw [hes] at this
            exact this
          have HX : Hid (addC c N m = [(kk : Int), (pos c s : Int) + 2 * (cntB (bgn c N) (pos c s) : Int)]) := by
            show addC c N m = _
            unfold addC
            rw [hszc, if_pos hsz2, hop, hlb, if_pos rfl, ← hst, Int.toNat_natCast]
          generalize hmv : (pos c s : Int) + 2 * (cntB (bgn c N) (pos c s) : Int) = mv at HMV HX
          clear hst hbs hes hcs0 hmv
          rw [hsz2] at h2 HS hN2
          go_wp2_with (go_at_call 143; refine (leads_any _ _).mono ?_; rintro e w' ⟨rfl, rfl⟩)
          refine HMV.out.mono ?_
          rintro e w5 ⟨rfl, cc5, hw5⟩
          have HP5 : Hid (PW w w2 cb co L cap N c W w5 cs fs) := by rw [hw5]; exact (HP4.out.drew hW C hT).alloc hW C hT _
          clear hw5
          obtain ⟨vc5, vf5, hR5⟩ := HP5.out.own
          go_wp2_with fail
          refine (bring_any (W + 1) W _ vc5 vf5 cs fs w5.heap.size 0 2 2 [(kk : Int), mv] (pos c m) (by omega) (hR5.alloc _) rfl (given_two hR5 (kk : Int) mv) (by omega) (by omega) (by omega)).mono ?_
          rintro e w6 ⟨rfl, hR6, K6⟩
          have HP6 : Hid (PW w w2 cb co L cap N c W w6 (pcode c N (pos c (m + 1))) (pfrom c N (pos c (m + 1)))) := by
            show PW w w2 cb co L cap N c W w6 (pcode c N (pos c (m + 1))) (pfrom c N (pos c (m + 1)))
            rw [hN1.out, hN2.out, HX.out]
            exact (HP5.out.alloc hW C hT _).next hW C hT K6 (by simpa using hR6)
          clear hR6 K6 HP5 hR5 HP4 HMV
          go_wp2
          go_roundw
          case rel => exact ⟨m + 1, by omega, by rw [HS.out]; simp, HP6.out⟩
          case measure => simp [intOf]; omega
        | false =>
          obtain ⟨vc4, vf4, hR4⟩ := HP4.out.own
          by_cases hsz2 : szOf kk = 2
          · have hsh2 : shp (kk * 3) = 2 := by omega
            have HX : Hid (addC c N m = [(kk : Int), c (pos c m + 1)]) := by
              show addC c N m = _
              unfold addC
              rw [hszc, if_pos hsz2, hop, hlb, if_neg (by simp)]
            have HGV : Hid (Given w4 W vc4 vf4 cb (co + pos c m) [(kk : Int), c (pos c m + 1)]) := given_code hR4 (by
              intro j x hx
              match j, hx with
              | 0, hx => simp at hx; rw [← hx]; exact hck4
              | 1, hx => simp at hx; rw [← hx]; exact (HP4.out.code.cell (pos c m + 1) (by omega))
              | j + 2, hx => simp at hx) (by omega)
            have HR4 : Hid (WR (W + 1) W w4 vc4 vf4 cs fs) := hR4
            rw [hsz2] at h2 HS hN2
            have hi5 : (pos c m : Int) + 2 ≤ (cap : Int) := by omega
            have hi6 : (pos c m : Int) ≤ (pos c m : Int) + 2 := by omega
            clear hR4
            go_wp2_with (go_at_call 143; refine (leads_any _ _).mono ?_; rintro e w' ⟨rfl, rfl⟩)
            refine (bring_any (W + 1) W _ vc4 vf4 cs fs cb (co + pos c m) 2 _ [(kk : Int), c (pos c m + 1)] (pos c m) (by omega) HR4.out rfl HGV.out (by omega) (by omega) (by omega)).mono ?_
            rintro e w6 ⟨rfl, hR6, K6⟩
            have HP6 : Hid (PW w w2 cb co L cap N c W w6 (pcode c N (pos c (m + 1))) (pfrom c N (pos c (m + 1)))) := by
              show PW w w2 cb co L cap N c W w6 (pcode c N (pos c (m + 1))) (pfrom c N (pos c (m + 1)))
              rw [hN1.out, hN2.out, HX.out]
              exact HP4.out.next hW C hT K6 (by simpa using hR6)
            clear hR6 K6 HR4 HP4 HGV
            go_wp2
            go_roundw
            case rel => exact ⟨m + 1, by omega, by rw [HS.out]; simp, HP6.out⟩
            case measure => simp [intOf]; omega
          · have hsz1 : szOf kk = 1 := by have := (szOf_pos kk (by omega)).2.1; omega
            have hsh1 : shp (kk * 3) = 1 := by omega
            have HX : Hid (addC c N m = [(kk : Int)]) := by
              show addC c N m = _
              unfold addC
              rw [hszc, if_neg hsz2, hop]
            have HGV : Hid (Given w4 W vc4 vf4 cb (co + pos c m) [(kk : Int)]) := given_code hR4 (by
              intro j x hx
              match j, hx with
              | 0, hx => simp at hx; rw [← hx]; exact hck4
              | j + 1, hx => simp at hx) (by omega)
            have HR4 : Hid (WR (W + 1) W w4 vc4 vf4 cs fs) := hR4
            rw [hsz1] at h2 HS hN2
            have hi5 : (pos c m : Int) + 1 ≤ (cap : Int) := by omega
            have hi6 : (pos c m : Int) ≤ (pos c m : Int) + 1 := by omega
            clear hR4
            go_wp2_with (go_at_call 143; refine (leads_any _ _).mono ?_; rintro e w' ⟨rfl, rfl⟩)
            refine (bring_any (W + 1) W _ vc4 vf4 cs fs cb (co + pos c m) 1 _ [(kk : Int)] (pos c m) (by omega) HR4.out rfl HGV.out (by omega) (by omega) (by omega)).mono ?_
            rintro e w6 ⟨rfl, hR6, K6⟩
            have HP6 : Hid (PW w w2 cb co L cap N c W w6 (pcode c N (pos c (m + 1))) (pfrom c N (pos c (m + 1)))) := by
              show PW w w2 cb co L cap N c W w6 (pcode c N (pos c (m + 1))) (pfrom c N (pos c (m + 1)))
              rw [hN1.out, hN2.out, HX.out]
              exact HP4.out.next hW C hT K6 (by simpa using hR6)
            clear hR6 K6 HR4 HP4 HGV
            go_wp2
            go_roundw
            case rel => exact ⟨m + 1, by omega, by rw [HS.out]; simp, HP6.out⟩
            case measure => simp [intOf]; omega
      | true =>
        rw [hb] at ce hN1 hN2
        rw [if_pos rfl] at hN1 hN2
        obtain ⟨vc, vf, hR⟩ := hP.own
        have HP : Hid (PW w w2 cb co L cap N c W wr cs fs) := hP
        have HR : Hid (WR (W + 1) W wr vc vf cs fs) := hR
        have hc80 : (cn : Int) ≤ 255 := by omega
        have hc0 : (0 : Int) ≤ (cn : Int) := by omega
        have hcne : ((cn : Int) != -1) = true := by simp
        clear hP hR hb hcn hcs hfs' hsucc A
        go_wp2_with fail
        refine (add_any (W + 1) W _ vc vf cs fs wr.heap.size 0 2 2 [20, (cn : Int)] (HR.out.alloc _) rfl (given_two HR.out 20 (cn : Int)) (by omega) (by omega) (by omega)).mono ?_
        rintro e w3 ⟨rfl, hR3, K3⟩
        have HP3 : Hid (PW w w2 cb co L cap N c W w3 (cs ++ [20, (cn : Int)]) (fs ++ [-1, -1])) := (HP.out.alloc hW C hT _).next hW C hT K3 hR3
        clear hR3 K3 HP HR ce hck
        obtain ⟨cs3, hcs3⟩ : ∃ l, cs ++ [20, (cn : Int)] = l := ⟨_, rfl⟩
        obtain ⟨fs3, hfs3⟩ : ∃ l, fs ++ [-1, -1] = l := ⟨_, rfl⟩
        have hle3 : cs3.length ≤ 242 := by rw [← hcs3]; simp; omega
        have hle4 : fs3.length ≤ 242 := by rw [← hfs3]; simp; omega
        rw [hcs3] at HP3
        rw [hfs3] at HP3
        rw [hcs3] at hN1
        rw [hfs3] at hN2
        clear hcs3 hfs3
        have hck := HP3.out.code.cell _ h1
        rw [hop] at hck
        have HTr : Hid (Tab w3) := HP3.out.tab
        go_wp2_with fail
        refine (shapeOf_any kk (by omega) _ HTr.out).mono ?_
        rintro e w4 ⟨rfl, cc, hw4⟩
        have HP4 : Hid (PW w w2 cb co L cap N c W w4 cs3 fs3) := by rw [hw4]; exact HP3.out.alloc hW C hT _
        clear hw4 HP3
        have hck4 := HP4.out.code.cell _ h1
        rw [hop] at hck4
        have hcb4 : cb < w4.heap.size := HP4.out.code.blk
        cases hlb : leadsB (kk : Int) with
        | true =>
          obtain ⟨s, hs, hst⟩ := V.jump m hlt (by rw [hop]; exact hlb)
          have hsz2 := (leads_two hlb).1
          have hsh2 := (leads_two hlb).2
          have hck2 := HP4.out.code.cell (pos c m + 1) (by omega)
          rw [← hst] at hck2
          have hsL := V.lt hs
          have hi2 : (pos c s : Int) < (L : Int) := by omega
          have hi3 : (pos c m : Int) + 1 < (L : Int) := by omega
          have hi4 : (pos c s : Int) ≤ 255 := by omega
          have hbs := V.leadsTo hlt (by rw [hop]; exact hlb) hst.symm
          have hes : entAt (bgn c N) L (pos c s) = (cntB (bgn c N) (pos c s) : Int) := by unfold entAt entB; rw [if_pos hsL, hbs, if_pos rfl]
          have hcs0 := cntB_le (bgn c N) (pos c s)
          have HMV : Hid (Calls Tryz.prog 200 #[.int .u8 (pos c s : Int), .slice (some ⟨w.heap.size, 0, none⟩) L L] w4 fun e w' => e = .returned (.int .u8 ((pos c s : Int) + 2 * (cntB (bgn c N) (pos c s) : Int))) ∧ ∃ cc, w' = w4.drew.alloc (.cells cc 179)) := by
            have := moved_any w4 (pos c s) w.heap.size L (entAt (bgn c N) L) HP4.out.row hsL (by omega) (by rw [hes]; omega) (by rw [hes]; omega) HP4.out.tab
            rw [hes] at this
            exact this
          have HX : Hid (addC c N m = [(kk : Int), (pos c s : Int) + 2 * (cntB (bgn c N) (pos c s) : Int)]) := by
            show addC c N m = _
            unfold addC
            rw [hszc, if_pos hsz2, hop, hlb, if_pos rfl, ← hst, Int.toNat_natCast]
          generalize hmv : (pos c s : Int) + 2 * (cntB (bgn c N) (pos c s) : Int) = mv at HMV HX
          clear hst hbs hes hcs0 hmv
          rw [hsz2] at h2 HS hN2
          go_wp2_with (go_at_call 143; refine (leads_any _ _).mono ?_; rintro e w' ⟨rfl, rfl⟩)
          refine HMV.out.mono ?_
          rintro e w5 ⟨rfl, cc5, hw5⟩
          have HP5 : Hid (PW w w2 cb co L cap N c W w5 cs3 fs3) := by rw [hw5]; exact (HP4.out.drew hW C hT).alloc hW C hT _
          clear hw5
          obtain ⟨vc5, vf5, hR5⟩ := HP5.out.own
          go_wp2_with fail
          refine (bring_any (W + 1) W _ vc5 vf5 cs3 fs3 w5.heap.size 0 2 2 [(kk : Int), mv] (pos c m) (by omega) (hR5.alloc _) rfl (given_two hR5 (kk : Int) mv) (by omega) (by omega) (by omega)).mono ?_
          rintro e w6 ⟨rfl, hR6, K6⟩
          have HP6 : Hid (PW w w2 cb co L cap N c W w6 (pcode c N (pos c (m + 1))) (pfrom c N (pos c (m + 1)))) := by
            show PW w w2 cb co L cap N c W w6 (pcode c N (pos c (m + 1))) (pfrom c N (pos c (m + 1)))
            rw [hN1.out, hN2.out, HX.out]
            exact (HP5.out.alloc hW C hT _).next hW C hT K6 (by simpa using hR6)
          clear hR6 K6 HP5 hR5 HP4 HMV
          go_wp2
          go_roundw
          case rel => exact ⟨m + 1, by omega, by rw [HS.out]; simp, HP6.out⟩
          case measure => simp [intOf]; omega
        | false =>
          obtain ⟨vc4, vf4, hR4⟩ := HP4.out.own
          by_cases hsz2 : szOf kk = 2
          · have hsh2 : shp (kk * 3) = 2 := by omega
            have HX : Hid (addC c N m = [(kk : Int), c (pos c m + 1)]) := by
              show addC c N m = _
              unfold addC
              rw [hszc, if_pos hsz2, hop, hlb, if_neg (by simp)]
            have HGV : Hid (Given w4 W vc4 vf4 cb (co + pos c m) [(kk : Int), c (pos c m + 1)]) := given_code hR4 (by
              intro j x hx
              match j, hx with
              | 0, hx => simp at hx; rw [← hx]; exact hck4
              | 1, hx => simp at hx; rw [← hx]; exact (HP4.out.code.cell (pos c m + 1) (by omega))
              | j + 2, hx => simp at hx) (by omega)
            have HR4 : Hid (WR (W + 1) W w4 vc4 vf4 cs3 fs3) := hR4
            rw [hsz2] at h2 HS hN2
            have hi5 : (pos c m : Int) + 2 ≤ (cap : Int) := by omega
            have hi6 : (pos c m : Int) ≤ (pos c m : Int) + 2 := by omega
            clear hR4
            go_wp2_with (go_at_call 143; refine (leads_any _ _).mono ?_; rintro e w' ⟨rfl, rfl⟩)
            refine (bring_any (W + 1) W _ vc4 vf4 cs3 fs3 cb (co + pos c m) 2 _ [(kk : Int), c (pos c m + 1)] (pos c m) (by omega) HR4.out rfl HGV.out (by omega) (by omega) (by omega)).mono ?_
            rintro e w6 ⟨rfl, hR6, K6⟩
            have HP6 : Hid (PW w w2 cb co L cap N c W w6 (pcode c N (pos c (m + 1))) (pfrom c N (pos c (m + 1)))) := by
              show PW w w2 cb co L cap N c W w6 (pcode c N (pos c (m + 1))) (pfrom c N (pos c (m + 1)))
              rw [hN1.out, hN2.out, HX.out]
              exact HP4.out.next hW C hT K6 (by simpa using hR6)
            clear hR6 K6 HR4 HP4 HGV
            go_wp2
            go_roundw
            case rel => exact ⟨m + 1, by omega, by rw [HS.out]; simp, HP6.out⟩
            case measure => simp [intOf]; omega
          · have hsz1 : szOf kk = 1 := by have := (szOf_pos kk (by omega)).2.1; omega
            have hsh1 : shp (kk * 3) = 1 := by omega
            have HX : Hid (addC c N m = [(kk : Int)]) := by
              show addC c N m = _
              unfold addC
              rw [hszc, if_neg hsz2, hop]
            have HGV : Hid (Given w4 W vc4 vf4 cb (co + pos c m) [(kk : Int)]) := given_code hR4 (by
              intro j x hx
              match j, hx with
              | 0, hx => simp at hx; rw [← hx]; exact hck4
              | j + 1, hx => simp at hx) (by omega)
            have HR4 : Hid (WR (W + 1) W w4 vc4 vf4 cs3 fs3) := hR4
            rw [hsz1] at h2 HS hN2
            have hi5 : (pos c m : Int) + 1 ≤ (cap : Int) := by omega
            have hi6 : (pos c m : Int) ≤ (pos c m : Int) + 1 := by omega
            clear hR4
            go_wp2_with (go_at_call 143; refine (leads_any _ _).mono ?_; rintro e w' ⟨rfl, rfl⟩)
            refine (bring_any (W + 1) W _ vc4 vf4 cs3 fs3 cb (co + pos c m) 1 _ [(kk : Int)] (pos c m) (by omega) HR4.out rfl HGV.out (by omega) (by omega) (by omega)).mono ?_
            rintro e w6 ⟨rfl, hR6, K6⟩
            have HP6 : Hid (PW w w2 cb co L cap N c W w6 (pcode c N (pos c (m + 1))) (pfrom c N (pos c (m + 1)))) := by
              show PW w w2 cb co L cap N c W w6 (pcode c N (pos c (m + 1))) (pfrom c N (pos c (m + 1)))
              rw [hN1.out, hN2.out, HX.out]
              exact HP4.out.next hW C hT K6 (by simpa using hR6)
            clear hR6 K6 HR4 HP4 HGV
            go_wp2
            go_roundw
            case rel => exact ⟨m + 1, by omega, by rw [HS.out]; simp, HP6.out⟩
            case measure => simp [intOf]; omega
    · have e : m = N := by omega
      subst e
      rw [V.last] at hP ⊢
      obtain ⟨vc, vf, hR⟩ := hP.own
      have HP := hP.low
      have c0 := hR.c0
      have c1 := hR.c1
      have hLL : ¬ (L : Int) < (L : Int) := by omega
      have HR : Hid (WR (W + 1) W wr vc vf (pcode c m L) (pfrom c m L)) := hR
      clear hP hR
      go_wp2_with fail
      go_quiet (fail)
      go_wp2
      go_ret2
      exact ⟨W + 1, W, vc, vf, by omega, ⟨HR.out.c0, HR.out.c1, HR.out.thaw, HR.out.own1, HR.out.own2, HR.out.apart, HR.out.lt, HR.out.le⟩, rfl, ⟨HP.os, HP.tape, HP.output, HP.size, HP.block⟩⟩
end Go.Proofs.YtflenkppcclclaaGreatDoor

namespace Go.Proofs.YtflenkppcclclaaGreatDoor
open Go.RowKit

def lE : List Int := [2, 1, 97, 12, 15, 9, 19, 7, 0, 0]
def cE (i : Nat) : Int := lE.getD i 0
theorem vE : VP cE 10 7 where
  most := by decide
  one := by decide
  last := by decide
  op := by decide
  byte := by decide
  cell := by decide
  stop := by decide
  jump := by
    intro m hm
    match m, hm with
    | 0, _ | 1, _ | 2, _ | 4, _ | 5, _ | 6, _ => intro h; exact absurd h (by decide)
    | 3, _ => intro _; exact ⟨6, by decide, by decide⟩
    | m + 7, hm => omega

def entE : Nat → Int := entAt (bgn cE 7) 10
theorem cntE : cntB (bgn cE 7) 10 = 4 := by decide

theorem once {c ent : Nat → Int} {fuel : Int} {ρ : RS} {n n0 : Nat} (he : (after c ent fuel ρ n).σ.ended = true) (hN : ∀ m, m < n → (after c ent fuel ρ m).σ.ended = false)
    (he0 : (after c ent fuel ρ n0).σ.ended = true) (hN0 : ∀ m, m < n0 → (after c ent fuel ρ m).σ.ended = false) : n = n0 := by
  rcases Nat.lt_trichotomy n n0 with h | h | h
  · rw [hN0 n h] at he; cases he
  · exact h
  · rw [hN n0 h] at he0; cases he0

def rA (n : Nat) : RS := after cE entE 100 (ρ0 ⟨#[97]⟩) n
def rB (n : Nat) : RS := after cE entE 100 (ρ0 ⟨#[98]⟩) n
theorem rA_end : (rA 5).σ.ended = true := by kernel_rfl
theorem rA_not : ∀ m, m < 5 → (rA m).σ.ended = false := by
  intro m hm
  match m, hm with
  | 0, _ => exact (show (rA 0).σ.ended = false by kernel_rfl)
  | 1, _ => exact (show (rA 1).σ.ended = false by kernel_rfl)
  | 2, _ => exact (show (rA 2).σ.ended = false by kernel_rfl)
  | 3, _ => exact (show (rA 3).σ.ended = false by kernel_rfl)
  | 4, _ => exact (show (rA 4).σ.ended = false by kernel_rfl)
  | m + 5, hm => omega
theorem rA_kind : (rA 5).σ.kind = 1 := by kernel_rfl
theorem rA_fault : (rA 5).σ.fault = 23 := by kernel_rfl
theorem rA_place : (rA 5).σ.place = 6 := by kernel_rfl
theorem rA_steps : (rA 5).σ.steps = 5 := by kernel_rfl
theorem rA_out : (rA 5).σ.out = [] := by kernel_rfl
theorem rA_0 : classS ((rA 5).cnt 0) = 1 := by kernel_rfl
theorem rA_8 : classS ((rA 5).cnt 8) = 1 := by kernel_rfl
theorem rA_10 : classS ((rA 5).cnt 10) = 0 := by kernel_rfl
theorem rB_end : (rB 5).σ.ended = true := by kernel_rfl
theorem rB_not : ∀ m, m < 5 → (rB m).σ.ended = false := by
  intro m hm
  match m, hm with
  | 0, _ => exact (show (rB 0).σ.ended = false by kernel_rfl)
  | 1, _ => exact (show (rB 1).σ.ended = false by kernel_rfl)
  | 2, _ => exact (show (rB 2).σ.ended = false by kernel_rfl)
  | 3, _ => exact (show (rB 3).σ.ended = false by kernel_rfl)
  | 4, _ => exact (show (rB 4).σ.ended = false by kernel_rfl)
  | m + 5, hm => omega
theorem rB_kind : (rB 5).σ.kind = 0 := by kernel_rfl
theorem rB_fault : (rB 5).σ.fault = 0 := by kernel_rfl
theorem rB_place : (rB 5).σ.place = 9 := by kernel_rfl
theorem rB_steps : (rB 5).σ.steps = 5 := by kernel_rfl
theorem rB_out : (rB 5).σ.out = [] := by kernel_rfl
theorem rB_0 : classS ((rB 5).cnt 0) = 1 := by kernel_rfl
theorem rB_8 : classS ((rB 5).cnt 8) = 0 := by kernel_rfl
theorem rB_10 : classS ((rB 5).cnt 10) = 1 := by kernel_rfl
end Go.Proofs.YtflenkppcclclaaGreatDoor

namespace Go.Proofs.YtflenkppcclclaaGreatDoor
open Go.RowKit

theorem inv0 {c : Nat → Int} {L : Nat} {S : Nat → Prop} (hG : Good c L S) {input : ByteArray} {fuel : Int} (hin : input.size ≤ 24) (hf0 : 0 ≤ fuel) : Inv L S fuel (ρ0 input) :=
  ⟨Int.le_refl 0, by show (0 : Int) ≤ 300; omega, fun _ => hG.zero, by show 0 ≤ 32; omega, hin, by show 0 ≤ 16; omega, Int.le_refl 0, hf0, fun _ => Int.le_refl 0, Int.le_refl 0, by show (0 : Int) ≤ 256; omega⟩

theorem twin_after {c : Nat → Int} {L N : Nat} (V : VP c L N) {input : ByteArray} {fuel : Int} (hin : input.size ≤ 24) (hf0 : 0 ≤ fuel) :
    ∀ k, (∀ i, i < k → (after c (entAt (bgn c N) L) fuel (ρ0 input) i).σ.ended = false) →
      Inv L (fun p => ∃ m, m < N ∧ pos c m = p) fuel (after c (entAt (bgn c N) L) fuel (ρ0 input) k) ∧
      ∃ k', Twin c N (after c (entAt (bgn c N) L) fuel (ρ0 input) k) (after (pc c N L) (pent (pc c N L) (nOf c N N)) fuel (ρ0 input) k') ∧ ∀ i, i < k' → (after (pc c N L) (pent (pc c N L) (nOf c N N)) fuel (ρ0 input) i).σ.ended = false := by
  intro k
  induction k with
  | zero =>
    intro _
    exact ⟨inv0 V.good hin hf0, 0, ⟨rfl, rfl, rfl, rfl, rfl, rfl, rfl, rfl, rfl, rfl, fun _ => ⟨0, V.one, rfl, rfl⟩, fun h => by cases h⟩, fun i hi => by omega⟩
  | succ k ih =>
    intro h
    obtain ⟨hI, k', hT, hk'⟩ := ih (fun i hi => h i (by omega))
    have he := h k (by omega)
    have hI2 := (advS_inv V.good (fun p hp => ent_bounds (bgn c N) L p hp V.most) hI he).1
    refine ⟨hI2, ?_⟩
    have hfit : ∀ τ, τ = roundS c (entAt (bgn c N) L) fuel (after c (entAt (bgn c N) L) fuel (ρ0 input) k) → τ.σ.ended = false → ∃ t, t < N ∧ τ.σ.next = (pos c t : Int) := by
      intro τ hτ hne
      subst hτ
      obtain ⟨t, ht, e⟩ := hI2.start hne
      have := hI2.next0
      exact ⟨t, ht, by omega⟩
    have hlast : (after (pc c N L) (pent (pc c N L) (nOf c N N)) fuel (ρ0 input) k').σ.ended = false := hT.ended.trans he
    rcases twin_round V hT he hfit with h1 | ⟨h0, h1⟩
    · refine ⟨k' + 1, h1, fun i hi => ?_⟩
      by_cases e : i = k'
      · subst e; exact hlast
      · exact hk' i (by omega)
    · refine ⟨k' + 2, h1, fun i hi => ?_⟩
      by_cases e : i = k'
      · subst e; exact hlast
      · by_cases e2 : i = k' + 1
        · subst e2; exact h0
        · exact hk' i (by omega)

theorem twin_end {c : Nat → Int} {L N : Nat} (V : VP c L N) {input : ByteArray} {fuel : Int} (hin : input.size ≤ 24) (hf0 : 0 ≤ fuel) {n n' : Nat}
    (h1 : (after c (entAt (bgn c N) L) fuel (ρ0 input) n).σ.ended = true) (h2 : ∀ i, i < n → (after c (entAt (bgn c N) L) fuel (ρ0 input) i).σ.ended = false)
    (h3 : (after (pc c N L) (pent (pc c N L) (nOf c N N)) fuel (ρ0 input) n').σ.ended = true) (h4 : ∀ i, i < n' → (after (pc c N L) (pent (pc c N L) (nOf c N N)) fuel (ρ0 input) i).σ.ended = false) :
    Twin c N (after c (entAt (bgn c N) L) fuel (ρ0 input) n) (after (pc c N L) (pent (pc c N L) (nOf c N N)) fuel (ρ0 input) n') := by
  obtain ⟨_, k', hT, hk'⟩ := twin_after V hin hf0 n h2
  have := once h3 h4 (hT.ended.trans h1) hk'
  subst this
  exact hT

/-- The probed code can be run, and its entries are its Probes. -/
theorem VP.canP {c : Nat → Int} {L N : Nat} (V : VP c L N) : ¬ CanIs (pc c N L) (qOf (bgn c N) L) false := by
  have F := V.fineP
  have hF : FlawIs (pc c N L) (qOf (bgn c N) L) 240 20 0 false := Or.inr ⟨F.sp.most, nOf c N N, F.sp, Or.inr ⟨F.last, Or.inr ⟨F.well, Or.inl ⟨rfl, rfl, F.led⟩⟩⟩⟩
  rintro (h | ⟨r, _, h | ⟨_, ⟨r2, h⟩ | ⟨M, F2, h⟩⟩⟩)
  · cases h.1
  · cases h.1
  · have := (hF.same h).2; cases this
  · have := F.sp.same F.last F2.sp (Or.inl F2.last)
    subst this
    rw [V.probeP] at h; cases h
theorem VP.entsP {c : Nat → Int} {L N : Nat} (V : VP c L N) {ent : Nat → Int} (h : EntIs (pc c N L) (qOf (bgn c N) L) ent) : ent = pent (pc c N L) (nOf c N N) := by
  rcases h with ⟨M, _, F, _⟩ | ⟨M, r, _, F, _, rfl⟩
  · have h1 := F.sp.op 0 F.one
    have h2 : pc c N L (pos (pc c N L) 0) = 20 := (pc_q c N (V.lt V.one) V.first).1
    rw [h2] at h1
    omega
  · have := V.fineP.sp.same V.fineP.last F.sp (Or.inl F.last)
    subst this
    rfl
end Go.Proofs.YtflenkppcclclaaGreatDoor

namespace Go.Proofs.YtflenkppcclclaaGreatDoor
open Go.RowKit

theorem own_at {w : World} {base : Nat} {e : TypeId} {v : Value} {N : Nat} {xs : List Value} (h : w.ownsRow base e 1 v N xs) (hN : 0 < N) :
    ∃ g cap, v = .slice (some ⟨g, 0, none⟩) N cap ∧ base ≤ g ∧ N ≤ cap ∧ cap ≤ maxLen ∧ ∀ (i : Nat) (u : Value), xs[i]? = some u → w.cell? ⟨g, i, none⟩ = some u := by
  rcases h.2 with ⟨_, h0⟩ | ⟨g, cap, cur, hv, hb, hh, hle, hcap, hcs, htake⟩
  · omega
  · refine ⟨g, cap, hv, hb, hle, hcap, fun i u hx => ?_⟩
    rw [cell_of_row w g _ _ _ _ hh]
    have hi : i < N := by
      have h1 := (List.getElem?_eq_some_iff.1 hx).1
      have h2 := h.1
      omega
    have h2 : (cur.toList.take (N * 1))[i]? = some u := by rw [htake]; exact hx
    rw [List.getElem?_take, if_pos (by omega)] at h2
    simpa using h2

theorem xProbe_any (w : World) (cb co L cap N : Nat) (c : Nat → Int) (V : VP c L N) (C : Laid w cb co L cap c) (hT : Tab w) :
    Calls Tryz.prog 102 #[.slice (some ⟨cb, co, none⟩) L cap] w fun e w' => ∃ base W vc vf, w.heap.size ≤ W ∧ WR base W w' vc vf (pcode c N L) (pfrom c N L) ∧ e = .returned (.tuple #[vc, vf, .int .i64 0]) ∧ Below w.heap.size w w' := by
  go_enter Tryz.func102, Tryz.ntmps102
  go_wp2_with fail
  refine (pCheck_any w cb co L cap N c V C hT).mono ?_
  rintro e w1 ⟨rfl, B1⟩
  go_wp2_with fail
  refine (withProbes_any w1 cb co L cap N c V (C.below B1) (hT.below B1)).mono ?_
  rintro e w2 ⟨base, W, vc, vf, hW, hR, rfl, B2⟩
  have HR : Hid (WR base W w2 vc vf (pcode c N L) (pfrom c N L)) := hR
  clear hR
  go_wp2_with fail
  refine bodyPost_ret (v := .tuple #[vc, vf, .int .i64 0]) (by simp [results, Tryz.results102, go_sem]) rfl ?_
  exact ⟨base, W, vc, vf, by have := B1.size; omega, HR.out, rfl, B1.trans (B2.mono B1.size)⟩

theorem xProbe_bad (w : World) (v : Value) (L : Nat) (c : Nat → Int) (hby : ∀ i, i < L → 0 ≤ c i ∧ c i ≤ 255) (C : Coded w v L c) (hT : Tab w) (hbad : ¬ ∃ N, VP c L N) :
    Calls Tryz.prog 102 #[v] w fun e w' => e = .returned (.tuple #[.slice none 0 0, .slice none 0 0, .int .i64 1]) ∧ Below w.heap.size w w' := by
  go_enter Tryz.func102, Tryz.ntmps102
  go_wp2_with fail
  refine (pCheck_gen w v L c hby C hT).mono ?_
  rintro e w1 ⟨n, b, hC, rfl, B1⟩
  cases b with
  | true =>
    rcases hC with ⟨h, _⟩ | ⟨_, hL, N, F, _⟩
    · cases h
    · exact absurd ⟨N, F.vp hL⟩ hbad
  | false =>
    go_wp2_with fail
    refine bodyPost_ret (v := .tuple #[.slice none 0 0, .slice none 0 0, .int .i64 1]) (by simp [results, Tryz.results102, go_sem]) rfl ?_
    exact ⟨rfl, B1⟩

/-- Two rows, as they come out: the probed code, and the places. -/
structure Two (w : World) (B g1 cap1 g2 cap2 Q : Nat) (d f : Nat → Int) : Prop where
  code : Laid w g1 0 Q cap1 d
  from' : ∀ i, i < Q → w.cell? ⟨g2, i, none⟩ = some (.int .i64 (f i))
  b1 : B ≤ g1
  b2 : B ≤ g2
  ne : g1 ≠ g2
  room : Q ≤ cap2
  lt : g2 < w.heap.size
theorem WR.two {base W B : Nat} {w : World} {vc vf : Value} {c : Nat → Int} {N L : Nat} (h : WR base W w vc vf (pcode c N L) (pfrom c N L)) (hB : B ≤ W) (hQ : 0 < qOf (bgn c N) L) :
    ∃ g1 cap1 g2 cap2, vc = .slice (some ⟨g1, 0, none⟩) (qOf (bgn c N) L) cap1 ∧ vf = .slice (some ⟨g2, 0, none⟩) (qOf (bgn c N) L) cap2 ∧ Two w B g1 cap1 g2 cap2 (qOf (bgn c N) L) (pc c N L) (pf c N L) := by
  have h1 := h.own1
  have h2 := h.own2
  rw [pcode_len] at h1
  rw [pfrom_len] at h2
  obtain ⟨g1, cap1, e1, b1, r1, m1, c1⟩ := own_at h1 hQ
  obtain ⟨g2, cap2, e2, b2, r2, m2, c2⟩ := own_at h2 hQ
  have hlt := h.lt
  have hcell : ∀ i, i < qOf (bgn c N) L → w.cell? ⟨g2, i, none⟩ = some (.int .i64 (pf c N L i)) := fun i hi => c2 i _ (by
      rw [← pfrom_len c N L] at hi
      rw [List.getElem?_map, List.getElem?_eq_getElem hi]
      unfold pf
      rw [List.getD_eq_getElem?_getD, List.getElem?_eq_getElem hi]; rfl)
  refine ⟨g1, cap1, g2, cap2, e1, e2, ⟨fun i hi => ?_, r1, m1, hQ⟩, hcell, by omega, by omega, ?_, r2, block_lt_of_cell (hcell 0 hQ)⟩
  · rw [Nat.zero_add]
    refine c1 i _ ?_
    rw [← pcode_len c N L] at hi
    rw [List.getElem?_map, List.getElem?_eq_getElem hi]
    unfold pc
    rw [List.getD_eq_getElem?_getD, List.getElem?_eq_getElem hi]; rfl
  · have := h.apart
    rw [e1, e2] at this
    rcases this with h | h
    · cases h
    · intro e; exact h (by rw [e]; rfl)
theorem VP.qPos {c : Nat → Int} {L N : Nat} (V : VP c L N) : 0 < qOf (bgn c N) L := by
  have := V.lt V.one
  unfold qOf
  have : pos c 0 = 0 := rfl
  omega
end Go.Proofs.YtflenkppcclclaaGreatDoor

namespace Go.Proofs.YtflenkppcclclaaGreatDoor
open Go.RowKit

/-- What a Probe answers: bytes, places, and a number; in new memory. -/
def ProbeAns (cs fs : List Int) (k : Int) (w : World) (e : Ending) (w' : World) : Prop :=
  ∃ base vc vf, w.heap.size ≤ base ∧ TR base w' vc vf cs fs ∧ e = .returned (.tuple #[vc, vf, .int .i64 k]) ∧ Below w.heap.size w w'

theorem WR.tr {base W : Nat} {w : World} {vc vf : Value} {cs fs : List Int} (h : WR base W w vc vf cs fs) : TR base w vc vf cs fs := ⟨h.own1, h.own2, h.apart, h.le⟩

theorem VP.fine0 {c : Nat → Int} {L N : Nat} (V : VP c L N) : Fine c L N 19 where
  sp := ⟨by have := V.most; omega, by omega, V.byte, fun m hm => V.op m hm, fun m hm => V.fits hm, V.cell⟩
  last := V.last
  well := by
    unfold wellAt
    rw [if_neg (by have := V.one; omega)]
    exact V.stop
  led := by
    intro m hm
    unfold badT
    cases hl : leadsB (c (pos c m)) with
    | false => rfl
    | true =>
      obtain ⟨t, ht, e⟩ := V.jump m hm hl
      have : started c N (c (pos c m + 1)).toNat = true := by
        unfold started
        rw [List.any_eq_true]
        exact ⟨t, List.mem_range.2 ht, by rw [← e]; simp⟩
      rw [this]; rfl

/-- The program's Probe and the document's answer alike. -/
theorem probe_same (L : Nat) (c : Nat → Int) (hby : ∀ i, i < L → 0 ≤ c i ∧ c i ≤ 255) :
    ∃ cs fs k, cs.length ≤ 240 ∧ fs.length ≤ 240 ∧ (∀ w v, Coded w v L c → Tab w → Calls Tryz.prog 102 #[v] w (ProbeAns cs fs k w)) ∧ (∀ w v, Coded w v L c → Calls Tryz.prog 97 #[v] w (ProbeAns cs fs k w)) := by
  by_cases hV : ∃ N, VP c L N
  · obtain ⟨N, V⟩ := hV
    have hL0 : 0 < L := by have := V.lt V.one; omega
    have hq := V.pLen'
    refine ⟨pcode c N L, pfrom c N L, 0, by rw [pcode_len]; exact hq, by rw [pfrom_len]; exact hq, ?_, ?_⟩
    · intro w v C hT
      cases C with
      | bare p cap hv hL => omega
      | full cb co cap hv C =>
        subst hv
        refine (xProbe_any w cb co L cap N c V C hT).mono ?_
        rintro e w' ⟨base, W, vc, vf, h1, h2, h3, h4⟩
        exact ⟨base, vc, vf, by have := h2.lt; omega, h2.tr, h3, h4⟩
    · intro w v C
      cases C with
      | bare p cap hv hL => omega
      | full cb co cap hv C =>
        subst hv
        exact (rProbe_any w cb co L cap N c V.fine0 V.most hby C).mono fun e w' h => h
  · refine ⟨[], [], 1, by simp, by simp, ?_, ?_⟩
    · intro w v C hT
      refine (xProbe_bad w v L c hby C hT hV).mono ?_
      rintro e w' ⟨rfl, hB⟩
      exact ⟨w.heap.size, _, _, Nat.le_refl _, ⟨World.ownsRow_nil _ _ _ _, World.ownsRow_nil _ _ _ _, Or.inl rfl, hB.size⟩, rfl, hB⟩
    · intro w v C
      refine (rProbe_bad w v L c hby C hV).mono ?_
      rintro e w' ⟨rfl, hB⟩
      exact ⟨w.heap.size, _, _, Nat.le_refl _, ⟨World.ownsRow_nil _ _ _ _, World.ownsRow_nil _ _ _ _, Or.inl rfl, hB.size⟩, rfl, hB⟩
end Go.Proofs.YtflenkppcclclaaGreatDoor

