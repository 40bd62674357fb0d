import Derived.Test.YtflenkppcclclaaGreatDoorM37
namespace Go.Proofs.YtflenkppcclclaaGreatDoor
open Go.RowKit

/-! What was seen. -/
def rowL (f : Nat → Nat) : List Value := (List.range 64).map fun i => .int .u8 ((f i : Nat) : Int)
theorem rowL_len (f : Nat → Nat) : (rowL f).length = 64 := by simp [rowL]
theorem rowL_get (f : Nat → Nat) (j : Nat) (hj : j < 64) : (rowL f)[j]? = some (.int .u8 ((f j : Nat) : Int)) := by simp [rowL, List.getElem?_range hj]
theorem rowL_set (f f' : Nat → Nat) (k : Nat) (hk : k < 64) (h : ∀ j, j < 64 → f' j = if j = k then f' k else f j) : (rowL f).set k (.int .u8 ((f' k : Nat) : Int)) = rowL f' := by
  apply List.ext_getElem?
  intro j
  by_cases hj : j < 64
  · rw [List.getElem?_set]
    by_cases e : k = j
    · subst e; rw [if_pos rfl, if_pos (by rw [rowL_len]; exact hk), rowL_get _ _ hk]
    · rw [if_neg e, rowL_get _ _ hj, rowL_get _ _ hj, h j hj, if_neg (fun c => e c.symm)]
  · rw [List.getElem?_eq_none (by simp [rowL_len]; omega), List.getElem?_eq_none (by rw [rowL_len]; omega)]
theorem zero64_row : zero64 = (rowL fun _ => 0).toArray := by unfold zero64 covL rowL; simp
theorem rowL_congr {f f' : Nat → Nat} (h : ∀ j, j < 64 → f j = f' j) : rowL f = rowL f' := by
  unfold rowL
  apply List.map_congr_left
  intro j hj
  rw [h j (List.mem_range.1 hj)]
theorem field_cover (t : ByteArray) (gn : Nat) (w : World) : (Instr.field 122 (.agg #[.string t, .slice (some ⟨gn, 0, none⟩) 64 64]) 1).run Tryz.prog w = .ok (.slice (some ⟨gn, 0, none⟩) 64 64) w := by kernel_rfl
theorem seen_take (l : List Inp) (n p : Nat) (hn : n < l.length) : seenN (l.take (n + 1)) p = seenN (l.take n) p ||| ((l.getD n in0).cov p).toNat := by
  rw [List.take_succ_eq_append_getElem hn, seen_snoc, List.getD_eq_getElem?_getD, List.getElem?_eq_getElem hn, Option.getD_some]
set_option maxHeartbeats 2000000 in
set_option maxRecDepth 100000 in
theorem seen_any (w : World) (H : Nat) (v : Value) (G : Nat → Nat) (l : List Inp) (K : KH w H v G l) :
    Calls Tryz.prog 39 #[.pointer (some ⟨H, 0, none⟩)] w fun e w' => e = .returned (.slice (some ⟨w.heap.size, 0, none⟩) 64 64) ∧ w'.heap[w.heap.size]? = some (.cells (rowL (seenN l)).toArray 5 (0, 0)) ∧ Below w.heap.size w w' := by
  have hH := K.lt
  have hmk := make64
  have hfc := field_cover
  have B0 : Below w.heap.size w (w.alloc (.cells zero64 5)) := (Below.refl _ _).alloc (Nat.le_refl _) _
  have HK : Hid (∀ W, Below w.heap.size w W → KH W H v G l) := fun W b => K.below b
  have HLE : Hid (Calls Tryz.prog 68 #[.pointer (some ⟨H, 7, none⟩)] (w.alloc (.cells zero64 5)) fun e w' => e = .returned (.int .i64 (l.length : Nat)) ∧ w' = (w.alloc (.cells zero64 5))) := liLen_any _ H v G l (K.below B0).c7 (K.below B0).row
  have HA : Hid (∀ W n, Below w.heap.size w W → n < l.length → Calls Tryz.prog 69 #[.pointer (some ⟨H, 7, none⟩), .int .i64 (n : Nat)] W fun e w' => e = .returned (.agg #[.string (l.getD n in0).text, .slice (some ⟨G n, 0, none⟩) 64 64]) ∧ Below W.heap.size W w') := fun W n b hn => liAt_any W H v G l (K.below b).c7 (K.below b).row n hn
  have HCV : Hid (∀ W n q, Below w.heap.size w W → n < l.length → q < 64 → W.cell? ⟨G n, q, none⟩ = some (.int .u8 ((l.getD n in0).cov q)) ∧ G n < w.heap.size) := fun W n q b hn hq => ⟨(K.below b).row.covs.cell n hn q hq, K.row.covs.lt n hn⟩
  have HOR : Hid (∀ n q, n < l.length → bits .or .u8 ((seenN (l.take n) q : Nat) : Int) ((l.getD n in0).cov q) = ((seenN (l.take (n + 1)) q : Nat) : Int)) := fun n q hn => by
    have hc := K.clsAt hn q
    have hb := hc.bd
    obtain ⟨m, hm⟩ : ∃ m : Nat, (l.getD n in0).cov q = m := ⟨((l.getD n in0).cov q).toNat, by omega⟩
    rw [seen_take l n q hn, hm, Int.toNat_natCast]
    exact bits_or_u8_nat _ _ (seen_lt _ _ (fun k hk => K.cls k (List.mem_of_mem_take hk) q)) (by omega)
  have HLN : Hid (l.length ≤ 9223372036854775807) := by obtain ⟨_, _, _, hn⟩ := K.row.head; exact hn
  have hln := HLN.out
  generalize hN : l.length = N at *
  have HN : Hid (l.length = N) := hN
  clear K hN HLN
  go_enter Tryz.func39, Tryz.ntmps39
  go_wp2_with fail
  refine HLE.out.mono ?_
  rintro e w1 ⟨rfl, hw⟩
  obtain rfl := hw
  clear HLE
  go_wp2_with fail
  go_loopw [4, 5, 6, 12] (fun _ _ _ i wr => ∃ n : Nat, n ≤ N ∧ i = .int .i64 n ∧ wr.heap[w.heap.size]? = some (.cells (rowL (seenN (l.take n))).toArray 5 (0, 0)) ∧ Below w.heap.size w wr) (fun _ _ _ i _ => N - (intOf i).toNat)
  case atStart => exact ⟨0, by omega, rfl, by rw [heap_alloc_new, zero64_row]; rfl, B0⟩
  case round =>
    obtain ⟨n, hn, rfl, hrow, BB⟩ := hrel
    by_cases hlt : n < N
    · have hi1 : (n : Int) < (N : Int) := by omega
      have H1 : Hid (Calls Tryz.prog 69 #[.pointer (some ⟨H, 7, none⟩), .int .i64 (n : Nat)] wr fun e w' => e = .returned (.agg #[.string (l.getD n in0).text, .slice (some ⟨G n, 0, none⟩) 64 64]) ∧ Below wr.heap.size wr w') := HA.out wr n BB hlt
      have HB : Hid (Below w.heap.size w wr ∧ wr.heap[w.heap.size]? = some (.cells (rowL (seenN (l.take n))).toArray 5 (0, 0))) := ⟨BB, hrow⟩
      have HLT : Hid (n < N) := hlt
      clear BB hrow hmk
      generalize (l.getD n in0).text = tx at H1
      go_wp2_with fail
      refine H1.out.mono ?_
      rintro e w2 ⟨rfl, B2⟩
      have hlr : w.heap.size < wr.heap.size := (Array.getElem?_eq_some_iff.1 HB.out.2).1
      have HR2 : Hid (Below w.heap.size w w2 ∧ w2.heap[w.heap.size]? = some (.cells (rowL (seenN (l.take n))).toArray 5 (0, 0))) := ⟨HB.out.1.trans (B2.mono HB.out.1.size), (B2.block _ hlr).trans HB.out.2⟩
      clear B2 H1 HB
      go_wp2_with fail
      go_loopw [5, 6, 22] (fun _ _ i wx => ∃ q : Nat, q ≤ 64 ∧ i = .int .i64 q ∧ wx.heap[w.heap.size]? = some (.cells (rowL (fun j => if j < q then seenN (l.take (n + 1)) j else seenN (l.take n) j)).toArray 5 (0, 0)) ∧ Below w.heap.size w wx) (fun _ _ i _ => 64 - (intOf i).toNat)
      case atStart => exact ⟨0, by omega, rfl, HR2.out.2, HR2.out.1⟩
      case round =>
        obtain ⟨q, hq, rfl, hrow, BB⟩ := hrel
        by_cases hlq : q < 64
        · have hj1 : (q : Int) < 64 := by omega
          obtain ⟨cc, hgl⟩ := HCV.out wr n q BB HLT.out hlq
          have hor := HOR.out n q (by have := HN.out; have := HLT.out; omega)
          have c1 : wr.cell? ⟨w.heap.size, q, none⟩ = some (.int .u8 ((seenN (l.take n) q : Nat) : Int)) := by
            rw [cell_of_row wr w.heap.size q _ _ _ hrow, List.getElem?_toArray, rowL_get _ _ hlq, if_neg (by omega)]
          have f1 := frozen_of_row wr w.heap.size q _ _ hrow
          have HR3 : Hid ((wr.setCell ⟨w.heap.size, q, none⟩ (.int .u8 ((seenN (l.take (n + 1)) q : Nat) : Int))).heap[w.heap.size]? = some (.cells (rowL (fun j => if j < q + 1 then seenN (l.take (n + 1)) j else seenN (l.take n) j)).toArray 5 (0, 0)) ∧ Below w.heap.size w (wr.setCell ⟨w.heap.size, q, none⟩ (.int .u8 ((seenN (l.take (n + 1)) q : Nat) : Int)))) := by
            refine ⟨?_, BB.setCell (p := ⟨w.heap.size, q, none⟩) (Nat.le_refl _) _⟩
            rw [heap_setCell_same wr w.heap.size q _ _ _ hrow]
            have := rowL_set (fun j => if j < q then seenN (l.take (n + 1)) j else seenN (l.take n) j) (fun j => if j < q + 1 then seenN (l.take (n + 1)) j else seenN (l.take n) j) q hlq (fun j _ => by
              by_cases e : j = q
              · subst e; rw [if_pos rfl]
              · rw [if_neg e]
                by_cases c : j < q
                · simp [c, show j < q + 1 by omega]
                · simp [c, show ¬ j < q + 1 by omega])
            rw [← this]
            simp
          have hsl : w.heap.size < wr.heap.size := (Array.getElem?_eq_some_iff.1 hrow).1
          have hgl' : G n < wr.heap.size := by have := BB.size; omega
          have hgn : G n ≠ w.heap.size := by omega
          clear hrow BB
          generalize (l.getD n in0).cov q = cv at cc hor
          generalize seenN (l.take (n + 1)) q = s2 at hor HR3
          generalize seenN (l.take n) q = s1 at hor c1
          generalize G n = gn at *
          go_wp2_with fail
          go_roundw
          case rel => exact ⟨q + 1, by omega, by go_num, HR3.out.1, HR3.out.2⟩
          case measure => simp [intOf]; omega
        · have hj1 : ¬ (q : Int) < 64 := by omega
          have HR3 : Hid (wr.heap[w.heap.size]? = some (.cells (rowL (seenN (l.take (n + 1)))).toArray 5 (0, 0)) ∧ Below w.heap.size w wr) := by
            refine ⟨?_, BB⟩
            rw [hrow, rowL_congr (f' := seenN (l.take (n + 1))) (fun j hj => by show (if j < q then _ else _) = _; rw [if_pos (by omega)])]
          clear hrow BB
          have hlt := HLT.out
          go_wp2_with fail
          go_roundw
          case rel => exact ⟨n + 1, by omega, by go_num, HR3.out.1, HR3.out.2⟩
          case measure => simp [intOf]; omega
    · have hi1 : ¬ (n : Int) < (N : Int) := by omega
      have HF : Hid (wr.heap[w.heap.size]? = some (.cells (rowL (seenN l)).toArray 5 (0, 0)) ∧ Below w.heap.size w wr) := by
        have e : l.take n = l := List.take_of_length_le (by have := HN.out; omega)
        rw [e] at hrow
        exact ⟨hrow, BB⟩
      clear hrow BB
      go_wp2_with fail
      go_ret
      exact ⟨rfl, HF.out⟩
end Go.Proofs.YtflenkppcclclaaGreatDoor

namespace Go.Proofs.YtflenkppcclclaaGreatDoor
open Go.RowKit

/-! What is kept, what was found. -/
theorem infoStr : (Tryz.prog.info? 9).map (fun i => (i.zero, i.size, i.bytes)) = some (some (.string ⟨#[]⟩), 1, 16) := by kernel_rfl
theorem madeStr (w : World) (n : Nat) (hn : n ≤ 1000) :
    ∃ w1, (Instr.makeSlice 26 (.int .i64 (n : Int)) (.int .i64 (n : Int))).run Tryz.prog w = .ok (.slice (some ⟨w.heap.size, 0, none⟩) n n) w1 ∧ w1.heap[w.heap.size]? = some (.cells (List.replicate n (Value.string ⟨#[]⟩)).toArray 9 (0, 0)) ∧ Below w.heap.size w w1 := by
  obtain ⟨i, hi, hz0, hz1, hz2⟩ := info_of infoStr
  obtain ⟨w1, hr, ho, hg⟩ := run_make_full (P := Tryz.prog) w w.heap.size 26 9 i _ 1 Tryz.underlying26 hi hz0 hz1 .i64 .i64 n (by rw [hz2]; omega) (by unfold maxLen; omega) (Nat.le_refl _)
  refine ⟨w1, hr, ?_, (Below.refl _ _).grown hg (Nat.le_refl _) (fun k hk => by cases hk)⟩
  rcases ho.2 with ⟨h, _⟩ | ⟨g, cap, cur, h, _, hh, _, _, hcs, htake⟩
  · simp at h
  · simp only [Value.slice.injEq, Option.some.injEq, Addr.mk.injEq, and_true, true_and] at h
    obtain ⟨rfl, rfl⟩ := h
    rw [hh]
    rw [Nat.mul_one, show (Value.string ⟨#[]⟩).cells = #[Value.string ⟨#[]⟩] from rfl, toList_madeCells_one, List.take_of_length_le (by rw [Array.length_toList]; omega)] at htake
    rw [← htake]
def txtL (N : Nat) (f : Nat → ByteArray) : List Value := (List.range N).map fun i => .string (f i)
theorem txtL_len (N : Nat) (f : Nat → ByteArray) : (txtL N f).length = N := by simp [txtL]
theorem txtL_get (N : Nat) (f : Nat → ByteArray) (j : Nat) (hj : j < N) : (txtL N f)[j]? = some (.string (f j)) := by simp [txtL, List.getElem?_range hj]
theorem txtL_set (N : Nat) (f f' : Nat → ByteArray) (k : Nat) (t : ByteArray) (h : ∀ j, j < N → f' j = if j = k then t else f j) : (txtL N f).set k (.string t) = txtL N f' := by
  apply List.ext_getElem?
  intro j
  by_cases hj : j < N
  · rw [List.getElem?_set, txtL_get N f' j hj, h j hj]
    by_cases e : k = j
    · subst e; rw [if_pos rfl, if_pos (by rw [txtL_len]; exact hj), if_pos rfl]
    · rw [if_neg e, txtL_get N f j hj, if_neg (fun c => e c.symm)]
  · rw [List.getElem?_eq_none (by simp [txtL_len]; omega), List.getElem?_eq_none (by rw [txtL_len]; omega)]
theorem txtL_none (N : Nat) : List.replicate N (Value.string ⟨#[]⟩) = txtL N (fun _ => ⟨#[]⟩) := by
  apply List.ext_getElem?
  intro j
  by_cases hj : j < N
  · rw [txtL_get N _ j hj, List.getElem?_replicate, if_pos hj]
  · rw [List.getElem?_eq_none (by simp; omega), List.getElem?_eq_none (by rw [txtL_len]; omega)]
def upTo (n : Nat) (f : Nat → ByteArray) : Nat → ByteArray := fun j => if j < n then f j else ⟨#[]⟩
set_option maxHeartbeats 2000000 in
set_option maxRecDepth 100000 in
theorem hKept_any (w : World) (H : Nat) (v : Value) (G : Nat → Nat) (l : List Inp) (K : KH w H v G l) (hl : l.length ≤ 1000) :
    Calls Tryz.prog 34 #[.pointer (some ⟨H, 0, none⟩)] w fun e w' => e = .returned (.slice (some ⟨w.heap.size, 0, none⟩) l.length l.length) ∧ w'.heap[w.heap.size]? = some (.cells (txtL l.length (fun j => (l.getD j in0).text)).toArray 9 (0, 0)) ∧ Below w.heap.size w w' := by
  have hH := K.lt
  have hft := field_text
  obtain ⟨w0, hmk, hh0, B0⟩ := madeStr w l.length hl
  rw [txtL_none] at hh0
  have HLE : Hid (Calls Tryz.prog 68 #[.pointer (some ⟨H, 7, none⟩)] w fun e w' => e = .returned (.int .i64 (l.length : Nat)) ∧ w' = w) := liLen_any _ H v G l K.c7 K.row
  have HA : Hid (∀ W n, Below w.heap.size w W → n < l.length → Calls Tryz.prog 69 #[.pointer (some ⟨H, 7, none⟩), .int .i64 (n : Nat)] W fun e w' => e = .returned (.agg #[.string (l.getD n in0).text, .slice (some ⟨G n, 0, none⟩) 64 64]) ∧ Below W.heap.size W w') := fun W n b hn => liAt_any W H v G l (K.below b).c7 (K.below b).row n hn
  have HH0 : Hid (w0.heap[w.heap.size]? = some (.cells (txtL l.length (fun _ => ⟨#[]⟩)).toArray 9 (0, 0)) ∧ Below w.heap.size w w0) := ⟨hh0, B0⟩
  clear hh0 B0
  obtain ⟨T, hTT⟩ : ∃ T : Nat → ByteArray, (fun j => (l.getD j in0).text) = T := ⟨_, rfl⟩
  have HA' : Hid (∀ W n, Below w.heap.size w W → n < l.length → Calls Tryz.prog 69 #[.pointer (some ⟨H, 7, none⟩), .int .i64 (n : Nat)] W fun e w' => e = .returned (.agg #[.string (T n), .slice (some ⟨G n, 0, none⟩) 64 64]) ∧ Below W.heap.size W w') := by rw [← hTT]; exact HA
  rw [hTT]
  clear HA hTT
  generalize l.length = N at *
  clear K
  go_enter Tryz.func34, Tryz.ntmps34
  go_wp2_with fail
  refine HLE.out.mono ?_
  rintro e w1 ⟨rfl, hw⟩
  obtain rfl := hw.symm
  clear HLE
  go_wp2_with fail
  clear hmk
  go_loopw [4, 12] (fun _ i wr => ∃ n : Nat, n ≤ N ∧ i = .int .i64 n ∧ wr.heap[w.heap.size]? = some (.cells (txtL N (upTo n T)).toArray 9 (0, 0)) ∧ Below w.heap.size w wr) (fun _ i _ => N - (intOf i).toNat)
  case atStart => exact ⟨0, by omega, rfl, HH0.out.1, HH0.out.2⟩
  case round =>
    obtain ⟨n, hn, rfl, hrow, BB⟩ := hrel
    by_cases hlt : n < N
    · have hi1 : (n : Int) < (N : Int) := by omega
      have H1 : Hid (Calls Tryz.prog 69 #[.pointer (some ⟨H, 7, none⟩), .int .i64 (n : Nat)] wr fun e w' => e = .returned (.agg #[.string (T n), .slice (some ⟨G n, 0, none⟩) 64 64]) ∧ Below wr.heap.size wr w') := HA'.out wr n BB hlt
      have HB : Hid (Below w.heap.size w wr ∧ wr.heap[w.heap.size]? = some (.cells (txtL N (upTo n T)).toArray 9 (0, 0))) := ⟨BB, hrow⟩
      have HLT : Hid (n < N) := hlt
      clear BB hrow
      obtain ⟨tx, htx⟩ : ∃ tx, T n = tx := ⟨_, rfl⟩
      rw [htx] at H1
      have HTX : Hid (T n = tx) := htx
      clear htx
      go_wp2_with fail
      refine H1.out.mono ?_
      rintro e w2 ⟨rfl, B2⟩
      have hlr : w.heap.size < wr.heap.size := (Array.getElem?_eq_some_iff.1 HB.out.2).1
      have hr2 := (B2.block _ hlr).trans HB.out.2
      have bb2 := HB.out.1.trans (B2.mono HB.out.1.size)
      have c1 : ∃ u, w2.cell? ⟨w.heap.size, n, none⟩ = some u := ⟨_, (cell_of_row w2 w.heap.size n _ _ _ hr2).trans (by rw [List.getElem?_toArray]; exact txtL_get N _ n hlt)⟩
      obtain ⟨u1, c1⟩ := c1
      have f1 := frozen_of_row w2 w.heap.size n _ _ hr2
      have hl2 : w.heap.size < w2.heap.size := (Array.getElem?_eq_some_iff.1 hr2).1
      have HR2 : Hid ((w2.setCell ⟨w.heap.size, n, none⟩ (.string tx)).heap[w.heap.size]? = some (.cells (txtL N (upTo (n + 1) T)).toArray 9 (0, 0)) ∧ Below w.heap.size w (w2.setCell ⟨w.heap.size, n, none⟩ (.string tx))) := by
        refine ⟨row_set hr2 n _ ?_, bb2.setCell (p := ⟨w.heap.size, n, none⟩) (Nat.le_refl _) _⟩
        refine txtL_set N _ _ n tx fun j hj => ?_
        unfold upTo
        by_cases e : j = n
        · subst e; rw [if_pos rfl, if_pos (by omega)]; exact HTX.out
        · rw [if_neg e]
          by_cases c : j < n
          · rw [if_pos c, if_pos (by omega)]
          · rw [if_neg c, if_neg (by omega)]
      clear B2 H1 HB hr2 bb2
      generalize G n = gn at *
      go_wp2_with fail
      go_roundw
      case rel => exact ⟨n + 1, by have := HLT.out; omega, by go_num, HR2.out.1, HR2.out.2⟩
      case measure => have := HLT.out; simp [intOf]; omega
    · have hi1 : ¬ (n : Int) < (N : Int) := by omega
      have HR3 : Hid (wr.heap[w.heap.size]? = some (.cells (txtL N T).toArray 9 (0, 0)) ∧ Below w.heap.size w wr) := by
        refine ⟨?_, BB⟩
        rw [hrow]
        have : txtL N (upTo n T) = txtL N T := by
          unfold txtL
          apply List.map_congr_left
          intro j hj
          have := List.mem_range.1 hj
          unfold upTo
          rw [if_pos (by omega)]
        rw [this]
      clear hrow BB
      go_wp2_with fail
      go_ret
      exact ⟨rfl, HR3.out.1, HR3.out.2⟩
/-- Crashes in memory. -/
structure CL (w : World) (v : Value) (l : List Cr) : Prop where
  form : (v = .slice none 0 0 ∧ l = []) ∨ ∃ b cap, v = .slice (some ⟨b, 0, none⟩) l.length cap ∧ b < w.heap.size ∧ l.length ≤ 1000000 ∧ ∀ j u, (fcells l)[j]? = some u → w.cell? ⟨b, j, none⟩ = some u
theorem CL.below {w w' : World} {v : Value} {l : List Cr} (h : CL w v l) (b : Below w.heap.size w w') : CL w' v l := by
  refine ⟨?_⟩
  rcases h.form with c | ⟨b', cap, h1, h2, h3, h4⟩
  · exact Or.inl c
  · exact Or.inr ⟨b', cap, h1, Nat.lt_of_lt_of_le h2 b.size, h3, fun j u hj => (b.cell (p := ⟨b', j, none⟩) h2).trans (h4 j u hj)⟩
theorem fcells_len (l : List Cr) : (fcells l).length = l.length * 3 := by
  induction l with
  | nil => rfl
  | cons a l ih => unfold fcells at ih ⊢; simp [ih]; omega
theorem fcells_one (l : List Cr) : ∀ u ∈ fcells l, u.oneCell' = true := by
  intro u hu
  unfold fcells at hu
  simp at hu
  obtain ⟨c, _, rfl | rfl | rfl⟩ := hu <;> rfl
theorem eqCr : ∀ (w : World) (a : Option Addr) (n c n' c' : Nat), (binOp .eql 39 (.slice a n c) (.slice none n' c')).run Tryz.prog w = .ok (.bool a.isNone) w := fun w a n c n' c' => Lib.run_eql_slice_nil w _ _ a n c n' c' Tryz.underlying39
set_option maxHeartbeats 2000000 in
set_option maxRecDepth 100000 in
theorem clCr_core (w : World) (b cap n : Nat) (xs : List Value) (hxl : xs.length = n * 3) (hx1 : ∀ u ∈ xs, u.oneCell' = true) (hl : n ≤ 1000000) (hc : ∀ j u, xs[j]? = some u → w.cell? ⟨b, j, none⟩ = some u) :
    Calls Tryz.prog 134 #[.slice (some ⟨b, 0, none⟩) n cap] w fun e w' => (∃ v, e = .returned v ∧ w'.ownsRow w.heap.size 42 3 v n xs) ∧ Below w.heap.size w w' := by
  obtain ⟨i, hi, hz0, hz1, hz2⟩ := info_of infoCr
  have hq := eqCr
  have A : Hid (∀ j u, xs[j]? = some u → w.cell? ⟨b, j, none⟩ = some u) := hc
  have HX : Hid (xs.length = n * 3) := hxl
  have HL : Hid (n ≤ 1000000) := hl
  clear hc hxl hl
  go_enter Tryz.func134, Tryz.ntmps134
  go_wp2_with (at_builtin; refine wpList_append_own _ rfl _ _ 39 rfl w.heap.size 42 i _ 3 32 Tryz.underlying39 hi hz0 hz1 hz2 rfl (by decide) _ _ _ rfl (World.ownsRow_made w #[] 0 (Nat.le_refl _) (Nat.zero_le _) (by simp)) ⟨b, 0, none⟩ n cap xs rfl ?qc1 ?qc2 ?qc3 ?qc4 ?qc5 ?qc6 ?_)
  case qc1 => exact HX.out
  case qc2 =>
    intro j u hj
    rw [Addr.add_lit, Nat.zero_add]
    exact Lib.cell?_alloc_some _ (A.out j u hj)
  case qc3 => exact hx1
  case qc4 => rw [Nat.zero_add]; have := HL.out; unfold maxLen; omega
  case qc5 => rw [Nat.zero_add]; have := HL.out; omega
  case qc6 => simp
  intro v' w1 hown hgrow hnil
  go_wp2
  go_ret
  refine ⟨⟨v', rfl, by simpa using hown⟩, ?_⟩
  exact ((Below.refl _ w).alloc (Nat.le_refl _) _).grown hgrow (by simp) (by intro k hk; simp [Value.ownBlock] at hk; omega)
set_option maxHeartbeats 1000000 in
theorem clCr_nil (w : World) : Calls Tryz.prog 134 #[.slice none 0 0] w fun e w' => e = .returned (.slice none 0 0) ∧ w' = w := by
  have hq := eqCr
  go_enter Tryz.func134, Tryz.ntmps134
  go_wp2
  go_ret
  exact ⟨rfl, rfl⟩
theorem CL.of_own {w : World} {base : Nat} {v : Value} {l : List Cr} (h : w.ownsRow base 42 3 v l.length (fcells l)) (hl : l.length ≤ 1000000) : CL w v l := by
  refine ⟨?_⟩
  rcases own_form0 h with ⟨hv, hn⟩ | ⟨b, cap, hv, hb, hcap, hnc, hc⟩
  · exact Or.inl ⟨hv, List.eq_nil_of_length_eq_zero hn⟩
  · exact Or.inr ⟨b, cap, hv, hb, hl, fun j u hj => hc j u hj⟩
set_option maxHeartbeats 1000000 in
theorem hCrashes_any {w : World} {U : Nat → Prop} {d : HD} {g : PG} {h : HS} (p : HU w U d g h) (hl : h.found.length ≤ 1000000) :
    Calls Tryz.prog 38 #[.pointer (some ⟨d.H, 0, none⟩)] w fun e w' => (∃ v, e = .returned v ∧ CL w' v h.found) ∧ Below w.heap.size w w' := by
  have c : w.cell? ⟨d.H, 8, none⟩ = some d.vf := p.cell 8 (by omega)
  have HC : Hid (Calls Tryz.prog 134 #[d.vf] w fun e w' => ∃ v, (e = .returned v ∧ CL w' v h.found) ∧ Below w.heap.size w w') := by
    rcases own_form0 p.rf with ⟨hv, hn⟩ | ⟨b, cap, hv, hb, hcap, hnc, hc⟩
    · rw [hv]
      exact (clCr_nil w).mono fun e w' ⟨x, y⟩ => ⟨_, ⟨x, ⟨Or.inl ⟨rfl, List.eq_nil_of_length_eq_zero hn⟩⟩⟩, by rw [y]; exact Below.refl _ _⟩
    · rw [hv]
      exact (clCr_core w b cap h.found.length (fcells h.found) (fcells_len _) (fcells_one _) hl hc).mono fun e w' ⟨⟨v, x, y⟩, z⟩ => ⟨v, ⟨x, CL.of_own y hl⟩, z⟩
  have HA : Hid (Calls Tryz.prog 77 #[.pointer (some ⟨d.H, 8, none⟩)] w fun e w' => ∃ v, (e = .returned v ∧ CL w' v h.found) ∧ Below w.heap.size w w') := by
    generalize d.vf = vf at c HC
    clear p hl
    go_enter Tryz.func77, Tryz.ntmps77
    go_wp2_with fail
    refine HC.out.mono ?_
    rintro e w1 ⟨v1, ⟨rfl, hc1⟩, B1⟩
    have hf := hc1.form
    have HR : Hid (CL w1 v1 h.found ∧ Below w.heap.size w w1) := ⟨hc1, B1⟩
    clear hc1 B1 HC
    rcases hf with ⟨rfl, _⟩ | ⟨b', cap', rfl, _⟩
    · go_wp2_with fail
      go_ret
      exact ⟨_, ⟨rfl, HR.out.1⟩, HR.out.2⟩
    · go_wp2_with fail
      go_ret
      exact ⟨_, ⟨rfl, HR.out.1⟩, HR.out.2⟩
  clear p hl HC c
  go_enter Tryz.func38, Tryz.ntmps38
  go_wp2_with fail
  refine HA.out.mono ?_
  rintro e w1 ⟨v1, ⟨rfl, hc1⟩, B1⟩
  have hf := hc1.form
  have HR : Hid (CL w1 v1 h.found ∧ Below w.heap.size w w1) := ⟨hc1, B1⟩
  clear hc1 B1 HA
  rcases hf with ⟨rfl, _⟩ | ⟨b', cap', rfl, _⟩
  · go_wp2_with fail
    go_ret
    exact ⟨⟨_, rfl, HR.out.1⟩, HR.out.2⟩
  · go_wp2_with fail
    go_ret
    exact ⟨⟨_, rfl, HR.out.1⟩, HR.out.2⟩
end Go.Proofs.YtflenkppcclclaaGreatDoor

