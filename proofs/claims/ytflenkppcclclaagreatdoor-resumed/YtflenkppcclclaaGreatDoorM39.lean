import Derived.Test.YtflenkppcclclaaGreatDoorM38
namespace Go.Proofs.YtflenkppcclclaaGreatDoor
open Go.RowKit

/-! The lines of a log. -/
def digits : ByteArray := ⟨#[48, 49, 50, 51, 52, 53, 54, 55, 56, 57, 97, 98, 99, 100, 101, 102]⟩
theorem idx_str' (s : ByteArray) (q : Nat) (hq : q < s.size) (W : World) : (Instr.index 9 (.string s) (.int .i64 (q : Int))).run Tryz.prog W = .ok (.int .u8 ((nums s).getD q 0)) W := by
  rw [run_index_string W _ _ _ _ Tryz.underlying9, dif_pos ⟨by omega, by omega⟩, ← nums_get s q hq]
  rfl
theorem idx_dig (y : Int) (h0 : 0 ≤ y) (h1 : y ≤ 15) (W : World) : (Instr.index 9 (.string ⟨#[48, 49, 50, 51, 52, 53, 54, 55, 56, 57, 97, 98, 99, 100, 101, 102]⟩) (.int .u8 y)).run Tryz.prog W = .ok (.int .u8 (dig y)) W := by
  obtain ⟨q, rfl⟩ : ∃ q : Nat, y = q := ⟨y.toNat, by omega⟩
  have hq : q < 16 := by omega
  match q, hq with
  | 0, _ | 1, _ | 2, _ | 3, _ | 4, _ | 5, _ | 6, _ | 7, _ | 8, _ | 9, _ | 10, _ | 11, _ | 12, _ | 13, _ | 14, _ | 15, _ => rw [run_index_string W _ _ _ _ Tryz.underlying9]; rfl
  | q + 16, h => omega
theorem and_15 (x : Int) (h0 : 0 ≤ x) (h1 : x ≤ 255) : bits .and .u8 x 15 = x % 16 := by
  obtain ⟨n, rfl⟩ : ∃ n : Nat, x = n := ⟨x.toNat, by omega⟩
  have hn : n < 256 := by omega
  have : ∀ k : Fin 256, bits .and .u8 ((k : Nat) : Int) 15 = ((k : Nat) : Int) % 16 := by decide +kernel
  exact this ⟨n, hn⟩
def linePre (b : Bool) (l : List Int) (n : Nat) : List Int := letter b :: 32 :: hexL (l.take n)
theorem hex_append : ∀ a c : List Int, hexL (a ++ c) = hexL a ++ hexL c
  | [], _ => rfl
  | x :: a, c => by show dig _ :: dig _ :: hexL (a ++ c) = _; rw [hex_append a c]; rfl
theorem pre_len (b : Bool) (l : List Int) (n : Nat) (h : n ≤ l.length) : (linePre b l n).length = 2 + 2 * n := by
  unfold linePre
  simp [hex_len, Nat.min_eq_left h]
  omega
theorem pre_succ (b : Bool) (l : List Int) (n : Nat) (h : n < l.length) : linePre b l (n + 1) = linePre b l n ++ [dig (l.getD n 0 / 16), dig (l.getD n 0 % 16)] := by
  unfold linePre
  rw [List.take_succ_eq_append_getElem h, hex_append, List.getD_eq_getElem?_getD, List.getElem?_eq_getElem h]
  rfl
set_option maxHeartbeats 2000000 in
set_option maxRecDepth 100000 in
theorem lnWrite_any (w : World) (b : Bool) (s : ByteArray) (hs : s.size ≤ 1000) :
    Calls Tryz.prog 89 #[.int .u8 (letter b), .string s] w fun e w' => e = .returned (.string (strOfNums (lineL b s))) ∧ Below w.heap.size w w' := by
  obtain ⟨i, hi, hz0, hz1, hz2⟩ := info_of Tryz.infoU8
  have hl0 : 0 ≤ letter b := by unfold letter; split <;> omega
  have hl1 : letter b ≤ 255 := by unfold letter; split <;> omega
  have HS : Hid (∀ q, q < s.size → (∀ W : World, (Instr.index 9 (.string s) (.int .i64 (q : Int))).run Tryz.prog W = .ok (.int .u8 ((nums s).getD q 0)) W) ∧ 0 ≤ (nums s).getD q 0 ∧ (nums s).getD q 0 ≤ 255) := fun q hq => ⟨idx_str' s q hq, by rw [List.getD_eq_getElem?_getD, List.getElem?_eq_getElem (by rw [nums_len]; exact hq)]; exact nums_byt s _ (List.getElem_mem _)⟩
  have HN0 : Hid ((nums s).length = s.size) := nums_len s
  have HE : Hid (lineL b s = linePre b (nums s) s.size ++ [10]) := by
    unfold lineL linePre
    rw [← nums_len s, List.take_length]
    rfl
  generalize hN : s.size = N at *
  obtain ⟨ll, hll⟩ : ∃ ll, nums s = ll := ⟨_, rfl⟩
  rw [hll] at HS HN0 HE
  have HO : Hid ((w.alloc (.cells #[.int .u8 (letter b), .int .u8 32] 5)).ownsRow w.heap.size 5 1 (.slice (some ⟨w.heap.size, 0, none⟩) 2 2) 2 ((linePre b ll 0).map (Value.int .u8))) :=
    ⟨by simp [linePre, hexL], Or.inr ⟨w.heap.size, 2, #[.int .u8 (letter b), .int .u8 32], rfl, Nat.le_refl _, heap_alloc_new w _, Nat.le_refl _, by unfold maxLen; omega, by simp, by simp [linePre, hexL]⟩⟩
  generalize letter b = lt at *
  go_enter Tryz.func89, Tryz.ntmps89
  go_wp2_with fail
  go_loopw [5, 6, 11] (fun v _ k wr => ∃ n : Nat, n ≤ N ∧ k = .int .i64 n ∧ wr.ownsRow w.heap.size 5 1 v (2 + 2 * n) ((linePre b ll n).map (Value.int .u8)) ∧ Below w.heap.size w wr) (fun _ _ k _ => N - (intOf k).toNat)
  case atStart => exact ⟨0, by omega, rfl, HO.out, (Below.refl _ _).alloc (Nat.le_refl _) _⟩
  case round =>
    obtain ⟨n, hn, rfl, hrow, BB⟩ := hrel
    obtain ⟨gv, cv, rfl⟩ := own_form hrow (by omega)
    have HB : Hid (Below w.heap.size w wr) := BB
    have HR : Hid (wr.ownsRow w.heap.size 5 1 (.slice (some ⟨gv, 0, none⟩) (2 + 2 * n) cv) (2 + 2 * n) ((linePre b ll n).map (Value.int .u8))) := hrow
    have hsz := BB.size
    clear BB hrow
    by_cases hlt : n < N
    · have hi1 : (n : Int) < (N : Int) := by omega
      obtain ⟨hx, hx0, hx1⟩ := HS.out n hlt
      have ha := and_15 (ll.getD n 0) hx0 hx1
      have hd1 := idx_dig (ll.getD n 0 / 16) (by omega) (by omega)
      have hd2 := idx_dig (ll.getD n 0 % 16) (by omega) (by omega)
      have HPS : Hid (linePre b ll (n + 1) = linePre b ll n ++ [dig (ll.getD n 0 / 16), dig (ll.getD n 0 % 16)]) := pre_succ b ll n (by have := HN0.out; omega)
      have HLT : Hid (n < N) := hlt
      have HF : Hid (∀ (W : World) (o : Obj) (v6 : Value) (w6 : World), W.heap = (wr.alloc o).heap → W.os = wr.os → W.tape = wr.tape → W.output = wr.output → w6.ownsRow w.heap.size 5 1 v6 (2 + 2 * n + 2) ((linePre b ll n).map (Value.int .u8) ++ [.int .u8 (dig (ll.getD n 0 / 16)), .int .u8 (dig (ll.getD n 0 % 16))]) → W.grownBy w6 (some gv) → w6.ownsRow w.heap.size 5 1 v6 (2 + 2 * (n + 1)) ((linePre b ll (n + 1)).map (Value.int .u8)) ∧ Below w.heap.size w w6) := by
        intro W o v6 w6 hW1 hW2 hW3 hW4 ho hg
        refine ⟨?_, ?_⟩
        · rw [HPS.out, List.map_append]
          exact ho
        · have hgv : w.heap.size ≤ gv := (HR.out.lt gv rfl).1
          have b1 : Below w.heap.size w (wr.alloc o) := HB.out.alloc hsz _
          have hs1 : W.heap.size = (wr.alloc o).heap.size := by rw [hW1]
          have hs2 : w.heap.size ≤ W.heap.size := by rw [hs1]; simp; omega
          refine ⟨hg.os.trans (hW2.trans HB.out.os), hg.tape.trans (hW3.trans HB.out.tape), hg.output.trans (hW4.trans HB.out.output), Nat.le_trans hs2 hg.size, fun k hk => ?_⟩
          rw [hg.block k (by omega) (fun c => by injection c; omega), hW1]
          exact b1.block k hk
      generalize ll.getD n 0 = x at *
      generalize dig (x / 16) = d1 at *
      generalize dig (x % 16) = d2 at *
      go_wp2_with fail
      go_region_law (refine step_append_row rfl (.tmp 14) (.tmp 25) 25 rfl w.heap.size 5 i _ 1 1 Tryz.underlying25 hi hz0 hz1 hz2 rfl (by decide) (.slice (some ⟨gv, 0, none⟩) (2 + 2 * n) cv) (2 + 2 * n) ((linePre b ll n).map (Value.int .u8)) (by simp [Act.eval]) (own_keep (HR.out.alloc (.cells #[.int .u8 d1, .int .u8 d2] 5)) (fun _ _ => rfl)) ⟨wr.heap.size, 0, none⟩ 2 2 [.int .u8 d1, .int .u8 d2] (by simp [Act.eval]) rfl (cells_of_newd wr [.int .u8 d1, .int .u8 d2] 5 wr.heap.size rfl) (by intro u hu; simp at hu; rcases hu with rfl | rfl <;> rfl) (by unfold maxLen; omega) (by omega) (by simp; omega) ?_; intro v6 w6 ho6 hg6 hat6; obtain ⟨g6, k6, rfl⟩ := own_form ho6 (by omega); have HALL : Hid _ := HF.out _ (.cells #[.int .u8 d1, .int .u8 d2] 5) _ w6 (by rfl) (by rfl) (by rfl) (by rfl) ho6 hg6; clear ho6 hg6 hat6)
      all_goals
        go_wp2
        refine ⟨⟨n + 1, by have := HLT.out; omega, by simp, HALL.out.1, HALL.out.2⟩, by have := HLT.out; simp [intOf]; omega⟩
    · have hi1 : ¬ (n : Int) < (N : Int) := by omega
      obtain rfl : n = N := by omega
      have HF : Hid (∀ (W : World) (o : Obj) (v6 : Value) (w6 : World), W.heap = (wr.alloc o).heap → W.os = wr.os → W.tape = wr.tape → W.output = wr.output → w6.ownsRow w.heap.size 5 1 v6 (2 + 2 * n + 1) ((linePre b ll n).map (Value.int .u8) ++ [.int .u8 10]) → W.grownBy w6 (some gv) → Below w.heap.size w w6 ∧ (convert 25 9 v6).run Tryz.prog w6 = .ok (.string (strOfNums (lineL b s))) w6) := by
        intro W o v6 w6 hW1 hW2 hW3 hW4 ho hg
        refine ⟨?_, ?_⟩
        · have hgv : w.heap.size ≤ gv := (HR.out.lt gv rfl).1
          have b1 : Below w.heap.size w (wr.alloc o) := HB.out.alloc hsz _
          have hs1 : W.heap.size = (wr.alloc o).heap.size := by rw [hW1]
          have hs2 : w.heap.size ≤ W.heap.size := by rw [hs1]; simp; omega
          refine ⟨hg.os.trans (hW2.trans HB.out.os), hg.tape.trans (hW3.trans HB.out.tape), hg.output.trans (hW4.trans HB.out.output), Nat.le_trans hs2 hg.size, fun k hk => ?_⟩
          rw [hg.block k (by omega) (fun c => by injection c; omega), hW1]
          exact b1.block k hk
        · rw [show (linePre b ll n).map (Value.int .u8) ++ [Value.int .u8 10] = (lineL b s).map (Value.int .u8) by rw [HE.out, List.map_append]; rfl] at ho
          rcases own_form0 ho with ⟨_, h0⟩ | ⟨b', cap', rfl, hb', _, _, hc⟩
          · omega
          · have hlen : (lineL b s).length = 2 + 2 * n + 1 := by rw [HE.out, List.length_append, pre_len b ll n (by have := HN0.out; omega)]; rfl
            rw [← hlen]
            exact run_convert_bytes_arg w6 25 5 Tryz.underlying25 Tryz.underlying5 b' 0 _ cap' (lineL b s) rfl (fun j hj => by
              rw [Nat.zero_add]
              exact hc j _ (by rw [List.getElem?_map, List.getElem?_eq_getElem hj, List.getD_eq_getElem?_getD, List.getElem?_eq_getElem hj]; rfl)) 9 Tryz.underlying9
      obtain ⟨res, hres⟩ : ∃ r, strOfNums (lineL b s) = r := ⟨_, rfl⟩
      rw [hres] at HF
      have HRES : Hid (strOfNums (lineL b s) = res) := hres
      clear hres
      go_wp2_with (at_builtin; refine wpList_append_own _ rfl _ _ 25 rfl w.heap.size 5 i _ 1 1 Tryz.underlying25 hi hz0 hz1 hz2 rfl (by decide) (.slice (some ⟨gv, 0, none⟩) (2 + 2 * n) cv) (2 + 2 * n) ((linePre b ll n).map (Value.int .u8)) rfl (HR.out.alloc (.cells #[.int .u8 10] 5)) ⟨wr.heap.size, 0, none⟩ 1 1 [.int .u8 10] rfl rfl (cells_of_new wr [.int .u8 10] 5) (by intro u hu; simp at hu; rcases hu with rfl; rfl) (by unfold maxLen; omega) (by omega) (by simp; omega) ?_)
      intro v6 w6 ho6 hg6 hat6
      obtain ⟨g6, k6, rfl⟩ := own_form ho6 (by omega)
      obtain ⟨hB6, hcv⟩ := HF.out _ (.cells #[.int .u8 10] 5) _ w6 (by rfl) (by rfl) (by rfl) (by rfl) ho6 hg6
      have HALL : Hid _ := hB6
      clear ho6 hg6 hat6 hB6
      go_wp2
      go_ret
      rw [HRES.out]
      exact ⟨rfl, HALL.out⟩
end Go.Proofs.YtflenkppcclclaaGreatDoor

namespace Go.Proofs.YtflenkppcclclaaGreatDoor
open Go.RowKit

/-! strings.Builder: WriteString. -/
theorem sizeBd : (Tryz.prog.info? 143).map (·.size) = some 2 := by kernel_rfl
theorem liesBd : liesAt Tryz.prog Tryz.prog.depth 143 (2 / Tryz.prog.cellsOf 143) 0 143 1 = true := by kernel_rfl
set_option maxHeartbeats 1000000 in
set_option maxRecDepth 100000 in
theorem bdCheck_used (b : Nat) (w : World) (h0 : w.cell? ⟨b, 0, none⟩ = some (.pointer (some ⟨b, 0, none⟩))) :
    Calls Tryz.prog 142 #[.pointer (some ⟨b, 0, none⟩)] w fun e w' => e = .returned (.tuple #[]) ∧ w' = w := by
  obtain ⟨j, hj, _⟩ := Option.map_eq_some_iff.1 sizeBd
  go_enter Tryz.func142, Tryz.ntmps142
  go_wp2
  rw [Lib.run_neq_ptr_same w _ Tryz.underlying141 hj]
  go_wp2
  go_end0
  exact ⟨rfl, rfl⟩
set_option maxHeartbeats 1000000 in
set_option maxRecDepth 100000 in
theorem bdCheck_fresh (b : Nat) (w : World) (h0 : w.cell? ⟨b, 0, none⟩ = some (.pointer none)) (hsh : w.shape? b = some (143, 2)) (hfz : w.frozen? ⟨b, 0, none⟩ = false) :
    Calls Tryz.prog 142 #[.pointer (some ⟨b, 0, none⟩)] w fun e w' => e = .returned (.tuple #[]) ∧ w' = w.setCell ⟨b, 0, none⟩ (.pointer (some ⟨b, 0, none⟩)) := by
  obtain ⟨j, hj, hjs⟩ := Option.map_eq_some_iff.1 sizeBd
  go_enter Tryz.func142, Tryz.ntmps142
  go_wp2
  rw [Lib.run_to_unsafe w ⟨b, 0, none⟩ Tryz.underlying141 Tryz.underlying245 hj (by rw [hjs]; decide) hsh (Nat.zero_lt_succ 1)]
  simp only [Result.andThen]
  rw [Oper.upon_value]
  go_wp2
  rw [run_callFunc_extern Tryz.func190 (by kernel_rfl) (by kernel_rfl) (by kernel_rfl) (e := Extern.AbiNoEscape.same) (by kernel_rfl)]
  rw [Lib.run_noEscape]
  simp only [Result.andThen]
  rw [Oper.upon_value]
  go_wp2
  rw [Lib.run_from_unsafe w ⟨b, 0, none⟩ Tryz.underlying245 Tryz.underlying141 hj hsh liesBd]
  simp only [Result.andThen]
  rw [Oper.upon_value]
  go_wp2
  go_end0
  exact ⟨rfl, rfl⟩
theorem bdCheck_any (B b : Nat) (bs : List Value) (w : World) (h : Lib.IsBuilder 143 5 B b bs w) :
    Calls Tryz.prog 142 #[.pointer (some ⟨b, 0, none⟩)] w fun e w' => e = .returned (.tuple #[]) ∧ (Lib.BuilderAt 143 5 B b (.pointer (some ⟨b, 0, none⟩)) bs w' ∧ Below B w w') := by
  rcases h with h | h
  · refine (bdCheck_fresh b w h.cell0 h.shape h.frozen0).mono ?_
    rintro e w' ⟨rfl, rfl⟩
    exact ⟨rfl, h.used _, (Below.refl B w).setCell (p := ⟨b, 0, none⟩) h.1 _⟩
  · refine (bdCheck_used b w h.cell0).mono ?_
    rintro e w' ⟨rfl, rfl⟩
    exact ⟨rfl, h, Below.refl B _⟩
set_option maxHeartbeats 2000000 in
set_option maxRecDepth 100000 in
theorem bdWrite_any (B b : Nat) (bs : List Value) (s : ByteArray) (w : World) (h : Lib.IsBuilder 143 5 B b bs w) (hlen : bs.length + s.size ≤ 140737488355328) (hBw : B ≤ w.heap.size) :
    Calls Tryz.prog 88 #[.pointer (some ⟨b, 0, none⟩), .string s] w fun e w' => e = .returned (.tuple #[.int .i64 s.size, .nilIface]) ∧ (Lib.BuilderAt 143 5 B b (.pointer (some ⟨b, 0, none⟩)) (bs ++ Lib.strCells s) w' ∧ Below B w w') := by
  obtain ⟨i0, hi, hz0, hz1, hz2⟩ := info_of Tryz.infoU8
  have HC : Hid (Calls Tryz.prog 142 #[.pointer (some ⟨b, 0, none⟩)] w fun e w' => e = .returned (.tuple #[]) ∧ (Lib.BuilderAt 143 5 B b (.pointer (some ⟨b, 0, none⟩)) bs w' ∧ Below B w w')) := bdCheck_any B b bs w h
  go_enter Tryz.func88, Tryz.ntmps88
  go_wp2_with fail
  refine HC.out.mono ?_
  rintro e w1 ⟨rfl, h1, hb1⟩
  obtain ⟨hB, v, hbk, hown, hne⟩ := h1
  have c0 : w1.cell? ⟨b, 0, none⟩ = some (.pointer (some ⟨b, 0, none⟩)) := by rw [Lib.cell_of_heap hbk]; rfl
  have c1 : w1.cell? ⟨b, 1, none⟩ = some v := by rw [Lib.cell_of_heap hbk]; rfl
  go_wp2_with (at_builtin; refine Lib.wpList_append_own_string _ rfl _ _ 25 9 rfl B 5 i0 Tryz.underlying25 Tryz.underlying9 hi hz0 hz1 hz2 _ _ _ rfl hown s rfl ?c3 ?c4 ?c5 ?_)
  case c3 => unfold maxLen; omega
  case c4 => omega
  case c5 => have := hb1.size; omega
  intro v' w2 hown' hgrow _
  have hlt : b < w1.heap.size := by
    rcases Nat.lt_or_ge b w1.heap.size with h' | h'
    · exact h'
    · simp [Array.getElem?_eq_none h'] at hbk
  have hb2 : w2.heap[b]? = some (.cells #[.pointer (some ⟨b, 0, none⟩), v] 143 (0, 0)) := by
    rw [hgrow.block b hlt (fun e => hne e.symm)]
    exact hbk
  have d0 : w2.cell? ⟨b, 0, none⟩ = some (.pointer (some ⟨b, 0, none⟩)) := by rw [Lib.cell_of_heap hb2]; rfl
  have d1 : w2.cell? ⟨b, 1, none⟩ = some v := by rw [Lib.cell_of_heap hb2]; rfl
  have f1 : w2.frozen? ⟨b, 1, none⟩ = false := Lib.frozen_of_heap hb2 1
  obtain ⟨ao, n', cap, rfl⟩ : ∃ ao n' cap, v' = .slice ao n' cap := by
    rcases hown'.2 with ⟨hv, _⟩ | ⟨g, cap, cur, hv, _⟩
    · exact ⟨_, _, _, hv⟩
    · exact ⟨_, _, _, hv⟩
  go_wp2
  go_ret2
  refine ⟨rfl, ?_, ?_⟩
  · exact Lib.BuilderAt.put (T := 143) (e := 5) hB hb2 (bs' := bs ++ Lib.strCells s) (by simpa [Lib.strCells_length] using hown') (by decide)
  · exact (hb1.grown hgrow (by have := hb1.size; omega) (fun k hk => (hown.lt k hk).1)).setCell (p := ⟨b, 1, none⟩) hB _
end Go.Proofs.YtflenkppcclclaaGreatDoor

namespace Go.Proofs.YtflenkppcclclaaGreatDoor
open Go.RowKit

/-! The log. -/
theorem hist_at {R : ByteArray → Sh} {h : HS} (p : Hinv R h) (n : Nat) (b : Bool) (s : ByteArray) (hn : h.hist[n]? = some (b, s)) :
    s.size ≤ 24 ∧ (if b then ((h.hist.take n).filterMap isK).length < h.kept.length ∧ (h.kept.getD ((h.hist.take n).filterMap isK).length in0).text = s
      else ((h.hist.take n).filterMap isF).length < h.found.length ∧ (h.found.getD ((h.hist.take n).filterMap isF).length cr0).text = s) := by
  obtain ⟨hlt, hx⟩ := List.getElem?_eq_some_iff.1 hn
  have hsp : h.hist = h.hist.take n ++ (b, s) :: h.hist.drop (n + 1) := by rw [← hx, List.getElem_cons_drop, List.take_append_drop]
  cases b with
  | true =>
    have hk := p.histK
    rw [hsp, List.filterMap_append, List.filterMap_cons] at hk
    have e : isK (true, s) = some s := rfl
    rw [e] at hk
    have hlen := congrArg List.length hk
    rw [List.length_append, List.length_map] at hlen
    simp at hlen
    have hi : ((h.hist.take n).filterMap isK).length < h.kept.length := by omega
    have hg : (h.kept.map (·.text))[((h.hist.take n).filterMap isK).length]? = some s := by rw [← hk, List.getElem?_append_right (Nat.le_refl _), Nat.sub_self]; rfl
    rw [List.getElem?_map, List.getElem?_eq_getElem hi] at hg
    simp at hg
    have h24 := (p.kept _ _ (List.getElem?_eq_getElem hi)).1
    rw [hg] at h24
    refine ⟨h24, ?_⟩
    rw [if_pos rfl]
    refine ⟨hi, ?_⟩
    rw [List.getD_eq_getElem?_getD, List.getElem?_eq_getElem hi]
    exact hg
  | false =>
    have hk := p.histF
    rw [hsp, List.filterMap_append, List.filterMap_cons] at hk
    have e : isF (false, s) = some s := rfl
    rw [e] at hk
    have hlen := congrArg List.length hk
    rw [List.length_append, List.length_map] at hlen
    simp at hlen
    have hi : ((h.hist.take n).filterMap isF).length < h.found.length := by omega
    have hg : (h.found.map (·.text))[((h.hist.take n).filterMap isF).length]? = some s := by rw [← hk, List.getElem?_append_right (Nat.le_refl _), Nat.sub_self]; rfl
    rw [List.getElem?_map, List.getElem?_eq_getElem hi] at hg
    simp at hg
    have h24 := (p.found _ _ (List.getElem?_eq_getElem hi)).1
    rw [hg] at h24
    refine ⟨h24, ?_⟩
    rw [if_neg (by decide)]
    refine ⟨hi, ?_⟩
    rw [List.getD_eq_getElem?_getD, List.getElem?_eq_getElem hi]
    exact hg
def logB (l : List (Bool × ByteArray)) : List UInt8 := l.flatMap fun x => (strOfNums (lineL x.1 x.2)).data.toList
theorem logB_is : ∀ l, logB l = (strOfNums (logL l)).data.toList
  | [] => rfl
  | x :: l => by
    show (strOfNums (lineL x.1 x.2)).data.toList ++ logB l = (strOfNums (lineL x.1 x.2 ++ logL l)).data.toList
    rw [logB_is l]
    simp [strOfNums]
theorem logB_len : ∀ l : List (Bool × ByteArray), (∀ x ∈ l, x.2.size ≤ 24) → (logB l).length ≤ 51 * l.length
  | [], _ => by simp [logB]
  | x :: l, h => by
    have ih := logB_len l (fun y hy => h y (List.mem_cons_of_mem _ hy))
    have hx := h x (List.mem_cons_self ..)
    have e : (logB (x :: l)).length = (strOfNums (lineL x.1 x.2)).size + (logB l).length := by show ((strOfNums (lineL x.1 x.2)).data.toList ++ logB l).length = _; rw [List.length_append, Array.length_toList]; rfl
    rw [e, str_size]
    have : (lineL x.1 x.2).length ≤ 51 := by unfold lineL; simp [hex_len, nums_len]; omega
    simp
    omega
theorem logB_snoc (l : List (Bool × ByteArray)) (x : Bool × ByteArray) : logB (l ++ [x]) = logB l ++ (strOfNums (lineL x.1 x.2)).data.toList := by simp [logB]
theorem line_size (b : Bool) (s : ByteArray) (hs : s.size ≤ 24) : (strOfNums (lineL b s)).size ≤ 51 := by
  rw [str_size]; unfold lineL; simp [hex_len, nums_len]; omega
theorem lcAt_any {w : World} {U : Nat → Prop} {d : HD} {g : PG} {h : HS} (p : HU w U d g h) (n : Nat) (hn : n < h.found.length) :
    Calls Tryz.prog 90 #[.pointer (some ⟨d.H, 8, none⟩), .int .i64 (n : Nat)] w fun e w' => e = .returned (.agg #[.string (h.found.getD n cr0).text, .int .i64 (h.found.getD n cr0).fault, .int .i64 (h.found.getD n cr0).place]) ∧ Below w.heap.size w w' := by
  have c8 : w.cell? ⟨d.H, 8, none⟩ = some d.vf := p.cell 8 (by omega)
  have hH : d.H < w.heap.size := p.lt _ (p.inU _ (Or.inl rfl))
  rcases own_form0 p.rf with ⟨hv, h0⟩ | ⟨b, cap, hv, hb, hcap, hnc, hc⟩
  · omega
  · rw [hv] at c8
    obtain ⟨f1, f2, f3⟩ := fcells_at h.found n hn
    have c0 := hc _ _ f1
    have c1 := hc _ _ f2
    have c2 := hc _ _ f3
    have hn' : (n : Int) < (h.found.length : Int) := by omega
    have hmx : h.found.length ≤ 9223372036854775807 := by unfold maxLen at hcap; omega
    clear p hc f1 f2 f3 hv
    generalize h.found.length = m at *
    generalize (h.found.getD n cr0).text = t at *
    generalize (h.found.getD n cr0).fault = f at *
    generalize (h.found.getD n cr0).place = q at *
    go_enter Tryz.func90, Tryz.ntmps90
    go_wp2
    refine bodyPost_ret (v := .agg #[.string t, .int .i64 f, .int .i64 q]) ?_ rfl ⟨rfl, ?_⟩
    · simp [results, Tryz.results90, go_sem]
    · exact (Below.refl _ _).alloc (Nat.le_refl _) _
theorem own_slice {w : World} {base : Nat} {e : TypeId} {size : Nat} {v : Value} {n : Nat} {xs : List Value} (h : w.ownsRow base e size v n xs) : ∃ a c, v = .slice a n c := by
  rcases own_form0 h with ⟨e, h0⟩ | ⟨b, cp, e, _⟩
  · exact ⟨none, 0, by rw [e, h0]⟩
  · exact ⟨_, cp, e⟩
end Go.Proofs.YtflenkppcclclaaGreatDoor

