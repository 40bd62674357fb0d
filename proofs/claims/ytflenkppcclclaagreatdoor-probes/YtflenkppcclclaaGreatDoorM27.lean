import Derived.Test.YtflenkppcclclaaGreatDoorM26
import Derived.Laws.OwnMore
namespace Go.Proofs.YtflenkppcclclaaGreatDoor
open Go.RowKit

def divs (m : Nat) : Nat → Nat
  | 0 => m
  | j + 1 => divs m j / 250
theorem divs_le (m : Nat) : ∀ j, divs m j ≤ m
  | 0 => Nat.le_refl _
  | j + 1 => Nat.le_trans (Nat.div_le_self _ _) (divs_le m j)
/-- What stands at a place of the list that came out as the m-th one. -/
def digS (m i : Nat) : Int := 1 + ((divs m (i % 3) % 250 : Nat) : Int)
theorem digS_bd (m i : Nat) : 0 ≤ digS m i ∧ digS m i ≤ 255 := by unfold digS; omega

set_option maxHeartbeats 400000 in
theorem digit_any (m i : Nat) (hm : m ≤ 4611686018427387904) (hi : i ≤ 9223372036854775807) (w : World) :
    Calls Tryz.prog 58 #[.int .i64 (m : Int), .int .i64 (i : Int)] w fun e w' => e = .returned (.int .u8 (digS m i)) ∧ w' = w := by
  have H3 : Hid ((i : Int) % 3 = ((i % 3 : Nat) : Int)) := by show (i : Int) % 3 = ((i % 3 : Nat) : Int); omega
  go_enter Tryz.func58, Tryz.ntmps58
  go_wp2_with fail
  go_loopw [0, 5] (fun a k wr => ∃ j : Nat, j ≤ i % 3 ∧ a = .int .i64 (divs m j : Int) ∧ k = .int .i64 ((i % 3 - j : Nat) : Int) ∧ wr = w) (fun _ k _ => (intOf k).toNat)
  case atStart => exact ⟨0, by omega, rfl, by rw [H3.out]; rfl, rfl⟩
  case round =>
    obtain ⟨j, hj, rfl, rfl, hwr⟩ := hrel
    obtain rfl := hwr.symm
    have hd := divs_le m j
    have hd2 := divs_le m (j + 1)
    have HS : Hid (((divs m j : Nat) : Int) / 250 = ((divs m (j + 1) : Nat) : Int)) := by show _ = _; show ((divs m j : Nat) : Int) / 250 = ((divs m j / 250 : Nat) : Int); omega
    by_cases hlt : j < i % 3
    · obtain ⟨q, hq⟩ : ∃ q : Nat, i % 3 - j = q + 1 := ⟨i % 3 - j - 1, by omega⟩
      have HQ : Hid ((i % 3 - (j + 1) : Nat) = q) := by show i % 3 - (j + 1) = q; omega
      have HQ' : Hid (i % 3 - j = q + 1) := hq
      rw [hq]
      generalize divs m j = a at *
      have hpos : (0 : Int) < (q : Int) + 1 := by omega
      have hq2 : (q : Int) ≤ 2 := by omega
      have hlt' := hlt
      clear hlt hq hj
      go_wp2
      go_roundw
      case rel => exact ⟨j + 1, by omega, by rw [← HS.out], by rw [HQ.out], by first | rfl | trivial⟩
      case measure => simp [intOf]
    · have e : j = i % 3 := by omega
      subst e
      rw [Nat.sub_self]
      have HR : Hid (digS m i = 1 + ((divs m (i % 3) % 250 : Nat) : Int)) := rfl
      have HA : Hid (∀ a : Nat, (1 : Int) + ((a % 250 : Nat) : Int) = 1 + (a : Int) % 250) := fun a => by omega
      generalize divs m (i % 3) = a at *
      go_wp2
      go_ret
      exact ⟨by rw [HR.out, HA.out]; rfl, rfl⟩
end Go.Proofs.YtflenkppcclclaaGreatDoor

namespace Go.Proofs.YtflenkppcclclaaGreatDoor
open Go.RowKit

section
variable {P : Program} (w : World)
/-- 'append' of a row of one's own: the row itself stands as it did, and what else is in its block is left alone, or is what was appended. -/
theorem run_append_keep (base : Nat) (t ty e : TypeId) (i : TypeInfo) (z : Value) (bytes : Nat) (ht : P.underlying t = some (.slice e)) (hi : P.info? e = some i) (hz : i.zero = some z)
    (hsize : i.size = 1) (hby : i.bytes = bytes) (hzs : z.cells.size = 1)
    (v : Value) (n : Nat) (xs : List Value) (hown : w.ownsRow base e 1 v n xs)
    (a : Addr) (m c : Nat) (news : List Value) (hl : news.length = m * 1) (hnews : ∀ j u, news[j]? = some u → w.cell? (a.add j) = some u) (h1 : ∀ u ∈ news, u.oneCell' = true)
    (h63 : n + m ≤ maxLen) (hbytes : (n + m) * bytes ≤ 140737488355328) (hbase : base ≤ w.heap.size) (hm : 0 < m) :
    ∃ v' w', (Builtin.append_ #[t, t] ty #[v, .slice (some a) m c]).run P w = .ok v' w' ∧ w'.ownsRow base e 1 v' (n + m) (xs ++ news) ∧ w.grownBy w' v.ownBlock ∧ (v'.ownBlock = v.ownBlock ∨ v'.ownBlock = some w.heap.size) ∧
      w'.ownsRow base e 1 v n xs ∧ ∀ g j u, v.ownBlock = some g → w.cell? ⟨g, j, none⟩ = some u → w'.cell? ⟨g, j, none⟩ = some u ∨ (n ≤ j ∧ w'.cell? ⟨g, j, none⟩ = news[j - n]? ∧ j - n < news.length) := by
  have hsmall : n + m ≤ 9223372036854775807 := by simp only [maxLen] at h63; omega
  have hlen : (xs ++ news).length = (n + m) * 1 := by rw [List.length_append, hown.1, hl, Nat.add_mul]
  have hl1 : news.length = m := by omega
  have grown : ∀ (old : Nat), old < n + m → ∀ (row : Option Nat),
      (w.drew.alloc (.cells (xs.toArray ++ news.toArray ++ Builtin.zeroCells z.cells (grownCap w (n + m) old e - (n + m))) e)).ownsRow base e 1
        (.slice (some ⟨w.heap.size, 0, none⟩) (n + m) (grownCap w (n + m) old e)) (n + m) (xs ++ news) ∧
      w.grownBy (w.drew.alloc (.cells (xs.toArray ++ news.toArray ++ Builtin.zeroCells z.cells (grownCap w (n + m) old e - (n + m))) e)) row := by
    intro old ho row
    have hge := grownCap_ge w (n + m) old e
    have hcm : grownCap w (n + m) old e ≤ maxLen := grownCap_le_maxLen w (n + m) old e h63
    refine ⟨⟨hlen, .inr ⟨w.heap.size, _, _, rfl, hbase, heap_alloc_new w.drew _, hge, hcm, ?_, ?_⟩⟩, ⟨rfl, rfl, rfl, by simp, fun k hk _ => Below.heap_alloc w.drew _ k hk⟩⟩
    · simp only [Array.size_append, List.size_toArray, size_zeroCells, hzs, hown.1, hl, ← Nat.add_mul]
      congr 1
      omega
    · simp only [Array.toList_append, List.append_assoc]
      rw [← List.append_assoc, ← hlen]
      exact List.take_left
  rcases hown.2 with ⟨rfl, rfl⟩ | ⟨g, cap, cur, rfl, hbg, hg, hnc, hcm, hcs, htake⟩
  · have hx : xs = [] := List.eq_nil_of_length_eq_zero (by simpa using hown.1)
    subst hx
    have hr := run_append_nil (P := P) w t ty e i z ht hi hz a m c news (by rw [hsize]; exact hl) hnews (by omega) (by omega) (by have hb := hbytes; rw [← hby] at hb; simp only [Nat.zero_add] at hb; omega)
    have hgr := grown 0 (by omega) (Value.ownBlock (.slice none 0 0))
    simp only [Nat.zero_add, List.nil_append, Array.empty_append] at hgr ⊢
    exact ⟨_, _, hr, hgr.1, hgr.2, Or.inr rfl, World.ownsRow_nil _ _ _ _, fun g j u h => by cases h⟩
  · by_cases hroom : n + m ≤ cap
    · have hfit : n * i.size + news.length ≤ cur.size := by rw [hsize, hcs]; omega
      have hr := run_append_room (P := P) w t ty e i ht hi g n cap cur hg a m c news (by rw [hsize]; exact hl) hnews h1 hroom hfit
      rw [hsize] at hr
      have hh := setRow_heap w g cur (cur.toList.take (n * 1) ++ news ++ cur.toList.drop (n * 1 + news.length)).toArray e (0, 0) hg
      have hlt : (cur.toList.take (n * 1)).length = n := by rw [List.length_take, Array.length_toList]; omega
      refine ⟨_, _, hr, ⟨hlen, .inr ⟨g, cap, _, rfl, hbg, hh, hroom, hcm, ?_, ?_⟩⟩, ⟨rfl, rfl, rfl, by simp, fun k _ hk => setRow_other w g k _ (fun e => hk (by simp [Value.ownBlock, e]))⟩, Or.inl rfl, ⟨hown.1, .inr ⟨g, cap, _, rfl, hbg, hh, hnc, hcm, ?_, ?_⟩⟩, ?_⟩
      · simp only [List.size_toArray, List.length_append, List.length_take, List.length_drop, Array.length_toList]
        omega
      · rw [htake, ← hlen]
        exact List.take_left
      · simp only [List.size_toArray, List.length_append, List.length_take, List.length_drop, Array.length_toList]
        omega
      · show List.take (n * 1) (cur.toList.take (n * 1) ++ news ++ cur.toList.drop (n * 1 + news.length)) = xs
        rw [List.append_assoc, List.take_append_of_le_length (by omega), List.take_of_length_le (by omega)]
        exact htake
      · intro g' j u hg' hc
        have e : g' = g := by simpa [Value.ownBlock] using hg'.symm
        subst e
        rw [cell_of_row _ _ _ _ _ _ hh, List.getElem?_toArray, List.append_assoc]
        rw [cell_of_row _ _ _ _ _ _ hg] at hc
        have hc' : cur.toList[j]? = some u := by simpa using hc
        by_cases hj : j < n
        · left
          rw [List.getElem?_append_left (by omega), List.getElem?_take, if_pos (by omega)]
          exact hc'
        · rw [List.getElem?_append_right (by omega), hlt]
          by_cases hj2 : j - n < news.length
          · right
            rw [List.getElem?_append_left hj2]
            exact ⟨by omega, rfl, hj2⟩
          · left
            rw [List.getElem?_append_right (by omega), List.getElem?_drop]
            rw [show n * 1 + news.length + (j - n - news.length) = j by omega]
            exact hc'
    · have holds : ∀ j u, xs[j]? = some u → w.cell? ((⟨g, 0, none⟩ : Addr).add j) = some u := hown.cells (g := g) rfl
      have hr := run_append_grow (P := P) w t ty e i z ht hi hz ⟨g, 0, none⟩ n cap xs (by rw [hsize]; exact hown.1) holds a m c news (by rw [hsize]; exact hl) hnews (by omega) (by omega) (growslice_fits (by omega) (by rw [hby]; exact hbytes))
      have hgr := grown cap (by omega) (Value.ownBlock (.slice (some ⟨g, 0, none⟩) n cap))
      have hglt : g < w.heap.size := (Array.getElem?_eq_some_iff.1 hg).1
      refine ⟨_, _, hr, hgr.1, hgr.2, Or.inr rfl, ⟨hown.1, .inr ⟨g, cap, cur, rfl, hbg, (Below.heap_alloc w.drew _ g hglt).trans hg, hnc, hcm, hcs, htake⟩⟩, ?_⟩
      intro g' j u hg' hc
      have e : g' = g := by simpa [Value.ownBlock] using hg'.symm
      subst e
      left
      exact (World.cell?_of_block (w := w) (a := ⟨g', j, none⟩) (Below.heap_alloc w.drew _ g' hglt)).trans hc
end

section
variable {P : Program} {w : World}
theorem wpList_append_keep {ops : Array Oper} {rest : List Oper} {o : Oper} {a : Act} {Q : Exit → Act → World → Prop} (hgd : o.guard = none) (s x : Operand) (t : TypeId)
    (ho : o.op = .call { callee := .builtin .append, args := #[s, x], argTypes := #[t, t] })
    (base : Nat) (e : TypeId) (i : TypeInfo) (z : Value) (bytes : Nat) (ht : P.underlying t = some (.slice e)) (hi : P.info? e = some i) (hz : i.zero = some z)
    (hsize : i.size = 1) (hby : i.bytes = bytes) (hzs : z.cells.size = 1)
    (v : Value) (n : Nat) (xs : List Value) (hs : a.eval s = v) (hown : w.ownsRow base e 1 v n xs)
    (ad : Addr) (m c : Nat) (news : List Value) (hx : a.eval x = .slice (some ad) m c) (hl : news.length = m * 1) (hnews : ∀ j u, news[j]? = some u → w.cell? (ad.add j) = some u) (h1 : ∀ u ∈ news, u.oneCell' = true)
    (h63 : n + m ≤ maxLen) (hbytes : (n + m) * bytes ≤ 140737488355328) (hbase : base ≤ w.heap.size) (hm : 0 < m)
    (h : ∀ v' w', w'.ownsRow base e 1 v' (n + m) (xs ++ news) → w.grownBy w' v.ownBlock → (v'.ownBlock = v.ownBlock ∨ v'.ownBlock = some w.heap.size) → w'.ownsRow base e 1 v n xs → (∀ g j u, v.ownBlock = some g → w.cell? ⟨g, j, none⟩ = some u → w'.cell? ⟨g, j, none⟩ = some u ∨ (n ≤ j ∧ w'.cell? ⟨g, j, none⟩ = news[j - n]? ∧ j - n < news.length)) → wpList P ops Q rest (a.put o.dst v') w') :
    wpList P ops Q (o :: rest) a w := by
  refine wpList_plain hgd fun K hK => ?_
  obtain ⟨v', w', hr, h2, h3, h4, h5, h6⟩ := run_append_keep (P := P) w base t o.type e i z bytes ht hi hz hsize hby hzs v n xs hown ad m c news hl hnews h1 h63 hbytes hbase hm
  unfold Oper.wp execOp
  simp only [ho, resolve, invoke, builtin, Sem.run_bind, Sem.run_pure, Result.andThen_ok, List.map_toArray, List.map_cons, List.map_nil, hs, hx, hr]
  exact hK _ _ (h v' w' h2 h3 h4 h5 h6)
end

/-- Cells of new memory. -/
theorem cells_new (w : World) (cs : List Value) (t : TypeId) : ∀ (j : Nat) (u : Value), cs[j]? = some u → (w.alloc (.cells cs.toArray t)).cell? ((⟨w.heap.size, 0, none⟩ : Addr).add j) = some u := by
  intro j u hj
  have hadd : (⟨w.heap.size, 0, none⟩ : Addr).add j = ⟨w.heap.size, j, none⟩ := by unfold Addr.add; split <;> simp_all
  rw [hadd, World.cell?_alloc_new]
  simpa using hj

/-- The book's fields, by their numbers. -/
def rty (r : Nat) : TypeId := if r = 0 ∨ r = 8 then 25 else if r = 1 then 45 else if r = 2 ∨ r = 9 then 26 else if r = 3 then 39 else 3

/-- The book lies in block M; what its fields hold are rows of its own. -/
structure BK (base M : Nat) (w : World) (F : Nat → Value) (X : Nat → List Value) : Prop where
  cell : ∀ r, r < 10 → w.cell? ⟨M, r, none⟩ = some (F r)
  thaw : ∀ j, w.frozen? ⟨M, j, none⟩ = false
  own : ∀ r, r < 10 → w.ownsRow base (rty r) 1 (F r) (X r).length (X r)
  apart : ∀ r s, r < 10 → s < 10 → r ≠ s → (F r).ownBlock = none ∨ (F r).ownBlock ≠ (F s).ownBlock
  lt : M < base
  le : base ≤ w.heap.size

/-- Block g is none of the book's. -/
def Out5 (M : Nat) (F : Nat → Value) (g : Nat) : Prop := g ≠ M ∧ ∀ r, r < 10 → (F r).ownBlock ≠ some g
def Aw (M : Nat) (F : Nat → Value) (w : World) (v : Value) : Prop := ∀ g, v.ownBlock = some g → g < w.heap.size ∧ Out5 M F g

/-- Numbers, as a list that came out. -/
inductive NCoded (w : World) (v : Value) (n : Nat) (f : Nat → Int) : Prop
  | full (g o cap : Nat) (hv : v = .slice (some ⟨g, o, none⟩) n cap) (hc : ∀ i, i < n → w.cell? ⟨g, o + i, none⟩ = some (.int .i64 (f i))) (hr : n ≤ cap) (hr' : cap ≤ 9223372036854775807) (h0 : 0 < n) : NCoded w v n f
  | bare (p : Option Addr) (cap : Nat) (hv : v = .slice p 0 cap) (hL : n = 0) : NCoded w v n f

structure BD (M : Nat) (w : World) (F : Nat → Value) (X : Nat → List Value) : Prop where
  bytes : ∀ (i : Nat) (v : Value), (X 0)[i]? = some v → ∃ m n : Nat, (X 4)[i]? = some (Value.int .i64 (m : Int)) ∧ m ≤ (X 4).length ∧ n ≤ 9223372036854775807 ∧ Coded w v n (fun k => digS m k) ∧ Aw M F w v
  numbers : ∀ (i : Nat) (v : Value), (X 1)[i]? = some v → ∃ (m : Int) (n : Nat), (X 5)[i]? = some (Value.int .i64 m) ∧ n ≤ 9223372036854775807 ∧ NCoded w v n (fun _ => m) ∧ Aw M F w v
  lent : ∀ (i : Nat) (v : Value), (X 8)[i]? = some v → ∃ n : Nat, n ≤ 9223372036854775807 ∧ Coded w v n (fun _ => 251) ∧ Aw M F w v
  none2 : X 2 = []
  none3 : X 3 = []
  none9 : X 9 = []
  len04 : (X 0).length = (X 4).length
  len15 : (X 1).length = (X 5).length

theorem Coded.keep {w w' : World} {v : Value} {n : Nat} {c : Nat → Int} (h : Coded w v n c) (hb : ∀ g, v.ownBlock = some g → g < w.heap.size → w'.heap[g]? = w.heap[g]?) : Coded w' v n c := by
  cases h with
  | full cb co cap hv C =>
    refine .full cb co cap hv ⟨fun i hi => ?_, C.room, C.room', C.some'⟩
    rw [World.cell?_of_block (w := w) (a := ⟨cb, co + i, none⟩) (hb cb (by rw [hv]; rfl) C.blk)]
    exact C.cell i hi
  | bare p cap hv hL => exact .bare p cap hv hL
theorem NCoded.keep {w w' : World} {v : Value} {n : Nat} {f : Nat → Int} (h : NCoded w v n f) (hb : ∀ g, v.ownBlock = some g → g < w.heap.size → w'.heap[g]? = w.heap[g]?) : NCoded w' v n f := by
  cases h with
  | full g o cap hv hc hr hr' h0 =>
    refine .full g o cap hv (fun i hi => ?_) hr hr' h0
    rw [World.cell?_of_block (w := w) (a := ⟨g, o + i, none⟩) (hb g (by rw [hv]; rfl) (block_lt_of_cell (hc 0 h0)))]
    exact hc i hi
  | bare p cap hv hL => exact .bare p cap hv hL
/-- A list that came out, or was lent. -/
def Rec (X : Nat → List Value) (v : Value) : Prop := v ∈ X 0 ∨ v ∈ X 1 ∨ v ∈ X 8
/-- What leaves the lists that came out alone leaves them as they are. -/
theorem BD.keep {M : Nat} {w w' : World} {F F' : Nat → Value} {X : Nat → List Value} (h : BD M w F X) (hs : w.heap.size ≤ w'.heap.size) (hF : ∀ g, g < w.heap.size → Out5 M F g → Out5 M F' g) (hb : ∀ v g, Rec X v → v.ownBlock = some g → g < w.heap.size → Out5 M F g → w'.heap[g]? = w.heap[g]?) : BD M w' F' X where
  bytes := fun i v hv => by
    obtain ⟨m, n, h1, h2, h3, h4, h5⟩ := h.bytes i v hv
    exact ⟨m, n, h1, h2, h3, h4.keep (fun g hg hl => hb v g (Or.inl (List.mem_of_getElem? hv)) hg hl (h5 g hg).2), fun g hg => ⟨by have := (h5 g hg).1; omega, hF g (h5 g hg).1 (h5 g hg).2⟩⟩
  numbers := fun i v hv => by
    obtain ⟨m, n, h1, h2, h3, h4⟩ := h.numbers i v hv
    exact ⟨m, n, h1, h2, h3.keep (fun g hg hl => hb v g (Or.inr (Or.inl (List.mem_of_getElem? hv))) hg hl (h4 g hg).2), fun g hg => ⟨by have := (h4 g hg).1; omega, hF g (h4 g hg).1 (h4 g hg).2⟩⟩
  lent := fun i v hv => by
    obtain ⟨n, h1, h2, h3⟩ := h.lent i v hv
    exact ⟨n, h1, h2.keep (fun g hg hl => hb v g (Or.inr (Or.inr (List.mem_of_getElem? hv))) hg hl (h3 g hg).2), fun g hg => ⟨by have := (h3 g hg).1; omega, hF g (h3 g hg).1 (h3 g hg).2⟩⟩
  none2 := h.none2
  none3 := h.none3
  none9 := h.none9
  len04 := h.len04
  len15 := h.len15
theorem BD.lt {M : Nat} {w : World} {F : Nat → Value} {X : Nat → List Value} (h : BD M w F X) {v : Value} (hv : Rec X v) {g : Nat} (hg : v.ownBlock = some g) : g < w.heap.size ∧ Out5 M F g := by
  rcases hv with hv | hv | hv
  · obtain ⟨i, hi⟩ := List.getElem?_of_mem hv
    obtain ⟨m, n, _, _, _, _, h5⟩ := h.bytes i v hi
    exact h5 g hg
  · obtain ⟨i, hi⟩ := List.getElem?_of_mem hv
    obtain ⟨m, n, _, _, _, h5⟩ := h.numbers i v hi
    exact h5 g hg
  · obtain ⟨i, hi⟩ := List.getElem?_of_mem hv
    obtain ⟨n, _, _, h5⟩ := h.lent i v hi
    exact h5 g hg
theorem BK.same {base M : Nat} {w w' : World} {F : Nat → Value} {X : Nat → List Value} (h : BK base M w F X) (hs : w.heap.size ≤ w'.heap.size) (hb : ∀ k, k < w.heap.size → w'.heap[k]? = w.heap[k]?) : BK base M w' F X where
  cell := fun r hr => (World.cell?_of_block (w := w) (a := ⟨M, r, none⟩) (hb M (Nat.lt_of_lt_of_le h.lt h.le))).trans (h.cell r hr)
  thaw := fun j => (World.frozen?_of_block (w := w) (a := ⟨M, j, none⟩) (hb M (Nat.lt_of_lt_of_le h.lt h.le))).trans (h.thaw j)
  own := fun r hr => by
    refine ⟨(h.own r hr).1, ?_⟩
    rcases (h.own r hr).2 with hn | ⟨g, cap, cur, hv, hg, hh, q⟩
    · exact .inl hn
    · exact .inr ⟨g, cap, cur, hv, hg, (hb g (Array.getElem?_eq_some_iff.1 hh).1).trans hh, q⟩
  apart := h.apart
  lt := h.lt
  le := Nat.le_trans h.le hs
theorem BK.below {base M : Nat} {w w' : World} {F : Nat → Value} {X : Nat → List Value} (h : BK base M w F X) (hB : Below w.heap.size w w') : BK base M w' F X := h.same hB.size hB.block
theorem BD.below {M : Nat} {w w' : World} {F : Nat → Value} {X : Nat → List Value} (h : BD M w F X) (hB : Below w.heap.size w w') : BD M w' F X := h.keep hB.size (fun _ _ h => h) (fun _ g _ _ hg _ => hB.block g hg)

/-- Field r has grown, and its new head is stored. -/
def upd {α : Type} (F : Nat → α) (r : Nat) (v : α) : Nat → α := fun s => if s = r then v else F s
theorem upd_same {α : Type} (F : Nat → α) (r : Nat) (v : α) : upd F r v r = v := if_pos rfl
theorem upd_other {α : Type} (F : Nat → α) {r s : Nat} (v : α) (h : s ≠ r) : upd F r v s = F s := if_neg h
theorem BK.grow {base M : Nat} {w w1 : World} {F : Nat → Value} {X : Nat → List Value} (h : BK base M w F X) (r : Nat) (hr : r < 10) (v' : Value) (news : List Value) (hg : w.grownBy w1 (F r).ownBlock)
    (ho : w1.ownsRow base (rty r) 1 v' ((X r).length + news.length) (X r ++ news)) (hat : v'.ownBlock = (F r).ownBlock ∨ v'.ownBlock = some w.heap.size) :
    BK base M (w1.setCell ⟨M, r, none⟩ v') (upd F r v') (upd X r (X r ++ news)) where
  cell := fun s hs => by
    have hc : ∀ j, j < 10 → w1.cell? ⟨M, j, none⟩ = some (F j) := fun j hj => hg.cell (a := ⟨M, j, none⟩) (h.cell j hj) (own_ne (h.own r hr) h.lt)
    by_cases e : s = r
    · subst e; rw [upd_same]; exact World.cell?_setCell_same _ _ _ (hc s hs)
    · rw [upd_other _ _ e, World.cell?_setCell_other _ _ _ _ (fun c => e (by injection c with _ c2 _; exact c2.symm))]; exact hc s hs
  thaw := fun j => by rw [World.frozen?_setCell, World.frozen?_of_block (w := w) (a := ⟨M, j, none⟩) (hg.block M (Nat.lt_of_lt_of_le h.lt h.le) (own_ne (h.own r hr) h.lt))]; exact h.thaw j
  own := fun s hs => by
    by_cases e : s = r
    · subst e; rw [upd_same, upd_same, List.length_append]; exact own_set_below ho M s h.lt v'
    · rw [upd_other _ _ e, upd_other _ _ e]
      exact own_set_below (own_kept (h.own s hs) hg (h.apart r s hr hs (fun c => e c.symm))) M r h.lt v'
  apart := fun a b ha hb hne => by
    have key : ∀ s, s < 10 → s ≠ r → v'.ownBlock = none ∨ v'.ownBlock ≠ (F s).ownBlock := fun s hs hsr => by
      rcases hat with e | e
      · rw [e]; exact h.apart r s hr hs (fun c => hsr c.symm)
      · right; rw [e]; intro c; have := ((h.own s hs).lt _ c.symm).2; omega
    by_cases e1 : a = r
    · subst e1
      rw [upd_same, upd_other _ _ (fun c => hne c.symm)]
      exact key b hb (fun c => hne c.symm)
    · rw [upd_other _ _ e1]
      by_cases e2 : b = r
      · subst e2
        rw [upd_same]
        rcases hat with e | e
        · rw [e]; exact h.apart a b ha hb hne
        · rw [e]
          cases hv : (F a).ownBlock with
          | none => exact Or.inl rfl
          | some k => right; intro c; have := ((h.own a ha).lt k hv).2; injection c with c; omega
      · rw [upd_other _ _ e2]; exact h.apart a b ha hb hne
  lt := h.lt
  le := by have := hg.size; have := h.le; simp; omega
theorem Out5.grow {M : Nat} {F : Nat → Value} {g r : Nat} {v' : Value} {w : World} (h : Out5 M F g) (hr : r < 10) (hg : g < w.heap.size) (hat : v'.ownBlock = (F r).ownBlock ∨ v'.ownBlock = some w.heap.size) : Out5 M (upd F r v') g := by
  refine ⟨h.1, fun s hs => ?_⟩
  by_cases e : s = r
  · subst e
    rw [upd_same]
    rcases hat with e | e
    · rw [e]; exact h.2 s hs
    · rw [e]; intro c; injection c with c; omega
  · rw [upd_other _ _ e]; exact h.2 s hs
/-- The lists that came out, behind a growth of field r. -/
theorem BD.grow {M : Nat} {w w1 : World} {F : Nat → Value} {X : Nat → List Value} (d : BD M w F X) (r : Nat) (hr : r < 10) (v' : Value) (hg : w.grownBy w1 (F r).ownBlock) (hat : v'.ownBlock = (F r).ownBlock ∨ v'.ownBlock = some w.heap.size) :
    BD M (w1.setCell ⟨M, r, none⟩ v') (upd F r v') X :=
  d.keep (by have := hg.size; simp; omega) (fun g hl ho => ho.grow (w := w) hr hl hat) (fun _ g _ _ hl ho => by
    rw [heap_setCell_other _ ⟨M, r, none⟩ _ _ ho.1]
    exact hg.block g hl (fun c => ho.2 r hr c.symm))
theorem BD.addLent {M : Nat} {w : World} {F : Nat → Value} {X : Nat → List Value} (d : BD M w F X) (v : Value) (n : Nat) (hn : n ≤ 9223372036854775807) (hC : Coded w v n (fun _ => 251)) (hA : Aw M F w v) : BD M w F (upd X 8 (X 8 ++ [v])) where
  bytes := by rw [upd_other X _ (show (0 : Nat) ≠ 8 by omega), upd_other X _ (show (4 : Nat) ≠ 8 by omega)]; exact d.bytes
  numbers := by rw [upd_other X _ (show (1 : Nat) ≠ 8 by omega), upd_other X _ (show (5 : Nat) ≠ 8 by omega)]; exact d.numbers
  lent := by
    rw [upd_same]
    intro i u hu
    by_cases h : i < (X 8).length
    · rw [List.getElem?_append_left h] at hu; exact d.lent i u hu
    · rw [List.getElem?_append_right (by omega)] at hu
      have : i - (X 8).length = 0 := by
        have := (List.getElem?_eq_some_iff.1 hu).1
        simp at this; omega
      rw [this] at hu
      simp at hu
      subst hu
      exact ⟨n, hn, hC, hA⟩
  none2 := by rw [upd_other X _ (show (2 : Nat) ≠ 8 by omega)]; exact d.none2
  none3 := by rw [upd_other X _ (show (3 : Nat) ≠ 8 by omega)]; exact d.none3
  none9 := by rw [upd_other X _ (show (9 : Nat) ≠ 8 by omega)]; exact d.none9
  len04 := by rw [upd_other X _ (show (0 : Nat) ≠ 8 by omega), upd_other X _ (show (4 : Nat) ≠ 8 by omega)]; exact d.len04
  len15 := by rw [upd_other X _ (show (1 : Nat) ≠ 8 by omega), upd_other X _ (show (5 : Nat) ≠ 8 by omega)]; exact d.len15
end Go.Proofs.YtflenkppcclclaaGreatDoor

