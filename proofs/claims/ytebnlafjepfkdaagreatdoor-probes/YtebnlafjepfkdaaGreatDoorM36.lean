import Derived.Test.YtebnlafjepfkdaaGreatDoorM35
import Derived.Deep.RegionLaw
namespace Go.Proofs.YtebnlafjepfkdaaGreatDoor
open Go.RowKit

/-- 'append' of a row of one's own, as one step of a region that draws. -/
theorem step_append_own {P : Program} {ops : Array Oper} {o : Oper} {a : Act} {w : World} {K : Act → World → Prop} {Q : Exit → Act → World → Prop} {E : Prop}
    (hgd : o.guard = none) (s x : Operand) (t : TypeId) (ho : o.op = .call { callee := .builtin .append, args := #[s, x], argTypes := #[t, t] })
    (base : Nat) (e : TypeId) (i : TypeInfo) (z : Value) (size bytes : Nat) (ht : P.underlying t = some (.slice e)) (hi : P.info? e = some i) (hz : i.zero = some z)
    (hsize : i.size = size) (hby : i.bytes = bytes) (hzs : z.cells.size = size) (hsz : 0 < size)
    (v : Value) (n : Nat) (xs : List Value) (hs : a.eval s = v) (hown : w.ownsRow base e size v n xs)
    (ad : Addr) (m c : Nat) (news : List Value) (hx : a.eval x = .slice (some ad) m c) (hl : news.length = m * size) (hnews : ∀ j u, news[j]? = some u → w.cell? (ad.add j) = some u) (h1 : ∀ u ∈ news, u.oneCell' = true)
    (h63 : n + m ≤ maxLen) (hbytes : (n + m) * bytes ≤ 140737488355328) (hbase : base ≤ w.heap.size)
    (h : ∀ v' w', w'.ownsRow base e size v' (n + m) (xs ++ news) → w.grownBy w' v.ownBlock → (v'.ownBlock = v.ownBlock ∨ v'.ownBlock = some w.heap.size) → K (a.put o.dst v') w') :
    if Region.wanted o (yielded ops a.tmps) = true then Oper.wp P o a w K Q else E := by
  have hw : Region.wanted o (yielded ops a.tmps) = true := by simp [Region.wanted, hgd]
  rw [if_pos hw]
  obtain ⟨v', w', hr, h2, h3, _, h5⟩ := run_append_own_at (P := P) w base t o.type e i z size bytes ht hi hz hsize hby hzs hsz v n xs hown ad m c news hl hnews h1 h63 hbytes hbase
  unfold Oper.wp
  simp [execOp, ho, resolve, invoke, builtin, hs, hx, hr, Result.andThen]
  exact h v' w' h2 h3 h5

theorem World.grownBy.trans' {a b c : World} {row : Option Nat} (h : a.grownBy b row) (k : b.grownBy c row) : a.grownBy c row :=
  ⟨k.os.trans h.os, k.tape.trans h.tape, k.output.trans h.output, Nat.le_trans h.size k.size, fun i hi hne => (k.block i (Nat.lt_of_lt_of_le hi h.size) hne).trans (h.block i hi hne)⟩

/-- A list whose first k places hold what its owner wrote. -/
def PR (w : World) (u : Value) (k : Nat) (f : Nat → Int) (t : Int → Value) : Prop :=
  (u = .slice none 0 0 ∧ k = 0) ∨ ∃ g cap, u = .slice (some ⟨g, 0, none⟩) k cap ∧ g < w.heap.size ∧ k ≤ cap ∧ cap ≤ 9223372036854775807 ∧ ∀ j, j < k → w.cell? ⟨g, j, none⟩ = some (t (f j))
theorem PR.of {w : World} {base : Nat} {e : TypeId} {u : Value} {k : Nat} {f : Nat → Int} {t : Int → Value} (h : w.ownsRow base e 1 u k ((List.range k).map fun j => t (f j))) : PR w u k f t := by
  rcases h.2 with ⟨hv, h0⟩ | ⟨g, cap, cur, hv, hb, hh, hle, hcap, hcs, htake⟩
  · exact Or.inl ⟨hv, h0⟩
  · refine Or.inr ⟨g, cap, hv, (Array.getElem?_eq_some_iff.1 hh).1, hle, by unfold maxLen at hcap; omega, fun j hj => ?_⟩
    have := (hv ▸ h).cellAt j (by omega)
    rw [this]
    simp [List.getElem?_range hj]
theorem PR.coded {w : World} {u : Value} {k : Nat} {f : Nat → Int} (h : PR w u k f (Value.int .u8)) : Coded w u k f := by
  rcases h with ⟨rfl, rfl⟩ | ⟨g, cap, rfl, hg, hle, hcap, hc⟩
  · exact .bare none 0 rfl rfl
  · by_cases h0 : k = 0
    · subst h0; exact .bare _ cap rfl rfl
    · exact .full g 0 cap rfl ⟨fun i hi => by rw [Nat.zero_add]; exact hc i hi, hle, hcap, by omega⟩
theorem PR.ncoded {w : World} {u : Value} {k : Nat} {f : Nat → Int} (h : PR w u k f (Value.int .i64)) : NCoded w u k f := by
  rcases h with ⟨rfl, rfl⟩ | ⟨g, cap, rfl, hg, hle, hcap, hc⟩
  · exact .bare none 0 rfl rfl
  · by_cases h0 : k = 0
    · subst h0; exact .bare _ cap rfl rfl
    · exact .full g 0 cap rfl (fun i hi => by rw [Nat.zero_add]; exact hc i hi) hle hcap (by omega)
/-- What is appended to v leaves alone what its owner wrote, in v's block too. -/
theorem PR.keep {w w' : World} {u v : Value} {k n : Nat} {f : Nat → Int} {t : Int → Value} {news : List Value} (h : PR w u k f t) (hg : w.grownBy w' v.ownBlock)
    (hnews : ∀ i x, news[i]? = some x → x = t (f (n + i)))
    (hk : ∀ g j x, v.ownBlock = some g → w.cell? ⟨g, j, none⟩ = some x → w'.cell? ⟨g, j, none⟩ = some x ∨ (n ≤ j ∧ w'.cell? ⟨g, j, none⟩ = news[j - n]? ∧ j - n < news.length)) : PR w' u k f t := by
  rcases h with h | ⟨g, cap, hu, hgl, hle, hcap, hc⟩
  · exact Or.inl h
  · refine Or.inr ⟨g, cap, hu, Nat.lt_of_lt_of_le hgl hg.size, hle, hcap, fun j hj => ?_⟩
    by_cases e : v.ownBlock = some g
    · rcases hk g j _ e (hc j hj) with q | ⟨q1, q2, q3⟩
      · exact q
      · rw [q2]
        have := hnews (j - n) _ (List.getElem?_eq_getElem q3)
        rw [List.getElem?_eq_getElem q3, this, show n + (j - n) = j by omega]
    · exact hg.cell (a := ⟨g, j, none⟩) (hc j hj) (fun c => e c.symm)
theorem PR.alloc {w : World} {u : Value} {k : Nat} {f : Nat → Int} {t : Int → Value} (h : PR w u k f t) (o : Obj) : PR (w.alloc o) u k f t := by
  rcases h with h | ⟨g, cap, hu, hgl, hle, hcap, hc⟩
  · exact Or.inl h
  · exact Or.inr ⟨g, cap, hu, by simp; omega, hle, hcap, fun j hj => (World.cell?_alloc_past _ _ _ hgl).trans (hc j hj)⟩
theorem PR.block {w : World} {u : Value} {k : Nat} {f : Nat → Int} {t : Int → Value} (h : PR w u k f t) {g : Nat} (hg : u.ownBlock = some g) : g < w.heap.size := by
  rcases h with ⟨rfl, _⟩ | ⟨g', cap, rfl, hgl, _⟩
  · cases hg
  · have : g' = g := by simpa [Value.ownBlock] using hg
    omega
theorem BK.out {base M : Nat} {w w' : World} {F : Nat → Value} {X : Nat → List Value} (h : BK base M w F X) {row : Option Nat} (hg : w.grownBy w' row) (ho : ∀ g, row = some g → Out5 M F g) : BK base M w' F X := by
  cases row with
  | none => exact h.same hg.size (fun k hk => hg.block k hk (fun c => by cases c))
  | some g => exact h.other hg (ho g rfl)
theorem BD.out {M : Nat} {w w' : World} {F : Nat → Value} {X : Nat → List Value} (d : BD M w F X) {row : Option Nat} (hg : w.grownBy w' row) (hnew : ∀ u g, Rec X u → row = some g → u.ownBlock ≠ some g) : BD M w' F X :=
  d.keep hg.size (fun _ _ h => h) (fun v k hv hk hl _ => hg.block k hl (fun c => hnew v k hv c.symm hk))
theorem BD.addBytes {M : Nat} {w : World} {F : Nat → Value} {X : Nat → List Value} (d : BD M w F X) (m : Nat) (hm : m ≤ (X 4).length) (vs : List Value) (ns : List Value) (hns : ns = List.replicate vs.length (Value.int .i64 (m : Int)))
    (h : ∀ v ∈ vs, ∃ n : Nat, n ≤ 9223372036854775807 ∧ Coded w v n (fun k => digS m k) ∧ Aw M F w v) : BD M w F (upd (upd X 0 (X 0 ++ vs)) 4 (X 4 ++ ns)) where
  bytes := by
    rw [upd_same, upd_other _ _ (show (0 : Nat) ≠ 4 by omega), upd_same]
    intro i u hu
    have hl := d.len04
    by_cases hi : i < (X 0).length
    · rw [List.getElem?_append_left hi] at hu
      obtain ⟨m', n, h1, h2, h3, h4, h5⟩ := d.bytes i u hu
      exact ⟨m', n, by rw [List.getElem?_append_left (by omega)]; exact h1, by rw [List.length_append]; omega, h3, h4, h5⟩
    · rw [List.getElem?_append_right (by omega)] at hu
      obtain ⟨n, h1, h2, h3⟩ := h u (List.mem_of_getElem? hu)
      refine ⟨m, n, ?_, by rw [List.length_append]; omega, h1, h2, h3⟩
      have hlt := (List.getElem?_eq_some_iff.1 hu).1
      rw [List.getElem?_append_right (by omega), hns, List.getElem?_replicate, if_pos (by omega)]
  numbers := by rw [upd_other _ _ (show (1 : Nat) ≠ 4 by omega), upd_other _ _ (show (1 : Nat) ≠ 0 by omega), upd_other _ _ (show (5 : Nat) ≠ 4 by omega), upd_other _ _ (show (5 : Nat) ≠ 0 by omega)]; exact d.numbers
  lent := by rw [upd_other _ _ (show (8 : Nat) ≠ 4 by omega), upd_other _ _ (show (8 : Nat) ≠ 0 by omega)]; exact d.lent
  none2 := by rw [upd_other _ _ (show (2 : Nat) ≠ 4 by omega), upd_other _ _ (show (2 : Nat) ≠ 0 by omega)]; exact d.none2
  none3 := by rw [upd_other _ _ (show (3 : Nat) ≠ 4 by omega), upd_other _ _ (show (3 : Nat) ≠ 0 by omega)]; exact d.none3
  none9 := by rw [upd_other _ _ (show (9 : Nat) ≠ 4 by omega), upd_other _ _ (show (9 : Nat) ≠ 0 by omega)]; exact d.none9
  len04 := by
    rw [upd_same, upd_other _ _ (show (0 : Nat) ≠ 4 by omega), upd_same, List.length_append, List.length_append, hns, List.length_replicate, d.len04]
  len15 := by rw [upd_other _ _ (show (1 : Nat) ≠ 4 by omega), upd_other _ _ (show (1 : Nat) ≠ 0 by omega), upd_other _ _ (show (5 : Nat) ≠ 4 by omega), upd_other _ _ (show (5 : Nat) ≠ 0 by omega)]; exact d.len15
end Go.Proofs.YtebnlafjepfkdaaGreatDoor

