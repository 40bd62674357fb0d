import Derived.Test.YtflenkppcclclaaGreatDoorM24
import Derived.Laws.EntriesVeiled
import Derived.Maps.AppendAt
namespace Go.Proofs.YtflenkppcclclaaGreatDoor
open Go.RowKit

/-! A hunt one of whose lists has grown, and its new head is stored. -/
theorem HU.grewK {w w1 : World} {U : Nat → Prop} {d : HD} {g : PG} {h : HS} (p : HU w U d g h) (t : ByteArray) (cov : Nat → Int) (cg : Nat) (hcg : ∀ p, p < 64 → w.cell? ⟨cg, p, none⟩ = some (.int .u8 (cov p))) (hcu : U cg) (hcw : ¬ d.Wr cg) (v' : Value) (hg : w.grownBy w1 d.vk.ownBlock)
    (ho : w1.ownsRow 0 122 2 v' (h.kept.length + 1) (d.xk ++ [.string t, .slice (some ⟨cg, 0, none⟩) 64 64])) (hat : v'.ownBlock = d.vk.ownBlock ∨ v'.ownBlock = some w.heap.size) :
    HU (w1.setCell ⟨d.H, 7, none⟩ v') (Gr U w w1) { d with vk := v', xk := d.xk ++ [.string t, .slice (some ⟨cg, 0, none⟩) 64 64] } g { h with kept := h.kept ++ [⟨t, cov⟩] } := by
  have hHl : d.H < w.heap.size := p.lt _ (p.inU _ (Or.inl rfl))
  have hHn : some d.H ≠ d.vk.ownBlock := fun c => (p.nk _ c.symm).1 rfl
  have hnew : ∀ k, v'.ownBlock = some k → d.vk.ownBlock = some k ∨ k = w.heap.size := fun k e => by
    rcases hat with a | a
    · exact Or.inl (a ▸ e)
    · rw [a] at e; injection e with e; exact Or.inr e.symm
  have hvH : ∀ k, v'.ownBlock = some k → k ≠ d.H := fun k e => by
    rcases hnew k e with e | e
    · exact (p.nk k e).1
    · omega
  have hblk : ∀ k, k < w.heap.size → k ≠ d.H → d.vk.ownBlock ≠ some k → (w1.setCell ⟨d.H, 7, none⟩ v').heap[k]? = w.heap[k]? := fun k hk h1 h2 =>
    (heap_setCell_other w1 ⟨d.H, 7, none⟩ k v' h1).trans (hg.block k hk (fun c => h2 c.symm))
  have hWr : ∀ k, k < w.heap.size → ¬ d.Wr k → ¬ HD.Wr { d with vk := v', xk := d.xk ++ [.string t, .slice (some ⟨cg, 0, none⟩) 64 64] } k := fun k hk hn c => by
    unfold HD.Wr at hn c
    dsimp only at c
    rcases c with c | c | c | c
    · exact hn (Or.inl c)
    · rcases hnew k c with c | c
      · exact hn (Or.inr (Or.inl c))
      · omega
    · exact hn (Or.inr (Or.inr (Or.inl c)))
    · exact hn (Or.inr (Or.inr (Or.inr c)))
  have hlt2 : w.heap.size ≤ w1.heap.size := hg.size
  exact {
    cell := by
      intro j hj
      have hc : ∀ j, j < 40 → w1.cell? ⟨d.H, j, none⟩ = some (hval d g h j) := fun j hj => hg.cell (a := ⟨d.H, j, none⟩) (p.cell j hj) hHn
      by_cases e : j = 7
      · subst e; exact World.cell?_setCell_same _ _ _ (hc 7 hj)
      · rw [World.cell?_setCell_other _ _ _ _ (fun c => e (by injection c with _ c2 _; exact c2.symm)), hc j hj]
        unfold hval; simp only [if_neg e]
    thaw := fun j => by rw [World.frozen?_setCell, World.frozen?_of_block (w := w) (a := ⟨d.H, j, none⟩) (hg.block d.H hHl hHn)]; exact p.thaw j
    rk := by
      have := own_keep ho (w' := w1.setCell ⟨d.H, 7, none⟩ v') (fun b e => heap_setCell_other w1 ⟨d.H, 7, none⟩ b v' (hvH b e))
      simpa using this
    rf := own_keep p.rf (fun b e => hblk b (own_blk p.rf e) (p.nf b e).1 (fun c => (p.nk b c).2.1 e))
    rc := own_keep p.rc (fun b e => hblk b (own_blk p.rc e) (p.nc b e) (fun c => (p.nk b c).2.2 e))
    nk := fun b e => by
      rcases hnew b e with e' | e'
      · exact ⟨hvH b e, (p.nk b e').2⟩
      · exact ⟨hvH b e, fun c => by have := own_blk p.rf c; omega, fun c => by have := own_blk p.rc c; omega⟩
    nf := p.nf
    nc := p.nc
    code := p.code.of_block (hblk _ (p.lt _ p.inC) (fun c => p.ncode (Or.inl c)) (fun c => p.ncode (Or.inr (Or.inl c))))
    ncode := hWr _ (p.lt _ p.inC) p.ncode
    kept := by
      have hlx : d.xk.length = h.kept.length * 2 := p.rk.1
      intro i k hk
      rcases get_append_one hk with ⟨hi, hk⟩ | ⟨rfl, rfl⟩
      · obtain ⟨h1, b, h2, h3, h4, h5⟩ := p.kept i k hk
        refine ⟨?_, b, ?_, fun q hq => ?_, hWr b (p.lt b h5) h4, Or.inl h5⟩
        · show (d.xk ++ _)[2 * i]? = _
          rw [List.getElem?_append_left (by omega)]; exact h1
        · show (d.xk ++ _)[2 * i + 1]? = _
          rw [List.getElem?_append_left (by omega)]; exact h2
        · exact (World.cell?_of_block (w := w) (a := ⟨b, q, none⟩) (hblk b (p.lt b h5) (fun c => h4 (Or.inl c)) (fun c => h4 (Or.inr (Or.inl c))))).trans (h3 q hq)
      · refine ⟨?_, cg, ?_, fun q hq => ?_, hWr cg (p.lt cg hcu) hcw, Or.inl hcu⟩
        · show (d.xk ++ _)[2 * h.kept.length]? = _
          rw [List.getElem?_append_right (by omega), hlx]
          simp [show 2 * h.kept.length - h.kept.length * 2 = 0 by omega]
        · show (d.xk ++ _)[2 * h.kept.length + 1]? = _
          rw [List.getElem?_append_right (by omega), hlx]
          simp [show 2 * h.kept.length + 1 - h.kept.length * 2 = 1 by omega]
        · exact (World.cell?_of_block (w := w) (a := ⟨cg, q, none⟩) (hblk cg (p.lt cg hcu) (fun c => hcw (Or.inl c)) (fun c => hcw (Or.inr (Or.inl c))))).trans (hcg q hq)
    inU := fun k hk => by
      unfold HD.Wr at hk
      dsimp only at hk
      rcases hk with c | c | c | c
      · exact Or.inl (p.inU k (Or.inl c))
      · rcases hnew k c with e | e
        · exact Or.inl (p.inU k (Or.inr (Or.inl e)))
        · exact Or.inr ⟨by omega, own_blk ho c⟩
      · exact Or.inl (p.inU k (Or.inr (Or.inr (Or.inl c))))
      · exact Or.inl (p.inU k (Or.inr (Or.inr (Or.inr c))))
    inC := Or.inl p.inC
    lt := fun k hk => by
      rw [World.size_setCell]
      rcases hk with c | c
      · have := p.lt k c; omega
      · exact c.2
    low := fun k hk => by
      rcases hk with c | c
      · exact p.low k c
      · have := p.two; omega }
theorem HU.grewF {w w1 : World} {U : Nat → Prop} {d : HD} {g : PG} {h : HS} (p : HU w U d g h) (t : ByteArray) (f q : Int) (v' : Value) (hg : w.grownBy w1 d.vf.ownBlock)
    (ho : w1.ownsRow 0 42 3 v' (h.found.length + 1) (fcells h.found ++ [.string t, .int .i64 f, .int .i64 q])) (hat : v'.ownBlock = d.vf.ownBlock ∨ v'.ownBlock = some w.heap.size) :
    HU (w1.setCell ⟨d.H, 8, none⟩ v') (Gr U w w1) { d with vf := v' } g { h with found := h.found ++ [⟨t, f, q⟩] } := by
  have hHl : d.H < w.heap.size := p.lt _ (p.inU _ (Or.inl rfl))
  have hHn : some d.H ≠ d.vf.ownBlock := fun c => (p.nf _ c.symm).1 rfl
  have hnew : ∀ k, v'.ownBlock = some k → d.vf.ownBlock = some k ∨ k = w.heap.size := fun k e => by
    rcases hat with a | a
    · exact Or.inl (a ▸ e)
    · rw [a] at e; injection e with e; exact Or.inr e.symm
  have hvH : ∀ k, v'.ownBlock = some k → k ≠ d.H := fun k e => by
    rcases hnew k e with e | e
    · exact (p.nf k e).1
    · omega
  have hblk : ∀ k, k < w.heap.size → k ≠ d.H → d.vf.ownBlock ≠ some k → (w1.setCell ⟨d.H, 8, none⟩ v').heap[k]? = w.heap[k]? := fun k hk h1 h2 =>
    (heap_setCell_other w1 ⟨d.H, 8, none⟩ k v' h1).trans (hg.block k hk (fun c => h2 c.symm))
  have hWr : ∀ k, k < w.heap.size → ¬ d.Wr k → ¬ HD.Wr { d with vf := v' } k := fun k hk hn c => by
    unfold HD.Wr at hn c
    dsimp only at c
    rcases c with c | c | c | c
    · exact hn (Or.inl c)
    · exact hn (Or.inr (Or.inl c))
    · rcases hnew k c with c | c
      · exact hn (Or.inr (Or.inr (Or.inl c)))
      · omega
    · exact hn (Or.inr (Or.inr (Or.inr c)))
  have hlt2 : w.heap.size ≤ w1.heap.size := hg.size
  exact {
    cell := by
      intro j hj
      have hc : ∀ j, j < 40 → w1.cell? ⟨d.H, j, none⟩ = some (hval d g h j) := fun j hj => hg.cell (a := ⟨d.H, j, none⟩) (p.cell j hj) hHn
      by_cases e : j = 8
      · subst e; exact World.cell?_setCell_same _ _ _ (hc 8 hj)
      · rw [World.cell?_setCell_other _ _ _ _ (fun c => e (by injection c with _ c2 _; exact c2.symm)), hc j hj]
        unfold hval; simp only [if_neg e]
    thaw := fun j => by rw [World.frozen?_setCell, World.frozen?_of_block (w := w) (a := ⟨d.H, j, none⟩) (hg.block d.H hHl hHn)]; exact p.thaw j
    rk := own_keep p.rk (fun b e => hblk b (own_blk p.rk e) (p.nk b e).1 (p.nk b e).2.1)
    rf := by
      have := own_keep ho (w' := w1.setCell ⟨d.H, 8, none⟩ v') (fun b e => heap_setCell_other w1 ⟨d.H, 8, none⟩ b v' (hvH b e))
      simpa [fcells] using this
    rc := own_keep p.rc (fun b e => hblk b (own_blk p.rc e) (p.nc b e) (fun c => (p.nf b c).2 e))
    nk := fun b e => by
      refine ⟨(p.nk b e).1, fun c => ?_, (p.nk b e).2.2⟩
      rcases hnew b c with c | c
      · exact (p.nk b e).2.1 c
      · have := own_blk p.rk e; omega
    nf := fun b e => by
      rcases hnew b e with e' | e'
      · exact ⟨hvH b e, (p.nf b e').2⟩
      · exact ⟨hvH b e, fun c => by have := own_blk p.rc c; omega⟩
    nc := p.nc
    code := p.code.of_block (hblk _ (p.lt _ p.inC) (fun c => p.ncode (Or.inl c)) (fun c => p.ncode (Or.inr (Or.inr (Or.inl c)))))
    ncode := hWr _ (p.lt _ p.inC) p.ncode
    kept := by
      intro i k hk
      obtain ⟨h1, b, h2, h3, h4, h5⟩ := p.kept i k hk
      exact ⟨h1, b, h2, fun q hq => (World.cell?_of_block (w := w) (a := ⟨b, q, none⟩) (hblk b (p.lt b h5) (fun c => h4 (Or.inl c)) (fun c => h4 (Or.inr (Or.inr (Or.inl c)))))).trans (h3 q hq), hWr b (p.lt b h5) h4, Or.inl h5⟩
    inU := fun k hk => by
      unfold HD.Wr at hk
      dsimp only at hk
      rcases hk with c | c | c | c
      · exact Or.inl (p.inU k (Or.inl c))
      · exact Or.inl (p.inU k (Or.inr (Or.inl c)))
      · rcases hnew k c with e | e
        · exact Or.inl (p.inU k (Or.inr (Or.inr (Or.inl e))))
        · exact Or.inr ⟨by omega, own_blk ho c⟩
      · exact Or.inl (p.inU k (Or.inr (Or.inr (Or.inr c))))
    inC := Or.inl p.inC
    lt := fun k hk => by
      rw [World.size_setCell]
      rcases hk with c | c
      · have := p.lt k c; omega
      · exact c.2
    low := fun k hk => by
      rcases hk with c | c
      · exact p.low k c
      · have := p.two; omega }
theorem HU.grewC {w w1 : World} {U : Nat → Prop} {d : HD} {g : PG} {h : HS} (p : HU w U d g h) (b : Bool) (t : ByteArray) (v' : Value) (hg : w.grownBy w1 d.vc.ownBlock)
    (ho : w1.ownsRow 0 5 1 v' (h.hist.length + 1) (ccells h.hist ++ [.int .u8 (letter b)])) (hat : v'.ownBlock = d.vc.ownBlock ∨ v'.ownBlock = some w.heap.size) :
    HU (w1.setCell ⟨d.H, 9, none⟩ v') (Gr U w w1) { d with vc := v' } g { h with hist := h.hist ++ [(b, t)] } := by
  have hHl : d.H < w.heap.size := p.lt _ (p.inU _ (Or.inl rfl))
  have hHn : some d.H ≠ d.vc.ownBlock := fun c => (p.nc _ c.symm) rfl
  have hnew : ∀ k, v'.ownBlock = some k → d.vc.ownBlock = some k ∨ k = w.heap.size := fun k e => by
    rcases hat with a | a
    · exact Or.inl (a ▸ e)
    · rw [a] at e; injection e with e; exact Or.inr e.symm
  have hvH : ∀ k, v'.ownBlock = some k → k ≠ d.H := fun k e => by
    rcases hnew k e with e | e
    · exact (p.nc k e)
    · omega
  have hblk : ∀ k, k < w.heap.size → k ≠ d.H → d.vc.ownBlock ≠ some k → (w1.setCell ⟨d.H, 9, none⟩ v').heap[k]? = w.heap[k]? := fun k hk h1 h2 =>
    (heap_setCell_other w1 ⟨d.H, 9, none⟩ k v' h1).trans (hg.block k hk (fun c => h2 c.symm))
  have hWr : ∀ k, k < w.heap.size → ¬ d.Wr k → ¬ HD.Wr { d with vc := v' } k := fun k hk hn c => by
    unfold HD.Wr at hn c
    dsimp only at c
    rcases c with c | c | c | c
    · exact hn (Or.inl c)
    · exact hn (Or.inr (Or.inl c))
    · exact hn (Or.inr (Or.inr (Or.inl c)))
    · rcases hnew k c with c | c
      · exact hn (Or.inr (Or.inr (Or.inr c)))
      · omega
  have hlt2 : w.heap.size ≤ w1.heap.size := hg.size
  exact {
    cell := by
      intro j hj
      have hc : ∀ j, j < 40 → w1.cell? ⟨d.H, j, none⟩ = some (hval d g h j) := fun j hj => hg.cell (a := ⟨d.H, j, none⟩) (p.cell j hj) hHn
      by_cases e : j = 9
      · subst e; exact World.cell?_setCell_same _ _ _ (hc 9 hj)
      · rw [World.cell?_setCell_other _ _ _ _ (fun c => e (by injection c with _ c2 _; exact c2.symm)), hc j hj]
        unfold hval; simp only [if_neg e]
    thaw := fun j => by rw [World.frozen?_setCell, World.frozen?_of_block (w := w) (a := ⟨d.H, j, none⟩) (hg.block d.H hHl hHn)]; exact p.thaw j
    rk := own_keep p.rk (fun b e => hblk b (own_blk p.rk e) (p.nk b e).1 (p.nk b e).2.2)
    rf := own_keep p.rf (fun b e => hblk b (own_blk p.rf e) (p.nf b e).1 (p.nf b e).2)
    rc := by
      have := own_keep ho (w' := w1.setCell ⟨d.H, 9, none⟩ v') (fun b e => heap_setCell_other w1 ⟨d.H, 9, none⟩ b v' (hvH b e))
      simpa [ccells] using this
    nk := fun b e => by
      refine ⟨(p.nk b e).1, (p.nk b e).2.1, fun c => ?_⟩
      rcases hnew b c with c | c
      · exact (p.nk b e).2.2 c
      · have := own_blk p.rk e; omega
    nf := fun b e => by
      refine ⟨(p.nf b e).1, fun c => ?_⟩
      rcases hnew b c with c | c
      · exact (p.nf b e).2 c
      · have := own_blk p.rf e; omega
    nc := fun b e => hvH b e
    code := p.code.of_block (hblk _ (p.lt _ p.inC) (fun c => p.ncode (Or.inl c)) (fun c => p.ncode (Or.inr (Or.inr (Or.inr c)))))
    ncode := hWr _ (p.lt _ p.inC) p.ncode
    kept := by
      intro i k hk
      obtain ⟨h1, b, h2, h3, h4, h5⟩ := p.kept i k hk
      exact ⟨h1, b, h2, fun q hq => (World.cell?_of_block (w := w) (a := ⟨b, q, none⟩) (hblk b (p.lt b h5) (fun c => h4 (Or.inl c)) (fun c => h4 (Or.inr (Or.inr (Or.inr c)))))).trans (h3 q hq), hWr b (p.lt b h5) h4, Or.inl h5⟩
    inU := fun k hk => by
      unfold HD.Wr at hk
      dsimp only at hk
      rcases hk with c | c | c | c
      · exact Or.inl (p.inU k (Or.inl c))
      · exact Or.inl (p.inU k (Or.inr (Or.inl c)))
      · exact Or.inl (p.inU k (Or.inr (Or.inr (Or.inl c))))
      · rcases hnew k c with e | e
        · exact Or.inl (p.inU k (Or.inr (Or.inr (Or.inr e))))
        · exact Or.inr ⟨by omega, own_blk ho c⟩
    inC := Or.inl p.inC
    lt := fun k hk => by
      rw [World.size_setCell]
      rcases hk with c | c
      · have := p.lt k c; omega
      · exact c.2
    low := fun k hk => by
      rcases hk with c | c
      · exact p.low k c
      · have := p.two; omega }
end Go.Proofs.YtflenkppcclclaaGreatDoor

namespace Go.Proofs.YtflenkppcclclaaGreatDoor
open Go.RowKit

/-! What was found. -/
def cr0 : Cr := ⟨⟨#[]⟩, 0, 0⟩
theorem fcells_at : ∀ (l : List Cr) (j : Nat), j < l.length → (fcells l)[j * 3]? = some (.string (l.getD j cr0).text) ∧ (fcells l)[j * 3 + 1]? = some (.int .i64 (l.getD j cr0).fault) ∧ (fcells l)[j * 3 + 2]? = some (.int .i64 (l.getD j cr0).place)
  | [], j, h => by simp at h
  | c :: l, 0, _ => ⟨rfl, rfl, rfl⟩
  | c :: l, j + 1, h => by
    have ih := fcells_at l j (by simpa using h)
    have e : fcells (c :: l) = .string c.text :: .int .i64 c.fault :: .int .i64 c.place :: fcells l := rfl
    rw [e, show (j + 1) * 3 = j * 3 + 1 + 1 + 1 by omega, show j * 3 + 1 + 1 + 1 + 1 = (j * 3 + 1) + 1 + 1 + 1 by omega, show j * 3 + 1 + 1 + 1 + 2 = (j * 3 + 2) + 1 + 1 + 1 by omega]
    simpa using ih
theorem any_range {α : Type} (l : List α) (d : α) (P : α → Bool) : ((List.range l.length).any fun j => P (l.getD j d)) = l.any P := by
  rw [Bool.eq_iff_iff, List.any_eq_true, List.any_eq_true]
  constructor
  · rintro ⟨j, hj, h⟩
    have hj' := List.mem_range.1 hj
    refine ⟨l.getD j d, ?_, h⟩
    rw [List.getD_eq_getElem?_getD, List.getElem?_eq_getElem hj', Option.getD_some]
    exact List.getElem_mem hj'
  · rintro ⟨x, hx, h⟩
    obtain ⟨j, hj⟩ := List.getElem?_of_mem hx
    refine ⟨j, List.mem_range.2 (List.getElem?_eq_some_iff.1 hj).1, ?_⟩
    rw [List.getD_eq_getElem?_getD, hj]
    exact h
theorem find1_tells (B : Nat) (l : List Cr) (w : World) (f p : Int) (hB : B < w.heap.size) (h1 : w.cell? ⟨B, 1, none⟩ = some (.int .i64 f)) (h2 : w.cell? ⟨B, 2, none⟩ = some (.int .i64 p)) (n : Nat) :
    Tells 165 #[.pointer (some ⟨B, 0, none⟩)] n (fun j => .agg #[.string (l.getD j cr0).text, .int .i64 (l.getD j cr0).fault, .int .i64 (l.getD j cr0).place]) (fun j => sameCr f p (l.getD j cr0)) w := by
  intro W j _ hW
  have c1 := (hW.cell (p := ⟨B, 1, none⟩) hB).trans h1
  have c2 := (hW.cell (p := ⟨B, 2, none⟩) hB).trans h2
  have hs := hW.size
  have HB : Hid (Below w.heap.size w W) := hW
  clear h1 h2 hW
  dsimp only
  unfold sameCr
  generalize l.getD j cr0 = k
  obtain ⟨t, a, b⟩ := k
  dsimp only
  have hB' : B < W.heap.size := by omega
  by_cases e1 : a = f
  · by_cases e2 : b = p
    · go_enter Tryz.func165, Tryz.ntmps165
      go_wp2
      go_ret
      exact ⟨by simp [e1, e2], HB.out.alloc hs _⟩
    · go_enter Tryz.func165, Tryz.ntmps165
      go_wp2
      go_ret
      exact ⟨by simp [e1, e2], HB.out.alloc hs _⟩
  · go_enter Tryz.func165, Tryz.ntmps165
    go_wp2
    go_ret
    exact ⟨by simp [e1], HB.out.alloc hs _⟩
theorem hfind1_enters : ∀ args w, (callFunc 165 args).run Tryz.prog w = .ok (.enter 165 args) w := enters_of Tryz.func165 (by kernel_rfl) rfl

theorem own_form0 {w : World} {base : Nat} {e : TypeId} {size : Nat} {v : Value} {n : Nat} {xs : List Value} (h : w.ownsRow base e size v n xs) : (v = .slice none 0 0 ∧ n = 0) ∨ ∃ b cap, v = .slice (some ⟨b, 0, none⟩) n cap ∧ b < w.heap.size ∧ cap ≤ maxLen ∧ n ≤ cap ∧ ∀ (i : Nat) (u : Value), xs[i]? = some u → w.cell? ⟨b, i, none⟩ = some u := by
  rcases h.2 with h0 | ⟨b, cap, cur, hv, hg, hh, hn, hcap, r⟩
  · exact Or.inl h0
  · refine Or.inr ⟨b, cap, hv, (Array.getElem?_eq_some_iff.1 hh).1, hcap, hn, fun i u hu => ?_⟩
    have := h.cells (g := b) (by rw [hv]; rfl) i u hu
    rw [Addr.add_lit] at this
    simpa using this

set_option maxHeartbeats 1000000 in
theorem lcHas_any {w : World} {U : Nat → Prop} {d : HD} {g : PG} {h : HS} (p : HU w U d g h) (B : Nat) (f q : Int) (hB : B < w.heap.size) (h1 : w.cell? ⟨B, 1, none⟩ = some (.int .i64 f)) (h2 : w.cell? ⟨B, 2, none⟩ = some (.int .i64 q)) :
    Calls Tryz.prog 166 #[.pointer (some ⟨d.H, 8, none⟩), .func (.func 165) #[] #[.pointer (some ⟨B, 0, none⟩)]] w fun e w' => e = .returned (.bool (h.found.any (sameCr f q))) ∧ Below w.heap.size w w' := by
  have c8 : w.cell? ⟨d.H, 8, none⟩ = some d.vf := p.cell 8 (by omega)
  have HT := find1_tells B h.found w f q hB h1 h2
  rcases own_form0 p.rf with ⟨hv, hn⟩ | ⟨b, cap, hv, hb, hcap, hnc, hc⟩
  · rw [hv] at c8
    have e : h.found = [] := List.eq_nil_of_length_eq_zero hn
    rw [e]
    clear p HT
    go_enter Tryz.func166, Tryz.ntmps166
    go_wp2_with fail
    refine (cfCr_none _ _ _ _).mono ?_
    rintro e w1 ⟨rfl, hw⟩
    obtain rfl := hw.symm
    go_wp2_with fail
    go_ret
    exact ⟨rfl, Below.refl _ _⟩
  · rw [hv] at c8
    have hmx : h.found.length ≤ 9223372036854775807 := by unfold maxLen at hcap; omega
    have HC : Hid (Calls Tryz.prog 213 #[.slice (some ⟨b, 0, none⟩) h.found.length cap, .func (.func 165) #[] #[.pointer (some ⟨B, 0, none⟩)]] w fun e w' => e = .returned (.bool ((List.range h.found.length).any fun j => sameCr f q (h.found.getD j cr0))) ∧ Below w.heap.size w w') :=
      cfCr_any _ _ hfind1_enters b h.found.length cap _ _ _ _ w (HT _) hmx hb (fun j hj => hc _ _ (fcells_at h.found j hj).1) (fun j hj => hc _ _ (fcells_at h.found j hj).2.1) (fun j hj => hc _ _ (fcells_at h.found j hj).2.2)
    rw [any_range] at HC
    generalize h.found.any (sameCr f q) = r at HC ⊢
    generalize h.found.length = n at *
    clear p HT hc
    go_enter Tryz.func166, Tryz.ntmps166
    go_wp2_with fail
    refine HC.out.mono ?_
    rintro e w1 ⟨rfl, B1⟩
    go_wp2_with fail
    go_ret
    exact ⟨rfl, B1⟩

theorem infoCr : (Tryz.prog.info? 42).map (fun i => (i.zero, i.size, i.bytes)) = some (some (.agg #[.string ⟨#[]⟩, .int .i64 0, .int .i64 0]), 3, 32) := by kernel_rfl
theorem infoIn : (Tryz.prog.info? 122).map (fun i => (i.zero, i.size, i.bytes)) = some (some (.agg #[.string ⟨#[]⟩, .slice none 0 0]), 2, 40) := by kernel_rfl
theorem info_of {t : TypeId} {z : Option Value} {s b : Nat} (h : (Tryz.prog.info? t).map (fun i => (i.zero, i.size, i.bytes)) = some (z, s, b)) : ∃ i, Tryz.prog.info? t = some i ∧ i.zero = z ∧ i.size = s ∧ i.bytes = b := by
  cases e : Tryz.prog.info? t with
  | none => rw [e] at h; cases h
  | some i => rw [e] at h; simp at h; exact ⟨i, rfl, h.1, h.2.1, h.2.2⟩

/-- What a call on a hunt leaves: the hunt at H is h', and nothing else was touched. -/
structure HuntTo (U : Nat → Prop) (H : Nat) (g : PG) (h' : HS) (w w' : World) : Prop where
  fr : Fr U w w'
  hu : ∃ d, d.H = H ∧ HU w' (Gr U w w') d g h'
theorem step_append_row {P : Program} {ops : Array Oper} {o : Oper} {a : Act} {w : World} {K : Act → World → Prop} {Q : Exit → Act → World → Prop} {E : Prop}
    (hgd : o.guard = none) (s x : Operand) (t : TypeId) (ho : o.op = .call { callee := .builtin .append, args := #[s, x], argTypes := #[t, t] })
    (base : Nat) (e : TypeId) (i : TypeInfo) (z : Value) (size bytes : Nat) (ht : P.underlying t = some (.slice e)) (hi : P.info? e = some i) (hz : i.zero = some z)
    (hsize : i.size = size) (hby : i.bytes = bytes) (hzs : z.cells.size = size) (hsz : 0 < size)
    (v : Value) (n : Nat) (xs : List Value) (hs : a.eval s = v) (hown : w.ownsRow base e size v n xs)
    (ad : Addr) (m c : Nat) (news : List Value) (hx : a.eval x = .slice (some ad) m c) (hl : news.length = m * size) (hnews : ∀ j u, news[j]? = some u → w.cell? (ad.add j) = some u) (h1 : ∀ u ∈ news, u.oneCell' = true)
    (h63 : n + m ≤ maxLen) (hbytes : (n + m) * bytes ≤ 140737488355328) (hbase : base ≤ w.heap.size)
    (h : ∀ v' w', w'.ownsRow base e size v' (n + m) (xs ++ news) → w.grownBy w' v.ownBlock → (v'.ownBlock = v.ownBlock ∨ v'.ownBlock = some w.heap.size) → K (a.put o.dst v') w') :
    if Region.wanted o (yielded ops a.tmps) = true then Oper.wp P o a w K Q else E := by
  have hw : Region.wanted o (yielded ops a.tmps) = true := by simp [Region.wanted, hgd]
  rw [if_pos hw]
  obtain ⟨v', w', hr, h2, h3, _, h5⟩ := run_append_own_at (P := P) w base t o.type e i z size bytes ht hi hz hsize hby hzs hsz v n xs hown ad m c news hl hnews h1 h63 hbytes hbase
  unfold Oper.wp
  simp [execOp, ho, resolve, invoke, builtin, hs, hx, hr, Result.andThen]
  exact h v' w' h2 h3 h5
theorem cells_of_new (w : World) (cs : List Value) (t : TypeId) : ∀ (j : Nat) (u : Value), cs[j]? = some u → (w.alloc (.cells cs.toArray t)).cell? ((⟨w.heap.size, 0, none⟩ : Addr).add j) = some u := by
  intro j u hj
  have hadd : (⟨w.heap.size, 0, none⟩ : Addr).add j = ⟨w.heap.size, j, none⟩ := by unfold Addr.add; split <;> simp_all
  rw [hadd, World.cell?_alloc_new]
  simpa using hj
theorem cells_of_newd (w : World) (cs : List Value) (t : TypeId) (n : Nat) (hn : w.heap.size = n) : ∀ (j : Nat) (u : Value), cs[j]? = some u → (w.alloc (.cells cs.toArray t)).drew.cell? ((⟨n, 0, none⟩ : Addr).add j) = some u := by
  subst hn
  exact cells_of_new w cs t
theorem HU.alloc {w : World} {U : Nat → Prop} {d : HD} {g : PG} {h : HS} (p : HU w U d g h) (o : Obj) : HU (w.alloc o) (Gr U w (w.alloc o)) d g h := p.gr ((Below.refl _ _).alloc (Nat.le_refl _) o)
/-- A list has grown by one: what the stores behind it need. -/
theorem grown_cell {w w' : World} {U : Nat → Prop} {d : HD} {g : PG} {h : HS} (p : HU w U d g h) {v : Value} (hg : w.grownBy w' v.ownBlock) (hne : some d.H ≠ v.ownBlock) (j : Nat) (hj : j < 40) : w'.cell? ⟨d.H, j, none⟩ = some (hval d g h j) ∧ w'.frozen? ⟨d.H, j, none⟩ = false := by
  refine ⟨hg.cell (a := ⟨d.H, j, none⟩) (p.cell j hj) hne, ?_⟩
  rw [World.frozen?_of_block (w := w) (a := ⟨d.H, j, none⟩) (hg.block d.H (p.lt _ (p.inU _ (Or.inl rfl))) hne)]
  exact p.thaw j
theorem gr_size {U : Nat → Prop} {w a b : World} (h : a.heap.size = b.heap.size) : Gr U w a = Gr U w b := by unfold Gr; rw [h]

set_option maxHeartbeats 1000000 in
theorem lcAdd_any {w : World} {U : Nat → Prop} {d : HD} {g : PG} {h : HS} (p : HU w U d g h) (t : ByteArray) (f q : Int) (hn : h.found.length ≤ 1000000) :
    Calls Tryz.prog 167 #[.pointer (some ⟨d.H, 8, none⟩), .agg #[.string t, .int .i64 f, .int .i64 q]] w fun e w' => e = .returned (.tuple #[]) ∧ HuntTo U d.H g { h with found := h.found ++ [⟨t, f, q⟩] } w w' := by
  obtain ⟨i, hi, hz0, hz1, hz2⟩ := info_of infoCr
  have c0 : w.cell? ⟨d.H, 8, none⟩ = some d.vf := p.cell 8 (by omega)
  have f0 := p.thaw 8
  have hH : d.H < w.heap.size := p.lt _ (p.inU _ (Or.inl rfl))
  have hne : some d.H ≠ d.vf.ownBlock := fun c => (p.nf _ c.symm).1 rfl
  have b2 : Below w.heap.size w ((w.alloc (.cells #[.string t, .int .i64 f, .int .i64 q] 42)).alloc (.cells #[.string t, .int .i64 f, .int .i64 q] 42)) := ((Below.refl _ _).alloc (Nat.le_refl _) _).alloc (by simp) _
  have p2 := p.gr b2
  have HF : Hid (∀ v' w6, w6.ownsRow 0 42 3 v' (h.found.length + 1) (fcells h.found ++ [.string t, .int .i64 f, .int .i64 q]) → ((w.alloc (.cells #[.string t, .int .i64 f, .int .i64 q] 42)).alloc (.cells #[.string t, .int .i64 f, .int .i64 q] 42)).grownBy w6 d.vf.ownBlock → (v'.ownBlock = d.vf.ownBlock ∨ v'.ownBlock = some ((w.alloc (.cells #[.string t, .int .i64 f, .int .i64 q] 42)).alloc (.cells #[.string t, .int .i64 f, .int .i64 q] 42)).heap.size) →
      (w6.cell? ⟨d.H, 8, none⟩ = some d.vf ∧ w6.frozen? ⟨d.H, 8, none⟩ = false) ∧ HuntTo U d.H g { h with found := h.found ++ [⟨t, f, q⟩] } w (w6.setCell ⟨d.H, 8, none⟩ v')) := by
    intro v' w6 ho hg hat
    refine ⟨grown_cell p2 hg hne 8 (by omega), ?_, { d with vf := v' }, rfl, ?_⟩
    · exact ((Fr.below b2).same (Fr.grown hg (fun k e => p.inU k (Or.inr (Or.inr (Or.inl e)))))).same (Fr.set (p.inU _ (Or.inl rfl)) 8 v')
    · have := p2.grewF t f q v' hg ho hat
      rw [gr_gr b2.size hg.size] at this
      rw [gr_size (World.size_setCell w6 _ _)]
      exact this
  have hrf := p2.rf
  clear p p2 b2
  go_enter Tryz.func167, Tryz.ntmps167
  go_wp2_with fail
  go_region_law (refine step_append_row rfl (.tmp 8) (.tmp 10) 39 rfl 0 42 i _ 3 32 Tryz.underlying39 hi hz0 hz1 hz2 rfl (by decide) d.vf h.found.length (fcells h.found) (by simp [Act.eval]) (own_keep hrf (fun _ _ => rfl)) ⟨w.heap.size + 1, 0, none⟩ 1 1 [.string t, .int .i64 f, .int .i64 q] (by simp [Act.eval]) rfl (cells_of_newd (w.alloc (.cells #[.string t, .int .i64 f, .int .i64 q] 42)) [.string t, .int .i64 f, .int .i64 q] 42 (w.heap.size + 1) (by simp)) (by intro u hu; simp at hu; rcases hu with rfl | rfl | rfl <;> rfl) (by unfold maxLen; omega) (by omega) (by omega) ?_; intro v6 w6 ho6 hg6 hat6; obtain ⟨g6, k6, rfl⟩ := own_form ho6 (by omega); obtain ⟨⟨c6, f6⟩, hfin⟩ := HF.out _ w6 ho6 ⟨hg6.os, hg6.tape, hg6.output, hg6.size, hg6.block⟩ hat6; have HALL : Hid _ := hfin; clear ho6 hg6 hat6 hfin)
  all_goals
    go_wp2
    go_end0
    exact ⟨rfl, HALL.out⟩
end Go.Proofs.YtflenkppcclclaaGreatDoor

