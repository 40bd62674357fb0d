import Derived.Test.YtebnlafjepfkdaaGreatDoorM17
namespace Go.Proofs.YtebnlafjepfkdaaGreatDoor
open Go.RowKit

theorem rwrong_gen (w : World) (v : Value) (L most : Nat) (c : Nat → Int) (probes : Bool) (hm : most ≤ 240) (hby : ∀ i, i < L → 0 ≤ c i ∧ c i ≤ 255) (C : Coded w v L c) :
    Calls Tryz.prog 56 #[v, .int .i64 (most : Int), .bool probes] w (WrongIs c L most probes w) := by
  cases C with
  | full cb co cap hv C => subst hv; exact rwrong_full w cb co L cap most c probes hm hby C
  | bare p cap hv hL =>
    subst hv hL
    refine (rwrong_bare w p cap most probes (by omega)).mono ?_
    rintro e w' ⟨rfl, rfl⟩
    exact ⟨0, true, Or.inr ⟨by omega, 0, ⟨by omega, by unfold zOf; split <;> omega, fun _ h => by omega, fun _ h => by omega, fun _ h => by omega, fun _ h => by omega⟩, Or.inr ⟨rfl, Or.inl ⟨rfl, rfl, rfl⟩⟩⟩, rfl, Below.refl _ _⟩

set_option maxHeartbeats 400000 in
theorem rprobed_any (w : World) (cb co L cap N : Nat) (c : Nat → Int) (S : SP c L N 20) (hN : pos c N = L) (C : Laid w cb co L cap c) :
    Calls Tryz.prog 64 #[.slice (some ⟨cb, co, none⟩) L cap] w fun e w' => e = .returned (.bool (probeIn c N)) ∧ Below w.heap.size w w' := by
  have hpos := C.some'
  have hN0 : 0 < N := by
    cases N with
    | zero => have : pos c 0 = 0 := rfl
              omega
    | succ n => omega
  have hN240 := S.count
  go_enter Tryz.func64, Tryz.ntmps64
  go_wp2_with fail
  refine (rstarts_any w cb co L cap c true S.most S.byte C).mono ?_
  rintro e w1 ⟨M, S', B1, ⟨hlt, hsb, rfl⟩ | ⟨hM, v, hown, rfl⟩⟩
  · have := S.same hN S' (Or.inr ⟨hlt, hsb⟩)
    subst this
    omega
  · have := S.same hN S' (Or.inl hM)
    subst this
    obtain ⟨g, cp, rfl⟩ := own_form hown hN0
    have HC : Hid (∀ i, i < M → w1.cell? ⟨g, i, none⟩ = some (.int .i64 (pos c i))) := fun i hi => (own_cell (f := fun i => (pos c i : Int)) hown hi).2
    clear hown
    go_wp2_with fail
    go_loopw [5] (fun i wr => ∃ t : Nat, t ≤ M ∧ i = .int .i64 t ∧ probeIn c t = false ∧ wr = w1) (fun i _ => M - (intOf i).toNat)
    case atStart => exact ⟨0, by omega, rfl, rfl, rfl⟩
    case round =>
      obtain ⟨t, ht, rfl, hno, hwr⟩ := hrel
      obtain rfl := hwr.symm
      by_cases hlt : t < M
      · obtain ⟨kk, A, _⟩ := S.at hlt
        have ht1 := HC.out t hlt
        have hck := (C.below B1).cell (pos c t) A.lt
        rw [A.op] at hck
        have h5 := A.lt
        have hop := A.op
        have hi3 : (t : Int) < (M : Int) := by omega
        have hi4 : ((pos c t : Nat) : Int) < (L : Int) := by omega
        have hk := A.k
        clear A
        cases h20 : ((kk : Int) == 20) with
        | false =>
          have HN : Hid (probeIn c (t + 1) = false) := by
            show probeIn c (t + 1) = false
            rw [probeIn_succ, hno, hop, h20]; rfl
          clear hno hop
          go_wp2_with fail
          go_roundw
          case rel => exact ⟨t + 1, by omega, by go_num, HN.out, by first | rfl | trivial⟩
          case measure => simp [intOf]; omega
        | true =>
          have HN : Hid (probeIn c M = true) := probeIn_of c hlt (by rw [hop]; simpa using h20)
          clear hno hop
          go_wp2_with fail
          go_ret
          exact ⟨by rw [HN.out]; rfl, B1⟩
      · have e : t = M := by omega
        subst e
        have HN : Hid (probeIn c t = false) := hno
        clear hno
        go_wp2_with fail
        go_ret
        exact ⟨by rw [HN.out]; rfl, B1⟩
end Go.Proofs.YtebnlafjepfkdaaGreatDoor

