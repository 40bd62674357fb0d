import Derived.Test.YtflenkppcclclaaDoorM02
namespace Go.Proofs.YtflenkppcclclaaDoor
open Go.RowKit

section
variable (w : World) (B h fo g cap : Nat) (l : List Int) (o : ByteArray) (hg : B ≤ g) (hh : h < B) (hL : l.length ≤ 24)
include hg hh hL

omit hL hh in
/-- A text without bytes stays. -/
theorem once_empty (k : Nat) (hk : k = 0 ∨ k = 1 ∨ k = 2 ∨ k = 5) (h0 : l.length = 0) (y1 : Int)
    (H0 : Hid (Calls Tryd.prog 42 #[.pointer (some ⟨h, fo, none⟩), .int .i64 6] w (Drw w B h fo g cap l k y1))) :
    Calls Tryd.prog 43 #[.slice (some ⟨g, 0, none⟩) l.length cap, .string o, .pointer (some ⟨h, fo, none⟩)] w (WAns w B h fo l y1) := by
  rw [h0]
  go_enter Tryd.func43, Tryd.ntmps43
  go_wp2_with fail
  refine H0.out.mono ?_
  rintro e w1 ⟨rfl, T1, s1, B1⟩
  rcases hk with rfl | rfl | rfl | rfl
  all_goals
    go_wp2_with fail
    go_ret
    exact ⟨g, cap, hg, by rw [h0]; rfl, T1, s1, B1⟩

theorem once_bit (a : Nat) (ha : a < 8 * l.length) (y1 y2 : Int)
    (H0 : Hid (Calls Tryd.prog 42 #[.pointer (some ⟨h, fo, none⟩), .int .i64 6] w (Drw w B h fo g cap l 0 y1)))
    (H1 : Hid (∀ w1, Txt w1 g cap l → Sd w1 h fo y1 → Calls Tryd.prog 42 #[.pointer (some ⟨h, fo, none⟩), .int .i64 ((8 : Int) * (l.length : Int))] w1 (Drw w1 B h fo g cap l a y2))) :
    Calls Tryd.prog 43 #[.slice (some ⟨g, 0, none⟩) l.length cap, .string o, .pointer (some ⟨h, fo, none⟩)] w (WAns w B h fo (flipL l a) y2) := by
  have hne : ¬ ((l.length : Int) = 0) := by omega
  generalize hLn : l.length = L at H1 hne ha hL ⊢
  go_enter Tryd.func43, Tryd.ntmps43
  go_wp2_with fail
  refine H0.out.mono ?_
  rintro e w1 ⟨rfl, T1, s1, B1⟩
  have H1' : Hid (Calls Tryd.prog 42 #[.pointer (some ⟨h, fo, none⟩), .int .i64 ((8 : Int) * (L : Int))] w1 (Drw w1 B h fo g cap l a y2)) := H1.out w1 T1 s1
  go_wp2_with fail
  refine H1'.out.mono ?_
  rintro e w2 ⟨rfl, T2, s2, B2⟩
  have H3 : Hid (Calls Tryd.prog 52 #[.slice (some ⟨g, 0, none⟩) l.length cap, .int .i64 a] w2 (TxtAns w2 g (flipL l a))) := invBit_any w2 g cap l T2 (by omega) a (by omega)
  rw [hLn] at H3
  go_wp2_with fail
  refine H3.out.mono ?_
  rintro e w3 ⟨g3, cap3, hg3, rfl, T3, B3⟩
  obtain ⟨n, hn⟩ : ∃ n, (flipL l a).length = n := ⟨_, rfl⟩
  rw [hn]
  go_wp2_with fail
  go_ret
  exact ⟨g3, cap3, by omega, by rw [hn]; rfl, T3, s2.below B3 (by omega), (B1.trans B2).trans (SK.of_below B3 hg hh)⟩

omit hL in
theorem once_byte (a b : Nat) (ha : a < l.length) (hb : b < 256) (y1 y2 y3 : Int)
    (H0 : Hid (Calls Tryd.prog 42 #[.pointer (some ⟨h, fo, none⟩), .int .i64 6] w (Drw w B h fo g cap l 1 y1)))
    (H1 : Hid (∀ w1, Txt w1 g cap l → Sd w1 h fo y1 → Calls Tryd.prog 42 #[.pointer (some ⟨h, fo, none⟩), .int .i64 (l.length : Int)] w1 (Drw w1 B h fo g cap l a y2)))
    (H2 : Hid (∀ w1, Txt w1 g cap l → Sd w1 h fo y2 → Calls Tryd.prog 42 #[.pointer (some ⟨h, fo, none⟩), .int .i64 256] w1 (Drw w1 B h fo g cap l b y3))) :
    Calls Tryd.prog 43 #[.slice (some ⟨g, 0, none⟩) l.length cap, .string o, .pointer (some ⟨h, fo, none⟩)] w (WAns w B h fo (l.set a (b : Int)) y3) := by
  have hne : ¬ ((l.length : Int) = 0) := by omega
  generalize hLn : l.length = L at H1 hne ha ⊢
  go_enter Tryd.func43, Tryd.ntmps43
  go_wp2_with fail
  refine H0.out.mono ?_
  rintro e w1 ⟨rfl, T1, s1, B1⟩
  have H1' : Hid (Calls Tryd.prog 42 #[.pointer (some ⟨h, fo, none⟩), .int .i64 (L : Int)] w1 (Drw w1 B h fo g cap l a y2)) := H1.out w1 T1 s1
  go_wp2_with fail
  refine H1'.out.mono ?_
  rintro e w2 ⟨rfl, T2, s2, B2⟩
  have H2' : Hid (Calls Tryd.prog 42 #[.pointer (some ⟨h, fo, none⟩), .int .i64 256] w2 (Drw w2 B h fo g cap l b y3)) := H2.out w2 T2 s2
  go_wp2_with fail
  refine H2'.out.mono ?_
  rintro e w3 ⟨rfl, T3, s3, B3⟩
  have hc := T3.at a (by omega)
  have hc1 := hc.1
  have hc2 := hc.2
  have hai : (a : Int) < (L : Int) := by omega
  have HT := T3.set a (b : Int) (by omega) (by omega) (by omega)
  have hg3 := T3.lt
  generalize l.getD a 0 = xa at hc1
  clear hc T1 T2 s1 s2 H1 H2 H1' H2' H0
  go_wp2_with fail
  go_ret
  exact ⟨g, cap, hg, by rw [List.length_set, hLn]; rfl, HT, s3.of_block (Below.heap_setCell _ _ _ _ (by show h ≠ g; omega)), ((B1.trans B2).trans B3).put hg hh a _⟩

theorem once_cut (a : Nat) (ha : a < l.length) (y1 y2 : Int)
    (H0 : Hid (Calls Tryd.prog 42 #[.pointer (some ⟨h, fo, none⟩), .int .i64 6] w (Drw w B h fo g cap l 2 y1)))
    (H1 : Hid (∀ w1, Txt w1 g cap l → Sd w1 h fo y1 → Calls Tryd.prog 42 #[.pointer (some ⟨h, fo, none⟩), .int .i64 (l.length : Int)] w1 (Drw w1 B h fo g cap l a y2))) :
    Calls Tryd.prog 43 #[.slice (some ⟨g, 0, none⟩) l.length cap, .string o, .pointer (some ⟨h, fo, none⟩)] w (WAns w B h fo (cutL l a) y2) := by
  have hne : ¬ ((l.length : Int) = 0) := by omega
  generalize hLn : l.length = L at H1 hne ha hL ⊢
  go_enter Tryd.func43, Tryd.ntmps43
  go_wp2_with fail
  refine H0.out.mono ?_
  rintro e w1 ⟨rfl, T1, s1, B1⟩
  have H1' : Hid (Calls Tryd.prog 42 #[.pointer (some ⟨h, fo, none⟩), .int .i64 (L : Int)] w1 (Drw w1 B h fo g cap l a y2)) := H1.out w1 T1 s1
  go_wp2_with fail
  refine H1'.out.mono ?_
  rintro e w2 ⟨rfl, T2, s2, B2⟩
  have H3 : Hid (Calls Tryd.prog 58 #[.slice (some ⟨g, 0, none⟩) l.length cap, .int .i64 a] w2 (TxtAns w2 g (cutL l a))) := takeOut_any w2 g cap l T2 (by omega) a (by omega)
  rw [hLn] at H3
  go_wp2_with fail
  refine H3.out.mono ?_
  rintro e w3 ⟨g3, cap3, hg3, rfl, T3, B3⟩
  obtain ⟨n, hn⟩ : ∃ n, (cutL l a).length = n := ⟨_, rfl⟩
  rw [hn]
  go_wp2_with fail
  go_ret
  exact ⟨g3, cap3, by omega, by rw [hn]; rfl, T3, s2.below B3 (by omega), (B1.trans B2).trans (SK.of_below B3 hg hh)⟩

omit hg hh hL in
theorem once_in (l' : List Int) (y1 y2 : Int)
    (H0 : Hid (Calls Tryd.prog 42 #[.pointer (some ⟨h, fo, none⟩), .int .i64 6] w (Drw w B h fo g cap l 3 y1)))
    (H1 : Hid (∀ w1, Txt w1 g cap l → Sd w1 h fo y1 → Calls Tryd.prog 61 #[.slice (some ⟨g, 0, none⟩) l.length cap, .pointer (some ⟨h, fo, none⟩)] w1 (WAns w1 B h fo l' y2))) :
    Calls Tryd.prog 43 #[.slice (some ⟨g, 0, none⟩) l.length cap, .string o, .pointer (some ⟨h, fo, none⟩)] w (WAns w B h fo l' y2) := by
  generalize hLn : l.length = L at H1 ⊢
  go_enter Tryd.func43, Tryd.ntmps43
  go_wp2_with fail
  refine H0.out.mono ?_
  rintro e w1 ⟨rfl, T1, s1, B1⟩
  have H1' : Hid (Calls Tryd.prog 61 #[.slice (some ⟨g, 0, none⟩) L cap, .pointer (some ⟨h, fo, none⟩)] w1 (WAns w1 B h fo l' y2)) := H1.out w1 T1 s1
  by_cases h0 : (L : Int) = 0
  all_goals
    go_wp2_with fail
    refine H1'.out.mono ?_
    rintro e w3 ⟨g3, cap3, hg3, rfl, T3, s3, B3⟩
    go_wp2_with fail
    go_ret
    exact ⟨g3, cap3, hg3, rfl, T3, s3, B1.trans B3⟩

omit hg hh hL in
theorem once_cross (l' : List Int) (y1 y2 : Int)
    (H0 : Hid (Calls Tryd.prog 42 #[.pointer (some ⟨h, fo, none⟩), .int .i64 6] w (Drw w B h fo g cap l 4 y1)))
    (H1 : Hid (∀ w1, Txt w1 g cap l → Sd w1 h fo y1 → Calls Tryd.prog 62 #[.slice (some ⟨g, 0, none⟩) l.length cap, .string o, .pointer (some ⟨h, fo, none⟩)] w1 (WAns w1 B h fo l' y2))) :
    Calls Tryd.prog 43 #[.slice (some ⟨g, 0, none⟩) l.length cap, .string o, .pointer (some ⟨h, fo, none⟩)] w (WAns w B h fo l' y2) := by
  generalize hLn : l.length = L at H1 ⊢
  go_enter Tryd.func43, Tryd.ntmps43
  go_wp2_with fail
  refine H0.out.mono ?_
  rintro e w1 ⟨rfl, T1, s1, B1⟩
  have H1' : Hid (Calls Tryd.prog 62 #[.slice (some ⟨g, 0, none⟩) L cap, .string o, .pointer (some ⟨h, fo, none⟩)] w1 (WAns w1 B h fo l' y2)) := H1.out w1 T1 s1
  by_cases h0 : (L : Int) = 0
  all_goals
    go_wp2_with fail
    refine H1'.out.mono ?_
    rintro e w3 ⟨g3, cap3, hg3, rfl, T3, s3, B3⟩
    go_wp2_with fail
    go_ret
    exact ⟨g3, cap3, hg3, rfl, T3, s3, B1.trans B3⟩

omit hL in
theorem once_copy (a b : Nat) (ha : a < l.length) (hb : b < l.length) (y1 y2 y3 : Int)
    (H0 : Hid (Calls Tryd.prog 42 #[.pointer (some ⟨h, fo, none⟩), .int .i64 6] w (Drw w B h fo g cap l 5 y1)))
    (H1 : Hid (∀ w1, Txt w1 g cap l → Sd w1 h fo y1 → Calls Tryd.prog 42 #[.pointer (some ⟨h, fo, none⟩), .int .i64 (l.length : Int)] w1 (Drw w1 B h fo g cap l a y2)))
    (H2 : Hid (∀ w1, Txt w1 g cap l → Sd w1 h fo y2 → Calls Tryd.prog 42 #[.pointer (some ⟨h, fo, none⟩), .int .i64 (l.length : Int)] w1 (Drw w1 B h fo g cap l b y3))) :
    Calls Tryd.prog 43 #[.slice (some ⟨g, 0, none⟩) l.length cap, .string o, .pointer (some ⟨h, fo, none⟩)] w (WAns w B h fo (l.set a (l.getD b 0)) y3) := by
  have hne : ¬ ((l.length : Int) = 0) := by omega
  generalize hLn : l.length = L at H1 H2 hne ha hb ⊢
  go_enter Tryd.func43, Tryd.ntmps43
  go_wp2_with fail
  refine H0.out.mono ?_
  rintro e w1 ⟨rfl, T1, s1, B1⟩
  have H1' : Hid (Calls Tryd.prog 42 #[.pointer (some ⟨h, fo, none⟩), .int .i64 (L : Int)] w1 (Drw w1 B h fo g cap l a y2)) := H1.out w1 T1 s1
  go_wp2_with fail
  refine H1'.out.mono ?_
  rintro e w2 ⟨rfl, T2, s2, B2⟩
  have H2' : Hid (Calls Tryd.prog 42 #[.pointer (some ⟨h, fo, none⟩), .int .i64 (L : Int)] w2 (Drw w2 B h fo g cap l b y3)) := H2.out w2 T2 s2
  go_wp2_with fail
  refine H2'.out.mono ?_
  rintro e w3 ⟨rfl, T3, s3, B3⟩
  have hc := T3.at a (by omega)
  have hc1 := hc.1
  have hc2 := hc.2
  have hd1 := (T3.at b (by omega)).1
  have hai : (a : Int) < (L : Int) := by omega
  have hbi : (b : Int) < (L : Int) := by omega
  have hby := T3.byt.at b
  have HT : Hid (Txt (w3.setCell ⟨g, a, none⟩ (.int .u8 (l.getD b 0))) g cap (l.set a (l.getD b 0))) := T3.set a (l.getD b 0) (by omega) hby.1 hby.2
  have hg3 := T3.lt
  clear hby
  obtain ⟨xb, hxb⟩ : ∃ xb, l.getD b 0 = xb := ⟨_, rfl⟩
  obtain ⟨xa, hxa⟩ : ∃ xa, l.getD a 0 = xa := ⟨_, rfl⟩
  rw [hxb] at hd1 HT
  rw [hxa] at hc1
  have HX : Hid (l.getD b 0 = xb) := hxb
  clear hc T1 T2 s1 s2 H1 H2 H1' H2' H0 hxb hxa T3
  go_wp2_with fail
  go_ret
  rw [HX.out]
  exact ⟨g, cap, hg, by rw [List.length_set, hLn]; rfl, HT.out, s3.of_block (Below.heap_setCell _ _ _ _ (by show h ≠ g; omega)), ((B1.trans B2).trans B3).put hg hh a _⟩
end
end Go.Proofs.YtflenkppcclclaaDoor

namespace Go.Proofs.YtflenkppcclclaaDoor
open Go.RowKit

def manyL (L : Nat) : Nat → Nat
  | 0 => 8 * L
  | 1 => 8 * L - 1
  | 2 => L
  | 3 => 4 * L
  | 4 => 4 * L
  | 5 => 5 * L
  | 6 => L
  | 7 => if 24 ≤ L then 0 else L
  | _ => 0
def chgL (l : List Int) (m : Nat) : Nat → List Int
  | 0 => flipL l m
  | 1 => flipL (flipL l m) (m + 1)
  | 2 => l.set m (bits .xor .u8 (l.getD m 0) 255)
  | 3 => l.set (m / 4) ((l.getD (m / 4) 0 + (m % 4 + 1 : Nat)) % 256)
  | 4 => l.set (m / 4) ((l.getD (m / 4) 0 - (m % 4 + 1 : Nat)) % 256)
  | 5 => l.set (m / 5) (markL (m % 5))
  | 6 => cutL l m
  | _ => twiceL l m
def tryL (l : List Int) : Nat → Nat → Nat → Option (List Int)
  | 0, _, _ => none
  | d + 1, j, m => if m < manyL l.length j then some (chgL l m j) else tryL l d (j + 1) (m - manyL l.length j)
theorem mut_try (l : List Int) (n : Nat) : mutL l n = tryL l 8 0 n := by
  have e : ∀ m : Nat, (m < l.length ∧ l.length < 24) ↔ m < (if 24 ≤ l.length then 0 else l.length) := fun m => by split <;> omega
  simp only [mutL, tryL, manyL, chgL, e]

def fnOf (f : Nat) : Value := .func (.func f) #[] #[]
def kindsObj (L : Nat) : Obj := .cells #[.int .i64 (8 * L : Nat), fnOf 52, .int .i64 (8 * L - 1 : Nat), fnOf 53, .int .i64 (L : Nat), fnOf 54, .int .i64 (4 * L : Nat), fnOf 55, .int .i64 (4 * L : Nat), fnOf 56, .int .i64 (5 * L : Nat), fnOf 57, .int .i64 (L : Nat), fnOf 58, .int .i64 ((if 24 ≤ L then 0 else L : Nat) : Int), fnOf 59] 84

set_option maxRecDepth 100000 in
theorem kinds_any (L : Nat) (hL : L ≤ 24) (w : World) : Calls Tryd.prog 41 #[.int .i64 L] w fun e w' => e = .returned (.slice (some ⟨w.heap.size, 0, none⟩) 8 8) ∧ w' = w.alloc (kindsObj L) := by
  have h1 : (8 : Int) * (L : Int) = ((8 * L : Nat) : Int) := by omega
  have hmax : max ((8 : Int) * L - 1) 0 = ((8 * L - 1 : Nat) : Int) := by omega
  by_cases h : 24 ≤ L
  · obtain rfl : L = 24 := by omega
    go_enter Tryd.func41, Tryd.ntmps41
    go_wp2
    go_ret
    exact ⟨rfl, rfl⟩
  · have h' : ¬ (24 : Int) ≤ (L : Int) := by omega
    have e : (if 24 ≤ L then 0 else L : Nat) = L := if_neg h
    unfold kindsObj
    rw [e]
    clear h1 h e
    go_enter Tryd.func41, Tryd.ntmps41
    go_wp2
    go_ret
    exact ⟨rfl, rfl⟩
end Go.Proofs.YtflenkppcclclaaDoor

