/- DrawPackPut: some list of whole numbers in new memory. -/
import Derived.Test.YtcgfklljbblhlaaRb
import Derived.Test.YtcgfklljbblhlaaIq
namespace Go.Proofs.Ytcgfklljbblhlaa.Dp
open Go.ChangeShapes Go.WideShapes Go.ChangeAt Go.RowKit Base Sq In Rd Rb
set_option linter.unusedVariables false
set_option maxRecDepth 20000
attribute [local irreducible] wpQuiet

/-- some list of at most m whole numbers in memory -/
def ListPost (m : Nat) (w w' : World) (e : Ending) : Prop := ∃ (A : Option Addr) (c : Nat) (z : List Int), e = .returned (.slice A z.length c) ∧ z.length ≤ m ∧ IsInts w' w'.heap.size A z ∧ Below w.heap.size w w'
def DI (w wr : World) (g e0 q : Nat) (v : Value) (z : List Int) : Prop := In.Own wr e0 v z ∧ RdB w.heap.size wr g q ∧ Below w.heap.size w wr ∧ e0 ≤ wr.heap.size
theorem DI.alloc {w wr : World} {g e0 q : Nat} {v : Value} {z : List Int} (h : DI w wr g e0 q v z) (o : Obj) : DI w (wr.alloc o) g e0 q v z :=
  ⟨h.1.below (below_of wr o), h.2.1.below (below_of wr o), h.2.2.1.alloc h.2.2.1.size o, by have := h.2.2.2; simp; omega⟩
theorem DI.but {w wr w' : World} {g e0 q q' : Nat} {v : Value} {z : List Int} (h : DI w wr g e0 q v z) (hr : RdB w.heap.size w' g q') (hb : But g wr w') (hg : w.heap.size ≤ g) (hge : g < e0) : DI w w' g e0 q' v z :=
  ⟨own_but h.1 hb hge, hr, h.2.2.1.trans (hb.below h.2.2.1.size hg), Nat.le_trans h.2.2.2 hb.size⟩
theorem own_grownD {w' : World} {base : Nat} {v' : Value} {l : List Int} {x : Int} (h : w'.ownsRow base 3 1 v' (l.length + 1) (nums l ++ [.int .i64 x])) : In.Own w' base v' (l ++ [x]) := by
  unfold In.Own; rw [nums_snoc, List.length_append]; exact h
theorem nums5 (w : World) : NumsP (w.alloc (.cells #[.int .i64 0, .int .i64 1, .int .i64 2, .int .i64 7, .int .i64 100] 3)) w.heap.size 5 (fun _ => True) := fun i hi => by
  have hb := Blk.new w #[.int .i64 0, .int .i64 1, .int .i64 2, .int .i64 7, .int .i64 100] 3
  obtain rfl | rfl | rfl | rfl | rfl : i = 0 ∨ i = 1 ∨ i = 2 ∨ i = 3 ∨ i = 4 := by omega
  · exact ⟨_, hb.cell 0, trivial⟩
  · exact ⟨_, hb.cell 1, trivial⟩
  · exact ⟨_, hb.cell 2, trivial⟩
  · exact ⟨_, hb.cell 3, trivial⟩
  · exact ⟨_, hb.cell 4, trivial⟩
theorem nums4 (w : World) : NumsP (w.alloc (.cells #[.int .i64 1, .int .i64 1, .int .i64 2, .int .i64 9] 3)) w.heap.size 4 (fun m => 1 ≤ m ∧ m ≤ 9) := fun i hi => by
  have hb := Blk.new w #[.int .i64 1, .int .i64 1, .int .i64 2, .int .i64 9] 3
  obtain rfl | rfl | rfl | rfl : i = 0 ∨ i = 1 ∨ i = 2 ∨ i = 3 := by omega
  · exact ⟨_, hb.cell 0, by omega⟩
  · exact ⟨_, hb.cell 1, by omega⟩
  · exact ⟨_, hb.cell 2, by omega⟩
  · exact ⟨_, hb.cell 3, by omega⟩
theorem nums2 (w : World) : NumsP (w.alloc (.cells #[.int .i64 (-1), .int .i64 101] 3)) w.heap.size 2 (fun _ => True) := fun i hi => by
  have hb := Blk.new w #[.int .i64 (-1), .int .i64 101] 3
  obtain rfl | rfl : i = 0 ∨ i = 1 := by omega
  · exact ⟨_, hb.cell 0, trivial⟩
  · exact ⟨_, hb.cell 1, trivial⟩

set_option maxHeartbeats 4000000 in
theorem drawPackPut_any (A : Option Addr) (n c : Nat) (zs : List Int) (w : World) (h : IsRow .u8 w A n c zs) (hn : n ≤ 1048576) :
    Calls Try.prog 37 #[.slice A n c] w fun e w' => ListPost 82 w w' e := by
  obtain ⟨i0, hi, hz0, hz1, hz2⟩ := info_parts infoInt
  go_enter Try.func37, Try.ntmps37
  go_wp2_with fail
  refine (Rb.open_any _ _ _ _ _ h hn).mono ?_
  rintro e w1 ⟨g, rfl, hg, hR1, hb1⟩
  have hgl := hR1.lt
  have hD : DI w (w1.alloc (.cells #[] 3)) g w1.heap.size 0 (.slice (some ⟨w1.heap.size, 0, none⟩) 0 0) [] :=
    ⟨Own.empty (Nat.le_refl _) (Blk.new w1 #[] 3), hR1.below (below_of w1 _), hb1.alloc hb1.size _, by simp⟩
  clear h hR1 hb1
  go_wp2_with fail
  generalize hW2 : w1.alloc _ = W2 at *
  generalize hE0 : w1.heap.size = e0 at *
  clear hW2 hE0
  refine (Rb.pick_any w.heap.size g 0 9 _ hD.2.1 (by omega) (by omega)).mono ?_
  rintro e w3 ⟨n0, rfl, hn0, hn1, hR3, hbut⟩
  have hD3 := hD.but hR3 hbut hg hgl
  clear hD hR3 hbut
  obtain ⟨k0, rfl⟩ := Int.eq_ofNat_of_zero_le hn0
  have hk0 : k0 < 9 := by omega
  clear hn0 hn1
  go_wp2_with fail
  go_loopw [4, 5] (fun v iv wr => ∃ (k q : Nat) (B : Option Addr) (d : Nat) (z : List Int), k ≤ 9 ∧ iv = .int .i64 k ∧ v = .slice B z.length d ∧ DI w wr g e0 q (.slice B z.length d) z ∧ z.length + 9 * k ≤ 81 ∧ q + 2 * k ≤ 50) (fun _ iv _ => (intOf iv).toNat)
  case atStart => exact ⟨k0, 1, _, _, [], by omega, rfl, rfl, hD3, by simp; omega, by omega⟩
  case round =>
    clear hD3
    obtain ⟨k, q, B, d, z, hk, rfl, rfl, hD, hlen, hq⟩ := hrel
    rcases Nat.eq_zero_or_pos k with rfl | hk1
    · go_wp2_with fail
      refine (Rb.pick_any w.heap.size g q 14 _ hD.2.1 (by omega) (by omega)).mono ?_
      rintro e w4 ⟨v, rfl, hv0, hv1, hR4, hb4⟩
      have hD4 := hD.but hR4 hb4 hg hgl
      clear hD hR4 hb4
      by_cases h0 : v = 0
      · subst h0
        have hD5 := hD4.alloc (.cells #[.int .i64 (-1), .int .i64 101] 3)
        have hgw : g < w4.heap.size := by have := hD4.2.2.2; omega
        have hN2 := nums2 w4
        clear hD4
        go_wp2_with fail
        generalize hW5 : w4.alloc _ = W5 at *
        have hW5s : w4.heap.size < W5.heap.size := by rw [← hW5]; simp
        clear hW5
        refine (Rb.one_any (fun _ => True) w.heap.size g (q + 1) w4.heap.size 2 2 _ hD5.2.1 (by omega) (by omega) (by omega) hW5s (by omega) hN2).mono ?_
        rintro e w6 ⟨v6, rfl, _, hR6, hb6⟩
        have hD6 := hD5.but hR6 hb6 hg hgl
        clear hD5 hR6 hb6 hN2
        have hmax : z.length + 1 ≤ maxLen := by unfold maxLen; omega
        have HO := Lib.hid hD6.1
        have HD := Lib.hid hD6
        have hbs := hD6.2.2.2
        clear hD6
        go_wp2_with (at_builtin; refine wpList_append_own _ rfl _ _ 22 rfl e0 3 i0 (.int .i64 0) 1 8 Try.underlying22 hi hz0 hz1 hz2 rfl (by decide) _ _ _ rfl (World.ownsRow.alloc HO.out _) ⟨w6.heap.size, 0, none⟩ 1 1 [.int .i64 v6] rfl rfl (cell_one_new _ _ _) (fun u hu => by simp at hu; subst hu; rfl) hmax (by omega) (by simp; omega) ?_; intro v' w8 hown' hgrow8 hnil8)
        have hbG := own_base (l := z) (World.ownsRow.alloc HO.out (.cells #[.int .i64 v6] 3)) hgrow8 (Below.refl e0 _) (Nat.le_refl _) (by simp; omega)
        have hO8 : In.Own w8 e0 v' (z ++ [v6]) := own_grownD hown'
        have hA := HD.out.alloc (.cells #[.int .i64 v6] 3)
        have hb8 := hA.2.2.1.trans (hbG.mono (by omega))
        obtain ⟨B8, d8, rfl, hI8⟩ := hO8.is
        go_ret
        exact ⟨B8, d8, z ++ [v6], rfl, by rw [List.length_append]; simp; omega, hI8, hb8⟩
      · obtain ⟨B8, d8, hv8, hI8⟩ := hD4.1.is
        simp only [Value.slice.injEq] at hv8
        obtain ⟨rfl, _, rfl⟩ := hv8
        go_wp2_with fail
        go_ret
        exact ⟨B, d, z, rfl, by omega, hI8, hD4.2.2.1⟩
    · have hk2 : (0 : Int) < (k : Int) := by omega
      have hD1 := hD.alloc (.cells #[.int .i64 0, .int .i64 1, .int .i64 2, .int .i64 7, .int .i64 100] 3)
      have hgw : g < wr.heap.size := by have := hD.2.2.2; omega
      have hN5 := nums5 wr
      clear hD
      go_wp2_with fail
      generalize hW4 : wr.alloc _ = W4 at *
      have hW4s : wr.heap.size < W4.heap.size := by rw [← hW4]; simp
      clear hW4
      refine (Rb.one_any (fun _ => True) w.heap.size g q wr.heap.size 5 5 _ hD1.2.1 (by omega) (by omega) (by omega) hW4s (by omega) hN5).mono ?_
      rintro e w5 ⟨v5, rfl, _, hR5, hb5⟩
      have hD5 := hD1.but hR5 hb5 hg hgl
      have hD6 := hD5.alloc (.cells #[.int .i64 1, .int .i64 1, .int .i64 2, .int .i64 9] 3)
      have hN4 := nums4 w5
      have hgw5 : g < w5.heap.size := by have := hD5.2.2.2; omega
      clear hD1 hR5 hb5 hD5 hN5
      go_wp2_with fail
      generalize hW6 : w5.alloc _ = W6 at *
      have hW6s : w5.heap.size < W6.heap.size := by rw [← hW6]; simp
      clear hW6
      refine (Rb.one_any (fun m => 1 ≤ m ∧ m ≤ 9) w.heap.size g (q + 1) w5.heap.size 4 4 _ hD6.2.1 (by omega) (by omega) (by omega) hW6s (by omega) hN4).mono ?_
      rintro e w7 ⟨m7, rfl, hm7, hR7, hb7⟩
      have hD7 := hD6.but hR7 hb7 hg hgl
      clear hD6 hR7 hb7 hN4
      obtain ⟨m, rfl⟩ := Int.eq_ofNat_of_zero_le (show 0 ≤ m7 by omega)
      have hm9 : m ≤ 9 := by omega
      clear hm7
      go_wp2_with fail
      go_loopw [4, 7] (fun v jv wr => ∃ (j : Nat) (B : Option Addr) (d : Nat) (z : List Int), j ≤ m ∧ jv = .int .i64 j ∧ v = .slice B z.length d ∧ DI w wr g e0 (q + 1 + 1) (.slice B z.length d) z ∧ z.length + j + 9 * (k - 1) ≤ 81) (fun _ jv _ => (intOf jv).toNat)
      case atStart => exact ⟨m, _, _, z, Nat.le_refl _, rfl, rfl, hD7, by omega⟩
      case round =>
        clear hD7 hlen
        obtain ⟨j, B, d, z, hj, rfl, rfl, hD, hlen⟩ := hrel
        rcases Nat.eq_zero_or_pos j with rfl | hj1
        · go_wp2_with fail
          go_roundw
          case rel =>
            have R : k - 1 ≤ 9 ∧ Value.int .i64 ((k : Int) - 1) = .int .i64 ((k - 1 : Nat) : Int) ∧ Value.slice B z.length d = .slice B z.length d ∧ DI w wr g e0 (q + 1 + 1) (.slice B z.length d) z ∧ z.length + 9 * (k - 1) ≤ 81 ∧ (q + 1 + 1) + 2 * (k - 1) ≤ 50 := ⟨by omega, by congr 1; omega, rfl, hD, by omega, by omega⟩
            first
              | exact ⟨k - 1, q + 1 + 1, B, d, z, R⟩
              | ((repeat apply Exists.intro); exact ⟨⟨k - 1, q + 1 + 1, B, d, z, R⟩, rfl⟩)
          case measure => simp [intOf]; omega
        · have hj2 : (0 : Int) < (j : Int) := by omega
          have hmax : z.length + 1 ≤ maxLen := by unfold maxLen; omega
          have HO := Lib.hid hD.1
          have HD := Lib.hid hD
          have hbs := hD.2.2.2
          clear hD
          go_wp2_with (at_builtin; refine wpList_append_own _ rfl _ _ 22 rfl e0 3 i0 (.int .i64 0) 1 8 Try.underlying22 hi hz0 hz1 hz2 rfl (by decide) _ _ _ rfl (World.ownsRow.alloc HO.out _) ⟨wr.heap.size, 0, none⟩ 1 1 [.int .i64 v5] rfl rfl (cell_one_new _ _ _) (fun u hu => by simp at hu; subst hu; rfl) hmax (by omega) (by simp; omega) ?_; intro v' w8 hown' hgrow8 hnil8)
          have hbG := own_base (l := z) (World.ownsRow.alloc HO.out (.cells #[.int .i64 v5] 3)) hgrow8 (Below.refl e0 _) (Nat.le_refl _) (by simp; omega)
          have hO8 : In.Own w8 e0 v' (z ++ [v5]) := own_grownD hown'
          have hA := HD.out.alloc (.cells #[.int .i64 v5] 3)
          have hsz8 := hbG.size
          have hD8 : DI w w8 g e0 (q + 1 + 1) v' (z ++ [v5]) := ⟨hO8, hA.2.1.over hbG hgl (by omega), hA.2.2.1.trans (hbG.mono (by omega)), by have := hA.2.2.2; omega⟩
          obtain ⟨B8, d8, hv8⟩ := hO8.slice
          subst hv8
          clear hown' hgrow8 hnil8 HO HD hbG hA hO8
          go_roundw
          case rel =>
            have R : j - 1 ≤ m ∧ Value.int .i64 ((j : Int) - 1) = .int .i64 ((j - 1 : Nat) : Int) ∧ Value.slice B8 (z ++ [v5]).length d8 = .slice B8 (z ++ [v5]).length d8 ∧ DI w w8 g e0 (q + 1 + 1) (.slice B8 (z ++ [v5]).length d8) (z ++ [v5]) ∧ (z ++ [v5]).length + (j - 1) + 9 * (k - 1) ≤ 81 := ⟨by omega, by congr 1; omega, rfl, hD8, by rw [List.length_append]; simp; omega⟩
            first
              | exact ⟨j - 1, B8, d8, z ++ [v5], R⟩
              | ((repeat apply Exists.intro); exact ⟨⟨j - 1, B8, d8, z ++ [v5], R⟩, rfl⟩)
          case measure => simp [intOf]; omega
theorem drawStatOf_any (A : Option Addr) (n c : Nat) (zs : List Int) (w : World) (h : IsRow .u8 w A n c zs) (hn : n ≤ 1048576) :
    Calls Try.prog 17 #[.slice A n c] w fun e w' => ListPost 82 w w' e := by
  go_enter Try.func17, Try.ntmps17
  go_wp2_with fail
  refine (drawPackPut_any _ _ _ _ _ h hn).mono ?_
  rintro e w1 ⟨B, d, z, rfl, hz, hI, hb⟩
  go_wp2_with fail
  go_ret
  exact ⟨B, d, z, rfl, hz, hI, hb⟩
theorem drawStatHard_any (A : Option Addr) (n c : Nat) (zs : List Int) (w : World) (h : IsRow .u8 w A n c zs) (hn : n ≤ 1048576) :
    Calls Try.prog 18 #[.slice A n c] w fun e w' => ListPost 82 w w' e := by
  go_enter Try.func18, Try.ntmps18
  go_wp2_with fail
  refine (drawPackPut_any _ _ _ _ _ h hn).mono ?_
  rintro e w1 ⟨B, d, z, rfl, hz, hI, hb⟩
  go_wp2_with fail
  go_ret
  exact ⟨B, d, z, rfl, hz, hI, hb⟩
end Go.Proofs.Ytcgfklljbblhlaa.Dp
