/- Draws of chapters 18 and 19: some set of taken numbers, some heaps. -/
import Derived.Test.YtjanalljaacnoaaRb
import Derived.Test.YtjanalljaacnoaaJm
namespace Go.Proofs.Ytjanalljaacnoaa.Sd
open Go.ChangeShapes Go.WideShapes Go.ChangeAt Go.RowKit Base Sq In Rd Rb Ko
set_option linter.unusedVariables false
set_option maxRecDepth 20000
attribute [local irreducible] wpQuiet

theorem but_over {g B : Nat} {a b c : World} (h : But g a b) (hb : Below B b c) (hB : a.heap.size ≤ B) : But g a c :=
  ⟨hb.os.trans h.os, hb.tape.trans h.tape, hb.output.trans h.output, Nat.le_trans h.size hb.size, fun k hk hn => (hb.block k (by omega)).trans (h.block k hk hn)⟩
/-- some list of at most m numbers, in memory of its own; the reader went on -/
def DrawnL (B g q m : Nat) (w w' : World) (e : Ending) : Prop := ∃ (A : Option Addr) (c : Nat) (z : List Int) (r : Nat), e = .returned (.slice A z.length c) ∧ z.length ≤ m ∧ r ≤ q + 20 ∧ In.Own w' w.heap.size (.slice A z.length c) z ∧ RdB B w' g r ∧ But g w w'
theorem nums3 (w : World) : NumsP (w.alloc (.cells #[.int .i64 0, .int .i64 10, .int .i64 1] 3)) w.heap.size 3 (fun _ => True) := fun i hi => by
  have hb := Blk.new w #[.int .i64 0, .int .i64 10, .int .i64 1] 3
  obtain rfl | rfl | rfl : i = 0 ∨ i = 1 ∨ i = 2 := by omega
  · exact ⟨_, hb.cell 0, trivial⟩
  · exact ⟨_, hb.cell 1, trivial⟩
  · exact ⟨_, hb.cell 2, trivial⟩
theorem nums2h (w : World) : NumsP (w.alloc (.cells #[.int .i64 (-1), .int .i64 61] 3)) w.heap.size 2 (fun _ => True) := fun i hi => by
  have hb := Blk.new w #[.int .i64 (-1), .int .i64 61] 3
  obtain rfl | rfl : i = 0 ∨ i = 1 := by omega
  · exact ⟨_, hb.cell 0, trivial⟩
  · exact ⟨_, hb.cell 1, trivial⟩

set_option maxHeartbeats 8000000 in
theorem l30Set_any (B g q : Nat) (w : World) (h : RdB B w g q) (hq : q < 1000) (hB : B ≤ w.heap.size) :
    Calls Try.prog 50 #[.pointer (some ⟨g, 0, none⟩)] w fun e w' => DrawnL B g q 6 w w' e := by
  obtain ⟨i0, hi, hz0, hz1, hz2⟩ := info_parts infoInt
  have hgl := h.lt
  have hO0 := Own.empty (base := w.heap.size) (Nat.le_refl _) (Blk.new w #[] 3)
  have hR0 := h.below (below_of w (.cells #[] 3))
  have hb0 : But g w (w.alloc (.cells #[] 3)) := But.of (below_of w _)
  clear h
  go_enter Try.func50, Try.ntmps50
  go_wp2_with fail
  generalize hW0 : w.alloc _ = W0 at *
  clear hW0
  go_loopw [3, 4] (fun v i wr => ∃ (k r : Nat) (A : Option Addr) (c : Nat) (z : List Int), 1 ≤ k ∧ k ≤ 10 ∧ i = .int .i64 k ∧ v = .slice A z.length c ∧ z.length ≤ 5 ∧ r + 1 ≤ q + k ∧ In.Own wr w.heap.size (.slice A z.length c) z ∧ RdB B wr g r ∧ But g w wr) (fun _ i _ => 10 - (intOf i).toNat)
  case atStart => exact ⟨1, q, _, _, [], by omega, by omega, rfl, rfl, by simp, by omega, hO0, hR0, hb0⟩
  case round =>
    clear hO0 hR0 hb0
    obtain ⟨k, r, A, c, z, hk1, hk, rfl, rfl, hzl, hr, hO, hR, hbut⟩ := hrel
    have hsz := hbut.size
    by_cases hgo : (k : Int) ≤ 9 ∧ (z.length : Int) < 5
    · obtain ⟨hk9, hz5⟩ := hgo
      have HO := Lib.hid hO
      have HBu := Lib.hid hbut
      clear hO hbut
      go_wp2_with fail
      refine (pick_any B g r 3 _ hR (by omega) (by omega)).mono ?_
      rintro e w4 ⟨v, rfl, hv0, hv1, hR4, hb4⟩
      have hO4 := own_but HO.out hb4 hgl
      have hbut4 := HBu.out.trans hb4
      have hs4 := hbut4.size
      clear hR HO HBu hb4
      by_cases h0 : v = 0
      · subst h0
        have hmax : z.length + 1 ≤ maxLen := by unfold maxLen; omega
        have HO := Lib.hid hO4
        have HR := Lib.hid hR4
        have HBu := Lib.hid hbut4
        obtain ⟨L, hL⟩ : ∃ L, L = z ++ [(k : Int)] := ⟨_, rfl⟩
        have HE := Lib.hid hL
        have HLL := Lib.hid (show L.length = z.length + 1 by rw [hL]; simp)
        clear hO4 hR4 hbut4 hL
        go_wp2_with (at_builtin; refine wpList_append_own _ rfl _ _ 23 rfl (w.heap.size) 3 i0 (.int .i64 0) 1 8 Try.underlying23 hi hz0 hz1 hz2 rfl (by decide) _ _ _ rfl (World.ownsRow.alloc HO.out _) ⟨w4.heap.size, 0, none⟩ 1 1 [.int .i64 ((k : Int))] rfl rfl (cell_one_new _ _ _) (fun u hu => by simp at hu; subst hu; rfl) hmax (by omega) (by simp; omega) ?_; intro v' w7 hown' hgrow' hnil'; obtain ⟨B7, d7, rfl, hO7, hb7⟩ := app_after HO.out HE.out hown' hgrow' (by omega); clear hown' hgrow' hnil')
        have hR7 := HR.out.over hb7 hgl hB
        have hbut7 := but_over HBu.out hb7 (Nat.le_refl _)
        clear hb7 HO HR HBu
        go_roundw
        case rel =>
          exact ⟨k + 1, r + 1, B7, d7, L, by omega, by omega, by go_num, rfl, by rw [HLL.out]; omega, by omega, hO7, hR7, hbut7⟩
        case measure => simp [intOf]; omega
      · go_wp2_with fail
        go_roundw
        case rel => exact ⟨k + 1, r + 1, A, c, z, by omega, by omega, by go_num, rfl, by omega, by omega, hO4, hR4, hbut4⟩
        case measure => simp [intOf]; omega
    · have hx : ((k : Int) ≤ 9 ∧ ¬ (z.length : Int) < 5) ∨ ¬ (k : Int) ≤ 9 := by omega
      clear hgo
      rcases hx with ⟨hx1, hx2⟩ | hx
      all_goals
        have HO := Lib.hid hO
        have HBu := Lib.hid hbut
        clear hO hbut
        go_wp2_with fail
        refine (pick_any B g r 14 _ hR (by omega) (by omega)).mono ?_
        rintro e w4 ⟨v, rfl, hv0, hv1, hR4, hb4⟩
        have hO4 := own_but HO.out hb4 hgl
        have hbut4 := HBu.out.trans hb4
        have hs4 := hbut4.size
        clear hR HO HBu hb4
        by_cases h0 : v = 0
        · subst h0
          have hN := nums3 w4
          have hb5 := below_of w4 (.cells #[.int .i64 0, .int .i64 10, .int .i64 1] 3)
          have hR5 := hR4.below hb5
          have hO5 := hO4.below hb5
          have hbut5 := hbut4.trans (But.of hb5)
          clear hR4 hO4 hbut4 hb5
          go_wp2_with fail
          generalize hW5 : w4.alloc _ = W5 at *
          have hW5s : w4.heap.size < W5.heap.size := by rw [← hW5]; simp
          clear hW5
          refine (one_any (fun _ => True) B g (r + 1) w4.heap.size 3 3 _ hR5 (by omega) (by omega) (by omega) hW5s (by omega) hN).mono ?_
          rintro e w6 ⟨v6, rfl, _, hR6, hb6⟩
          have HO := Lib.hid (own_but hO5 hb6 hgl)
          have HBu := Lib.hid (hbut5.trans hb6)
          have hs6 := HBu.out.size
          have HR := Lib.hid hR6
          have hmax : z.length + 1 ≤ maxLen := by unfold maxLen; omega
          obtain ⟨L, hL⟩ : ∃ L, L = z ++ [v6] := ⟨_, rfl⟩
          have HE := Lib.hid hL
          have HLL := Lib.hid (show L.length = z.length + 1 by rw [hL]; simp)
          clear hO5 hbut5 hR5 hR6 hN hb6 hL
          go_wp2_with (at_builtin; refine wpList_append_own _ rfl _ _ 23 rfl (w.heap.size) 3 i0 (.int .i64 0) 1 8 Try.underlying23 hi hz0 hz1 hz2 rfl (by decide) _ _ _ rfl (World.ownsRow.alloc HO.out _) ⟨w6.heap.size, 0, none⟩ 1 1 [.int .i64 (v6)] rfl rfl (cell_one_new _ _ _) (fun u hu => by simp at hu; subst hu; rfl) hmax (by omega) (by simp; omega) ?_; intro v' w7 hown' hgrow' hnil'; obtain ⟨B7, d7, rfl, hO7, hb7⟩ := app_after HO.out HE.out hown' hgrow' (by omega); clear hown' hgrow' hnil')
          go_ret
          exact ⟨B7, d7, L, r + 1 + 1, rfl, by rw [HLL.out]; omega, by omega, hO7, HR.out.over hb7 hgl hB, but_over HBu.out hb7 (Nat.le_refl _)⟩
        · go_wp2_with fail
          go_ret
          exact ⟨A, c, z, r + 1, rfl, by omega, by omega, hO4, hR4, hbut4⟩

set_option maxHeartbeats 8000000 in
theorem l30Heaps_any (B g q : Nat) (m : Nat) (w : World) (h : RdB B w g q) (hq : q < 1000) (hB : B ≤ w.heap.size) (hm : m < 1000) :
    Calls Try.prog 58 #[.pointer (some ⟨g, 0, none⟩), .int .i64 (m : Int)] w fun e w' => DrawnL B g q 4 w w' e := by
  obtain ⟨i0, hi, hz0, hz1, hz2⟩ := info_parts infoInt
  have hgl := h.lt
  have hO0 := Own.empty (base := w.heap.size) (Nat.le_refl _) (Blk.new w #[] 3)
  have hR0 := h.below (below_of w (.cells #[] 3))
  have hb0 : But g w (w.alloc (.cells #[] 3)) := But.of (below_of w _)
  clear h
  go_enter Try.func58, Try.ntmps58
  go_wp2_with fail
  generalize hW0 : w.alloc _ = W0 at *
  clear hW0
  refine (pick_any B g q 4 _ hR0 (by omega) (by omega)).mono ?_
  rintro e w1 ⟨n0, rfl, hn0, hn1, hR1, hb1⟩
  have hO1 := own_but hO0 hb1 hgl
  have hbut1 := hb0.trans hb1
  clear hO0 hR0 hb0 hb1
  obtain ⟨k0, rfl⟩ := Int.eq_ofNat_of_zero_le hn0
  have hk0 : k0 ≤ 3 := by omega
  clear hn0 hn1
  go_wp2_with fail
  go_loopw [5, 6] (fun v i wr => ∃ (k r : Nat) (A : Option Addr) (c : Nat) (z : List Int), k ≤ 3 ∧ i = .int .i64 k ∧ v = .slice A z.length c ∧ z.length + k ≤ 3 ∧ r + k ≤ q + 4 ∧ In.Own wr w.heap.size (.slice A z.length c) z ∧ RdB B wr g r ∧ But g w wr) (fun _ i _ => (intOf i).toNat)
  case atStart => exact ⟨k0, q + 1, _, _, [], hk0, rfl, rfl, by simp; omega, by omega, hO1, hR1, hbut1⟩
  case round =>
    clear hO1 hR1 hbut1
    obtain ⟨k, r, A, c, z, hk, rfl, rfl, hzl, hr, hO, hR, hbut⟩ := hrel
    have hsz := hbut.size
    by_cases hgo : (0 : Int) < (k : Int)
    · have HO := Lib.hid hO
      have HBu := Lib.hid hbut
      clear hO hbut
      go_wp2_with fail
      refine (pick_any B g r _ _ hR (by omega) (by omega)).mono ?_
      rintro e w4 ⟨v, rfl, hv0, hv1, hR4, hb4⟩
      have hO4 := own_but HO.out hb4 hgl
      have hbut4 := HBu.out.trans hb4
      have hs4 := hbut4.size
      clear hR HO HBu hb4 hv0 hv1
      have hmax : z.length + 1 ≤ maxLen := by unfold maxLen; omega
      have HO := Lib.hid hO4
      have HR := Lib.hid hR4
      have HBu := Lib.hid hbut4
      obtain ⟨L, hL⟩ : ∃ L, L = z ++ [v] := ⟨_, rfl⟩
      have HE := Lib.hid hL
      have HLL := Lib.hid (show L.length = z.length + 1 by rw [hL]; simp)
      clear hO4 hR4 hbut4 hL
      go_wp2_with (at_builtin; refine wpList_append_own _ rfl _ _ 23 rfl (w.heap.size) 3 i0 (.int .i64 0) 1 8 Try.underlying23 hi hz0 hz1 hz2 rfl (by decide) _ _ _ rfl (World.ownsRow.alloc HO.out _) ⟨w4.heap.size, 0, none⟩ 1 1 [.int .i64 (v)] rfl rfl (cell_one_new _ _ _) (fun u hu => by simp at hu; subst hu; rfl) hmax (by omega) (by simp; omega) ?_; intro v' w7 hown' hgrow' hnil'; obtain ⟨B7, d7, rfl, hO7, hb7⟩ := app_after HO.out HE.out hown' hgrow' (by omega); clear hown' hgrow' hnil')
      have hR7 := HR.out.over hb7 hgl hB
      have hbut7 := but_over HBu.out hb7 (Nat.le_refl _)
      clear hb7 HO HR HBu
      go_roundw
      case rel =>
        exact ⟨k - 1, r + 1, B7, d7, L, by omega, by go_num, rfl, by rw [HLL.out]; omega, by omega, hO7, hR7, hbut7⟩
      case measure => simp [intOf]; omega
    · have HO := Lib.hid hO
      have HBu := Lib.hid hbut
      clear hO hbut
      go_wp2_with fail
      refine (pick_any B g r 14 _ hR (by omega) (by omega)).mono ?_
      rintro e w4 ⟨v, rfl, hv0, hv1, hR4, hb4⟩
      have hO4 := own_but HO.out hb4 hgl
      have hbut4 := HBu.out.trans hb4
      have hs4 := hbut4.size
      clear hR HO HBu hb4
      by_cases h0 : v = 0
      · subst h0
        have hN := nums2h w4
        have hb5 := below_of w4 (.cells #[.int .i64 (-1), .int .i64 61] 3)
        have hR5 := hR4.below hb5
        have hO5 := hO4.below hb5
        have hbut5 := hbut4.trans (But.of hb5)
        clear hR4 hO4 hbut4 hb5
        go_wp2_with fail
        generalize hW5 : w4.alloc _ = W5 at *
        have hW5s : w4.heap.size < W5.heap.size := by rw [← hW5]; simp
        clear hW5
        refine (one_any (fun _ => True) B g (r + 1) w4.heap.size 2 2 _ hR5 (by omega) (by omega) (by omega) hW5s (by omega) hN).mono ?_
        rintro e w6 ⟨v6, rfl, _, hR6, hb6⟩
        have HO := Lib.hid (own_but hO5 hb6 hgl)
        have HBu := Lib.hid (hbut5.trans hb6)
        have hs6 := HBu.out.size
        have HR := Lib.hid hR6
        have hmax : z.length + 1 ≤ maxLen := by unfold maxLen; omega
        obtain ⟨L, hL⟩ : ∃ L, L = z ++ [v6] := ⟨_, rfl⟩
        have HE := Lib.hid hL
        have HLL := Lib.hid (show L.length = z.length + 1 by rw [hL]; simp)
        clear hO5 hbut5 hR5 hR6 hN hb6 hL
        go_wp2_with (at_builtin; refine wpList_append_own _ rfl _ _ 23 rfl (w.heap.size) 3 i0 (.int .i64 0) 1 8 Try.underlying23 hi hz0 hz1 hz2 rfl (by decide) _ _ _ rfl (World.ownsRow.alloc HO.out _) ⟨w6.heap.size, 0, none⟩ 1 1 [.int .i64 (v6)] rfl rfl (cell_one_new _ _ _) (fun u hu => by simp at hu; subst hu; rfl) hmax (by omega) (by simp; omega) ?_; intro v' w7 hown' hgrow' hnil'; obtain ⟨B7, d7, rfl, hO7, hb7⟩ := app_after HO.out HE.out hown' hgrow' (by omega); clear hown' hgrow' hnil')
        go_ret
        exact ⟨B7, d7, L, r + 1 + 1, rfl, by rw [HLL.out]; omega, by omega, hO7, HR.out.over hb7 hgl hB, but_over HBu.out hb7 (Nat.le_refl _)⟩
      · go_wp2_with fail
        go_ret
        exact ⟨A, c, z, r + 1, rfl, by omega, by omega, hO4, hR4, hbut4⟩

/-- a drawn set and a number: in memory of their own -/
def SetNum (lo hi : Int) (w w' : World) (e : Ending) : Prop := ∃ (A : Option Addr) (c : Nat) (z : List Int) (x : Int), e = .returned (.tuple #[.slice A z.length c, .int .i64 x]) ∧ z.length ≤ 6 ∧ lo ≤ x ∧ x ≤ hi ∧ IsInts w' w'.heap.size A z ∧ Below w.heap.size w w'
/-- a drawn set and drawn heaps -/
def SetHeaps (w w' : World) (e : Ending) : Prop := ∃ (A : Option Addr) (c : Nat) (z : List Int) (A2 : Option Addr) (c2 : Nat) (z2 : List Int), e = .returned (.tuple #[.slice A z.length c, .slice A2 z2.length c2]) ∧ z.length ≤ 6 ∧ z2.length ≤ 4 ∧ IsInts w' w'.heap.size A z ∧ IsInts w' w'.heap.size A2 z2 ∧ Below w.heap.size w w'
theorem own_is {w : World} {base : Nat} {A : Option Addr} {c : Nat} {z : List Int} (h : In.Own w base (.slice A z.length c) z) : IsInts w w.heap.size A z := by
  obtain ⟨A', c', hv, hI⟩ := h.is
  simp only [Value.slice.injEq] at hv
  obtain ⟨rfl, _, rfl⟩ := hv
  exact hI

theorem drawTakeAll_any (A : Option Addr) (n c : Nat) (zs : List Int) (w : World) (h : IsRow .u8 w A n c zs) (hn : n ≤ 1048576) :
    Calls Try.prog 13 #[.slice A n c] w fun e w' => SetNum (-1) 61 w w' e := by
  go_enter Try.func13, Try.ntmps13
  go_wp2_with fail
  refine (Rb.open_any _ _ _ _ _ h hn).mono ?_
  rintro e w1 ⟨g, rfl, hg, hR1, hb1⟩
  have hs1 := hb1.size
  have hgl := hR1.lt
  clear h
  go_wp2_with fail
  refine (l30Set_any _ g 0 w1 hR1 (by omega) hs1).mono ?_
  rintro e w2 ⟨B, d, z, r, rfl, hz, hr, hO2, hR2, hb2⟩
  have hW2 := hb1.trans (hb2.below hs1 hg)
  have hs2 := hW2.size
  clear hb1 hb2 hR1
  go_wp2_with fail
  refine (pick_any _ g r 63 _ hR2 (by omega) (by omega)).mono ?_
  rintro e w3 ⟨v, rfl, hv0, hv1, hR3, hb3⟩
  have hI3 := own_is (own_but hO2 hb3 hgl)
  have hW3 := hW2.trans (hb3.below hs2 hg)
  clear hO2 hR2 hR3 hb3 hW2
  go_wp2_with fail
  go_ret2
  exact ⟨B, d, z, v - 1, rfl, hz, by omega, by omega, hI3, hW3⟩
theorem drawHeapsVal_any (A : Option Addr) (n c : Nat) (zs : List Int) (w : World) (h : IsRow .u8 w A n c zs) (hn : n ≤ 1048576) :
    Calls Try.prog 20 #[.slice A n c] w fun e w' => SetHeaps w w' e := by
  go_enter Try.func20, Try.ntmps20
  go_wp2_with fail
  refine (Rb.open_any _ _ _ _ _ h hn).mono ?_
  rintro e w1 ⟨g, rfl, hg, hR1, hb1⟩
  have hs1 := hb1.size
  have hgl := hR1.lt
  clear h
  go_wp2_with fail
  refine (l30Set_any _ g 0 w1 hR1 (by omega) hs1).mono ?_
  rintro e w2 ⟨B, d, z, r, rfl, hz, hr, hO2, hR2, hb2⟩
  have hW2 := hb1.trans (hb2.below hs1 hg)
  have hs2 := hW2.size
  clear hb1 hb2 hR1
  go_wp2_with fail
  refine (l30Heaps_any _ g r 20 _ hR2 (by omega) hs2 (by omega)).mono ?_
  rintro e w3 ⟨B3, d3, z3, r3, rfl, hz3, hr3, hO3, hR3, hb3⟩
  have hI3 := own_is (own_but hO2 hb3 hgl)
  have hJ3 := own_is hO3
  have hW3 := hW2.trans (hb3.below hs2 hg)
  clear hO2 hR2 hR3 hb3 hW2 hO3
  go_wp2_with fail
  go_ret2
  exact ⟨B, d, z, B3, d3, z3, rfl, hz, hz3, hI3, hJ3, hW3⟩
theorem drawHeapsMoves_any (A : Option Addr) (n c : Nat) (zs : List Int) (w : World) (h : IsRow .u8 w A n c zs) (hn : n ≤ 1048576) :
    Calls Try.prog 23 #[.slice A n c] w fun e w' => SetHeaps w w' e := by
  go_enter Try.func23, Try.ntmps23
  go_wp2_with fail
  refine (drawHeapsVal_any _ _ _ _ _ h hn).mono ?_
  rintro e w1 ⟨B, d, z, B3, d3, z3, rfl, hz, hz3, hI, hJ, hb⟩
  go_wp2_with fail
  go_ret2
  exact ⟨B, d, z, B3, d3, z3, rfl, hz, hz3, hI, hJ, hb⟩
end Go.Proofs.Ytjanalljaacnoaa.Sd
