/- The walk of the law FnStatHard. -/
import Derived.Test.YtcgfklljbblhlaaZi
import Derived.Test.YtcgfklljbblhlaaHf
namespace Go.Proofs.Ytcgfklljbblhlaa.Laws
open Go.ChangeShapes Go.WideShapes Go.ChangeAt Go.RowKit Base Sq In Ko Sc Dp
set_option linter.unusedVariables false
set_option maxRecDepth 20000
attribute [local irreducible] wpQuiet

set_option maxHeartbeats 4000000 in
theorem fnStatHard_walk (w : World) (A : Option Addr) (n c : Nat) (zs : List Int) (h : IsRow .u8 w A n c zs) :
    Calls Try.prog 6 #[.slice A n c] w fun e w' => e = .returned (.bool true) ∧ Below w.heap.size w w' := by
  by_cases hn : 1048576 < n
  · have hd : decide (1048576 < (n : Int)) = true := decide_eq_true (by omega)
    clear h
    go_enter Try.func6, Try.ntmps6
    go_wp2_with fail
    go_ret
    exact ⟨rfl, Below.refl _ _⟩
  have hd : decide (1048576 < (n : Int)) = false := decide_eq_false (by omega)
  have hn2 : n ≤ 1048576 := by omega
  have HH := Lib.hid h
  clear h hn
  go_enter Try.func6, Try.ntmps6
  go_wp2_with fail
  refine (drawStatHard_any _ _ _ _ _ HH.out hn2).mono ?_
  rintro e w1 ⟨B, k1, z, rfl, hz, hI, hb1⟩
  go_wp2_with fail
  refine (statHard_any B k1 z w1 hI (by omega)).mono ?_
  have hLL : (hardV z).length ≤ 1048576 := hardV_len
  have HF := Lib.hid (fun hl : listB z = true => hard_facts hl)
  obtain ⟨L, hL⟩ : ∃ L, L = hardV z := ⟨_, rfl⟩
  have HL := Lib.hid hL
  rw [← hL] at hLL
  rw [← hL]
  clear hL
  rintro e w2 ⟨A2, c2, rfl, hN2, hb2⟩
  have hI2 := hI.below hb2
  have hW2 := hb1.trans (hb2.mono hb1.size)
  have hz2 := hb2.size
  have hG2 := hN2.is
  clear hI hb1 hb2 hN2
  go_wp2_with fail
  refine (statOf_any B k1 z w2 (hI2.more hz2) (by omega)).mono ?_
  obtain ⟨a, b, c', d, m, hE, hyes, hno⟩ : ∃ a b c d m, statV z = .agg (statC a b c d m) ∧ (listB z = true → (0 ≤ a ∧ 0 ≤ b ∧ 0 ≤ c ∧ 0 ≤ d) ∧ a + b + c + d = z.length ∧ m = topV z z.length - 2 ∧ c = stW z ∧ d = stL z) ∧ (listB z = false → a = 0 ∧ b = 0 ∧ c = 0 ∧ d = 0 ∧ m = 0) := by
    cases hl : listB z
    · exact ⟨0, 0, 0, 0, 0, statV_no hl, fun h => by (cases h), fun _ => ⟨rfl, rfl, rfl, rfl, rfl⟩⟩
    · exact ⟨_, _, _, _, _, statV_yes hl, fun _ => ⟨⟨(cntP_nn _ _ _).1, (cntP_nn _ _ _).1, (cntP_nn _ _ _).1, (cntP_nn _ _ _).1⟩, cnt_all' (listB_range hl) _ (Nat.le_refl _), rfl, (if_pos hl).symm, (if_pos hl).symm⟩, fun h => by (cases h)⟩
  have HE := Lib.hid hE
  have HYES := Lib.hid hyes
  have HNO := Lib.hid hno
  rw [hE]
  clear hE hyes hno
  rintro e w3 ⟨rfl, hb3⟩
  have p4 := Blk.new w3 (statC a b c' d m) 24
  have hA := below_of w3 (.cells (statC a b c' d m) 24)
  have hb4 := hb3.trans (hA.mono hb3.size)
  have hI4 := (hI2.more hz2).below hb4
  have hG4 := hG2.below hb4
  have hW4 := hW2.trans (hb4.mono hW2.size)
  have hz4 := hb4.size
  have hp4 := p4.lt
  clear hI2 hG2 hW2 hb3 hA hb4
  go_wp2_with fail
  generalize hY : w3.alloc _ = W4 at *
  generalize hy : w3.heap.size = g4 at *
  clear hY hy
  refine (specStatHard_any B k1 z W4 (hI4.more hz4) (by omega)).mono ?_
  rw [← HL.out]
  rintro e w5 ⟨A5, c5, rfl, hN5, hb5⟩
  have hI5 := (hI4.more hz4).below hb5
  have hG5 := (hG4.more hz4).below hb5
  have hW5 := hW4.trans (hb5.mono hW4.size)
  have hz5 := hb5.size
  have p5 := p4.below hb5 hp4
  clear hI4 hG4 hW4 hb5 p4
  go_wp2_with fail
  refine (zgInts_same _ _ _ _ _ _ (hG5.more hz5) hN5.is hLL).mono ?_
  rintro e w6 ⟨rfl, hb6⟩
  have hI6 := (hI5.more hz5).below hb6
  have hG6 := (hG5.more hz5).below hb6
  have hW6 := hW5.trans (hb6.mono hW5.size)
  have hz6 := hb6.size
  have p6 := p5.below hb6 p5.lt
  clear hI5 hG5 hW5 hN5 hb6 p5
  obtain ⟨⟨q0, q1, q2, q3, q4⟩, _⟩ := p6.five
  by_cases h0 : a = 0 ∧ b = 0 ∧ c' = 0 ∧ d = 0 ∧ m = 0
  · obtain ⟨rfl, rfl, rfl, rfl, rfl⟩ := h0
    go_wp2_with fail
    refine (specStatHard_any B k1 z w6 (hI6.more hz6) (by omega)).mono ?_
    rw [← HL.out]
    rintro e w7 ⟨A7, c7, rfl, hN7, hb7⟩
    have hG7 := (hG6.more hz6).below hb7
    have hz7 := hb7.size
    go_wp2_with fail
    refine (zgInts_same _ _ _ _ _ _ (hG7.more hz7) hN7.is hLL).mono ?_
    rintro e w8 ⟨rfl, hb8⟩
    go_wp2_with fail
    go_ret
    exact ⟨rfl, (hW6.trans (hb7.mono hW6.size)).trans (hb8.mono (by have := hW6.size; omega))⟩
  · have hl : listB z = true := by
      cases hl : listB z
      · exact absurd (HNO.out hl) h0
      · rfl
    obtain ⟨⟨n1, n2, n3, n4⟩, hsum, hm, hcw, hdl⟩ := HYES.out hl
    obtain ⟨hatV, hzero⟩ := HF.out hl
    rw [← HL.out] at hatV hzero
    have hcase : ((a == 0) = false ∧ True) ∨ ((a == 0) = true ∧ (b == 0) = false) ∨ ((a == 0) = true ∧ (b == 0) = true ∧ (c' == 0) = false) ∨ ((a == 0) = true ∧ (b == 0) = true ∧ (c' == 0) = true ∧ (d == 0) = false) := by
      by_cases x1 : a = 0
      · by_cases x2 : b = 0
        · by_cases x3 : c' = 0
          · by_cases x4 : d = 0
            · have hz0 : z.length = 0 := by omega
              rw [hz0] at hm
              exact absurd ⟨x1, x2, x3, x4, hm⟩ h0
            · exact .inr (.inr (.inr ⟨by simp [x1], by simp [x2], by simp [x3], by simp [x4]⟩))
          · exact .inr (.inr (.inl ⟨by simp [x1], by simp [x2], by simp [x3]⟩))
        · exact .inr (.inl ⟨by simp [x1], by simp [x2]⟩)
      · exact .inl ⟨by simp [x1], trivial⟩
    have HR := Lib.hid (listB_range hl)
    have HCD := Lib.hid (show L.length = 0 ↔ c' + d = 0 by rw [hcw, hdl]; exact hzero)
    have HAT := Lib.hid hatV
    have HB := Lib.hid (show c' + d ≤ 82 by omega)
    have HI := Lib.hid (hI6.more hz6)
    have HG := Lib.hid (hG6.more hz6)
    have HP := Lib.hid p6
    have HW := Lib.hid hW6
    have hp6 := p6.lt
    clear h0 hl hsum hm hcw hdl hatV hzero hI6 hG6 p6 hW6
    rcases hcase with ⟨x1, _⟩ | ⟨x1, x2⟩ | ⟨x1, x2, x3⟩ | ⟨x1, x2, x3, x4⟩
    all_goals
      go_wp2_with fail
      clear q0 q1 q2 q3 q4
      go_loopw [6] (fun iv wr => ∃ k : Nat, k ≤ z.length ∧ iv = .int .i64 k ∧ Below w6.heap.size w6 wr) (fun iv _ => z.length - (intOf iv).toNat)
      case atStart => exact ⟨0, by omega, rfl, Below.refl _ _⟩
      case round =>
        obtain ⟨k, hk, rfl, hbr⟩ := hrel
        have hsr := hbr.size
        by_cases hlt : k < z.length
        · obtain ⟨bb, rfl⟩ := HI.out.some (by omega)
          have hlt' : (k : Int) < (z.length : Int) := by omega
          obtain ⟨hBB, c0⟩ := (HI.out.below hbr).at hlt
          have zBB : bb < wr.heap.size := by omega
          by_cases hL0 : L.length = 0
          · have hL1 : ¬ (0 < L.length) := by omega
            have hL2 : (L.length : Int) = 0 := by omega
            go_wp2_with fail
            refine wp_region_below (W := wr) (by kernel_rfl) (by kernel_rfl) (Below.refl _ _) ?_
            repeat (first
              | (refine qs_skip (by rfl) ?_; simp only [Act.put, List.setIfInBounds_toArray, List.set_cons_zero, List.set_cons_succ])
              | (apply qs_take
                 focus rfl
                 focus (
                   intro wq hwq
                   obtain ⟨hcq, hfq⟩ := bcell hwq
                   go_simp
                   all_goals first
                     | exact rfl
                     | (go_at_call 20; refine (zgIn_any _ _ _ _ _ ((HG.out.below (hbr.trans (hwq.mono hsr))).more (by have := hwq.size; omega)) hLL).mono ?_; exact fun e w2 h => ⟨h.1, hwq.trans (h.2.mono hwq.size)⟩)
                     | (exact ⟨trivial, rfl⟩))
                 simp only [Act.put, List.setIfInBounds_toArray, List.set_cons_zero, List.set_cons_succ]))
            refine wpQuiet_nil ?_
            intro wq hwq
            go_wp2_with fail
            go_roundw
            case rel => exact ⟨k + 1, by omega, by go_num, hbr.trans (hwq.mono hsr)⟩
            case measure => simp [intOf]; omega
          · have hL1 : 0 < L.length := by omega
            have hL2 : (0 : Int) < (L.length : Int) := by omega
            obtain ⟨lb, rfl⟩ := HG.out.some hL1
            obtain ⟨hLB, cl⟩ := (HG.out.below hbr).at hL1
            have zLB : lb < wr.heap.size := by omega
            have hmem := iAt_mem hL1
            rw [HAT.out] at hmem
            obtain ⟨j0, hj0, hj1, hj2⟩ := (mem_atV _).1 hmem
            rw [← HAT.out] at hj1
            rw [hj1] at cl
            obtain ⟨_, ct⟩ := (HI.out.below hbr).at hj0
            rw [hj2] at ct
            have hj3 : (j0 : Int) < (z.length : Int) := by omega
            have hj4 : (0 : Int) ≤ (j0 : Int) := by omega
            have hle : ¬ topV z z.length < iAt z k := by have := topV_max (z := z) hlt; omega
            have hled : decide (topV z z.length < iAt z k) = false := decide_eq_false hle
            clear hle
            clear hmem hj1 hj2
            by_cases he : iAt z k = topV z z.length
            · have HD := Lib.hid (decide_eq_true (show ((k : Nat) : Int) ∈ L by rw [HAT.out]; exact (mem_atV _).2 ⟨k, hlt, rfl, he⟩))
              have heb : (iAt z k == topV z z.length) = true := by simp; exact he
              clear he
              go_wp2_with fail
              refine wp_region_below (W := wr) (by kernel_rfl) (by kernel_rfl) (Below.refl _ _) ?_
              repeat (first
                | (refine qs_skip (by rfl) ?_; simp only [Act.put, List.setIfInBounds_toArray, List.set_cons_zero, List.set_cons_succ])
                | (apply qs_take
                   focus rfl
                   focus (
                     intro wq hwq
                     obtain ⟨hcq, hfq⟩ := bcell hwq
                     go_simp
                     all_goals first
                       | exact rfl
                       | (go_at_call 20; refine (zgIn_any _ _ _ _ _ ((HG.out.below (hbr.trans (hwq.mono hsr))).more (by have := hwq.size; omega)) hLL).mono ?_; rw [HD.out]; exact fun e w2 h => ⟨h.1, h.2 ▸ hwq⟩)
                       | (exact ⟨trivial, rfl⟩))
                   simp only [Act.put, List.setIfInBounds_toArray, List.set_cons_zero, List.set_cons_succ]))
              refine wpQuiet_nil ?_
              intro wq hwq
              go_wp2_with fail
              go_roundw
              case rel => exact ⟨k + 1, by omega, by go_num, hbr.trans (hwq.mono hsr)⟩
              case measure => simp [intOf]; omega
            · have HD := Lib.hid (decide_eq_false (show ¬ ((k : Nat) : Int) ∈ L from fun hm => by
                rw [HAT.out] at hm
                obtain ⟨j, h1, h2, h3⟩ := (mem_atV _).1 hm
                obtain rfl : k = j := by omega
                exact he h3))
              have heb : (iAt z k == topV z z.length) = false := by simp; exact he
              clear he
              go_wp2_with fail
              refine wp_region_below (W := wr) (by kernel_rfl) (by kernel_rfl) (Below.refl _ _) ?_
              repeat (first
                | (refine qs_skip (by rfl) ?_; simp only [Act.put, List.setIfInBounds_toArray, List.set_cons_zero, List.set_cons_succ])
                | (apply qs_take
                   focus rfl
                   focus (
                     intro wq hwq
                     obtain ⟨hcq, hfq⟩ := bcell hwq
                     go_simp
                     all_goals first
                       | exact rfl
                       | (go_at_call 20; refine (zgIn_any _ _ _ _ _ ((HG.out.below (hbr.trans (hwq.mono hsr))).more (by have := hwq.size; omega)) hLL).mono ?_; rw [HD.out]; exact fun e w2 h => ⟨h.1, h.2 ▸ hwq⟩)
                       | (exact ⟨trivial, rfl⟩))
                   simp only [Act.put, List.setIfInBounds_toArray, List.set_cons_zero, List.set_cons_succ]))
              refine wpQuiet_nil ?_
              intro wq hwq
              go_wp2_with fail
              go_roundw
              case rel => exact ⟨k + 1, by omega, by go_num, hbr.trans (hwq.mono hsr)⟩
              case measure => simp [intOf]; omega
        · obtain rfl : k = z.length := by omega
          obtain ⟨⟨r0, r1, r2, r3, r4⟩, _⟩ := (HP.out.below hbr hp6).five
          have hcd := HB.out
          have W1 : IntKind.i64.wrap (c' + d) = c' + d := IntWalk.i64_in _ (by omega)
          have hWr := HW.out.trans (hbr.mono HW.out.size)
          by_cases hL0 : L.length = 0
          · have e1 : ((L.length : Int) == 0) = true := by rw [hL0]; rfl
            have e2 : (c' + d == 0) = true := by simp; exact HCD.out.1 hL0
            clear hL0
            go_wp2_with fail
            go_ret
            exact ⟨rfl, hWr⟩
          · have e1 : ((L.length : Int) == 0) = false := by rw [beq_eq_false_iff_ne]; omega
            have e2 : (c' + d == 0) = false := by simp; exact fun hx => hL0 (HCD.out.2 hx)
            clear hL0
            go_wp2_with fail
            go_ret
            exact ⟨rfl, hWr⟩
end Go.Proofs.Ytcgfklljbblhlaa.Laws
