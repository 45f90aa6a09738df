/- The walk of the law FnStatOf. -/
import Derived.Test.YtcgfklljbblhlaaHf
import Derived.Test.YtcgfklljbblhlaaDp
namespace Go.Proofs.Ytcgfklljbblhlaa.Laws
open Go.ChangeShapes Go.WideShapes Go.ChangeAt Go.RowKit Base Sq In Ko Sc Dp
set_option linter.unusedVariables false
set_option maxRecDepth 20000
attribute [local irreducible] wpQuiet

theorem cnt_all {z : List Int} (h : rangeB z = true) : ∀ k, k ≤ z.length → cntP isN z k + cntP isD z k + cntP wonB z k + cntP lostB z k = k := by
  intro k
  induction k with
  | zero => intro _; rfl
  | succ k ih =>
    intro hk
    have h1 := ih (by omega)
    have hr := rangeB_at h (show k < z.length by omega)
    unfold cntP
    rcases one_of hr.1 with ⟨e1, e2, e3, e4, _⟩ | ⟨e1, e2, e3, e4, _⟩ | ⟨e1, e2, e3, e4, _⟩ | ⟨e1, e2, e3, e4, _⟩ <;> rw [e1, e2, e3, e4] <;> simp <;> omega
set_option maxHeartbeats 4000000 in
theorem fnStatOf_walk (w : World) (A : Option Addr) (n c : Nat) (zs : List Int) (h : IsRow .u8 w A n c zs) :
    Calls Try.prog 5 #[.slice A n c] w fun e w' => e = .returned (.bool true) ∧ Below w.heap.size w w' := by
  by_cases hn : 1048576 < n
  · have hd : decide (1048576 < (n : Int)) = true := decide_eq_true (by omega)
    clear h
    go_enter Try.func5, Try.ntmps5
    go_wp2_with fail
    go_ret
    exact ⟨rfl, Below.refl _ _⟩
  have hd : decide (1048576 < (n : Int)) = false := decide_eq_false (by omega)
  have hn2 : n ≤ 1048576 := by omega
  have HH := Lib.hid h
  clear h hn
  go_enter Try.func5, Try.ntmps5
  go_wp2_with fail
  refine (drawStatOf_any _ _ _ _ _ HH.out hn2).mono ?_
  rintro e w1 ⟨B, k1, z, rfl, hz, hI, hb1⟩
  go_wp2_with fail
  refine (statOf_any B k1 z w1 hI (by omega)).mono ?_
  obtain ⟨a, b, c, d, m, hE, hyes, hno⟩ : ∃ a b c d m, statV z = .agg (statC a b c d m) ∧ (listB z = true → (0 ≤ a ∧ 0 ≤ b ∧ 0 ≤ c ∧ 0 ≤ d) ∧ a + b + c + d = z.length ∧ m = topV z z.length - 2) ∧ (listB z = false → a = 0 ∧ b = 0 ∧ c = 0 ∧ d = 0 ∧ m = 0) := by
    cases hl : listB z
    · exact ⟨0, 0, 0, 0, 0, statV_no hl, fun h => by (cases h), fun _ => ⟨rfl, rfl, rfl, rfl, rfl⟩⟩
    · exact ⟨_, _, _, _, _, statV_yes hl, fun _ => ⟨⟨(cntP_nn _ _ _).1, (cntP_nn _ _ _).1, (cntP_nn _ _ _).1, (cntP_nn _ _ _).1⟩, cnt_all (listB_range hl) _ (Nat.le_refl _), rfl⟩, fun h => by (cases h)⟩
  have HYES := Lib.hid hyes
  have HNO := Lib.hid hno
  clear hyes hno
  have HE := Lib.hid hE
  rw [hE]
  rintro e w2 ⟨rfl, hb2⟩
  have p4 := Blk.new w2 (statC a b c d m) 24
  have hI3 := (hI.below hb2).below ((below_of w2 (.cells (statC a b c d m) 24)).mono hb2.size)
  have hW3 := (hb1.trans (hb2.mono hb1.size)).alloc (hb1.trans (hb2.mono hb1.size)).size (.cells (statC a b c d m) 24)
  have hz3 : w1.heap.size ≤ (w2.alloc (.cells (statC a b c d m) 24)).heap.size := by have := hb2.size; simp; omega
  have hp3 := p4.lt
  clear hE hI hb1 hb2
  go_wp2_with fail
  generalize hY : w2.alloc _ = W3 at *
  generalize hy : w2.heap.size = g4 at *
  clear hY hy
  obtain ⟨⟨q0, q1, q2, q3, q4⟩, _⟩ := p4.five
  have HI := Lib.hid (hI3.more hz3)
  have HW := Lib.hid hW3
  have HP := Lib.hid p4
  clear p4 hI3 hW3 hz3
  by_cases h0 : a = 0 ∧ b = 0 ∧ c = 0 ∧ d = 0 ∧ m = 0
  · obtain ⟨rfl, rfl, rfl, rfl, rfl⟩ := h0
    refine wp_region_below (W := W3) (by kernel_rfl) (by kernel_rfl) (Below.refl _ _) ?_
    repeat (first
      | (refine qs_skip (by rfl) ?_; simp only [Act.put, List.setIfInBounds_toArray, List.set_cons_zero, List.set_cons_succ])
      | (apply qs_take
         focus rfl
         focus (
           intro wq hwq
           obtain ⟨hcq, hfq⟩ := bcell hwq
           go_simp
           all_goals first
             | exact rfl
             | (go_at_call 8; refine (specStatOf_any _ _ _ _ ((HI.out.below hwq).more hwq.size) (by omega)).mono ?_; rw [HE.out]; exact fun e w2 h => ⟨h.1, hwq.trans (h.2.mono hwq.size)⟩)
             | (exact ⟨trivial, rfl⟩))
         simp only [Act.put, List.setIfInBounds_toArray, List.set_cons_zero, List.set_cons_succ]))
    refine wpQuiet_nil ?_
    intro wq hwq
    have p5 := HP.out.below hwq hp3
    have hW5 := HW.out.trans (hwq.mono HW.out.size)
    have hI5 := (HI.out.below hwq).more hwq.size
    have hp5 := p5.lt
    obtain ⟨⟨r0, r1, r2, r3, r4⟩, _⟩ := p5.five
    clear hwq q0 q1 q2 q3 q4
    have W5h := Lib.hid (Below.refl wq.heap.size wq)
    go_wp2_with fail
    generalize hwn : wq = W5 at *
    clear hwn
    refine wp_region_below (W := W5) (by kernel_rfl) (by kernel_rfl) (Below.refl _ _) ?_
    repeat (first
      | (refine qs_skip (by rfl) ?_; simp only [Act.put, List.setIfInBounds_toArray, List.set_cons_zero, List.set_cons_succ])
      | (apply qs_take
         focus rfl
         focus (
           intro wq hwq
           obtain ⟨hcq, hfq⟩ := bcell hwq
           go_simp
           all_goals first
             | exact rfl
             | (go_at_call 8; refine (specStatOf_any _ _ _ _ ((hI5.below hwq).more hwq.size) (by omega)).mono ?_; rw [HE.out]; exact fun e w2 h => ⟨h.1, hwq.trans (h.2.mono hwq.size)⟩)
             | (exact ⟨trivial, rfl⟩))
         simp only [Act.put, List.setIfInBounds_toArray, List.set_cons_zero, List.set_cons_succ]))
    refine wpQuiet_nil ?_
    intro wq hwq
    go_wp2_with fail
    go_ret
    exact ⟨rfl, hW5.trans (hwq.mono hW5.size)⟩
  · have hl : listB z = true := by
      cases hl : listB z
      · exact absurd (HNO.out hl) h0
      · rfl
    obtain ⟨⟨n1, n2, n3, n4⟩, hsum, hm⟩ := HYES.out hl
    have hcase : ((a == 0) = false ∧ True) ∨ ((a == 0) = true ∧ (b == 0) = false) ∨ ((a == 0) = true ∧ (b == 0) = true ∧ (c == 0) = false) ∨ ((a == 0) = true ∧ (b == 0) = true ∧ (c == 0) = true ∧ (d == 0) = false) := by
      by_cases x1 : a = 0
      · by_cases x2 : b = 0
        · by_cases x3 : c = 0
          · by_cases x4 : d = 0
            · have hz0 : z.length = 0 := by omega
              rw [hz0] at hm
              exact absurd ⟨x1, x2, x3, x4, hm⟩ h0
            · exact .inr (.inr (.inr ⟨by simp [x1], by simp [x2], by simp [x3], by simp [x4]⟩))
          · exact .inr (.inr (.inl ⟨by simp [x1], by simp [x2], by simp [x3]⟩))
        · exact .inr (.inl ⟨by simp [x1], by simp [x2]⟩)
      · exact .inl ⟨by simp [x1], trivial⟩
    have HR := Lib.hid (listB_range hl)
    have HSUM := Lib.hid hsum
    have HM := Lib.hid hm
    clear h0 hl hsum hm
    rcases hcase with ⟨x1, _⟩ | ⟨x1, x2⟩ | ⟨x1, x2, x3⟩ | ⟨x1, x2, x3, x4⟩
    all_goals
      refine wp_region_below (W := W3) (by kernel_rfl) (by kernel_rfl) (Below.refl _ _) ?_
      repeat (first
        | (refine qs_skip (by rfl) ?_; simp only [Act.put, List.setIfInBounds_toArray, List.set_cons_zero, List.set_cons_succ])
        | (apply qs_take
           focus rfl
           focus (
             intro wq hwq
             obtain ⟨hcq, hfq⟩ := bcell hwq
             go_simp
             all_goals first
               | exact rfl
               | (go_at_call 8; refine (specStatOf_any _ _ _ _ ((HI.out.below hwq).more hwq.size) (by omega)).mono ?_; rw [HE.out]; exact fun e w2 h => ⟨h.1, hwq.trans (h.2.mono hwq.size)⟩)
               | (exact ⟨trivial, rfl⟩))
           simp only [Act.put, List.setIfInBounds_toArray, List.set_cons_zero, List.set_cons_succ]))
      refine wpQuiet_nil ?_
      intro wq hwq
      have p5 := HP.out.below hwq hp3
      have hW5 := HW.out.trans (hwq.mono HW.out.size)
      have hI5 := (HI.out.below hwq).more hwq.size
      clear hwq q0 q1 q2 q3 q4
      go_wp2_with fail
      generalize hwn : wq = W5 at *
      clear hwn
      go_loopw [5, 6] (fun mv iv wr => ∃ k : Nat, k ≤ z.length ∧ iv = .int .i64 k ∧ mv = .int .i64 (topV z k - 2) ∧ W5 = wr) (fun _ iv _ => z.length - (intOf iv).toNat)
      case atStart => exact ⟨0, by omega, rfl, rfl, rfl⟩
      case round =>
        obtain ⟨k, hk, rfl, rfl, rfl⟩ := hrel
        by_cases hlt : k < z.length
        · have hr := rangeB_at HR.out hlt
          obtain ⟨hr1, hr2⟩ := hr
          obtain ⟨bb, rfl⟩ := hI5.some (by omega)
          have hlt' : (k : Int) < (z.length : Int) := by omega
          obtain ⟨_, c0⟩ := hI5.at hlt
          have WV : IntKind.i64.wrap (iAt z k - 2) = iAt z k - 2 := IntWalk.i64_in _ (by omega)
          have ET : topV z (k + 1) = max (topV z k) (iAt z k) := rfl
          by_cases hmm : topV z k - 2 < iAt z k - 2
          · have HT := Lib.hid (show topV z (k + 1) - 2 = iAt z k - 2 by omega)
            clear ET
            go_wp2_with fail
            go_roundw
            case rel => exact ⟨k + 1, by omega, by go_num, by rw [HT.out], by first | rfl | trivial⟩
            case measure => simp [intOf]; omega
          · have HT := Lib.hid (show topV z (k + 1) - 2 = topV z k - 2 by omega)
            clear ET
            go_wp2_with fail
            go_roundw
            case rel => exact ⟨k + 1, by omega, by go_num, by rw [HT.out], by first | rfl | trivial⟩
            case measure => simp [intOf]; omega
        · obtain rfl : k = z.length := by omega
          obtain ⟨⟨r0, r1, r2, r3, r4⟩, _⟩ := p5.five
          have hs := HSUM.out
          have hmq := HM.out
          have W1 : IntKind.i64.wrap (a + b) = a + b := IntWalk.i64_in _ (by omega)
          have W2 : IntKind.i64.wrap (a + b + c) = a + b + c := IntWalk.i64_in _ (by omega)
          have W3' : IntKind.i64.wrap (a + b + c + d) = a + b + c + d := IntWalk.i64_in _ (by omega)
          have hq : (a + b + c + d == (z.length : Int)) = true := by simp; exact hs
          have hq2 : (m == topV z z.length - 2) = true := by simp; exact hmq
          clear hs hmq
          go_wp2_with fail
          go_ret
          exact ⟨rfl, hW5⟩
end Go.Proofs.Ytcgfklljbblhlaa.Laws
