/- TakeOk and OctalOk: the program's and the model's. -/
import Derived.Test.YtjanalljaacnoaaJm
import Derived.Test.YtjanalljaacnoaaHo
namespace Go.Proofs.Ytjanalljaacnoaa.Ko
open Go.ChangeShapes Go.WideShapes Go.ChangeAt Go.RowKit Base Sq In
set_option linter.unusedVariables false
set_option maxRecDepth 20000
attribute [local irreducible] wpQuiet

/-- what stands before element k: 0, or the element before -/
def befK (z : List Int) : Nat → Int
  | 0 => 0
  | k + 1 => iAt z k
theorem setAt_bef {z : List Int} {k : Nat} (hg : ∀ j, j < k → setAt z j = true) : setAt z k = decide (befK z k < iAt z k ∧ iAt z k ≤ 9) := by
  cases k with
  | zero => unfold setAt befK; rw [Bool.eq_iff_iff]; simp; omega
  | succ k =>
    have h := hg k (by omega)
    have h1 : 1 ≤ iAt z k := by unfold setAt at h; rw [Bool.and_eq_true] at h; exact (of_decide_eq_true h.1).1
    unfold setAt befK; rw [Bool.eq_iff_iff]; simp; omega
theorem setB_few {z : List Int} (h : ¬ (1 ≤ z.length ∧ z.length ≤ 5)) : setB z = false := by
  unfold setB; rw [decide_eq_false h, Bool.and_false]
theorem takeOk_any (V : Option Addr) (cv : Nat) (z : List Int) (w : World) (hV : IsInts w w.heap.size V z) (hz : z.length ≤ 1048576) :
    Calls Try.prog 17 #[.slice V z.length cv] w fun e w' => e = .returned (.bool (setB z)) ∧ w = w' := by
  rcases Nat.eq_zero_or_pos z.length with h0 | h0
  · have HN := Lib.hid (setB_few (z := z) (by omega))
    have e1 : ((z.length : Int) == 0) = true := by rw [h0]; rfl
    clear h0
    go_enter Try.func17, Try.ntmps17
    go_wp2_with fail
    go_ret
    exact ⟨rb (by rw [HN.out]), rfl⟩
  · have e1 : ((z.length : Int) == 0) = false := by rw [beq_eq_false_iff_ne]; omega
    by_cases h5 : (5 : Int) < (z.length : Int)
    · have HN := Lib.hid (setB_few (z := z) (by omega))
      go_enter Try.func17, Try.ntmps17
      go_wp2_with fail
      go_ret
      exact ⟨rb (by rw [HN.out]), rfl⟩
    · have h5' : (z.length : Int) ≤ 5 := by omega
      have hd5 : decide ((5 : Int) < (z.length : Int)) = false := decide_eq_false h5
      have HE := Lib.hid (show decide (1 ≤ z.length ∧ z.length ≤ 5) = true from decide_eq_true (by omega))
      clear h5
      go_enter Try.func17, Try.ntmps17
      go_wp2_with fail
      clear e1 hd5
      go_loopw [3, 16] (fun b i wr => ∃ k : Nat, k ≤ z.length ∧ i = .int .i64 k ∧ b = .int .i64 (befK z k) ∧ Hid (∀ j, j < k → setAt z j = true) ∧ w = wr) (fun _ i _ => z.length - (intOf i).toNat)
      case atStart => exact ⟨0, by omega, rfl, rfl, Lib.hid (fun j hj => absurd hj (by omega)), rfl⟩
      case round =>
        obtain ⟨k, hk, rfl, rfl, hg, rfl⟩ := hrel
        by_cases hlt : k < z.length
        · obtain ⟨b, rfl⟩ := hV.some (by omega)
          have hlt' : (k : Int) < (z.length : Int) := by omega
          obtain ⟨hBb, c0⟩ := hV.at hlt
          have HS := Lib.hid (setAt_bef hg.out)
          rcases ltge (befK z k) (iAt z k) with h1 | h1
          · rcases ltge 9 (iAt z k) with h2 | h2
            · have HB := Lib.hid (setB_bad hlt (by rw [HS.out]; exact decide_eq_false (by omega)))
              have d1 : decide (iAt z k ≤ befK z k) = false := decide_eq_false (by omega)
              go_wp2_with fail
              go_ret
              exact ⟨rb (by rw [HB.out]), rfl⟩
            · have HB := Lib.hid (show setAt z k = true by rw [HS.out]; exact decide_eq_true (by omega))
              have d1 : decide (iAt z k ≤ befK z k) = false := decide_eq_false (by omega)
              have d2 : decide ((9 : Int) < iAt z k) = false := decide_eq_false (by omega)
              clear h1
              go_wp2_with fail
              go_roundw
              case rel => exact ⟨k + 1, by omega, by go_num, rfl, Lib.hid (all_succ hg.out HB.out), by first | rfl | trivial⟩
              case measure => simp [intOf]; omega
          · have HB := Lib.hid (setB_bad hlt (by rw [HS.out]; exact decide_eq_false (by omega)))
            go_wp2_with fail
            go_ret
            exact ⟨rb (by rw [HB.out]), rfl⟩
        · obtain rfl : k = z.length := by omega
          go_wp2_with fail
          go_ret
          exact ⟨rb (by rw [setB_end hg.out, HE.out]), rfl⟩
theorem setAt_first {z : List Int} : setAt z 0 = inB (iAt z 0) 1 9 := by unfold setAt inB; simp
theorem setAt_next {z : List Int} {k : Nat} (hk : 0 < k) : setAt z k = (inB (iAt z k) 1 9 && decide (iAt z (k - 1) < iAt z k)) := by unfold setAt inB; rw [decide_eq_false (show ¬ k = 0 by omega), Bool.false_or]
theorem setAt_out {z : List Int} {k : Nat} (h : inB (iAt z k) 1 9 = false) : setAt z k = false := by unfold setAt; unfold inB at h; rw [h]; rfl
set_option maxHeartbeats 1000000 in
theorem l18Ok_any (V : Option Addr) (cv : Nat) (z : List Int) (w : World) (hV : IsInts w w.heap.size V z) (hz : z.length ≤ 1048576) :
    Calls Try.prog 55 #[.slice V z.length cv] w fun e w' => e = .returned (.bool (setB z)) ∧ Below w.heap.size w w' := by
  go_enter Try.func55, Try.ntmps55
  go_wp2_with fail
  go_loopw [3] (fun i wr => ∃ k : Nat, k ≤ z.length ∧ i = .int .i64 k ∧ Hid (∀ j, j < k → setAt z j = true) ∧ Below w.heap.size w wr) (fun i _ => z.length - (intOf i).toNat)
  case atStart => exact ⟨0, by omega, rfl, Lib.hid (fun j hj => absurd hj (by omega)), Below.refl _ _⟩
  case round =>
    obtain ⟨k, hk, rfl, hg, hbe⟩ := hrel
    by_cases hlt : k < z.length
    · obtain ⟨b, rfl⟩ := hV.some (by omega)
      have hlt' : (k : Int) < (z.length : Int) := by omega
      obtain ⟨hBb, c0⟩ := (hV.below hbe).at hlt
      have hsz := hbe.size
      have zb : b < wr.heap.size := by omega
      have hk0 : (0 : Int) ≤ (k : Int) := by omega
      cases hb : inB (iAt z k) 1 9
      · have E1 := Lib.hid hb
        have HB := Lib.hid (setB_bad hlt (setAt_out hb))
        clear hb
        go_wp2_with fail
        refine wp_region_below (W := wr) (by kernel_rfl) (by kernel_rfl) (Below.refl _ _) ?_
        repeat (first
          | (refine qs_skip (by rfl) ?_; simp only [Act.put, List.setIfInBounds_toArray, List.set_cons_zero, List.set_cons_succ])
          | (apply qs_take
             focus rfl
             focus (
               intro wq hwq
               obtain ⟨hcq, hfq⟩ := bcell hwq
               go_simp
               all_goals first
                 | exact rfl
                 | (go_at_call 56; refine (in_any _ _ _ _).mono ?_; rw [E1.out]; exact fun e w2 h => ⟨h.1, h.2 ▸ hwq⟩)
                 | (exact ⟨trivial, rfl⟩))
             simp only [Act.put, List.setIfInBounds_toArray, List.set_cons_zero, List.set_cons_succ]))
        refine wpQuiet_nil ?_
        intro wq hwq
        go_wp2_with fail
        go_ret
        exact ⟨rb (by rw [HB.out]), hbe.trans (hwq.mono hsz)⟩
      · have E1 := Lib.hid hb
        rcases Nat.eq_zero_or_pos k with rfl | hkp
        · have HB := Lib.hid (show setAt z 0 = true by rw [setAt_first]; exact hb)
          clear hb
          have d1 : decide ((0 : Int) < 0) = false := rfl
          simp only [Int.cast_ofNat_Int] at *
          go_wp2_with fail
          refine wp_region_below (W := wr) (by kernel_rfl) (by kernel_rfl) (Below.refl _ _) ?_
          repeat (first
            | (refine qs_skip (by rfl) ?_; simp only [Act.put, List.setIfInBounds_toArray, List.set_cons_zero, List.set_cons_succ])
            | (apply qs_take
               focus rfl
               focus (
                 intro wq hwq
                 obtain ⟨hcq, hfq⟩ := bcell hwq
                 go_simp
                 all_goals first
                   | exact rfl
                   | (go_at_call 56; refine (in_any _ _ _ _).mono ?_; rw [E1.out]; exact fun e w2 h => ⟨h.1, h.2 ▸ hwq⟩)
                   | (exact ⟨trivial, rfl⟩))
               simp only [Act.put, List.setIfInBounds_toArray, List.set_cons_zero, List.set_cons_succ]))
          refine wpQuiet_nil ?_
          intro wq hwq
          go_wp2_with fail
          go_roundw
          case rel => exact ⟨1, by omega, by go_num, Lib.hid (all_succ hg.out HB.out), hbe.trans (hwq.mono hsz)⟩
          case measure => simp [intOf]; omega
        · obtain ⟨_, c1⟩ := (hV.below hbe).at (show k - 1 < z.length by omega)
          have hk1' : (0 : Int) < (k : Int) := by omega
          have g2 : (1 : Int) ≤ (k : Int) := by omega
          have g2' : (0 : Int) ≤ (k : Int) - 1 := by omega
          have g3 : (k : Int) - 1 < (z.length : Int) := by omega
          have g4 : ((k : Int) - 1).toNat = k - 1 := by omega
          have g1 : IntKind.i64.wrap ((k : Int) - 1) = (k : Int) - 1 := IntWalk.i64_in _ (by omega)
          rcases ltge (iAt z (k - 1)) (iAt z k) with h1 | h1
          · have HB := Lib.hid (show setAt z k = true by rw [setAt_next hkp, hb, decide_eq_true h1]; rfl)
            have d1 : decide (iAt z k ≤ iAt z (k - 1)) = false := decide_eq_false (by omega)
            clear hb h1
            go_wp2_with fail
            refine wp_region_below (W := wr) (by kernel_rfl) (by kernel_rfl) (Below.refl _ _) ?_
            repeat (first
              | (refine qs_skip (by rfl) ?_; simp only [Act.put, List.setIfInBounds_toArray, List.set_cons_zero, List.set_cons_succ])
              | (apply qs_take
                 focus rfl
                 focus (
                   intro wq hwq
                   obtain ⟨hcq, hfq⟩ := bcell hwq
                   go_simp
                   all_goals first
                     | exact rfl
                     | (go_at_call 56; refine (in_any _ _ _ _).mono ?_; rw [E1.out]; exact fun e w2 h => ⟨h.1, h.2 ▸ hwq⟩)
                     | (exact ⟨trivial, rfl⟩))
                 simp only [Act.put, List.setIfInBounds_toArray, List.set_cons_zero, List.set_cons_succ]))
            refine wpQuiet_nil ?_
            intro wq hwq
            clear g1 g2' g3 g4
            go_wp2_with fail
            go_roundw
            case rel => exact ⟨k + 1, by omega, by go_num, Lib.hid (all_succ hg.out HB.out), hbe.trans (hwq.mono hsz)⟩
            case measure => simp [intOf]; omega
          · have HB := Lib.hid (setB_bad hlt (show setAt z k = false by rw [setAt_next hkp, hb, decide_eq_false (by omega)]; rfl))
            have d1 : decide (iAt z k ≤ iAt z (k - 1)) = true := decide_eq_true h1
            clear hb
            go_wp2_with fail
            refine wp_region_below (W := wr) (by kernel_rfl) (by kernel_rfl) (Below.refl _ _) ?_
            repeat (first
              | (refine qs_skip (by rfl) ?_; simp only [Act.put, List.setIfInBounds_toArray, List.set_cons_zero, List.set_cons_succ])
              | (apply qs_take
                 focus rfl
                 focus (
                   intro wq hwq
                   obtain ⟨hcq, hfq⟩ := bcell hwq
                   go_simp
                   all_goals first
                     | exact rfl
                     | (go_at_call 56; refine (in_any _ _ _ _).mono ?_; rw [E1.out]; exact fun e w2 h => ⟨h.1, h.2 ▸ hwq⟩)
                     | (exact ⟨trivial, rfl⟩))
                 simp only [Act.put, List.setIfInBounds_toArray, List.set_cons_zero, List.set_cons_succ]))
            refine wpQuiet_nil ?_
            intro wq hwq
            go_wp2_with fail
            go_ret
            exact ⟨rb (by rw [HB.out]), hbe.trans (hwq.mono hsz)⟩
    · obtain rfl : k = z.length := by omega
      have HE := Lib.hid (show inB (z.length : Int) 1 5 = setB z by rw [setB_end hg.out]; unfold inB; rw [Bool.eq_iff_iff]; simp; omega)
      go_wp2_with (go_at_call 56; refine (in_any _ _ _ _).mono ?_; rw [HE.out]; rintro e w' ⟨rfl, rfl⟩)
      go_ret
      exact ⟨rfl, hbe⟩
theorem specTakeOk_any (V : Option Addr) (cv : Nat) (z : List Int) (w : World) (hV : IsInts w w.heap.size V z) (hz : z.length ≤ 1048576) :
    Calls Try.prog 18 #[.slice V z.length cv] w fun e w' => e = .returned (.bool (setB z)) ∧ Below w.heap.size w w' := by
  go_enter Try.func18, Try.ntmps18
  go_wp2_with fail
  refine (l18Ok_any _ _ _ _ hV hz).mono ?_
  rintro e w' ⟨rfl, hb⟩
  go_wp2_with fail
  go_ret
  exact ⟨rfl, hb⟩
def octAtB (z : List Int) (i : Nat) : Bool := inB (iAt z i) 0 7
theorem octB_bad {z : List Int} {k : Nat} (hk : k < z.length) (h : octAtB z k = false) : octB z = false := by
  have : (List.range z.length).all (fun i => decide (0 ≤ iAt z i ∧ iAt z i ≤ 7)) = false := by rw [List.all_eq_false]; exact ⟨k, by simpa using hk, by unfold octAtB inB at h; rw [h]; decide⟩
  unfold octB; rw [this]; rfl
theorem octB_end {z : List Int} (h : ∀ j, j < z.length → octAtB z j = true) : octB z = decide (1 ≤ z.length ∧ z.length ≤ 4) := by
  have : (List.range z.length).all (fun i => decide (0 ≤ iAt z i ∧ iAt z i ≤ 7)) = true := by rw [List.all_eq_true]; intro j hj; have := h j (by simpa using hj); unfold octAtB inB at this; exact this
  unfold octB; rw [this]; rfl
theorem octB_few {z : List Int} (h : ¬ (1 ≤ z.length ∧ z.length ≤ 4)) : octB z = false := by
  unfold octB; rw [decide_eq_false h, Bool.and_false]
theorem octB_in {z : List Int} (h : octB z = true) {k : Nat} (hk : k < z.length) : 0 ≤ iAt z k ∧ iAt z k ≤ 7 := by
  unfold octB at h; rw [Bool.and_eq_true, List.all_eq_true] at h
  exact of_decide_eq_true (h.1 k (by simpa using hk))
theorem octB_len {z : List Int} (h : octB z = true) : 1 ≤ z.length ∧ z.length ≤ 4 := by
  unfold octB at h; rw [Bool.and_eq_true] at h; exact of_decide_eq_true h.2
theorem octalOk_any (V : Option Addr) (cv : Nat) (z : List Int) (w : World) (hV : IsInts w w.heap.size V z) (hz : z.length ≤ 1048576) :
    Calls Try.prog 35 #[.slice V z.length cv] w fun e w' => e = .returned (.bool (octB z)) ∧ w = w' := by
  rcases Nat.eq_zero_or_pos z.length with h0 | h0
  · have HN := Lib.hid (octB_few (z := z) (by omega))
    have e1 : ((z.length : Int) == 0) = true := by rw [h0]; rfl
    clear h0
    go_enter Try.func35, Try.ntmps35
    go_wp2_with fail
    go_ret
    exact ⟨rb (by rw [HN.out]), rfl⟩
  · have e1 : ((z.length : Int) == 0) = false := by rw [beq_eq_false_iff_ne]; omega
    by_cases h5 : (4 : Int) < (z.length : Int)
    · have HN := Lib.hid (octB_few (z := z) (by omega))
      go_enter Try.func35, Try.ntmps35
      go_wp2_with fail
      go_ret
      exact ⟨rb (by rw [HN.out]), rfl⟩
    · have h5' : (z.length : Int) ≤ 4 := by omega
      have hd5 : decide ((4 : Int) < (z.length : Int)) = false := decide_eq_false h5
      have HE := Lib.hid (show decide (1 ≤ z.length ∧ z.length ≤ 4) = true from decide_eq_true (by omega))
      clear h5
      go_enter Try.func35, Try.ntmps35
      go_wp2_with fail
      clear e1 hd5
      go_loopw [15] (fun i wr => ∃ k : Nat, k ≤ z.length ∧ i = .int .i64 k ∧ Hid (∀ j, j < k → octAtB z j = true) ∧ w = wr) (fun i _ => z.length - (intOf i).toNat)
      case atStart => exact ⟨0, by omega, rfl, Lib.hid (fun j hj => absurd hj (by omega)), rfl⟩
      case round =>
        obtain ⟨k, hk, rfl, hg, rfl⟩ := hrel
        by_cases hlt : k < z.length
        · obtain ⟨b, rfl⟩ := hV.some (by omega)
          have hlt' : (k : Int) < (z.length : Int) := by omega
          obtain ⟨hBb, c0⟩ := hV.at hlt
          rcases ltge (iAt z k) 0 with h1 | h1
          · have HB := Lib.hid (octB_bad hlt (show inB (iAt z k) 0 7 = false from decide_eq_false (by omega)))
            go_wp2_with fail
            go_ret
            exact ⟨rb (by rw [HB.out]), rfl⟩
          · have d1 : decide (iAt z k < 0) = false := decide_eq_false (by omega)
            rcases ltge 7 (iAt z k) with h2 | h2
            · have HB := Lib.hid (octB_bad hlt (show inB (iAt z k) 0 7 = false from decide_eq_false (by omega)))
              go_wp2_with fail
              go_ret
              exact ⟨rb (by rw [HB.out]), rfl⟩
            · have HB := Lib.hid (show octAtB z k = true from decide_eq_true (by omega))
              have d2 : decide ((7 : Int) < iAt z k) = false := decide_eq_false (by omega)
              go_wp2_with fail
              go_roundw
              case rel => exact ⟨k + 1, by omega, by go_num, Lib.hid (all_succ hg.out HB.out), by first | rfl | trivial⟩
              case measure => simp [intOf]; omega
        · obtain rfl : k = z.length := by omega
          go_wp2_with fail
          go_ret
          exact ⟨rb (by rw [octB_end hg.out, HE.out]), rfl⟩
theorem l19Ok_any (V : Option Addr) (cv : Nat) (z : List Int) (w : World) (hV : IsInts w w.heap.size V z) (hz : z.length ≤ 1048576) :
    Calls Try.prog 67 #[.slice V z.length cv] w fun e w' => e = .returned (.bool (octB z)) ∧ w = w' := by
  go_enter Try.func67, Try.ntmps67
  go_wp2_with fail
  go_loopw [3] (fun i wr => ∃ k : Nat, k ≤ z.length ∧ i = .int .i64 k ∧ Hid (∀ j, j < k → octAtB z j = true) ∧ w = wr) (fun i _ => z.length - (intOf i).toNat)
  case atStart => exact ⟨0, by omega, rfl, Lib.hid (fun j hj => absurd hj (by omega)), rfl⟩
  case round =>
    obtain ⟨k, hk, rfl, hg, rfl⟩ := hrel
    by_cases hlt : k < z.length
    · obtain ⟨b, rfl⟩ := hV.some (by omega)
      have hlt' : (k : Int) < (z.length : Int) := by omega
      obtain ⟨hBb, c0⟩ := hV.at hlt
      cases hb : inB (iAt z k) 0 7
      · have E1 := Lib.hid hb
        have HB := Lib.hid (octB_bad hlt hb)
        clear hb
        go_wp2_with (go_at_call 56; refine (in_any _ _ _ _).mono ?_; rw [E1.out]; rintro e w' ⟨rfl, rfl⟩)
        go_ret
        exact ⟨rb (by rw [HB.out]), rfl⟩
      · have E1 := Lib.hid hb
        clear hb
        go_wp2_with (go_at_call 56; refine (in_any _ _ _ _).mono ?_; rw [E1.out]; rintro e w' ⟨rfl, rfl⟩)
        go_roundw
        case rel => exact ⟨k + 1, by omega, by go_num, Lib.hid (all_succ hg.out E1.out), by first | rfl | trivial⟩
        case measure => simp [intOf]; omega
    · obtain rfl : k = z.length := by omega
      have HE := Lib.hid (show inB (z.length : Int) 1 4 = octB z by rw [octB_end hg.out]; unfold inB; rw [Bool.eq_iff_iff]; simp; omega)
      go_wp2_with (go_at_call 56; refine (in_any _ _ _ _).mono ?_; rw [HE.out]; rintro e w' ⟨rfl, rfl⟩)
      go_ret
      exact ⟨rfl, rfl⟩
theorem specOctalOk_any (V : Option Addr) (cv : Nat) (z : List Int) (w : World) (hV : IsInts w w.heap.size V z) (hz : z.length ≤ 1048576) :
    Calls Try.prog 36 #[.slice V z.length cv] w fun e w' => e = .returned (.bool (octB z)) ∧ Below w.heap.size w w' := by
  go_enter Try.func36, Try.ntmps36
  go_wp2_with fail
  refine (l19Ok_any _ _ _ _ hV hz).mono ?_
  rintro e w' ⟨rfl, rfl⟩
  go_wp2_with fail
  go_ret
  exact ⟨rfl, Below.refl _ _⟩
theorem takeOkB_any (V : Option Addr) (cv : Nat) (z : List Int) (w : World) (hV : IsInts w w.heap.size V z) (hz : z.length ≤ 1048576) :
    Calls Try.prog 17 #[.slice V z.length cv] w fun e w' => e = .returned (.bool (setB z)) ∧ Below w.heap.size w w' :=
  (takeOk_any V cv z w hV hz).mono fun e w' h => ⟨h.1, h.2 ▸ Below.refl _ _⟩
theorem octalOkB_any (V : Option Addr) (cv : Nat) (z : List Int) (w : World) (hV : IsInts w w.heap.size V z) (hz : z.length ≤ 1048576) :
    Calls Try.prog 35 #[.slice V z.length cv] w fun e w' => e = .returned (.bool (octB z)) ∧ Below w.heap.size w w' :=
  (octalOk_any V cv z w hV hz).mono fun e w' h => ⟨h.1, h.2 ▸ Below.refl _ _⟩
end Go.Proofs.Ytjanalljaacnoaa.Ko
