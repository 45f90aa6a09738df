/- Lists of whole numbers in the laws: equal ones, what is in one. -/
import Derived.Test.YtjanalljaacnoaaJm
namespace Go.Proofs.Ytjanalljaacnoaa.Ko
open Go.ChangeShapes Go.WideShapes Go.ChangeAt Go.RowKit Base Sq In
set_option linter.unusedVariables false
set_option maxRecDepth 20000
attribute [local irreducible] wpQuiet

theorem all_succ' {P : Nat → Prop} {k : Nat} (h : ∀ j, j < k → P j) (hk : P k) : ∀ j, j < k + 1 → P j := fun j hj => by
  by_cases e : j = k
  · rw [e]; exact hk
  · exact h j (by omega)
theorem zgInts_same (A A' : Option Addr) (c c' : Nat) (l : List Int) (w : World) (h : IsInts w w.heap.size A l) (h' : IsInts w w.heap.size A' l) (hl : l.length ≤ 1048576) :
    Calls Try.prog 15 #[.slice A l.length c, .slice A' l.length c'] w fun e w' => e = .returned (.bool true) ∧ Below w.heap.size w w' := by
  go_enter Try.func15, Try.ntmps15
  go_wp2_with fail
  go_loopw [5] (fun i wr => ∃ k : Nat, k ≤ l.length ∧ i = .int .i64 k ∧ Below w.heap.size w wr) (fun i _ => l.length - (intOf i).toNat)
  case atStart => exact ⟨0, by omega, rfl, Below.refl _ _⟩
  case round =>
    obtain ⟨k, hk, rfl, hbe⟩ := hrel
    by_cases hlt : k < l.length
    · obtain ⟨b, rfl, hB, hc⟩ := h.below hbe (by omega)
      have c0 := hc k hlt
      obtain ⟨b', rfl, hB', hc'⟩ := h'.below hbe (by omega)
      have d0 := hc' k hlt
      clear hc hc'
      have hz := hbe.size
      have z1 : b < wr.heap.size := by omega
      have z2 : b' < wr.heap.size := by omega
      have hk1 : (k : Int) < (l.length : Int) := by omega
      have hk2 : (0 : Int) ≤ (k : Int) := by omega
      go_wp2_with fail
      refine wp_region_below (W := wr) (by kernel_rfl) (by kernel_rfl) (Below.refl _ _) ?_
      repeat (first
        | (refine qs_skip (by rfl) ?_; simp only [Act.put, List.setIfInBounds_toArray, List.set_cons_zero, List.set_cons_succ])
        | (apply qs_take
           focus rfl
           focus (
             intro wq hwq
             obtain ⟨hcq, hfq⟩ := bcell hwq
             go_simp
             all_goals first
               | exact rfl
               | (exact ⟨trivial, rfl⟩))
           simp only [Act.put, List.setIfInBounds_toArray, List.set_cons_zero, List.set_cons_succ]))
      refine wpQuiet_nil ?_
      intro wq hwq
      go_wp2_with fail
      go_roundw
      case rel => exact ⟨k + 1, by omega, by go_num, hbe.trans (hwq.mono (by omega))⟩
      case measure => simp [intOf]; omega
    · obtain rfl : k = l.length := by omega
      go_wp2_with fail
      go_ret
      exact ⟨rfl, hbe⟩
theorem iAt_mem {l : List Int} {i : Nat} (h : i < l.length) : iAt l i ∈ l := by
  unfold iAt; rw [List.getD_eq_getElem?_getD, List.getElem?_eq_getElem h]; exact List.getElem_mem _
theorem mem_iAt {l : List Int} {x : Int} (h : x ∈ l) : ∃ i, i < l.length ∧ iAt l i = x := by
  obtain ⟨i, hi, e⟩ := List.mem_iff_getElem.1 h
  exact ⟨i, hi, by unfold iAt; rw [List.getD_eq_getElem?_getD, List.getElem?_eq_getElem hi]; exact e⟩
theorem zgIn_any (A : Option Addr) (c : Nat) (l : List Int) (x : Int) (w : World) (h : IsInts w w.heap.size A l) (hl : l.length ≤ 1048576) :
    Calls Try.prog 19 #[.slice A l.length c, .int .i64 x] w fun e w' => e = .returned (.bool (decide (x ∈ l))) ∧ w = w' := by
  go_enter Try.func19, Try.ntmps19
  go_wp2_with fail
  go_loopw [5] (fun i wr => ∃ k : Nat, k ≤ l.length ∧ i = .int .i64 k ∧ Hid (∀ j, j < k → iAt l j ≠ x) ∧ w = wr) (fun i _ => l.length - (intOf i).toNat)
  case atStart => exact ⟨0, by omega, rfl, Lib.hid (fun j hj => absurd hj (by omega)), rfl⟩
  case round =>
    obtain ⟨k, hk, rfl, hg, rfl⟩ := hrel
    by_cases hlt : k < l.length
    · obtain ⟨b, rfl, hB, hc⟩ := h (by omega)
      have c0 := hc k hlt
      have hk1 : (k : Int) < (l.length : Int) := by omega
      clear hc
      by_cases he : iAt l k = x
      · have HD := Lib.hid (decide_eq_true (show x ∈ l by rw [← he]; exact iAt_mem hlt))
        have hb : (iAt l k == x) = true := by simp; exact he
        clear he
        go_wp2_with fail
        go_ret
        exact ⟨rb (by rw [HD.out]), rfl⟩
      · have hb : (iAt l k == x) = false := by simp; exact he
        have HE := Lib.hid he
        clear he
        go_wp2_with fail
        go_roundw
        case rel => exact ⟨k + 1, by omega, by go_num, Lib.hid (all_succ' hg.out HE.out), by first | rfl | trivial⟩
        case measure => simp [intOf]; omega
    · obtain rfl : k = l.length := by omega
      have HD := Lib.hid (decide_eq_false (show ¬ x ∈ l from fun hm => by obtain ⟨i, hi, e⟩ := mem_iAt hm; exact hg.out i hi e))
      go_wp2_with fail
      go_ret
      exact ⟨rb (by rw [HD.out]), rfl⟩
end Go.Proofs.Ytjanalljaacnoaa.Ko
