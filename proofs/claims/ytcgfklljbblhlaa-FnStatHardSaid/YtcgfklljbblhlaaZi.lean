/- Lists of whole numbers in the laws: equal ones, what is in one; the places of the largest value. -/
import Derived.Test.YtcgfklljbblhlaaHc
import Derived.Test.YtcgfklljbblhlaaDp
namespace Go.Proofs.Ytcgfklljbblhlaa.Ko
open Go.ChangeShapes Go.WideShapes Go.ChangeAt Go.RowKit Base Sq In Sc
set_option linter.unusedVariables false
set_option maxRecDepth 20000
attribute [local irreducible] wpQuiet

theorem zgInts_same (A A' : Option Addr) (c c' : Nat) (l : List Int) (w : World) (h : IsInts w w.heap.size A l) (h' : IsInts w w.heap.size A' l) (hl : l.length ≤ 1048576) :
    Calls Try.prog 19 #[.slice A l.length c, .slice A' l.length c'] w fun e w' => e = .returned (.bool true) ∧ Below w.heap.size w w' := by
  go_enter Try.func19, Try.ntmps19
  go_wp2_with fail
  go_loopw [5] (fun i wr => ∃ k : Nat, k ≤ l.length ∧ i = .int .i64 k ∧ Below w.heap.size w wr) (fun i _ => l.length - (intOf i).toNat)
  case atStart => exact ⟨0, by omega, rfl, Below.refl _ _⟩
  case round =>
    obtain ⟨k, hk, rfl, hbe⟩ := hrel
    by_cases hlt : k < l.length
    · obtain ⟨b, rfl, hB, hc⟩ := h.below hbe (by omega)
      have c0 := hc k hlt
      obtain ⟨b', rfl, hB', hc'⟩ := h'.below hbe (by omega)
      have d0 := hc' k hlt
      clear hc hc'
      have hz := hbe.size
      have z1 : b < wr.heap.size := by omega
      have z2 : b' < wr.heap.size := by omega
      have hk1 : (k : Int) < (l.length : Int) := by omega
      have hk2 : (0 : Int) ≤ (k : Int) := by omega
      go_wp2_with fail
      refine wp_region_below (W := wr) (by kernel_rfl) (by kernel_rfl) (Below.refl _ _) ?_
      repeat (first
        | (refine qs_skip (by rfl) ?_; simp only [Act.put, List.setIfInBounds_toArray, List.set_cons_zero, List.set_cons_succ])
        | (apply qs_take
           focus rfl
           focus (
             intro wq hwq
             obtain ⟨hcq, hfq⟩ := bcell hwq
             go_simp
             all_goals first
               | exact rfl
               | (exact ⟨trivial, rfl⟩))
           simp only [Act.put, List.setIfInBounds_toArray, List.set_cons_zero, List.set_cons_succ]))
      refine wpQuiet_nil ?_
      intro wq hwq
      go_wp2_with fail
      go_roundw
      case rel => exact ⟨k + 1, by omega, by go_num, hbe.trans (hwq.mono (by omega))⟩
      case measure => simp [intOf]; omega
    · obtain rfl : k = l.length := by omega
      go_wp2_with fail
      go_ret
      exact ⟨rfl, hbe⟩
theorem iAt_mem {l : List Int} {i : Nat} (h : i < l.length) : iAt l i ∈ l := by
  unfold iAt; rw [List.getD_eq_getElem?_getD, List.getElem?_eq_getElem h]; exact List.getElem_mem _
theorem mem_iAt {l : List Int} {x : Int} (h : x ∈ l) : ∃ i, i < l.length ∧ iAt l i = x := by
  obtain ⟨i, hi, e⟩ := List.mem_iff_getElem.1 h
  exact ⟨i, hi, by unfold iAt; rw [List.getD_eq_getElem?_getD, List.getElem?_eq_getElem hi]; exact e⟩
theorem zgIn_any (A : Option Addr) (c : Nat) (l : List Int) (x : Int) (w : World) (h : IsInts w w.heap.size A l) (hl : l.length ≤ 1048576) :
    Calls Try.prog 20 #[.slice A l.length c, .int .i64 x] w fun e w' => e = .returned (.bool (decide (x ∈ l))) ∧ w = w' := by
  go_enter Try.func20, Try.ntmps20
  go_wp2_with fail
  go_loopw [5] (fun i wr => ∃ k : Nat, k ≤ l.length ∧ i = .int .i64 k ∧ Hid (∀ j, j < k → iAt l j ≠ x) ∧ w = wr) (fun i _ => l.length - (intOf i).toNat)
  case atStart => exact ⟨0, by omega, rfl, Lib.hid (fun j hj => absurd hj (by omega)), rfl⟩
  case round =>
    obtain ⟨k, hk, rfl, hg, rfl⟩ := hrel
    by_cases hlt : k < l.length
    · obtain ⟨b, rfl, hB, hc⟩ := h (by omega)
      have c0 := hc k hlt
      have hk1 : (k : Int) < (l.length : Int) := by omega
      clear hc
      by_cases he : iAt l k = x
      · have HD := Lib.hid (decide_eq_true (show x ∈ l by rw [← he]; exact iAt_mem hlt))
        have hb : (iAt l k == x) = true := by simp; exact he
        clear he
        go_wp2_with fail
        go_ret
        exact ⟨rb (by rw [HD.out]), rfl⟩
      · have hb : (iAt l k == x) = false := by simp; exact he
        have HE := Lib.hid he
        clear he
        go_wp2_with fail
        go_roundw
        case rel => exact ⟨k + 1, by omega, by go_num, Lib.hid (all_succ hg.out HE.out), by first | rfl | trivial⟩
        case measure => simp [intOf]; omega
    · obtain rfl : k = l.length := by omega
      have HD := Lib.hid (decide_eq_false (show ¬ x ∈ l from fun hm => by obtain ⟨i, hi, e⟩ := mem_iAt hm; exact hg.out i hi e))
      go_wp2_with fail
      go_ret
      exact ⟨rb (by rw [HD.out]), rfl⟩
theorem topV_max {z : List Int} {k j : Nat} (h : j < k) : iAt z j ≤ topV z k := by
  induction k with
  | zero => omega
  | succ k ih =>
    unfold topV
    rcases Nat.lt_succ_iff_lt_or_eq.mp h with h1 | rfl
    · have := ih h1; omega
    · omega
theorem topV_succ (z : List Int) (k : Nat) : topV z (k + 1) = max (topV z k) (iAt z k) := rfl
theorem topV_or (z : List Int) (k : Nat) : topV z k = 2 ∨ ∃ i, i < k ∧ iAt z i = topV z k := by
  induction k with
  | zero => exact .inl rfl
  | succ k ih =>
    have hs := topV_succ z k
    by_cases hm : topV z k < iAt z k
    · exact .inr ⟨k, by omega, by omega⟩
    · rcases ih with h | ⟨i, hi, e⟩
      · exact .inl (by omega)
      · exact .inr ⟨i, by omega, by omega⟩
theorem topV_at {z : List Int} {k j : Nat} (h : j < k) (h2 : 2 ≤ iAt z j) : ∃ i, i < k ∧ iAt z i = topV z k := by
  rcases topV_or z k with h3 | h3
  · exact ⟨j, h, by have := topV_max (z := z) h; omega⟩
  · exact h3
theorem mem_atV {z : List Int} {t x : Int} : ∀ k, x ∈ atV z t k ↔ ∃ i : Nat, i < k ∧ x = i ∧ iAt z i = t := by
  intro k
  induction k with
  | zero =>
    constructor
    · intro h; exact absurd h (by simp [atV])
    · rintro ⟨i, hi, _⟩; omega
  | succ k ih =>
    unfold atV
    constructor
    · intro h
      split at h
      · rename_i e
        rcases List.mem_append.1 h with h | h
        · obtain ⟨i, h1, h2⟩ := ih.1 h; exact ⟨i, by omega, h2⟩
        · simp at h; exact ⟨k, by omega, h, e⟩
      · obtain ⟨i, h1, h2⟩ := ih.1 h; exact ⟨i, by omega, h2⟩
    · rintro ⟨i, h1, h2, h3⟩
      rcases Nat.lt_succ_iff_lt_or_eq.mp h1 with h4 | rfl
      · have := ih.2 ⟨i, h4, h2, h3⟩
        split
        · exact List.mem_append_left _ this
        · exact this
      · rw [if_pos h3]; exact List.mem_append_right _ (by simp [h2])
theorem cnt_all' {z : List Int} (h : rangeB z = true) : ∀ k, k ≤ z.length → cntP isN z k + cntP isD z k + cntP wonB z k + cntP lostB z k = k := by
  intro k
  induction k with
  | zero => intro _; rfl
  | succ k ih =>
    intro hk
    have h1 := ih (by omega)
    have hr := rangeB_at h (show k < z.length by omega)
    unfold cntP
    rcases one_of hr.1 with ⟨e1, e2, e3, e4, _⟩ | ⟨e1, e2, e3, e4, _⟩ | ⟨e1, e2, e3, e4, _⟩ | ⟨e1, e2, e3, e4, _⟩ <;> rw [e1, e2, e3, e4] <;> simp <;> omega
/-- what the law asks of the list -/
theorem hard_facts {z : List Int} (hl : listB z = true) : hardV z = atV z (topV z z.length) z.length ∧ ((hardV z).length = 0 ↔ stW z + stL z = 0) := by
  have e : hardV z = atV z (topV z z.length) z.length := if_pos hl
  refine ⟨e, ?_⟩
  constructor
  · intro h
    have hno : ∀ j, j < z.length → iAt z j < 2 := fun j hj => by
      by_cases h2 : iAt z j < 2
      · exact h2
      · obtain ⟨i, hi, et⟩ := topV_at (z := z) hj (by omega)
        have : ((i : Int)) ∈ hardV z := by rw [e]; exact (mem_atV _).2 ⟨i, hi, rfl, et⟩
        rw [List.length_eq_zero_iff.1 h] at this
        cases this
    have w0 : cntP wonB z z.length = 0 := cntP_all fun j hj => (lost_low (hno j hj)).2
    have l0 : cntP lostB z z.length = 0 := cntP_all fun j hj => (lost_low (hno j hj)).1
    unfold stW stL
    rw [if_pos hl, if_pos hl, w0, l0]; rfl
  · intro h; rw [hardV_zero h]; rfl
end Go.Proofs.Ytcgfklljbblhlaa.Ko
