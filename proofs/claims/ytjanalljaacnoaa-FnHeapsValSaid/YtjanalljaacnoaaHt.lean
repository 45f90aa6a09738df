/- Values of subtraction games: sets, the least that is missing, Grundy values. -/
import Derived.Test.YtjanalljaacnoaaJa
namespace Go.Proofs.Ytjanalljaacnoaa.Ko
open Go.ChangeShapes Go.WideShapes Go.ChangeAt Go.RowKit Base Sq In
set_option linter.unusedVariables false
set_option maxRecDepth 20000

/-- element i of a set is in its range and above the one before -/
def setAt (s : List Int) (i : Nat) : Bool := decide (1 ≤ iAt s i ∧ iAt s i ≤ 9) && (decide (i = 0) || decide (iAt s (i - 1) < iAt s i))
/-- the set is valid -/
def setB (s : List Int) : Bool := (List.range s.length).all (setAt s) && decide (1 ≤ s.length ∧ s.length ≤ 5)
theorem setB_bad {s : List Int} {k : Nat} (hk : k < s.length) (h : setAt s k = false) : setB s = false := by
  have : (List.range s.length).all (setAt s) = false := by rw [List.all_eq_false]; exact ⟨k, by simpa using hk, by rw [h]; decide⟩
  unfold setB; rw [this]; rfl
theorem setB_end {s : List Int} (h : ∀ j, j < s.length → setAt s j = true) : setB s = decide (1 ≤ s.length ∧ s.length ≤ 5) := by
  have : (List.range s.length).all (setAt s) = true := by rw [List.all_eq_true]; intro j hj; exact h j (by simpa using hj)
  unfold setB; rw [this]; rfl
theorem setB_at {s : List Int} (h : setB s = true) {k : Nat} (hk : k < s.length) : setAt s k = true := by
  unfold setB at h; rw [Bool.and_eq_true, List.all_eq_true] at h
  exact h.1 k (by simpa using hk)
theorem setB_len {s : List Int} (h : setB s = true) : 1 ≤ s.length ∧ s.length ≤ 5 := by
  unfold setB at h; rw [Bool.and_eq_true] at h; exact of_decide_eq_true h.2
theorem setB_in {s : List Int} (h : setB s = true) {k : Nat} (hk : k < s.length) : 1 ≤ iAt s k ∧ iAt s k ≤ 9 := by
  have := setB_at h hk
  unfold setAt at this; rw [Bool.and_eq_true] at this; exact of_decide_eq_true this.1
/-- the least number from n on that is not in the list (of at most f elements) -/
def mexF : Nat → List Int → Nat → Nat
  | 0, _, n => n
  | f + 1, l, n => if (n : Int) ∈ l then mexF f (l.filter fun x => decide (x ≠ (n : Int))) (n + 1) else n
theorem filter_less {l : List Int} {n : Nat} (h : (n : Int) ∈ l) : (l.filter fun x => decide (x ≠ (n : Int))).length < l.length :=
  List.length_filter_lt_length_iff_exists.2 ⟨(n : Int), h, by simp⟩
theorem mexF_spec : ∀ (f : Nat) (l : List Int) (n : Nat), l.length ≤ f → n ≤ mexF f l n ∧ mexF f l n ≤ n + l.length ∧ ((mexF f l n : Nat) : Int) ∉ l ∧ ∀ j, n ≤ j → j < mexF f l n → (j : Int) ∈ l := by
  intro f
  induction f with
  | zero =>
    intro l n hm
    have : l = [] := List.length_eq_zero_iff.1 (by omega)
    subst this
    exact ⟨Nat.le_refl _, Nat.le_refl _, by simp, fun j h1 h2 => by unfold mexF at h2; omega⟩
  | succ f ih =>
    intro l n hm
    unfold mexF
    by_cases h : (n : Int) ∈ l
    · rw [if_pos h]
      have hlt := filter_less h
      obtain ⟨h1, h0, h2, h3⟩ := ih _ (n + 1) (show (l.filter fun x => decide (x ≠ (n : Int))).length ≤ f by omega)
      refine ⟨by omega, by omega, fun hc => h2 (List.mem_filter.2 ⟨hc, by rw [decide_eq_true_eq]; omega⟩), fun j hj hjm => ?_⟩
      rcases Nat.eq_or_lt_of_le hj with rfl | hj2
      · exact h
      · exact (List.mem_filter.1 (h3 j hj2 hjm)).1
    · rw [if_neg h]
      exact ⟨Nat.le_refl _, by omega, h, fun j hj hjm => by omega⟩
/-- the least number that is not in the list -/
def mexV (l : List Int) : Int := (mexF l.length l 0 : Nat)
theorem mexV_out (l : List Int) : mexV l ∉ l := (mexF_spec _ l 0 (Nat.le_refl _)).2.2.1
theorem mexV_in {l : List Int} {j : Nat} (h : (j : Int) < mexV l) : (j : Int) ∈ l := (mexF_spec _ l 0 (Nat.le_refl _)).2.2.2 j (Nat.zero_le _) (by unfold mexV at h; omega)
theorem mexV_eq {l : List Int} {n : Nat} (h : ∀ j, j < n → ((j : Nat) : Int) ∈ l) (h2 : (n : Int) ∉ l) : mexV l = n := by
  obtain ⟨_, _, a, b⟩ := mexF_spec _ l 0 (Nat.le_refl l.length)
  unfold mexV
  by_cases h3 : mexF l.length l 0 < n
  · exact absurd (h _ h3) a
  · by_cases h4 : n < mexF l.length l 0
    · exact absurd (b n (Nat.zero_le _) h4) h2
    · have : mexF l.length l 0 = n := by omega
      rw [this]
/-- the numbers of the first k of the set that are at most n, as what the heap of n becomes worth -/
def optK (s g : List Int) (n : Nat) : Nat → List Int
  | 0 => []
  | k + 1 => if iAt s k ≤ (n : Int) then optK s g n k ++ [iAt g ((n : Int) - iAt s k).toNat] else optK s g n k
theorem optK_len (s g : List Int) (n k : Nat) : (optK s g n k).length ≤ k := by
  induction k with
  | zero => exact Nat.le_refl _
  | succ k ih =>
    unfold optK
    split
    · rw [List.length_append]; exact Nat.add_le_add ih (Nat.le_refl 1)
    · omega
/-- the Grundy values of the first n heaps -/
def gruV (s : List Int) : Nat → List Int
  | 0 => []
  | n + 1 => gruV s n ++ [mexV (optK s (gruV s n) n s.length)]
theorem gruV_len (s : List Int) (n : Nat) : (gruV s n).length = n := by
  induction n with
  | zero => rfl
  | succ n ih => unfold gruV; rw [List.length_append, ih]; rfl
theorem mexV_le (l : List Int) : 0 ≤ mexV l ∧ mexV l ≤ l.length := by
  constructor
  · unfold mexV; omega
  · have := (mexF_spec _ l 0 (Nat.le_refl l.length)).2.1
    unfold mexV; omega
theorem iAt_append_left {a b : List Int} {i : Nat} (h : i < a.length) : iAt (a ++ b) i = iAt a i := by
  unfold iAt; simp [List.getD_eq_getElem?_getD, List.getElem?_append_left h]
theorem gruV_at (s : List Int) {n m i : Nat} (h : i < n) (hm : n ≤ m) : iAt (gruV s m) i = iAt (gruV s n) i := by
  induction m with
  | zero => omega
  | succ m ih =>
    rcases Nat.eq_or_lt_of_le hm with rfl | h2
    · rfl
    · rw [show gruV s (m + 1) = gruV s m ++ [mexV (optK s (gruV s m) m s.length)] from rfl, iAt_append_left (by rw [gruV_len]; omega)]
      exact ih (by omega)
/-- what TakeAll answers -/
def takeV (s : List Int) (most : Int) : List Int := if setB s = true ∧ 0 ≤ most ∧ most ≤ 60 then gruV s (most.toNat + 1) else []
theorem takeV_len {s : List Int} {most : Int} : (takeV s most).length ≤ 1048576 := by
  unfold takeV
  split
  · rw [gruV_len]; omega
  · exact Nat.zero_le _
end Go.Proofs.Ytjanalljaacnoaa.Ko
