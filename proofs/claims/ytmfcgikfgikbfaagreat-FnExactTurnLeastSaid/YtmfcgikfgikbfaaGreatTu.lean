/- Turns of squares: what is true of them (no program is named). -/
import Derived.Test.YtmfcgikfgikbfaaGreatSt
import Derived.Test.YtmfcgikfgikbfaaGreatSu
namespace Go.Proofs.YtmfcgikfgikbfaaGreat.Sq
open Go.ChangeShapes Go.WideShapes Go.ChangeAt Go.RowKit Base
set_option linter.unusedVariables false
set_option maxRecDepth 20000

/-- where a square comes by a turn -/
def turnAt (s k a : Int) : Int := if okB s a = true ∧ (0 ≤ k ∧ k ≤ 7) then (turnV s k (a % s) (a / s)).1 + s * (turnV s k (a % s) (a / s)).2 else -1
/-- turning by a quarter so many times -/
def quarters (s a : Int) : Nat → Int
  | 0 => a
  | n + 1 => turnAt s 1 (quarters s a n)
def turnsFine : Bool := ([2, 3, 4] : List Nat).all fun s => (List.range 8).all fun k => (List.range (s * s)).all fun a =>
  okB s (turnAt s k a) && ((List.range (s * s)).all fun b => decide (turnAt s k a ≠ turnAt s k b ∨ a = b)) && decide (quarters s a 4 = a) && decide (turnAt s 4 (turnAt s 4 a) = a) && decide (turnAt s 0 a = a)
theorem turns_fine : turnsFine = true := by decide +kernel
theorem turn_facts {s k a : Int} (hs : s = 2 ∨ s = 3 ∨ s = 4) (hk : 0 ≤ k ∧ k ≤ 7) (ha : 0 ≤ a ∧ a < s * s) :
    okB s (turnAt s k a) = true ∧ (∀ b, 0 ≤ b → b < s * s → turnAt s k a = turnAt s k b → a = b) ∧ quarters s a 4 = a ∧ turnAt s 4 (turnAt s 4 a) = a ∧ turnAt s 0 a = a := by
  have h := turns_fine
  unfold turnsFine at h
  obtain ⟨s', rfl, hs'⟩ : ∃ s' : Nat, s = (s' : Int) ∧ s' ∈ ([2, 3, 4] : List Nat) := by
    rcases hs with rfl | rfl | rfl
    · exact ⟨2, rfl, by simp⟩
    · exact ⟨3, rfl, by simp⟩
    · exact ⟨4, rfl, by simp⟩
  obtain ⟨k', rfl⟩ := Int.eq_ofNat_of_zero_le hk.1
  obtain ⟨a', rfl⟩ := Int.eq_ofNat_of_zero_le ha.1
  have ha' : a' < s' * s' := by
    have := ha.2
    have h2 : ((s' : Int) * (s' : Int)) = ((s' * s' : Nat) : Int) := by simp
    omega
  have h1 := List.all_eq_true.1 (List.all_eq_true.1 (List.all_eq_true.1 h s' hs') k' (by simp; omega)) a' (by simpa using ha')
  simp only [Bool.and_eq_true, decide_eq_true_eq] at h1
  obtain ⟨⟨⟨⟨g1, g2⟩, g3⟩, g4⟩, g5⟩ := h1
  refine ⟨g1, fun b hb0 hb1 he => ?_, g3, g4, g5⟩
  obtain ⟨b', rfl⟩ := Int.eq_ofNat_of_zero_le hb0
  have hb' : b' < s' * s' := by
    have h2 : ((s' : Int) * (s' : Int)) = ((s' * s' : Nat) : Int) := by simp
    omega
  have := of_decide_eq_true (List.all_eq_true.1 g2 b' (by simpa using hb'))
  rcases this with h3 | h3
  · exact absurd he h3
  · rw [h3]
theorem turnAt_pos {s k a : Int} (h : 0 ≤ turnAt s k a) : (s = 2 ∨ s = 3 ∨ s = 4) ∧ (0 ≤ k ∧ k ≤ 7) ∧ (0 ≤ a ∧ a < s * s) := by
  unfold turnAt at h
  split at h
  · next h1 =>
    obtain ⟨hs, ha0, _, ha1⟩ := okB_yes h1.1
    exact ⟨hs, h1.2, ha0, ha1⟩
  · omega
end Go.Proofs.YtmfcgikfgikbfaaGreat.Sq
