/- zgIn, and what is true of turns of squares. -/
import Derived.Test.YtnchjpjlabeababIn
import Derived.Test.YtnchjpjlabeababDs
import Derived.Test.YtnchjpjlabeababSv
namespace Go.Proofs.Ytnchjpjlabeabab.Laws
open Go.ChangeShapes Go.WideShapes Go.ChangeAt Go.RowKit Base Sq Rd In
set_option linter.unusedVariables false
set_option maxRecDepth 20000

theorem iAt_mem {l : List Int} {i : Nat} (h : i < l.length) : iAt l i ∈ l := by unfold iAt; rw [List.getD_eq_getElem?_getD, List.getElem?_eq_getElem h]; exact List.getElem_mem _
theorem zgIn_any (A : Option Addr) (c : Nat) (l : List Int) (x : Int) (w : World) (h : IsInts w w.heap.size A l) (hl : l.length ≤ 1048576) (hx : ∀ y ∈ l, y ≠ x) :
    Calls Try.prog 24 #[.slice A l.length c, .int .i64 x] w fun e w' => e = .returned (.bool false) ∧ w = w' := by
  have HX := Lib.hid hx
  clear hx
  go_enter Try.func24, Try.ntmps24
  go_wp2_with fail
  go_loopw [5] (fun i wr => ∃ k : Nat, k ≤ l.length ∧ i = .int .i64 k ∧ wr = w) (fun i _ => l.length - (intOf i).toNat)
  case atStart => exact ⟨0, by omega, rfl, rfl⟩
  case round =>
    obtain ⟨k, hk, rfl, rfl⟩ := hrel
    by_cases hlt : k < l.length
    · obtain ⟨b, rfl, hB, hc⟩ := h (by omega)
      have c0 := hc k hlt
      have hd : (iAt l k == x) = false := by simpa using HX.out _ (iAt_mem hlt)
      clear hc
      go_wp2_with fail
      go_roundw
      case rel => exact ⟨k + 1, by omega, by go_num, by first | rfl | trivial⟩
      case measure => simp [intOf]; omega
    · obtain rfl : k = l.length := by omega
      go_wp2_with fail
      go_ret
      exact ⟨rfl, rfl⟩
/-- turning by a quarter so many times -/
def quarters (s a : Int) : Nat → Int
  | 0 => a
  | n + 1 => turnAt s 1 (quarters s a n)
def turnsFine : Bool := ([2, 3, 4] : List Nat).all fun s => (List.range 8).all fun k => (List.range (s * s)).all fun a =>
  okB s (turnAt s k a) && ((List.range (s * s)).all fun b => decide (turnAt s k a ≠ turnAt s k b ∨ a = b)) && decide (quarters s a 4 = a) && decide (turnAt s 4 (turnAt s 4 a) = a) && decide (turnAt s 0 a = a)
theorem turns_fine : turnsFine = true := by decide +kernel
theorem turn_facts {s k a : Int} (hs : s = 2 ∨ s = 3 ∨ s = 4) (hk : 0 ≤ k ∧ k ≤ 7) (ha : 0 ≤ a ∧ a < s * s) :
    okB s (turnAt s k a) = true ∧ (∀ b, 0 ≤ b → b < s * s → turnAt s k a = turnAt s k b → a = b) ∧ quarters s a 4 = a ∧ turnAt s 4 (turnAt s 4 a) = a ∧ turnAt s 0 a = a := by
  have h := turns_fine
  unfold turnsFine at h
  obtain ⟨s', rfl, hs'⟩ : ∃ s' : Nat, s = (s' : Int) ∧ s' ∈ ([2, 3, 4] : List Nat) := by
    rcases hs with rfl | rfl | rfl
    · exact ⟨2, rfl, by simp⟩
    · exact ⟨3, rfl, by simp⟩
    · exact ⟨4, rfl, by simp⟩
  obtain ⟨k', rfl⟩ := Int.eq_ofNat_of_zero_le hk.1
  obtain ⟨a', rfl⟩ := Int.eq_ofNat_of_zero_le ha.1
  have ha' : a' < s' * s' := by
    have := ha.2
    have h2 : ((s' : Int) * (s' : Int)) = ((s' * s' : Nat) : Int) := by simp
    omega
  have h1 := List.all_eq_true.1 (List.all_eq_true.1 (List.all_eq_true.1 h s' hs') k' (by simp; omega)) a' (by simpa using ha')
  simp only [Bool.and_eq_true, decide_eq_true_eq] at h1
  obtain ⟨⟨⟨⟨g1, g2⟩, g3⟩, g4⟩, g5⟩ := h1
  refine ⟨g1, fun b hb0 hb1 he => ?_, g3, g4, g5⟩
  obtain ⟨b', rfl⟩ := Int.eq_ofNat_of_zero_le hb0
  have hb' : b' < s' * s' := by
    have h2 : ((s' : Int) * (s' : Int)) = ((s' * s' : Nat) : Int) := by simp
    omega
  have := of_decide_eq_true (List.all_eq_true.1 g2 b' (by simpa using hb'))
  rcases this with h3 | h3
  · exact absurd he h3
  · rw [h3]
theorem turnAt_pos {s k a : Int} (h : 0 ≤ turnAt s k a) : (s = 2 ∨ s = 3 ∨ s = 4) ∧ (0 ≤ k ∧ k ≤ 7) ∧ (0 ≤ a ∧ a < s * s) := by
  unfold turnAt at h
  split at h
  · next h1 =>
    obtain ⟨hs, ha0, _, ha1⟩ := okB_yes h1.1
    exact ⟨hs, h1.2, ha0, ha1⟩
  · omega
end Go.Proofs.Ytnchjpjlabeabab.Laws
