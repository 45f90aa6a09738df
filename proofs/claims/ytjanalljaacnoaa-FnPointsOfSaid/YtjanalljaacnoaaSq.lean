/- The contracts of the small functions of chapter 1 (boards), of the program and of the model, over whole numbers alone: each returns its Lean value, at every argument. -/
import Derived.Test.YtjanalljaacnoaaBase
namespace Go.Proofs.Ytjanalljaacnoaa.Sq
open Go.ChangeShapes Go.WideShapes Go.ChangeAt Go.RowKit Base
set_option linter.unusedVariables false
set_option maxRecDepth 20000

def sideB (s : Int) : Bool := decide (2 ≤ s ∧ s ≤ 4)
def okB (s a : Int) : Bool := decide (2 ≤ s ∧ s ≤ 4 ∧ 0 ≤ a ∧ a < s * s)
def inB (n lo hi : Int) : Bool := decide (lo ≤ n ∧ n ≤ hi)

theorem in_yes (n lo hi : Int) (w : World) (h : lo ≤ n ∧ n ≤ hi) :
    Calls Try.prog 56 #[.int .i64 n, .int .i64 lo, .int .i64 hi] w fun e w' => e = .returned (.bool true) ∧ w = w' := by
  obtain ⟨h1, h2⟩ := h
  go_enter Try.func56, Try.ntmps56
  go_wp2
  go_ret
  exact ⟨rb (by first | rfl | (simp; done) | (simp; omega)), rfl⟩
theorem in_no (n lo hi : Int) (w : World) (h : n < lo ∨ hi < n) :
    Calls Try.prog 56 #[.int .i64 n, .int .i64 lo, .int .i64 hi] w fun e w' => e = .returned (.bool false) ∧ w = w' := by
  by_cases h1 : lo ≤ n
  · have h2 : hi < n := by omega
    clear h
    go_enter Try.func56, Try.ntmps56
    go_wp2
    go_ret
    exact ⟨rb (by first | rfl | (simp; done) | (simp; omega)), rfl⟩
  · have h2 : n < lo := by omega
    clear h h1
    go_enter Try.func56, Try.ntmps56
    go_wp2
    go_ret
    exact ⟨rb (by first | rfl | (simp; done) | (simp; omega)), rfl⟩
theorem in_any (n lo hi : Int) (w : World) :
    Calls Try.prog 56 #[.int .i64 n, .int .i64 lo, .int .i64 hi] w fun e w' => e = .returned (.bool (inB n lo hi)) ∧ w = w' := by
  by_cases h : lo ≤ n ∧ n ≤ hi
  · have : inB n lo hi = true := by unfold inB; exact decide_eq_true h
    rw [this]; exact in_yes n lo hi w h
  · have : inB n lo hi = false := by unfold inB; exact decide_eq_false h
    rw [this]; exact in_no n lo hi w (by omega)
/-- SquareOk of the program and of the model. -/
theorem okB_yes {s a : Int} (h : okB s a = true) : (s = 2 ∨ s = 3 ∨ s = 4) ∧ 0 ≤ a ∧ a ≤ 15 ∧ a < s * s := by
  unfold okB at h
  have h := of_decide_eq_true h
  obtain ⟨h1, h2, h3, h4⟩ := h
  have hs : s = 2 ∨ s = 3 ∨ s = 4 := by omega
  refine ⟨hs, h3, ?_, h4⟩
  rcases hs with rfl | rfl | rfl <;> omega
theorem okB_of {s a : Int} (hs : s = 2 ∨ s = 3 ∨ s = 4) (h0 : 0 ≤ a) (h : a < s * s) : okB s a = true := by
  unfold okB; exact decide_eq_true (by omega)
theorem okB_no {s a : Int} (h : ¬ (2 ≤ s ∧ s ≤ 4 ∧ 0 ≤ a ∧ a < s * s)) : okB s a = false := by
  unfold okB; exact decide_eq_false h
/-! ### The square's methods: they make memory -/
def sqv (s x y : Int) : Value := .agg #[.int .i64 s, .int .i64 x, .int .i64 y]
def onB (s x y : Int) : Bool := decide (0 ≤ x ∧ x < s ∧ 0 ≤ y ∧ y < s)
def numV (s x y : Int) : Int := if 0 ≤ x ∧ x < s ∧ 0 ≤ y ∧ y < s then x + s * y else -1


end Go.Proofs.Ytjanalljaacnoaa.Sq
