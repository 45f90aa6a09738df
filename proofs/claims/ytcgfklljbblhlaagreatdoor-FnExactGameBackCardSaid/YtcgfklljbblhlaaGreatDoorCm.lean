/- cmp.Compare of two numbers. -/
import Derived.Test.YtcgfklljbblhlaaGreatDoorBase
namespace Go.Proofs.YtcgfklljbblhlaaGreatDoor.Ko
open Go.ChangeShapes Go.WideShapes Go.ChangeAt Go.RowKit Base
set_option linter.unusedVariables false
set_option maxRecDepth 20000
attribute [local irreducible] wpQuiet

def cmpV (a b : Int) : Int := if a < b then -1 else if b < a then 1 else 0
theorem notNan_any (a : Int) (w : World) : Calls Tryz.prog 135 #[.int .i64 a] w fun e w' => e = .returned (.bool false) ∧ w = w' := by
  go_enter Tryz.func135, Tryz.ntmps135
  go_wp2_with fail
  go_ret
  exact ⟨rb (by simp), rfl⟩
theorem cmp_any (a b : Int) (w : World) : Calls Tryz.prog 129 #[.int .i64 a, .int .i64 b] w fun e w' => e = .returned (.int .i64 (cmpV a b)) ∧ w = w' := by
  have hc : (a < b ∧ cmpV a b = -1) ∨ (¬ a < b ∧ b < a ∧ cmpV a b = 1) ∨ (¬ a < b ∧ ¬ b < a ∧ cmpV a b = 0) := by
    unfold cmpV
    by_cases h1 : a < b
    · exact .inl ⟨h1, if_pos h1⟩
    · by_cases h2 : b < a
      · exact .inr (.inl ⟨h1, h2, by rw [if_neg h1, if_pos h2]⟩)
      · exact .inr (.inr ⟨h1, h2, by rw [if_neg h1, if_neg h2]⟩)
  rcases hc with ⟨h1, h2⟩ | ⟨h1, h2, h3⟩ | ⟨h1, h2, h3⟩
  · have d1 := decide_eq_true h1
    rw [h2]
    clear h2
    go_enter Tryz.func129, Tryz.ntmps129
    go_wp2_with (go_at_call 135; refine (notNan_any _ _).mono ?_; rintro e w' ⟨rfl, rfl⟩)
    go_ret
    exact ⟨rfl, rfl⟩
  · have d1 := decide_eq_false h1
    have d2 := decide_eq_true h2
    rw [h3]
    clear h3
    go_enter Tryz.func129, Tryz.ntmps129
    go_wp2_with (go_at_call 135; refine (notNan_any _ _).mono ?_; rintro e w' ⟨rfl, rfl⟩)
    go_ret
    exact ⟨rfl, rfl⟩
  · have d1 := decide_eq_false h1
    have d2 := decide_eq_false h2
    rw [h3]
    clear h3
    go_enter Tryz.func129, Tryz.ntmps129
    go_wp2_with (go_at_call 135; refine (notNan_any _ _).mono ?_; rintro e w' ⟨rfl, rfl⟩)
    go_ret
    exact ⟨rfl, rfl⟩
end Go.Proofs.YtcgfklljbblhlaaGreatDoor.Ko
