/- The score of a value: program and model, over whole numbers alone. -/
import Derived.Test.YtcgfklljbblhlaaSq
namespace Go.Proofs.Ytcgfklljbblhlaa.Sc
open Go.ChangeShapes Go.WideShapes Go.ChangeAt Go.RowKit Base Sq
set_option linter.unusedVariables false
set_option maxRecDepth 20000

def lostB (v : Int) : Bool := decide (2 ≤ v) && decide (v % 2 = 0)
def wonB (v : Int) : Bool := decide (2 ≤ v) && !decide (v % 2 = 0)
def scoreV (v : Int) : Int := if v < 2 ∨ 100 < v then 0 else if v % 2 = 0 then v - 102 else 102 - v
theorem rem_two {v : Int} (h : 0 ≤ v) : v.tmod 2 = v % 2 := Int.tmod_eq_emod_of_nonneg h
theorem lost_low {v : Int} (h : v < 2) : lostB v = false ∧ wonB v = false := by unfold lostB wonB; rw [decide_eq_false (by omega)]; exact ⟨rfl, rfl⟩

theorem isLost_any (v : Int) (w : World) (h : v ≤ 1000) :
    Calls Try.prog 54 #[.int .i64 v] w fun e w' => e = .returned (.bool (lostB v)) ∧ w = w' := by
  by_cases h2 : 2 ≤ v
  · have ht : (v - 2).tmod 2 = v % 2 := by rw [rem_two (by omega)]; omega
    have hw : IntKind.i64.wrap (v - 2) = v - 2 := IntWalk.i64_in _ (by omega)
    have hd : decide (2 ≤ v) = true := decide_eq_true h2
    have hc : v % 2 = 0 ∨ v % 2 = 1 := by omega
    rcases hc with hc | hc
    · have hr : lostB v = true := by unfold lostB; rw [hd, decide_eq_true hc]; rfl
      have HR := Lib.hid hr
      rw [hc] at ht
      clear hr hc
      go_enter Try.func54, Try.ntmps54
      go_wp2_with fail
      go_ret
      exact ⟨rb (by rw [HR.out]), rfl⟩
    · have hr : lostB v = false := by unfold lostB; rw [hd, decide_eq_false (by omega)]; rfl
      have HR := Lib.hid hr
      rw [hc] at ht
      clear hr hc
      go_enter Try.func54, Try.ntmps54
      go_wp2_with fail
      go_ret
      exact ⟨rb (by rw [HR.out]), rfl⟩
  · have hr := (lost_low (v := v) (by omega)).1
    have HR := Lib.hid hr
    have hd : decide (2 ≤ v) = false := decide_eq_false h2
    clear hr
    go_enter Try.func54, Try.ntmps54
    go_wp2_with fail
    go_ret
    exact ⟨rb (by rw [HR.out]), rfl⟩
theorem isWon_any (v : Int) (w : World) (h : v ≤ 1000) :
    Calls Try.prog 53 #[.int .i64 v] w fun e w' => e = .returned (.bool (wonB v)) ∧ w = w' := by
  by_cases h2 : 2 ≤ v
  · have hd : decide (2 ≤ v) = true := decide_eq_true h2
    have hr : wonB v = !lostB v := by unfold wonB lostB; rw [hd]; simp
    have HR := Lib.hid hr
    clear hr
    go_enter Try.func53, Try.ntmps53
    go_wp2_with (go_at_call 54; refine (isLost_any _ _ (by omega)).mono ?_; rintro e w' ⟨rfl, rfl⟩)
    go_ret
    exact ⟨rb (by rw [HR.out]), rfl⟩
  · have hr := (lost_low (v := v) (by omega)).2
    have HR := Lib.hid hr
    have hd : decide (2 ≤ v) = false := decide_eq_false h2
    clear hr
    go_enter Try.func53, Try.ntmps53
    go_wp2_with fail
    go_ret
    exact ⟨rb (by rw [HR.out]), rfl⟩
theorem scoreV_out {v : Int} (h : v < 2 ∨ 100 < v) : scoreV v = 0 := if_pos h
theorem scoreV_won {v : Int} (h : v ≤ 100) (hw : wonB v = true) : scoreV v = 102 - v ∧ 2 ≤ v := by
  unfold wonB at hw
  simp only [Bool.and_eq_true, decide_eq_true_eq, Bool.not_eq_true', decide_eq_false_iff_not] at hw
  exact ⟨by unfold scoreV; rw [if_neg (by omega), if_neg hw.2], hw.1⟩
theorem scoreV_lost {v : Int} (h : v ≤ 100) (hw : lostB v = true) : scoreV v = v - 102 ∧ 2 ≤ v := by
  unfold lostB at hw
  simp only [Bool.and_eq_true, decide_eq_true_eq] at hw
  exact ⟨by unfold scoreV; rw [if_neg (by omega), if_pos hw.2], hw.1⟩
theorem scoreV_none {v : Int} (h1 : wonB v = false) (h2 : lostB v = false) : scoreV v = 0 := by
  refine scoreV_out (.inl ?_)
  unfold wonB lostB at *
  by_cases h : 2 ≤ v
  · rw [decide_eq_true h] at h1 h2; simp_all
  · omega
/-! the model -/
theorem l8Won_any (v : Int) (w : World) (h : v ≤ 1000) :
    Calls Try.prog 33 #[.int .i64 v] w fun e w' => e = .returned (.bool (wonB v)) ∧ w = w' := by
  by_cases h2 : 2 < v
  · have ht : (v - 2).tmod 2 = v % 2 := by rw [rem_two (by omega)]; omega
    have hw : IntKind.i64.wrap (v - 2) = v - 2 := IntWalk.i64_in _ (by omega)
    have hd : decide (2 < v) = true := decide_eq_true h2
    have hd2 : decide (2 ≤ v) = true := decide_eq_true (by omega)
    have hc : v % 2 = 0 ∨ v % 2 = 1 := by omega
    rcases hc with hc | hc
    · have hr : wonB v = false := by unfold wonB; rw [hd2, decide_eq_true hc]; rfl
      have HR := Lib.hid hr
      rw [hc] at ht
      clear hr hc hd2
      go_enter Try.func33, Try.ntmps33
      go_wp2_with fail
      go_ret
      exact ⟨rb (by rw [HR.out]), rfl⟩
    · have hr : wonB v = true := by unfold wonB; rw [hd2, decide_eq_false (by omega)]; rfl
      have HR := Lib.hid hr
      rw [hc] at ht
      clear hr hc hd2
      go_enter Try.func33, Try.ntmps33
      go_wp2_with fail
      go_ret
      exact ⟨rb (by rw [HR.out]), rfl⟩
  · have hr : wonB v = false := by
      by_cases he : v = 2
      · subst he; rfl
      · exact (lost_low (v := v) (by omega)).2
    have HR := Lib.hid hr
    have hd : decide (2 < v) = false := decide_eq_false h2
    clear hr
    go_enter Try.func33, Try.ntmps33
    go_wp2_with fail
    go_ret
    exact ⟨rb (by rw [HR.out]), rfl⟩
/-! what the laws ask besides -/
end Go.Proofs.Ytcgfklljbblhlaa.Sc
