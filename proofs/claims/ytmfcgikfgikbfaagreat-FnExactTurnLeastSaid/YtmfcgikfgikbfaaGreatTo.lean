/- turnOk of the program. -/
import Derived.Test.YtmfcgikfgikbfaaGreatSq
namespace Go.Proofs.YtmfcgikfgikbfaaGreat.Sq
open Go.ChangeShapes Go.WideShapes Go.ChangeAt Go.RowKit Base
set_option linter.unusedVariables false
set_option maxRecDepth 20000

theorem turnOk_any (v : Int) (w : World) :
    Calls Tryz.prog 75 #[.int .i64 v] w fun e w' => e = .returned (.bool (inB v 0 7)) ∧ w = w' := by
  by_cases h1 : 0 ≤ v
  · by_cases h2 : v < 8
    · have : inB v 0 7 = true := by unfold inB; exact decide_eq_true (by omega)
      rw [this]; clear this
      go_enter Tryz.func75, Tryz.ntmps75
      go_wp2
      go_ret
      exact ⟨rb (by first | rfl | (simp; done) | (simp; omega)), rfl⟩
    · have : inB v 0 7 = false := by unfold inB; exact decide_eq_false (by omega)
      rw [this]; clear this
      have h3 : 8 ≤ v := by omega
      clear h2
      go_enter Tryz.func75, Tryz.ntmps75
      go_wp2
      go_ret
      exact ⟨rb (by first | rfl | (simp; done) | (simp; omega)), rfl⟩
  · have : inB v 0 7 = false := by unfold inB; exact decide_eq_false (by omega)
    rw [this]; clear this
    have h3 : v < 0 := by omega
    clear h1
    go_enter Tryz.func75, Tryz.ntmps75
    go_wp2
    go_ret
    exact ⟨rb (by first | rfl | (simp; done) | (simp; omega)), rfl⟩

end Go.Proofs.YtmfcgikfgikbfaaGreat.Sq
