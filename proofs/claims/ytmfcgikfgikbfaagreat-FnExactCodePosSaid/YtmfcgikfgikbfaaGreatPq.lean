/- MatOk and CodeMany of the model; coder.many of the program. -/
import Derived.Test.YtmfcgikfgikbfaaGreatPo
namespace Go.Proofs.YtmfcgikfgikbfaaGreat.Ko
open Go.ChangeShapes Go.WideShapes Go.ChangeAt Go.RowKit Base Sq
set_option linter.unusedVariables false
set_option maxRecDepth 20000
attribute [local irreducible] wpQuiet

/-- MatOk -/
def matV (side : Int) (ks : List Kd) (l : List Pc) : Bool := rulesOk side ks && matB side ks l
theorem specMatOk_any (side : Int) (A : Option Addr) (c : Nat) (ks : List Kd) (M : Option Addr) (cm : Nat) (l : List Pc) (w : World) (hR : IsKinds w w.heap.size A ks) (hM : IsPcs w w.heap.size M l)
    (hsm : Small ks) (hl : l.length ≤ 1048576) :
    Calls Tryz.prog 23 #[.agg #[.int .i64 side, .slice A ks.length c], .slice M l.length cm] w fun e w' => e = .returned (.bool (matV side ks l)) ∧ Below w.heap.size w w' := by
  have hb0 := below_of w (.cells #[.int .i64 side, .slice A ks.length c] 35)
  have hR1 := (hR.below hb0).more hb0.size
  have hM1 := (hM.below hb0).more hb0.size
  cases hok : rulesOk side ks
  · have HK := Lib.hid hok
    clear hok
    go_enter Tryz.func23, Tryz.ntmps23
    go_wp2_with (go_at_call 50; refine (sp_rulesOk _ _ _ _ _ hR1 hsm).mono ?_; rw [HK.out]; rintro e w2 ⟨rfl, hb2⟩)
    go_ret
    exact ⟨rb (by unfold matV; rw [HK.out]; rfl), hb0.trans (hb2.mono hb0.size)⟩
  · have HK := Lib.hid hok
    clear hok
    go_enter Tryz.func23, Tryz.ntmps23
    go_wp2_with fail
    refine (sp_rulesOk _ _ _ _ _ hR1 hsm).mono ?_
    rw [HK.out]
    rintro e w2 ⟨rfl, hb2⟩
    obtain ⟨hc, hf⟩ := bcell hb2
    have hR2 := (hR1.below hb2).more hb2.size
    have hM2 := (hM1.below hb2).more hb2.size
    go_wp2_with fail
    refine (l7Mat_any _ _ _ _ _ _ _ _ hR2 hM2 HK.out hl).mono ?_
    rintro e w3 ⟨rfl, hb3⟩
    go_wp2_with fail
    go_ret
    exact ⟨rb (by unfold matV; rw [HK.out]; first | rfl | simp), hb0.trans ((hb2.trans (hb3.mono hb2.size)).mono hb0.size)⟩
theorem matV_facts {side : Int} {ks : List Kd} {l : List Pc} (h : matV side ks l = true) : rulesOk side ks = true ∧ l.length ≤ 4 := by
  unfold matV matB at h
  simp only [Bool.and_eq_true, decide_eq_true_eq] at h
  exact ⟨h.1, h.2.1.2⟩
/-- CodeMany -/
def manyV (side : Int) (ks : List Kd) (l : List Pc) : Int := if matV side ks l then numV side l.length else -1
end Go.Proofs.YtmfcgikfgikbfaaGreat.Ko
