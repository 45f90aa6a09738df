/- MatOk and CodeMany of the program. -/
import Derived.Test.YtmfcgikfgikbfaaPx
namespace Go.Proofs.Ytmfcgikfgikbfaa.Ko
open Go.ChangeShapes Go.WideShapes Go.ChangeAt Go.RowKit Base Sq
set_option linter.unusedVariables false
set_option maxRecDepth 20000
attribute [local irreducible] wpQuiet

theorem codeMany_any (side : Int) (A : Option Addr) (c : Nat) (ks : List Kd) (M : Option Addr) (cm : Nat) (l : List Pc) (w : World) (hR : IsKinds w w.heap.size A ks) (hM : IsPcs w w.heap.size M l)
    (hsm : Small ks) (hl : l.length ≤ 1048576) :
    Calls Try.prog 36 #[.agg #[.int .i64 side, .slice A ks.length c], .slice M l.length cm] w fun e w' => e = .returned (.int .i64 (manyV side ks l)) ∧ Below w.heap.size w w' := by
  have hb0 := below_of w (.cells #[.int .i64 side, .slice A ks.length c] 36)
  have hR1 := (hR.below hb0).more hb0.size
  have hM1 := (hM.below hb0).more hb0.size
  cases hok : matV side ks l
  · have HK := Lib.hid hok
    have hv : manyV side ks l = -1 := by unfold manyV; rw [hok]; rfl
    rw [hv]
    clear hok hv
    go_enter Try.func36, Try.ntmps36
    go_wp2_with fail
    refine (coderOf_any _ _ _ _ _ _ _ _ hR1 hM1 hsm hl).mono ?_
    unfold CoderPost
    rw [HK.out]
    rintro e w2 ⟨cv, rfl, hn, _, hb2⟩
    obtain rfl := hn rfl
    unfold nilCoder
    go_wp2_with fail
    go_ret
    exact ⟨rfl, hb0.trans ((hb2.alloc hb2.size _).mono hb0.size)⟩
  · have HK := Lib.hid hok
    obtain ⟨hro, hl4⟩ := matV_facts hok
    obtain ⟨hs, _⟩ := rulesOk_facts hro
    have HSD := Lib.hid hs
    have hv : manyV side ks l = numV side l.length := by unfold manyV; rw [hok]; rfl
    rw [hv]
    clear hok hv hro hs
    go_enter Try.func36, Try.ntmps36
    go_wp2_with fail
    refine (coderOf_any _ _ _ _ _ _ _ _ hR1 hM1 hsm hl).mono ?_
    unfold CoderPost
    rw [HK.out]
    rintro e w2 ⟨cv, rfl, _, hy, hb2⟩
    obtain ⟨D, cd, rfl, hI⟩ := hy rfl
    have hb3 := below_of w2 (.cells #[.int .i64 side, .slice A ks.length c, .slice M l.length cm, .slice D (l.length + 1) cd] 78)
    have hI3 := (hI.below hb3).more hb3.size
    have hbe := (hb0.trans (hb2.mono hb0.size)).trans (hb3.mono (hb0.trans (hb2.mono hb0.size)).size)
    have hz := hbe.size
    clear hI
    go_wp2_with fail
    refine (many_any side A c ks.length M cm l.length D cd _ hI3 HSD.out hl4).mono ?_
    rintro e w4 ⟨rfl, hb4⟩
    go_wp2_with fail
    go_ret
    exact ⟨rfl, hbe.trans (hb4.mono hz)⟩
end Go.Proofs.Ytmfcgikfgikbfaa.Ko
