/- Which arguments a search takes: the program's searchOk. -/
import Derived.Test.YtoaajkkebnleaaaGreatDoorLv
import Derived.Test.YtoaajkkebnleaaaGreatDoorPk
namespace Go.Proofs.YtoaajkkebnleaaaGreatDoor.Ko
open Go.ChangeShapes Go.WideShapes Go.ChangeAt Go.RowKit Base Sq
set_option linter.unusedVariables false
set_option maxRecDepth 20000
attribute [local irreducible] wpQuiet

def searchB (side : Int) (ks : List Kd) (t : Int) (l : List St) (n : Int) : Bool := decide (0 ≤ n ∧ n ≤ 3) && posB side ks t l

set_option maxHeartbeats 4000000 in
theorem searchOk_any (side : Int) (A : Option Addr) (c : Nat) (ks : List Kd) (t : Int) (M : Option Addr) (cm : Nat) (l : List St) (n : Int) (w : World) (hR : IsKinds w w.heap.size A ks) (hM : IsSteps w w.heap.size M l)
    (hsm : Small ks) (hl : l.length ≤ 1048576) :
    Calls Tryz.prog 41 #[.agg #[.int .i64 side, .slice A ks.length c], .agg #[.int .i64 t, .slice M l.length cm], .int .i64 n] w fun e w' => e = .returned (.bool (searchB side ks t l n)) ∧ Below w.heap.size w w' := by
  have hb0 := (below_of w (.cells #[.int .i64 side, .slice A ks.length c] 34)).alloc (by first | (simp; done) | (simp; omega) | omega) (.cells #[.int .i64 t, .slice M l.length cm] 38)
  have hR1 := (hR.below hb0).more hb0.size
  have hM1 := (hM.below hb0).more hb0.size
  have hz := hb0.size
  by_cases h0 : 0 ≤ n
  · by_cases h3 : n ≤ 3
    · have hd0 : decide (0 ≤ n) = true := decide_eq_true h0
      have hd3 : decide (n ≤ 3) = true := decide_eq_true h3
      have HN := Lib.hid (show searchB side ks t l n = posB side ks t l by unfold searchB; rw [decide_eq_true (show 0 ≤ n ∧ n ≤ 3 from ⟨h0, h3⟩)]; rfl)
      clear h0 h3 hR hM
      go_enter Tryz.func41, Tryz.ntmps41
      go_wp2_with fail
      refine (posOk_any _ _ _ _ _ _ _ _ _ hR1 hM1 hsm hl).mono ?_
      rintro e w2 ⟨rfl, hb2⟩
      go_wp2_with fail
      go_ret
      exact ⟨rb HN.out.symm, hb0.trans (hb2.mono hz)⟩
    · have hd0 : decide (0 ≤ n) = true := decide_eq_true h0
      have hd3 : decide (n ≤ 3) = false := decide_eq_false h3
      have HN := Lib.hid (show searchB side ks t l n = false by unfold searchB; rw [decide_eq_false (fun h => h3 h.2)]; rfl)
      clear h0 h3 hR hM hR1 hM1
      go_enter Tryz.func41, Tryz.ntmps41
      go_wp2_with fail
      go_ret
      exact ⟨rb HN.out.symm, hb0⟩
  · have hd0 : decide (0 ≤ n) = false := decide_eq_false h0
    have HN := Lib.hid (show searchB side ks t l n = false by unfold searchB; rw [decide_eq_false (fun h => h0 h.1)]; rfl)
    clear h0 hR hM hR1 hM1
    go_enter Tryz.func41, Tryz.ntmps41
    go_wp2_with fail
    go_ret
    exact ⟨rb HN.out.symm, hb0⟩
end Go.Proofs.YtoaajkkebnleaaaGreatDoor.Ko
