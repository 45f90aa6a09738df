/- TurnPos: what is said of its result. -/
import Derived.Test.YtmfcgikfgikbfaaGreatTw
import Derived.Test.YtmfcgikfgikbfaaGreatPk
import Derived.Test.YtmfcgikfgikbfaaGreatRf2
import Derived.Test.YtmfcgikfgikbfaaGreatMc
namespace Go.Proofs.YtmfcgikfgikbfaaGreat.Ko
open Go.ChangeShapes Go.WideShapes Go.ChangeAt Go.RowKit Base Sq
set_option linter.unusedVariables false
set_option maxRecDepth 20000

def tpB (side : Int) (ks : List Kd) (k t : Int) (l : List St) : Bool := posB side ks t l && rulesEven side ks k
def tpT (side : Int) (ks : List Kd) (k t : Int) (l : List St) : Int := if tpB side ks k t l = true then t else 0
def tpL (side : Int) (ks : List Kd) (k t : Int) (l : List St) : List St := if tpB side ks k t l = true then tsL side k l else []
def TurnPost (W w' : World) (side : Int) (ks : List Kd) (k t : Int) (l : List St) (e : Ending) : Prop :=
  ∃ A c, e = .returned (.tuple #[.agg #[.int .i64 (tpT side ks k t l), .slice A (tpL side ks k t l).length c], .bool (tpB side ks k t l)]) ∧ MenA W.heap.size w'.heap.size w' A (tpL side ks k t l) ∧ Below W.heap.size W w'
theorem tp_no {side : Int} {ks : List Kd} {k t : Int} {l : List St} (h : tpB side ks k t l = false) : tpT side ks k t l = 0 ∧ tpL side ks k t l = [] := by
  unfold tpT tpL; rw [h]; exact ⟨rfl, rfl⟩
theorem tp_yes {side : Int} {ks : List Kd} {k t : Int} {l : List St} (h : tpB side ks k t l = true) : tpT side ks k t l = t ∧ tpL side ks k t l = tsL side k l := by
  unfold tpT tpL; rw [h]; exact ⟨rfl, rfl⟩
theorem tpB_bad {side : Int} {ks : List Kd} {k t : Int} {l : List St} (h : posB side ks t l = false) : tpB side ks k t l = false := by unfold tpB; rw [h]; rfl
theorem tpB_odd {side : Int} {ks : List Kd} {k t : Int} {l : List St} (h : rulesEven side ks k = false) : tpB side ks k t l = false := by unfold tpB; rw [h]; simp
theorem tpB_ok {side : Int} {ks : List Kd} {k t : Int} {l : List St} (h : posB side ks t l = true) (h2 : rulesEven side ks k = true) : tpB side ks k t l = true := by unfold tpB; rw [h, h2]; rfl
theorem rulesEven_turn {side : Int} {ks : List Kd} {k : Int} (h : rulesEven side ks k = true) : 0 ≤ k ∧ k ≤ 7 := by
  unfold rulesEven at h
  simp only [Bool.and_eq_true] at h
  exact of_decide_eq_true h.1.2
theorem tpL_len (side : Int) (ks : List Kd) (k t : Int) (l : List St) : (tpL side ks k t l).length ≤ 1048576 := by
  unfold tpL
  by_cases h : tpB side ks k t l = true
  · rw [if_pos h, tsL_len]
    unfold tpB at h
    simp only [Bool.and_eq_true] at h
    have := (shapeB_facts (posB_facts h.1).2.1).2.1
    omega
  · rw [if_neg h]; exact Nat.zero_le _
end Go.Proofs.YtmfcgikfgikbfaaGreat.Ko
