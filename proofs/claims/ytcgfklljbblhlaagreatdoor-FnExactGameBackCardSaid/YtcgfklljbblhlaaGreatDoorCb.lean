/- When a move is legal, arm by arm (no program is named). -/
import Derived.Test.YtcgfklljbblhlaaGreatDoorDoM
namespace Go.Proofs.YtcgfklljbblhlaaGreatDoor.Ko
open Go.ChangeShapes Go.WideShapes Go.ChangeAt Go.RowKit Base Sq
set_option linter.unusedVariables false
set_option maxRecDepth 20000

theorem canB_none {side : Int} {ks : List Kd} {t : Int} {l : List St} {f q : Int} (h : manV l f = -1) : canB side ks t l f q = false := by unfold canB; rw [h]; rfl
theorem canB_some {side : Int} {ks : List Kd} {t : Int} {l : List St} {f q : Int} {n : Nat} (h : manV l f = (n : Int)) :
    canB side ks t l f q = (decide ((stAt l n).dy = t) && hitsB side l (kOf ks (stAt l n)).steps (stAt l n).far q && mayB side ks t l n q) := by
  unfold canB; rw [h, decide_eq_true (p := ((n : Int) ≠ -1)) (by omega), Int.toNat_natCast]; rfl
theorem canB_other {side : Int} {ks : List Kd} {t : Int} {l : List St} {f q : Int} {n : Nat} (h : manV l f = (n : Int)) (ho : ¬ (stAt l n).dy = t) : canB side ks t l f q = false := by
  rw [canB_some h, decide_eq_false ho]; rfl
theorem canB_miss {side : Int} {ks : List Kd} {t : Int} {l : List St} {f q : Int} {n : Nat} (h : manV l f = (n : Int)) (hh : hitsB side l (kOf ks (stAt l n)).steps (stAt l n).far q = false) : canB side ks t l f q = false := by
  rw [canB_some h, hh]; simp
theorem canB_hit {side : Int} {ks : List Kd} {t : Int} {l : List St} {f q : Int} {n : Nat} (h : manV l f = (n : Int)) (ho : (stAt l n).dy = t) (hh : hitsB side l (kOf ks (stAt l n)).steps (stAt l n).far q = true) : canB side ks t l f q = mayB side ks t l n q := by
  rw [canB_some h, hh, decide_eq_true ho]; simp
end Go.Proofs.YtcgfklljbblhlaaGreatDoor.Ko
