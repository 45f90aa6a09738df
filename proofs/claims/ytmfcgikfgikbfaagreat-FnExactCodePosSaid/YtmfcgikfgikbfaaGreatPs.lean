/- coder.many and Rules.squares of the program. -/
import Derived.Test.YtmfcgikfgikbfaaGreatPq
namespace Go.Proofs.YtmfcgikfgikbfaaGreat.Ko
open Go.ChangeShapes Go.WideShapes Go.ChangeAt Go.RowKit Base Sq
set_option linter.unusedVariables false
set_option maxRecDepth 20000
attribute [local irreducible] wpQuiet

theorem many_any (side : Int) (A : Option Addr) (c n : Nat) (M : Option Addr) (cm m : Nat) (D : Option Addr) (cd : Nat) (w : World) (h : In.IsInts w w.heap.size D (basesV side m)) (hs : side = 2 ∨ side = 3 ∨ side = 4) (hm : m ≤ 4) :
    Calls Tryz.prog 59 #[.agg #[.int .i64 side, .slice A n c, .slice M m cm, .slice D (m + 1) cd]] w fun e w' => e = .returned (.int .i64 (numV side m)) ∧ Below w.heap.size w w' := by
  go_enter Tryz.func59, Tryz.ntmps59
  go_wp2_with fail
  refine (numbersMany_any _ _ _ _ _ ((h.below (by repeat (first | exact Below.refl _ _ | assumption | (refine Below.alloc ?_ (by first | omega | (simp; done) | (simp; omega)) _) | (refine Below.setCell ?_ (by first | omega | (simp; done) | (simp; omega)) _) | refine Below.drew ?_))).more (by first | (simp; done) | (simp; omega) | omega)) hs hm).mono ?_
  rintro e w2 ⟨rfl, rfl⟩
  go_wp2_with fail
  go_ret
  exact ⟨rfl, (by repeat (first | exact Below.refl _ _ | assumption | (refine Below.alloc ?_ (by first | omega | (simp; done) | (simp; omega)) _) | (refine Below.setCell ?_ (by first | omega | (simp; done) | (simp; omega)) _) | refine Below.drew ?_))⟩
theorem squares_any (side : Int) (A : Option Addr) (c n : Nat) (w : World) (hs : side = 2 ∨ side = 3 ∨ side = 4) :
    Calls Tryz.prog 58 #[.agg #[.int .i64 side, .slice A n c]] w fun e w' => e = .returned (.int .i64 (side * side)) ∧ Below w.heap.size w w' := by
  have hw1 : IntKind.i64.wrap (side * side) = side * side := IntWalk.i64_in _ (by rcases hs with rfl | rfl | rfl <;> decide)
  clear hs
  go_enter Tryz.func58, Tryz.ntmps58
  go_wp2_with fail
  go_ret
  exact ⟨rfl, (by repeat (first | exact Below.refl _ _ | assumption | (refine Below.alloc ?_ (by first | omega | (simp; done) | (simp; omega)) _) | (refine Below.setCell ?_ (by first | omega | (simp; done) | (simp; omega)) _) | refine Below.drew ?_))⟩
end Go.Proofs.YtmfcgikfgikbfaaGreat.Ko
