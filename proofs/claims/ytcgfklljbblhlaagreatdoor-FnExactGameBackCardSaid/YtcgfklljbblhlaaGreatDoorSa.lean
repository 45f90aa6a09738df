/- squareAt of the program. -/
import Derived.Test.YtcgfklljbblhlaaGreatDoorSq
namespace Go.Proofs.YtcgfklljbblhlaaGreatDoor.Sq
open Go.ChangeShapes Go.WideShapes Go.ChangeAt Go.RowKit Base
set_option linter.unusedVariables false
set_option maxRecDepth 20000

theorem below_set (w : World) (o : Obj) (p : Addr) (v : Value) (hp : w.heap.size ≤ p.block) : Below w.heap.size w ((w.alloc o).setCell p v) := (below_of w o).setCell hp v

theorem squareAt_any (s a : Int) (w : World) (hs : s = 2 ∨ s = 3 ∨ s = 4) (h0 : 0 ≤ a) (h1 : a ≤ 15) :
    Calls Tryz.prog 123 #[.int .i64 s, .int .i64 a] w fun e w' => e = .returned (.agg #[.int .i64 s, .int .i64 (a % s), .int .i64 (a / s)]) ∧ Below w.heap.size w w' := by
  rcases hs with rfl | rfl | rfl
  all_goals
    go_enter Tryz.func123, Tryz.ntmps123
    go_wp2
    go_region
    all_goals
      go_wp2
      refine bodyPost_ret (v := .agg #[.int .i64 _, .int .i64 (a % _), .int .i64 (a / _)]) (by simp [results, Tryz.results123, go_sem]) rfl ⟨rfl, ?_⟩
      exact (below_of w _).drew
end Go.Proofs.YtcgfklljbblhlaaGreatDoor.Sq
