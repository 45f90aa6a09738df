/- The contracts of the square's methods that return a square, of SquareGo, SquareTurn and SquareGet, of the program and of the model: each returns its Lean value, at every argument. -/
import Derived.Test.YtnchjpjlabeababSq
namespace Go.Proofs.Ytnchjpjlabeabab.Sq
open Go.ChangeShapes Go.WideShapes Go.ChangeAt Go.RowKit Base
set_option linter.unusedVariables false
set_option maxRecDepth 20000

theorem below_set (w : World) (o : Obj) (p : Addr) (v : Value) (hp : w.heap.size ≤ p.block) : Below w.heap.size w ((w.alloc o).setCell p v) := (below_of w o).setCell hp v

theorem squareAt_any (s a : Int) (w : World) (hs : s = 2 ∨ s = 3 ∨ s = 4) (h0 : 0 ≤ a) (h1 : a ≤ 15) :
    Calls Try.prog 41 #[.int .i64 s, .int .i64 a] w fun e w' => e = .returned (.agg #[.int .i64 s, .int .i64 (a % s), .int .i64 (a / s)]) ∧ Below w.heap.size w w' := by
  rcases hs with rfl | rfl | rfl
  all_goals
    go_enter Try.func41, Try.ntmps41
    go_wp2
    go_region
    all_goals
      go_wp2
      refine bodyPost_ret (v := .agg #[.int .i64 _, .int .i64 (a % _), .int .i64 (a / _)]) (by simp [results, Try.results41, go_sem]) rfl ⟨rfl, ?_⟩
      exact (below_of w _).drew
theorem shifted_any (s x y dx dy : Int) (w : World) (hx : -100 ≤ x ∧ x ≤ 100) (hy : -100 ≤ y ∧ y ≤ 100) (hdx : -100 ≤ dx ∧ dx ≤ 100) (hdy : -100 ≤ dy ∧ dy ≤ 100) :
    Calls Try.prog 42 #[.agg #[.int .i64 s, .int .i64 x, .int .i64 y], .int .i64 dx, .int .i64 dy] w fun e w' => e = .returned (.agg #[.int .i64 s, .int .i64 (x + dx), .int .i64 (y + dy)]) ∧ Below w.heap.size w w' := by
  obtain ⟨hx1, hx2⟩ := hx
  obtain ⟨hy1, hy2⟩ := hy
  obtain ⟨hdx1, hdx2⟩ := hdx
  obtain ⟨hdy1, hdy2⟩ := hdy
  go_enter Try.func42, Try.ntmps42
  go_wp2
  refine bodyPost_ret (v := .agg #[.int .i64 s, .int .i64 (x + dx), .int .i64 (y + dy)]) (by simp [results, Try.results42, go_sem]) rfl ⟨rfl, ?_⟩
  exact (below_of w _).alloc (by simp) _

end Go.Proofs.Ytnchjpjlabeabab.Sq
