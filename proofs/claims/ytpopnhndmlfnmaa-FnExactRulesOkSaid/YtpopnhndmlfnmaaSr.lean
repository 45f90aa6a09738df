/- The contracts of the square's methods that return a square, of SquareGo, SquareTurn and SquareGet, of the program and of the model: each returns its Lean value, at every argument. -/
import Derived.Test.YtpopnhndmlfnmaaSq
namespace Go.Proofs.Ytpopnhndmlfnmaa.Sq
open Go.ChangeShapes Go.WideShapes Go.ChangeAt Go.RowKit Base
set_option linter.unusedVariables false

theorem below_set (w : World) (o : Obj) (p : Addr) (v : Value) (hp : w.heap.size ≤ p.block) : Below w.heap.size w ((w.alloc o).setCell p v) := (below_of w o).setCell hp v

theorem squareAt_any (s a : Int) (w : World) (hs : s = 2 ∨ s = 3 ∨ s = 4) (h0 : 0 ≤ a) (h1 : a ≤ 15) :
    Calls Try.prog 36 #[.int .i64 s, .int .i64 a] w fun e w' => e = .returned (.agg #[.int .i64 s, .int .i64 (a % s), .int .i64 (a / s)]) ∧ Below w.heap.size w w' := by
  rcases hs with rfl | rfl | rfl
  all_goals
    go_enter Try.func36, Try.ntmps36
    go_wp2
    go_region
    all_goals
      go_wp2
      refine bodyPost_ret (v := .agg #[.int .i64 _, .int .i64 (a % _), .int .i64 (a / _)]) (by simp [results, Try.results36, go_sem]) rfl ⟨rfl, ?_⟩
      exact (below_of w _).drew
theorem shifted_any (s x y dx dy : Int) (w : World) (hx : -100 ≤ x ∧ x ≤ 100) (hy : -100 ≤ y ∧ y ≤ 100) (hdx : -100 ≤ dx ∧ dx ≤ 100) (hdy : -100 ≤ dy ∧ dy ≤ 100) :
    Calls Try.prog 37 #[.agg #[.int .i64 s, .int .i64 x, .int .i64 y], .int .i64 dx, .int .i64 dy] w fun e w' => e = .returned (.agg #[.int .i64 s, .int .i64 (x + dx), .int .i64 (y + dy)]) ∧ Below w.heap.size w w' := by
  obtain ⟨hx1, hx2⟩ := hx
  obtain ⟨hy1, hy2⟩ := hy
  obtain ⟨hdx1, hdx2⟩ := hdx
  obtain ⟨hdy1, hdy2⟩ := hdy
  go_enter Try.func37, Try.ntmps37
  go_wp2
  refine bodyPost_ret (v := .agg #[.int .i64 s, .int .i64 (x + dx), .int .i64 (y + dy)]) (by simp [results, Try.results37, go_sem]) rfl ⟨rfl, ?_⟩
  exact (below_of w _).alloc (by simp) _
theorem mirrored_any (s x y : Int) (w : World) :
    Calls Try.prog 57 #[.agg #[.int .i64 s, .int .i64 x, .int .i64 y]] w fun e w' => e = .returned (.agg #[.int .i64 s, .int .i64 y, .int .i64 x]) ∧ Below w.heap.size w w' := by
  go_enter Try.func57, Try.ntmps57
  go_wp2
  refine bodyPost_ret (v := .agg #[.int .i64 s, .int .i64 y, .int .i64 x]) (by simp [results, Try.results57, go_sem]) rfl ⟨rfl, ?_⟩
  exact (below_of w _).alloc (by simp) _
theorem rotated_any (s x y : Int) (w : World) (hs : s = 2 ∨ s = 3 ∨ s = 4) (hy : 0 ≤ y ∧ y ≤ 100) :
    Calls Try.prog 58 #[.agg #[.int .i64 s, .int .i64 x, .int .i64 y]] w fun e w' => e = .returned (.agg #[.int .i64 s, .int .i64 (s - 1 - y), .int .i64 x]) ∧ Below w.heap.size w w' := by
  obtain ⟨hy1, hy2⟩ := hy
  have hs1 : 2 ≤ s := by omega
  have hs2 : s ≤ 4 := by omega
  clear hs
  go_enter Try.func58, Try.ntmps58
  go_wp2
  refine bodyPost_ret (v := .agg #[.int .i64 s, .int .i64 (s - 1 - y), .int .i64 x]) (by simp [results, Try.results58, go_sem]) rfl ⟨rfl, ?_⟩
  exact (below_of w _).alloc (by simp) _

end Go.Proofs.Ytpopnhndmlfnmaa.Sq
