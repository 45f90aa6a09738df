/- Marks of the exact laws at pieces and generations. -/
import Derived.Test.YtmfcgikfgikbfaaGreatIi
import Derived.Test.YtmfcgikfgikbfaaGreatPr
namespace Go.Proofs.YtmfcgikfgikbfaaGreat.Ko
open Go.ChangeShapes Go.WideShapes Go.ChangeAt Go.RowKit Base Sq In
set_option linter.unusedVariables false
set_option maxRecDepth 20000

theorem NewPcs.big {B : Nat} {w : World} {g : Nat} {l : List Pc} (h : NewPcs B w g l) : BlkG w g (l.length * 2) 59 := by
  obtain ⟨cs, _, hb, hi⟩ := h
  refine ⟨cs, hb, ?_⟩
  rcases Nat.eq_zero_or_pos l.length with h0 | h0
  · omega
  · have := size_of_some (hi (l.length - 1) (by omega)).2; omega
set_option maxHeartbeats 1000000 in
theorem markPieceS_any (gs n c : Nat) (k : Int) (w : World) (h : BlkG w gs (n * 2) 59) (hn : n ≤ 1048576) (hk0 : 0 ≤ k) (hk1 : k ≤ 1000000000000000) :
    Calls Tryz.prog 15 #[.slice (some ⟨gs, 0, none⟩) n c, .int .i64 k] w fun e w' => e = .returned (.int .i64 (k + 2 * n)) ∧ Span gs (gs + 1) w w' := by
  go_enter Tryz.func15, Tryz.ntmps15
  go_wp2_with fail
  go_loopw [1, 5] (fun x i wr => ∃ j : Nat, j ≤ n ∧ i = .int .i64 j ∧ x = .int .i64 (k + 2 * j) ∧ BlkG wr gs (n * 2) 59 ∧ Span gs (gs + 1) w wr) (fun _ i _ => n - (intOf i).toNat)
  case atStart => exact ⟨0, by omega, rfl, by simp, h, Span.refl _ _ _⟩
  case round =>
    clear h
    obtain ⟨j, hj, rfl, rfl, hB, hS⟩ := hrel
    by_cases hlt : j < n
    · obtain ⟨v0, c0⟩ := hB.cell (i := j * 2) (by omega)
      obtain ⟨v1, c1⟩ := hB.cell (i := j * 2 + 1) (by omega)
      have f0 := hB.free (j * 2)
      have f1 := hB.free (j * 2 + 1)
      go_wp2_with fail
      go_roundw
      case rel => exact ⟨j + 1, by omega, by go_num, by first | go_num | (congr 1; omega), (hB.setCell _ _ _).setCell _ _ _, (hS.setCell (by omega) (by omega) _ _).setCell (by omega) (by omega) _ _⟩
      case measure => simp [intOf]; omega
    · obtain rfl : j = n := by omega
      go_wp2_with fail
      go_ret
      exact ⟨rfl, hS⟩
end Go.Proofs.YtmfcgikfgikbfaaGreat.Ko
