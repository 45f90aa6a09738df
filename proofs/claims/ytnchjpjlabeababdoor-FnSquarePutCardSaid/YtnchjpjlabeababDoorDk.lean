/- What the model draws for the laws of chapter 1. -/
import Derived.Test.YtnchjpjlabeababDoorRd
namespace Go.Proofs.YtnchjpjlabeababDoor.Rd
open Go.ChangeShapes Go.WideShapes Go.ChangeAt Go.RowKit Base
set_option linter.unusedVariables false
set_option maxRecDepth 20000

set_option maxHeartbeats 2000000 in
theorem drawSquareOk_any (A : Option Addr) (n c : Nat) (zs : List Int) (w : World) (h : IsRow .u8 w A n c zs) (hn : n ≤ 1048576) :
    Calls Tryd.prog 31 #[.slice A n c] w fun e w' => ∃ s a : Int, e = .returned (.tuple #[.int .i64 s, .int .i64 a]) ∧ Below w.heap.size w w' := by
  go_enter Tryd.func31, Tryd.ntmps31
  go_wp2_with fail
  refine (open_any _ _ _ _ _ h hn).mono ?_
  rintro e w0 ⟨g, rfl, hg, hr0, hb0⟩
  clear h
  go_wp2_with fail
  have hA := below_of w0 (.cells #[.int .i64 2, .int .i64 3, .int .i64 4, .int .i64 3, .int .i64 1, .int .i64 5] 3)
  have hL := Blk.new w0 #[.int .i64 2, .int .i64 3, .int .i64 4, .int .i64 3, .int .i64 1, .int .i64 5] 3
  have hrA := hr0.below hA
  have hbA := hb0.trans (hA.mono hb0.size)
  have hN : Nums (w0.alloc (.cells #[.int .i64 2, .int .i64 3, .int .i64 4, .int .i64 3, .int .i64 1, .int .i64 5] 3)) w0.heap.size 6 := fun i hi => by
    rcases (show i = 0 ∨ i = 1 ∨ i = 2 ∨ i = 3 ∨ i = 4 ∨ i = 5 by omega) with rfl | rfl | rfl | rfl | rfl | rfl <;> exact ⟨_, hL.cell _⟩
  have hgl := hr0.lt
  refine (one_any _ _ _ _ _ _ hrA (by omega) (by omega) (by omega) (by simp) (by omega) hN).mono ?_
  rintro e w1 ⟨s, rfl, hr1, hbut⟩
  have hb1 := hbA.trans (hbut.below hbA.size hg)
  clear hA hL hr0 hrA hb0 hbA hN hbut hgl
  go_wp2_with fail
  refine (pick_any _ _ _ _ hr1 (by omega) (by omega)).mono ?_
  rintro e w2 ⟨a, rfl, a0, a1, hr2, hbut⟩
  have hb2 := hb1.trans (hbut.below hb1.size hg)
  have a2 : a < 18 := by omega
  clear hr1 hb1 hbut a1
  go_wp2_with fail
  refine bodyPost_ret (v := .tuple #[.int .i64 (s), .int .i64 (a - 1)]) (by simp [results, Tryd.results31, go_sem]) rfl ⟨_, _, rfl, hb2⟩
theorem drawSquarePut_any (A : Option Addr) (n c : Nat) (zs : List Int) (w : World) (h : IsRow .u8 w A n c zs) (hn : n ≤ 1048576) :
    Calls Tryd.prog 9 #[.slice A n c] w fun e w' => ∃ s a : Int, e = .returned (.tuple #[.int .i64 s, .int .i64 a]) ∧ Below w.heap.size w w' := by
  go_enter Tryd.func9, Tryd.ntmps9
  go_wp2_with fail
  refine (drawSquareOk_any _ _ _ _ _ h hn).mono ?_
  rintro e w1 ⟨s, a, rfl, hb1⟩
  go_wp2_with fail
  refine bodyPost_ret (v := .tuple #[.int .i64 s, .int .i64 a]) (by simp [results, Tryd.results9, go_sem]) rfl ⟨_, _, rfl, hb1⟩
end Go.Proofs.YtnchjpjlabeababDoor.Rd
