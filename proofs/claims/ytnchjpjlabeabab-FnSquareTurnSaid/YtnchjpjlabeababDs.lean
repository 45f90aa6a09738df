/- What the model draws for the laws of chapter 1. -/
import Derived.Test.YtnchjpjlabeababRd
namespace Go.Proofs.Ytnchjpjlabeabab.Rd
open Go.ChangeShapes Go.WideShapes Go.ChangeAt Go.RowKit Base
set_option linter.unusedVariables false
set_option maxRecDepth 20000

set_option maxHeartbeats 2000000 in
theorem drawSquareGo_any (A : Option Addr) (n c : Nat) (zs : List Int) (w : World) (h : IsRow .u8 w A n c zs) (hn : n ≤ 1048576) :
    Calls Try.prog 17 #[.slice A n c] w fun e w' => ∃ s a dx dy : Int, e = .returned (.tuple #[.int .i64 s, .int .i64 a, .int .i64 dx, .int .i64 dy]) ∧ Below w.heap.size w w' := by
  go_enter Try.func17, Try.ntmps17
  go_wp2_with fail
  refine (open_any _ _ _ _ _ h hn).mono ?_
  rintro e w0 ⟨g, rfl, hg, hr0, hb0⟩
  clear h
  go_wp2_with fail
  have hA := below_of w0 (.cells #[.int .i64 2, .int .i64 3, .int .i64 4, .int .i64 3, .int .i64 1, .int .i64 5] 3)
  have hL := Blk.new w0 #[.int .i64 2, .int .i64 3, .int .i64 4, .int .i64 3, .int .i64 1, .int .i64 5] 3
  have hrA := hr0.below hA
  have hbA := hb0.trans (hA.mono hb0.size)
  have hN : Nums (w0.alloc (.cells #[.int .i64 2, .int .i64 3, .int .i64 4, .int .i64 3, .int .i64 1, .int .i64 5] 3)) w0.heap.size 6 := fun i hi => by
    rcases (show i = 0 ∨ i = 1 ∨ i = 2 ∨ i = 3 ∨ i = 4 ∨ i = 5 by omega) with rfl | rfl | rfl | rfl | rfl | rfl <;> exact ⟨_, hL.cell _⟩
  have hgl := hr0.lt
  refine (one_any _ _ _ _ _ _ hrA (by omega) (by omega) (by omega) (by simp) (by omega) hN).mono ?_
  rintro e w1 ⟨s, rfl, hr1, hbut⟩
  have hb1 := hbA.trans (hbut.below hbA.size hg)
  clear hA hL hr0 hrA hb0 hbA hN hbut hgl
  go_wp2_with fail
  refine (pick_any _ _ _ _ hr1 (by omega) (by omega)).mono ?_
  rintro e w2 ⟨a, rfl, a0, a1, hr2, hbut⟩
  have hb2 := hb1.trans (hbut.below hb1.size hg)
  have a2 : a < 17 := by omega
  clear hr1 hb1 hbut a1
  go_wp2_with fail
  have hA := below_of w2 (.cells #[.int .i64 0, .int .i64 1, .int .i64 (-1), .int .i64 2, .int .i64 (-2), .int .i64 4, .int .i64 (-5)] 3)
  have hL := Blk.new w2 #[.int .i64 0, .int .i64 1, .int .i64 (-1), .int .i64 2, .int .i64 (-2), .int .i64 4, .int .i64 (-5)] 3
  have hrA := hr2.below hA
  have hbA := hb2.trans (hA.mono hb2.size)
  have hN : Nums (w2.alloc (.cells #[.int .i64 0, .int .i64 1, .int .i64 (-1), .int .i64 2, .int .i64 (-2), .int .i64 4, .int .i64 (-5)] 3)) w2.heap.size 7 := fun i hi => by
    rcases (show i = 0 ∨ i = 1 ∨ i = 2 ∨ i = 3 ∨ i = 4 ∨ i = 5 ∨ i = 6 by omega) with rfl | rfl | rfl | rfl | rfl | rfl | rfl <;> exact ⟨_, hL.cell _⟩
  have hgl := hr2.lt
  refine (one_any _ _ _ _ _ _ hrA (by omega) (by omega) (by omega) (by simp) (by omega) hN).mono ?_
  rintro e w3 ⟨dx, rfl, hr3, hbut⟩
  have hb3 := hbA.trans (hbut.below hbA.size hg)
  clear hA hL hr2 hrA hb2 hbA hN hbut hgl
  go_wp2_with fail
  have hA := below_of w3 (.cells #[.int .i64 0, .int .i64 1, .int .i64 (-1), .int .i64 2, .int .i64 (-2), .int .i64 5] 3)
  have hL := Blk.new w3 #[.int .i64 0, .int .i64 1, .int .i64 (-1), .int .i64 2, .int .i64 (-2), .int .i64 5] 3
  have hrA := hr3.below hA
  have hbA := hb3.trans (hA.mono hb3.size)
  have hN : Nums (w3.alloc (.cells #[.int .i64 0, .int .i64 1, .int .i64 (-1), .int .i64 2, .int .i64 (-2), .int .i64 5] 3)) w3.heap.size 6 := fun i hi => by
    rcases (show i = 0 ∨ i = 1 ∨ i = 2 ∨ i = 3 ∨ i = 4 ∨ i = 5 by omega) with rfl | rfl | rfl | rfl | rfl | rfl <;> exact ⟨_, hL.cell _⟩
  have hgl := hr3.lt
  refine (one_any _ _ _ _ _ _ hrA (by omega) (by omega) (by omega) (by simp) (by omega) hN).mono ?_
  rintro e w4 ⟨dy, rfl, hr4, hbut⟩
  have hb4 := hbA.trans (hbut.below hbA.size hg)
  clear hA hL hr3 hrA hb3 hbA hN hbut hgl
  go_wp2_with fail
  refine bodyPost_ret (v := .tuple #[.int .i64 (s), .int .i64 (a - 1), .int .i64 (dx), .int .i64 (dy)]) (by simp [results, Try.results17, go_sem]) rfl ⟨_, _, _, _, rfl, hb4⟩
set_option maxHeartbeats 2000000 in
theorem drawSquareTurn_any (A : Option Addr) (n c : Nat) (zs : List Int) (w : World) (h : IsRow .u8 w A n c zs) (hn : n ≤ 1048576) :
    Calls Try.prog 21 #[.slice A n c] w fun e w' => ∃ s k a : Int, e = .returned (.tuple #[.int .i64 s, .int .i64 k, .int .i64 a]) ∧ Below w.heap.size w w' := by
  go_enter Try.func21, Try.ntmps21
  go_wp2_with fail
  refine (open_any _ _ _ _ _ h hn).mono ?_
  rintro e w0 ⟨g, rfl, hg, hr0, hb0⟩
  clear h
  go_wp2_with fail
  have hA := below_of w0 (.cells #[.int .i64 2, .int .i64 3, .int .i64 4, .int .i64 3, .int .i64 1, .int .i64 5] 3)
  have hL := Blk.new w0 #[.int .i64 2, .int .i64 3, .int .i64 4, .int .i64 3, .int .i64 1, .int .i64 5] 3
  have hrA := hr0.below hA
  have hbA := hb0.trans (hA.mono hb0.size)
  have hN : Nums (w0.alloc (.cells #[.int .i64 2, .int .i64 3, .int .i64 4, .int .i64 3, .int .i64 1, .int .i64 5] 3)) w0.heap.size 6 := fun i hi => by
    rcases (show i = 0 ∨ i = 1 ∨ i = 2 ∨ i = 3 ∨ i = 4 ∨ i = 5 by omega) with rfl | rfl | rfl | rfl | rfl | rfl <;> exact ⟨_, hL.cell _⟩
  have hgl := hr0.lt
  refine (one_any _ _ _ _ _ _ hrA (by omega) (by omega) (by omega) (by simp) (by omega) hN).mono ?_
  rintro e w1 ⟨s, rfl, hr1, hbut⟩
  have hb1 := hbA.trans (hbut.below hbA.size hg)
  clear hA hL hr0 hrA hb0 hbA hN hbut hgl
  go_wp2_with fail
  refine (pick_any _ _ _ _ hr1 (by omega) (by omega)).mono ?_
  rintro e w2 ⟨k, rfl, k0, k1, hr2, hbut⟩
  have hb2 := hb1.trans (hbut.below hb1.size hg)
  have k2 : k < 10 := by omega
  clear hr1 hb1 hbut k1
  go_wp2_with fail
  refine (pick_any _ _ _ _ hr2 (by omega) (by omega)).mono ?_
  rintro e w3 ⟨a, rfl, a0, a1, hr3, hbut⟩
  have hb3 := hb2.trans (hbut.below hb2.size hg)
  have a2 : a < 17 := by omega
  clear hr2 hb2 hbut a1
  go_wp2_with fail
  refine bodyPost_ret (v := .tuple #[.int .i64 (s), .int .i64 (k - 1), .int .i64 (a - 1)]) (by simp [results, Try.results21, go_sem]) rfl ⟨_, _, _, rfl, hb3⟩
end Go.Proofs.Ytnchjpjlabeabab.Rd
