/- What the model draws for the law FnSquareGet. -/
import Derived.Test.YtebbcndfdjhioaaDoorRo
import Derived.Test.YtebbcndfdjhioaaDoorRq
namespace Go.Proofs.YtebbcndfdjhioaaDoor.Rd
open Go.ChangeShapes Go.WideShapes Go.ChangeAt Go.RowKit Base
set_option linter.unusedVariables false
set_option maxRecDepth 20000

set_option maxHeartbeats 2000000 in
theorem drawSquareGet_any (A : Option Addr) (n c : Nat) (zs : List Int) (w : World) (h : IsRow .u8 w A n c zs) (hn : n ≤ 1048576) :
    Calls Tryd.prog 7 #[.slice A n c] w fun e w' => ∃ s : Int, ∃ t : ByteArray, t.size ≤ 10 ∧ e = .returned (.tuple #[.int .i64 s, .string t]) ∧ Below w.heap.size w w' := by
  go_enter Tryd.func7, Tryd.ntmps7
  go_wp2_with fail
  refine (open_any _ _ _ _ _ h hn).mono ?_
  rintro e w0 ⟨g, rfl, hg, hr0, hb0⟩
  clear h
  go_wp2_with fail
  have hA := below_of w0 (.cells #[.int .i64 2, .int .i64 3, .int .i64 4, .int .i64 3, .int .i64 1, .int .i64 5] 3)
  have hL := Blk.new w0 #[.int .i64 2, .int .i64 3, .int .i64 4, .int .i64 3, .int .i64 1, .int .i64 5] 3
  have hrA := hr0.below hA
  have hbA := hb0.trans (hA.mono hb0.size)
  have hN : Nums (w0.alloc (.cells #[.int .i64 2, .int .i64 3, .int .i64 4, .int .i64 3, .int .i64 1, .int .i64 5] 3)) w0.heap.size 6 := fun i hi => by
    rcases (show i = 0 ∨ i = 1 ∨ i = 2 ∨ i = 3 ∨ i = 4 ∨ i = 5 by omega) with rfl | rfl | rfl | rfl | rfl | rfl <;> exact ⟨_, hL.cell _⟩
  have hgl := hr0.lt
  refine (one_any _ _ _ _ _ _ hrA (by omega) (by omega) (by omega) (by simp) (by omega) hN).mono ?_
  rintro e w1 ⟨s, rfl, hr1, hbut⟩
  have hb1 := hbA.trans (hbut.below hbA.size hg)
  clear hA hL hr0 hrA hb0 hbA hN hbut hgl
  go_wp2_with fail
  have hA := below_of w1 (.cells #[.string ⟨#[97]⟩, .string ⟨#[98]⟩, .string ⟨#[99]⟩, .string ⟨#[100]⟩, .string ⟨#[101]⟩, .string ⟨#[65]⟩] 9)
  have hL := Blk.new w1 #[.string ⟨#[97]⟩, .string ⟨#[98]⟩, .string ⟨#[99]⟩, .string ⟨#[100]⟩, .string ⟨#[101]⟩, .string ⟨#[65]⟩] 9
  have hrA := hr1.below hA
  have hbA := hb1.trans (hA.mono hb1.size)
  have hN : Strs (w1.alloc (.cells #[.string ⟨#[97]⟩, .string ⟨#[98]⟩, .string ⟨#[99]⟩, .string ⟨#[100]⟩, .string ⟨#[101]⟩, .string ⟨#[65]⟩] 9)) w1.heap.size 6 (fun t => t.size ≤ 2) := fun i hi => by
    rcases (show i = 0 ∨ i = 1 ∨ i = 2 ∨ i = 3 ∨ i = 4 ∨ i = 5 by omega) with rfl | rfl | rfl | rfl | rfl | rfl <;> exact ⟨_, by decide, hL.cell _⟩
  have hgl := hr1.lt
  refine (of_any (fun t => t.size ≤ 2) _ _ _ _ _ _ hrA (by omega) (by omega) (by omega) (by simp) (by omega) hN).mono ?_
  rintro e w2 ⟨t1, hs1, rfl, hr2, hbut⟩
  have hb2 := hbA.trans (hbut.below hbA.size hg)
  have hz1 : t1.size ≤ 2 := hs1
  clear hA hL hr1 hrA hb1 hbA hN hbut hgl hs1
  go_wp2_with fail
  have hA := below_of w2 (.cells #[.string ⟨#[49]⟩, .string ⟨#[50]⟩, .string ⟨#[51]⟩, .string ⟨#[52]⟩, .string ⟨#[53]⟩, .string ⟨#[48]⟩, .string ⟨#[]⟩, .string ⟨#[49, 49]⟩] 9)
  have hL := Blk.new w2 #[.string ⟨#[49]⟩, .string ⟨#[50]⟩, .string ⟨#[51]⟩, .string ⟨#[52]⟩, .string ⟨#[53]⟩, .string ⟨#[48]⟩, .string ⟨#[]⟩, .string ⟨#[49, 49]⟩] 9
  have hrA := hr2.below hA
  have hbA := hb2.trans (hA.mono hb2.size)
  have hN : Strs (w2.alloc (.cells #[.string ⟨#[49]⟩, .string ⟨#[50]⟩, .string ⟨#[51]⟩, .string ⟨#[52]⟩, .string ⟨#[53]⟩, .string ⟨#[48]⟩, .string ⟨#[]⟩, .string ⟨#[49, 49]⟩] 9)) w2.heap.size 8 (fun t => t.size ≤ 2) := fun i hi => by
    rcases (show i = 0 ∨ i = 1 ∨ i = 2 ∨ i = 3 ∨ i = 4 ∨ i = 5 ∨ i = 6 ∨ i = 7 by omega) with rfl | rfl | rfl | rfl | rfl | rfl | rfl | rfl <;> exact ⟨_, by decide, hL.cell _⟩
  have hgl := hr2.lt
  refine (of_any (fun t => t.size ≤ 2) _ _ _ _ _ _ hrA (by omega) (by omega) (by omega) (by simp) (by omega) hN).mono ?_
  rintro e w3 ⟨t2, hs2, rfl, hr3, hbut⟩
  have hb3 := hbA.trans (hbut.below hbA.size hg)
  have hz2 : t2.size ≤ 2 := hs2
  clear hA hL hr2 hrA hb2 hbA hN hbut hgl hs2
  have ha : ∀ w', (Op.stringOp .add t1 t2).run Tryd.prog w' = .ok (.string (t1 ++ t2)) w' := fun w' => run_string_add_sum _ _ _ (by omega)
  have HQ := Lib.hid (show (t1 ++ t2).size ≤ 10 by rw [ByteArray.size_append]; omega)
  clear hz1 hz2
  go_wp2_with fail
  refine bodyPost_ret (v := .tuple #[.int .i64 s, .string (t1 ++ t2)]) (by simp [results, Tryd.results7, go_sem]) rfl ⟨_, _, HQ.out, rfl, hb3⟩
end Go.Proofs.YtebbcndfdjhioaaDoor.Rd
