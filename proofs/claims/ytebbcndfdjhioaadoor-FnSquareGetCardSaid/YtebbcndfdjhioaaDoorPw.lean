/- SquarePut of the program. -/
import Derived.Test.YtebbcndfdjhioaaDoorPu
import Derived.Test.YtebbcndfdjhioaaDoorPt
import Derived.Deep.RegionHeld3
namespace Go.Proofs.YtebbcndfdjhioaaDoor.Sq
open Go.ChangeShapes Go.WideShapes Go.ChangeAt Go.RowKit Base
set_option linter.unusedVariables false
set_option maxRecDepth 20000
set_option maxHeartbeats 8000000 in
theorem squarePut_yes (s a : Int) (w : World) (h : okB s a = true) : Calls Tryd.prog 10 #[.int .i64 s, .int .i64 a] w fun e w' => e = .returned (.string (putS (a % s) (a / s))) ∧ Below w.heap.size w w' := by
  obtain ⟨hs, h0, h15, hlt⟩ := okB_yes h
  obtain ⟨c, r, hc, hr, c0, c3, r0, r3⟩ : ∃ c r, a % s = c ∧ a / s = r ∧ 0 ≤ c ∧ c ≤ 3 ∧ 0 ≤ r ∧ r ≤ 3 := by
    refine ⟨_, _, rfl, rfl, ?_⟩
    rcases hs with rfl | rfl | rfl <;> omega
  have HC := Lib.hid hc
  have HR := Lib.hid hr
  rw [hc, hr]
  clear hc hr
  go_enter Tryd.func10, Tryd.ntmps10
  go_wp2_with (go_at_call 35; refine (sq_ok _ _ _).mono ?_; rw [h]; rintro e w' ⟨rfl, rfl⟩)
  refine (squareAt_any _ _ _ hs h0 h15).mono ?_
  rintro e w2 ⟨rfl, hb2⟩
  rw [HC.out, HR.out]
  clear h0 h15 HC HR hs h hlt
  have hwr : IntKind.i64.wrap (r + 1) = r + 1 := by
    rcases (show r = 0 ∨ r = 1 ∨ r = 2 ∨ r = 3 by omega) with rfl | rfl | rfl | rfl <;> decide
  have hwc : IntKind.u8.wrap c = c := by
    rcases (show c = 0 ∨ c = 1 ∨ c = 2 ∨ c = 3 by omega) with rfl | rfl | rfl | rfl <;> decide
  have hwd : IntKind.u8.wrap (97 + c) = 97 + c := by
    rcases (show c = 0 ∨ c = 1 ∨ c = 2 ∨ c = 3 by omega) with rfl | rfl | rfl | rfl <;> decide
  have cat : (Value.string (strOfNums [97 + c] ++ ⟨#[48 + UInt8.ofNat (r + 1).toNat]⟩)) = .string (putS c r) := by
    rcases (show c = 0 ∨ c = 1 ∨ c = 2 ∨ c = 3 by omega) with rfl | rfl | rfl | rfl <;> rcases (show r = 0 ∨ r = 1 ∨ r = 2 ∨ r = 3 by omega) with rfl | rfl | rfl | rfl <;> first | rfl | decide
  have CAT := Lib.hid cat
  clear cat
  have hsz : (strOfNums [97 + c]).size = 1 := rfl
  have hz := hb2.size
  go_wp2_with fail
  have h1 := fun x => conv1 (w2.alloc (.cells #[.int .i64 s, .int .i64 c, .int .i64 r] 64)) x
  have h2 := fun x => conv1d (w2.alloc (.cells #[.int .i64 s, .int .i64 c, .int .i64 r] 64)) x
  simp only [World.size_alloc] at h1 h2
  go_region_with (go_at_call 37; refine (sitoa_dig _ (by omega) _).mono ?_; rintro e w' ⟨rfl, rfl⟩)
  all_goals
    go_wp2
    go_ret
    refine ⟨congrArg Ending.returned CAT.out, hb2.trans (by repeat (first | exact Below.refl _ _ | assumption | (refine Below.alloc ?_ (by first | omega | (simp; done) | (simp; omega)) _) | (refine Below.setCell ?_ (by first | omega | (simp; done) | (simp; omega)) _) | refine Below.drew ?_))⟩
end Go.Proofs.YtebbcndfdjhioaaDoor.Sq
