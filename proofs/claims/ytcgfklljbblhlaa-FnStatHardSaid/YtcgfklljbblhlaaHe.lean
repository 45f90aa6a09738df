/- StatOf by the program. -/
import Derived.Test.YtcgfklljbblhlaaHc
import Derived.Deep.RegionHeld3
namespace Go.Proofs.Ytcgfklljbblhlaa.Ko
open Go.ChangeShapes Go.WideShapes Go.ChangeAt Go.RowKit Base Sq In Sc
set_option linter.unusedVariables false
set_option maxRecDepth 20000
attribute [local irreducible] wpQuiet

def b2 (b : Bool) : Int := if b = true then 1 else 0
/-- the statistics of one value -/
abbrev oneC (v : Int) : Array Value := statC (b2 (isN v)) (b2 (isD v)) (b2 (wonB v)) (b2 (lostB v)) (max 0 (v - 2))
set_option maxHeartbeats 600000 in
theorem statOfOne_any (v : Int) (w : World) (h0 : 0 ≤ v) (h1 : v ≤ 100) :
    Calls Try.prog 36 #[.int .i64 v] w fun e w' => e = .returned (.agg (oneC v)) ∧ Below w.heap.size w w' := by
  have WV : IntKind.i64.wrap (v - 2) = v - 2 := IntWalk.i64_in _ (by omega)
  rcases one_of h0 with ⟨e1, e2, e3, e4, e5⟩ | ⟨e1, e2, e3, e4, e5⟩ | ⟨e1, e2, e3, e4, e5⟩ | ⟨e1, e2, e3, e4, e5⟩
  all_goals
    have HE := Lib.hid (And.intro e1 (And.intro e2 (And.intro e3 e4)))
    clear e1 e2 e3 e4
  · have HV : Hid (statC 1 0 0 0 0 = oneC v) := Lib.hid (by unfold oneC statC b2; rw [HE.out.1, HE.out.2.1, HE.out.2.2.1, HE.out.2.2.2, show max 0 (v - 2) = 0 by omega]; rfl)
    subst e5
    clear WV
    go_enter Try.func36, Try.ntmps36
    go_wp2_with (first | (go_at_call 53; refine (isWon_any _ _ (by omega)).mono ?_; rw [HE.out.2.2.1]; rintro e w' ⟨rfl, rfl⟩) | (go_at_call 54; refine (isLost_any _ _ (by omega)).mono ?_; rw [HE.out.2.2.2]; rintro e w' ⟨rfl, rfl⟩))
    refine bodyPost_ret (v := .agg (statC 1 0 0 0 0)) ?_ rfl ⟨by rw [HV.out], (by repeat (first | exact Below.refl _ _ | assumption | (refine Below.alloc ?_ (by first | omega | (simp; done) | (simp; omega)) _) | (refine Below.setCell ?_ (by first | omega | (simp; done) | (simp; omega)) _) | refine Below.drew ?_))⟩
    obtain ⟨⟨d0, d1, d2, d3, d4⟩, _⟩ := (Blk.new w (statC 1 0 0 0 0) 24).five
    simp [results, Try.results36, go_sem, d0, d1, d2, d3, d4]
  · have HV : Hid (statC 0 1 0 0 0 = oneC v) := Lib.hid (by unfold oneC statC b2; rw [HE.out.1, HE.out.2.1, HE.out.2.2.1, HE.out.2.2.2, show max 0 (v - 2) = 0 by omega]; rfl)
    subst e5
    clear WV
    go_enter Try.func36, Try.ntmps36
    go_wp2_with (first | (go_at_call 53; refine (isWon_any _ _ (by omega)).mono ?_; rw [HE.out.2.2.1]; rintro e w' ⟨rfl, rfl⟩) | (go_at_call 54; refine (isLost_any _ _ (by omega)).mono ?_; rw [HE.out.2.2.2]; rintro e w' ⟨rfl, rfl⟩))
    refine bodyPost_ret (v := .agg (statC 0 1 0 0 0)) ?_ rfl ⟨by rw [HV.out], (by repeat (first | exact Below.refl _ _ | assumption | (refine Below.alloc ?_ (by first | omega | (simp; done) | (simp; omega)) _) | (refine Below.setCell ?_ (by first | omega | (simp; done) | (simp; omega)) _) | refine Below.drew ?_))⟩
    obtain ⟨⟨d0, d1, d2, d3, d4⟩, _⟩ := (Blk.new w (statC 0 1 0 0 0) 24).five
    simp [results, Try.results36, go_sem, d0, d1, d2, d3, d4]
  · have HV : Hid (statC 0 0 1 0 (v - 2) = oneC v) := Lib.hid (by unfold oneC statC b2; rw [HE.out.1, HE.out.2.1, HE.out.2.2.1, HE.out.2.2.2, show max 0 (v - 2) = v - 2 by omega]; rfl)
    go_enter Try.func36, Try.ntmps36
    go_wp2_with (first | (go_at_call 53; refine (isWon_any _ _ (by omega)).mono ?_; rw [HE.out.2.2.1]; rintro e w' ⟨rfl, rfl⟩) | (go_at_call 54; refine (isLost_any _ _ (by omega)).mono ?_; rw [HE.out.2.2.2]; rintro e w' ⟨rfl, rfl⟩))
    refine bodyPost_ret (v := .agg (statC 0 0 1 0 (v - 2))) ?_ rfl ⟨by rw [HV.out], (by repeat (first | exact Below.refl _ _ | assumption | (refine Below.alloc ?_ (by first | omega | (simp; done) | (simp; omega)) _) | (refine Below.setCell ?_ (by first | omega | (simp; done) | (simp; omega)) _) | refine Below.drew ?_))⟩
    obtain ⟨⟨d0, d1, d2, d3, d4⟩, _⟩ := (Blk.new w (statC 0 0 1 0 (v - 2)) 24).five
    simp [results, Try.results36, go_sem, d0, d1, d2, d3, d4]
  · have HV : Hid (statC 0 0 0 1 (v - 2) = oneC v) := Lib.hid (by unfold oneC statC b2; rw [HE.out.1, HE.out.2.1, HE.out.2.2.1, HE.out.2.2.2, show max 0 (v - 2) = v - 2 by omega]; rfl)
    go_enter Try.func36, Try.ntmps36
    go_wp2_with (first | (go_at_call 53; refine (isWon_any _ _ (by omega)).mono ?_; rw [HE.out.2.2.1]; rintro e w' ⟨rfl, rfl⟩) | (go_at_call 54; refine (isLost_any _ _ (by omega)).mono ?_; rw [HE.out.2.2.2]; rintro e w' ⟨rfl, rfl⟩))
    refine bodyPost_ret (v := .agg (statC 0 0 0 1 (v - 2))) ?_ rfl ⟨by rw [HV.out], (by repeat (first | exact Below.refl _ _ | assumption | (refine Below.alloc ?_ (by first | omega | (simp; done) | (simp; omega)) _) | (refine Below.setCell ?_ (by first | omega | (simp; done) | (simp; omega)) _) | refine Below.drew ?_))⟩
    obtain ⟨⟨d0, d1, d2, d3, d4⟩, _⟩ := (Blk.new w (statC 0 0 0 1 (v - 2)) 24).five
    simp [results, Try.results36, go_sem, d0, d1, d2, d3, d4]
end Go.Proofs.Ytcgfklljbblhlaa.Ko
