/- A position in memory of its own, by the program. -/
import Derived.Test.YtcgfklljbblhlaaPa
import Derived.Test.YtcgfklljbblhlaaCl
import Derived.Deep.RegionHeld3
namespace Go.Proofs.Ytcgfklljbblhlaa.Ko
open Go.ChangeShapes Go.WideShapes Go.ChangeAt Go.RowKit Base Sq
set_option linter.unusedVariables false
set_option maxRecDepth 20000
attribute [local irreducible] wpQuiet

set_option maxHeartbeats 4000000 in
theorem copied_any (t : Int) (M : Option Addr) (c : Nat) (l : List St) (w : World) (h : IsSteps w w.heap.size M l) (hl : l.length ≤ 1048576) (hp : 0 < l.length) :
    Calls Try.prog 67 #[.agg #[.int .i64 t, .slice M l.length c]] w fun e w' => ∃ A c', e = .returned (.agg #[.int .i64 t, .slice A l.length c']) ∧ MenA w.heap.size w'.heap.size w' A l ∧ Below w.heap.size w w' := by
  have hb0 : Below w.heap.size w ((w.alloc (.cells #[.int .i64 t, .slice M l.length c] 45)).alloc (.cells #[.int .i64 0, .slice none 0 0] 45)) := (by repeat (first | exact Below.refl _ _ | assumption | (refine Below.alloc ?_ (by first | omega | (simp; done) | (simp; omega)) _) | (refine Below.setCell ?_ (by first | omega | (simp; done) | (simp; omega)) _) | refine Below.drew ?_))
  have p1 := (Blk.new w #[.int .i64 t, .slice M l.length c] 45).alloc (.cells #[.int .i64 0, .slice none 0 0] 45)
  have p2 := Blk.new (w.alloc (.cells #[.int .i64 t, .slice M l.length c] 45)) #[.int .i64 0, .slice none 0 0] 45
  simp only [World.size_alloc] at p2
  have hz0 : ((w.alloc (.cells #[.int .i64 t, .slice M l.length c] 45)).alloc (.cells #[.int .i64 0, .slice none 0 0] 45)).heap.size = w.heap.size + 1 + 1 := by simp only [World.size_alloc]
  go_enter Try.func67, Try.ntmps67
  go_wp2_with fail
  generalize hW0 : (w.alloc _).alloc _ = W0 at *
  clear hW0
  obtain ⟨⟨a0, a1⟩, _⟩ := p1.at2
  have HC := Lib.hid (show Calls Try.prog 83 #[.slice M l.length c] W0.drew fun e w' => ∃ A c', e = .returned (.slice A l.length c') ∧ MenA W0.heap.size w'.heap.size w' A l ∧ Below W0.heap.size W0 w' from by
    refine (clone_any M c l W0.drew (show IsSteps W0.drew W0.drew.heap.size M l from (h.below hb0).more hb0.size) hl hp).mono ?_
    rintro e w' ⟨A, c', rfl, hm, hb⟩
    exact ⟨A, c', rfl, hm, ((Below.refl W0.heap.size W0).drew).trans hb⟩)
  have HP1 := Lib.hid p1
  have HP2 := Lib.hid p2
  have HB0 := Lib.hid hb0
  have HZ0 := Lib.hid hz0
  clear p1 p2 hb0 hz0 h
  go_region_with (go_at_call 83; refine HC.out.mono ?_; rintro e w2 ⟨A6, c6, rfl, hm6, hb6⟩; have p1' := HP1.out.below hb6 HP1.out.lt; have p2' := HP2.out.below hb6 HP2.out.lt; obtain ⟨⟨d0, d1⟩, _⟩ := p1'.at2; obtain ⟨⟨r0, r1⟩, ⟨r2, r3⟩⟩ := p2'.at2)
  all_goals
    go_wp2_with fail
    refine bodyPost_ret (v := .agg #[.int .i64 t, .slice A6 l.length c6]) ?_ rfl ⟨A6, c6, rfl, ?_, ?_⟩
    · obtain ⟨⟨e0, e1⟩, _⟩ := (p2'.set2 (.int .i64 t) (.slice A6 l.length c6)).at2
      simp [results, Try.results67, go_sem, e0, e1]
    · have hz := HZ0.out
      exact ((hm6.off _ _ (by show w.heap.size + 1 < W0.heap.size; omega)).off _ _ (by show w.heap.size + 1 < W0.heap.size; omega)).more (by omega) (by rw [size_set, size_set]; exact Nat.le_refl _)
    · exact ((HB0.out.trans (hb6.mono (by have := HZ0.out; omega))).setCell (by show w.heap.size ≤ w.heap.size + 1; omega) _).setCell (by show w.heap.size ≤ w.heap.size + 1; omega) _
end Go.Proofs.Ytcgfklljbblhlaa.Ko
