/- The position behind a legal move: the program's moved. -/
import Derived.Test.YtcgfklljbblhlaaGreatDoorAg
import Derived.Test.YtcgfklljbblhlaaGreatDoorMa
import Derived.Deep.RegionHeld3
namespace Go.Proofs.YtcgfklljbblhlaaGreatDoor.Ko
open Go.ChangeShapes Go.WideShapes Go.ChangeAt Go.RowKit Base Sq
set_option linter.unusedVariables false
set_option maxRecDepth 20000
attribute [local irreducible] wpQuiet

set_option maxHeartbeats 2000000 in
theorem moved_any (t : Int) (M : Option Addr) (cm : Nat) (l : List St) (f q : Int) (n : Nat) (w : World) (hM : IsSteps w w.heap.size M l) (ht : 0 ≤ t ∧ t ≤ 1) (hl : l.length ≤ 4) (hn : manV l f = (n : Int)) (hi : n < l.length) (hu : Up l) :
    Calls Tryz.prog 67 #[.agg #[.int .i64 t, .slice M l.length cm], .agg #[.int .i64 f, .int .i64 q]] w fun e w' => DoPost w w' t l n q e := by
  have HT := Lib.hid ht
  have HNN := Lib.hid hn
  have HU := Lib.hid hu
  clear ht hn hu
  go_enter Tryz.func67, Tryz.ntmps67
  go_wp2_with fail
  have hb0 : Below w.heap.size w (((w.alloc (.cells #[.int .i64 t, .slice M l.length cm] 35)).alloc (.cells #[.int .i64 f, .int .i64 q] 58)).alloc (.cells #[.int .i64 0, .slice none 0 0] 35)) := (by repeat (first | exact Below.refl _ _ | assumption | (refine Below.alloc ?_ (by first | omega | (simp; done) | (simp; omega)) _) | (refine Below.setCell ?_ (by first | omega | (simp; done) | (simp; omega)) _) | refine Below.drew ?_))
  have p1 := ((Blk.new w #[.int .i64 t, .slice M l.length cm] 35).alloc (.cells #[.int .i64 f, .int .i64 q] 58)).alloc (.cells #[.int .i64 0, .slice none 0 0] 35)
  have p2 := (Blk.new (w.alloc (.cells #[.int .i64 t, .slice M l.length cm] 35)) #[.int .i64 f, .int .i64 q] 58).alloc (.cells #[.int .i64 0, .slice none 0 0] 35)
  have p3 := Blk.new ((w.alloc (.cells #[.int .i64 t, .slice M l.length cm] 35)).alloc (.cells #[.int .i64 f, .int .i64 q] 58)) #[.int .i64 0, .slice none 0 0] 35
  simp only [World.size_alloc] at p2 p3
  generalize hW3 : ((w.alloc _).alloc _).alloc _ = W3 at *
  clear hW3
  have HP1 := Lib.hid p1
  have HP2 := Lib.hid p2
  have HP3 := Lib.hid p3
  have HBE := Lib.hid hb0
  have z1 := p1.lt
  have z2 := p2.lt
  have z3 := p3.lt
  have hz := hb0.size
  have HM := Lib.hid ((hM.below hb0).more hb0.size)
  clear p1 p2 p3 hb0 hM
  have HS : Hid (∀ w', Blk w' w.heap.size #[.int .i64 t, .slice M l.length cm] 35 → Blk w' (w.heap.size + 1) #[.int .i64 f, .int .i64 q] 58 → (w'.cell? ⟨w.heap.size, 0, none⟩ = some (.int .i64 t) ∧ w'.cell? ⟨w.heap.size, 1, none⟩ = some (.slice M l.length cm) ∧ w'.cell? ⟨w.heap.size + 1, 0, none⟩ = some (.int .i64 f) ∧ w'.cell? ⟨w.heap.size + 1, 1, none⟩ = some (.int .i64 q))) := Lib.hid (fun w' h1 h5 => by
    obtain ⟨⟨a0, a1⟩, _⟩ := h1.at2
    obtain ⟨⟨b0, b1⟩, _⟩ := h5.at2
    exact ⟨a0, a1, b0, b1⟩)
  have hw : Below W3.heap.size W3 W3.drew := (Below.refl _ _).drew
  obtain ⟨⟨c0, c1⟩, ⟨c2, c3⟩⟩ := (HP3.out.below hw z3).at2
  go_region_held3 (fun w' => w'.cell? ⟨w.heap.size, 0, none⟩ = some (.int .i64 t) ∧ w'.cell? ⟨w.heap.size, 1, none⟩ = some (.slice M l.length cm) ∧ w'.cell? ⟨w.heap.size + 1, 0, none⟩ = some (.int .i64 f) ∧ w'.cell? ⟨w.heap.size + 1, 1, none⟩ = some (.int .i64 q))
    (first
      | exact HS.out _ (HP1.out.below hw z1) (HP2.out.below hw z2)
      | exact HS.out _ (((HP1.out.below hw z1).other _ _ (by show w.heap.size ≠ w.heap.size + 1 + 1; omega)).other _ _ (by show w.heap.size ≠ w.heap.size + 1 + 1; omega)) (((HP2.out.below hw z2).other _ _ (by show w.heap.size + 1 ≠ w.heap.size + 1 + 1; omega)).other _ _ (by show w.heap.size + 1 ≠ w.heap.size + 1 + 1; omega)))
    (first
      | (go_at_call 66; refine (manAt_any _ _ _ _ _ ((HM.out.below hw).more hw.size) (by omega)).mono ?_; rw [HNN.out]; rintro e wm ⟨rfl, hbm⟩; have hw := hw.trans (hbm.mono hw.size))
      | (go_at_call 91; refine (after_any _ _ _ _ _ _ _ ((HM.out.below hw).more hw.size) HT.out hl hi HU.out).mono ?_; rintro e wa ⟨Aa, ca, rfl, hna, hba⟩; have hzx := hw.size; have hw := hw.trans (hba.mono hw.size); obtain ⟨⟨c0, c1⟩, ⟨c2, c3⟩⟩ := (HP3.out.below hw z3).at2))
  all_goals
    go_wp2_with fail
    have p3q := HP3.out.below hw z3
    have hbq := HBE.out.trans (hw.mono hz)
    refine bodyPost_ret (v := .agg #[.int .i64 (1 - t), .slice Aa (doL l n q).length ca]) ?_ rfl ⟨Aa, ca, ?_, ?_, ?_⟩
    · obtain ⟨⟨d0, d1⟩, _⟩ := (p3q.set2 (.int .i64 (1 - t)) (.slice Aa (doL l n q).length ca)).at2
      simp [results, Tryz.results67, go_sem, d0, d1]
    · rfl
    · exact fun hn => by
        obtain ⟨gg, cc', rfl, g1, g2, g3, g4, g5⟩ := hna hn
        exact ⟨gg, cc', rfl, by omega, by simpa [size_set] using g2, (g3.other _ _ (by show gg ≠ w.heap.size + 1 + 1; omega)).other _ _ (by show gg ≠ w.heap.size + 1 + 1; omega), g4, g5⟩
    · exact (hbq.setCell (by show w.heap.size ≤ w.heap.size + 1 + 1; omega) _).setCell (by show w.heap.size ≤ w.heap.size + 1 + 1; omega) _
end Go.Proofs.YtcgfklljbblhlaaGreatDoor.Ko
