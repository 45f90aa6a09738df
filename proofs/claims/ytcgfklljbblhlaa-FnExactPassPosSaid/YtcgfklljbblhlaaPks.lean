/- PosOk of the model. -/
import Derived.Test.YtcgfklljbblhlaaPk
namespace Go.Proofs.Ytcgfklljbblhlaa.Ko
open Go.ChangeShapes Go.WideShapes Go.ChangeAt Go.RowKit Base Sq
set_option linter.unusedVariables false
set_option maxRecDepth 20000
attribute [local irreducible] wpQuiet

set_option maxHeartbeats 2000000 in
theorem specPosOk_any (side : Int) (A : Option Addr) (c : Nat) (ks : List Kd) (t : Int) (M : Option Addr) (cm : Nat) (l : List St) (w : World) (hR : IsKinds w w.heap.size A ks) (hM : IsSteps w w.heap.size M l)
    (hsm : Small ks) (hl : l.length ≤ 1048576) :
    Calls Try.prog 40 #[.agg #[.int .i64 side, .slice A ks.length c], .agg #[.int .i64 t, .slice M l.length cm]] w fun e w' => e = .returned (.bool (posB side ks t l)) ∧ Below w.heap.size w w' := by
  go_enter Try.func40, Try.ntmps40
  go_wp2_with fail
  have hb0 : Below w.heap.size w ((w.alloc (.cells #[.int .i64 side, .slice A ks.length c] 50)).alloc (.cells #[.int .i64 t, .slice M l.length cm] 45)) := (by repeat (first | exact Below.refl _ _ | assumption | (refine Below.alloc ?_ (by first | omega | (simp; done) | (simp; omega)) _) | (refine Below.setCell ?_ (by first | omega | (simp; done) | (simp; omega)) _) | refine Below.drew ?_))
  have p1 := (Blk.new w #[.int .i64 side, .slice A ks.length c] 50).alloc (.cells #[.int .i64 t, .slice M l.length cm] 45)
  have p2 := Blk.new (w.alloc (.cells #[.int .i64 side, .slice A ks.length c] 50)) #[.int .i64 t, .slice M l.length cm] 45
  simp only [World.size_alloc] at p2
  generalize hW0 : (w.alloc _).alloc _ = W0 at *
  clear hW0
  refine (sp_rulesOk _ _ _ _ _ ((hR.below hb0).more hb0.size) hsm).mono ?_
  rintro e w2 ⟨rfl, hb2⟩
  have p1' := p1.below hb2 p1.lt
  have p2' := p2.below hb2 p2.lt
  have hb0' := hb0.trans (hb2.mono hb0.size)
  obtain ⟨⟨r0, r1⟩, _⟩ := p1'.at2
  obtain ⟨⟨o0, o1⟩, _⟩ := p2'.at2
  clear p1 p2 hb0 hb2
  cases hok : rulesOk side ks
  · have HO := Lib.hid hok
    clear hok
    go_wp2_with fail
    go_ret
    exact ⟨rb (by unfold posB; rw [HO.out]; rfl), hb0'⟩
  · have HO := Lib.hid hok
    clear hok
    go_wp2_with fail
    refine (l3Ok_any _ _ _ _ _ _ _ _ _ ((hR.below hb0').more hb0'.size) ((hM.below hb0').more hb0'.size) HO.out hl).mono ?_
    rintro e w4 ⟨rfl, hb4⟩
    go_wp2_with fail
    go_ret
    exact ⟨rb (by unfold posB; rw [HO.out]; simp), hb0'.trans (hb4.mono hb0'.size)⟩

end Go.Proofs.Ytcgfklljbblhlaa.Ko
