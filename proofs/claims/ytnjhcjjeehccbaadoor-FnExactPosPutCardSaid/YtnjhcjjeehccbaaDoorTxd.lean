/- PosPut of the model. -/
import Derived.Test.YtnjhcjjeehccbaaDoorTxa
import Derived.Test.YtnjhcjjeehccbaaDoorPks
namespace Go.Proofs.YtnjhcjjeehccbaaDoor.Ko
open Go.ChangeShapes Go.WideShapes Go.ChangeAt Go.RowKit Base Sq
set_option linter.unusedVariables false
set_option maxRecDepth 20000
attribute [local irreducible] wpQuiet

set_option maxHeartbeats 4000000 in
theorem specPosPut_any (side : Int) (A : Option Addr) (c : Nat) (ks : List Kd) (t : Int) (M : Option Addr) (cm : Nat) (l : List St) (w : World) (hR : IsKinds w w.heap.size A ks) (hM : IsSteps w w.heap.size M l) (hsm : Small ks) (hl : l.length ≤ 1048576) :
    Calls Tryd.prog 6 #[.agg #[.int .i64 side, .slice A ks.length c], .agg #[.int .i64 t, .slice M l.length cm]] w fun e w' => e = .returned (.string (txt (posT side ks t l))) ∧ Below w.heap.size w w' := by
  have hb0 : Below w.heap.size w ((w.alloc (.cells #[.int .i64 side, .slice A ks.length c] 33)).alloc (.cells #[.int .i64 t, .slice M l.length cm] 37)) := (by repeat (first | exact Below.refl _ _ | assumption | (refine Below.alloc ?_ (by first | omega | (simp; done) | (simp; omega)) _) | (refine Below.setCell ?_ (by first | omega | (simp; done) | (simp; omega)) _) | refine Below.drew ?_))
  have p1 := (Blk.new w #[.int .i64 side, .slice A ks.length c] 33).alloc (.cells #[.int .i64 t, .slice M l.length cm] 37)
  have p2 := Blk.new (w.alloc (.cells #[.int .i64 side, .slice A ks.length c] 33)) #[.int .i64 t, .slice M l.length cm] 37
  simp only [World.size_alloc] at p2
  have HT0 := Lib.hid (fun h => show posT side ks t l = [] from if_neg h)
  have HT1 := Lib.hid (fun h => show posT side ks t l = posU side ks t l from if_pos h)
  go_enter Tryd.func6, Tryd.ntmps6
  go_wp2_with fail
  generalize hW0 : (w.alloc _).alloc _ = W0 at *
  clear hW0
  refine (specPosOk_any _ _ _ _ _ _ _ _ _ ((hR.below hb0).more hb0.size) ((hM.below hb0).more hb0.size) hsm hl).mono ?_
  rintro e w2 ⟨rfl, hb2⟩
  have q1 := p1.below hb2 p1.lt
  have q2 := p2.below hb2 p2.lt
  have hbe := hb0.trans (hb2.mono hb0.size)
  obtain ⟨⟨r0, r1⟩, _⟩ := q1.at2
  obtain ⟨⟨o0, o1⟩, _⟩ := q2.at2
  clear p1 p2 hb0 hb2 q1 q2
  cases hp : posB side ks t l
  · have HV := Lib.hid (HT0.out (by rw [hp]; decide))
    clear hp HT0 HT1
    go_wp2_with fail
    go_ret
    exact ⟨by rw [HV.out]; rfl, hbe⟩
  · have HV := Lib.hid (HT1.out hp)
    obtain ⟨hok, hsh, _⟩ := posB_facts hp
    have HOK := Lib.hid hok
    have HSH := Lib.hid hsh
    clear hp HT0 HT1 hok hsh
    go_wp2_with fail
    refine (l3Put_any side A c ks t M cm l _ ((hR.below hbe).more hbe.size) ((hM.below hbe).more hbe.size) HOK.out HSH.out).mono ?_
    rintro e w3 ⟨rfl, hb3⟩
    have HB := Lib.hid (hbe.trans (hb3.mono hbe.size))
    clear hb3 hbe
    go_wp2_with fail
    go_ret
    exact ⟨by rw [HV.out]; rfl, HB.out⟩
end Go.Proofs.YtnjhcjjeehccbaaDoor.Ko
