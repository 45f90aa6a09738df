/- How a valid position stands: the program's stateOf. -/
import Derived.Test.YtoaajkkebnleaaaGreatDoorNx
import Derived.Test.YtoaajkkebnleaaaGreatDoorCk
namespace Go.Proofs.YtoaajkkebnleaaaGreatDoor.Ko
open Go.ChangeShapes Go.WideShapes Go.ChangeAt Go.RowKit Base Sq
set_option linter.unusedVariables false
set_option maxRecDepth 20000
attribute [local irreducible] wpQuiet

def stateV (side : Int) (ks : List Kd) (t : Int) (l : List St) : Int := if 0 < (movesL side ks t l).length then 1 else if checkB side ks l t = true then 2 else 3

set_option maxRecDepth 100000 in
set_option maxHeartbeats 4000000 in
theorem stateOf_any (side : Int) (A : Option Addr) (c : Nat) (ks : List Kd) (t : Int) (M : Option Addr) (cm : Nat) (l : List St) (w : World) (hR : IsKinds w w.heap.size A ks) (hM : IsSteps w w.heap.size M l) (hT : TabAt w)
    (hok : rulesOk side ks = true) (hsh : shapeB side ks t l = true) :
    Calls Tryz.prog 65 #[.agg #[.int .i64 side, .slice A ks.length c], .agg #[.int .i64 t, .slice M l.length cm]] w fun e w' => e = .returned (.int .i64 (stateV side ks t l)) ∧ Below w.heap.size w w' := by
  have HOK := Lib.hid hok
  have HSH := Lib.hid hsh
  have ht01 := (shapeB_facts hsh).1
  have HR := Lib.hid hR
  have HM := Lib.hid hM
  have HT := Lib.hid hT
  have hg0 := hT.lt
  clear hok hsh hR hM hT
  have hb0 := (below_of w (.cells #[.int .i64 side, .slice A ks.length c] 34)).alloc (by first | (simp; done) | (simp; omega) | omega) (.cells #[.int .i64 t, .slice M l.length cm] 38)
  have p1 := (Blk.new w #[.int .i64 side, .slice A ks.length c] 34).alloc (.cells #[.int .i64 t, .slice M l.length cm] 38)
  have p2 := Blk.new (w.alloc (.cells #[.int .i64 side, .slice A ks.length c] 34)) #[.int .i64 t, .slice M l.length cm] 38
  simp only [World.size_alloc] at p2
  go_enter Tryz.func65, Tryz.ntmps65
  go_wp2_with fail
  generalize hW0 : (w.alloc _).alloc _ = W0 at *
  clear hW0
  refine (moverOf_any _ _ _ _ _ _ _ _ _).mono ?_
  rintro e w2 ⟨rfl, pm, hsz2, hb2⟩
  have p1' := p1.below hb2 p1.lt
  have p2' := p2.below hb2 p2.lt
  have hz0' := hb0.size
  have hbe2 := hb0.trans (hb2.mono hb0.size)
  have hne1 : w.heap.size ≠ W0.heap.size + 2 := by have := p1.lt; omega
  have hne2 : w.heap.size + 1 ≠ W0.heap.size + 2 := by have := p2.lt; omega
  clear hsz2 hb2 hb0 p1 p2
  generalize hbb : W0.heap.size + 2 = b at *
  have hwb : w.heap.size ≤ b := by omega
  clear hbb hz0'
  clear W0
  have z2 := pm.lt
  go_wp2_with fail
  refine (next_any side A c ks t M cm l 0 b w.heap.size _ (HR.out.below hbe2) (HM.out.below hbe2) (HT.out.below hbe2 hg0) hg0 (MoverAt.new pm) hwb HOK.out HSH.out).mono ?_
  rintro e w3 ⟨rfl, hm3, hu3⟩
  have hbe3 := hbe2.trans (hu3.toBelow hwb (by have := hbe2.size; omega))
  have q1 := hu3.blk p1' hne1
  have q2 := hu3.blk p2' hne2
  have zq1 := q1.lt
  have zq2 := q2.lt
  have hz3 := hbe3.size
  obtain ⟨⟨r0, r1⟩, _⟩ := q1.at2
  obtain ⟨⟨o0, o1⟩, _⟩ := q2.at2
  clear hbe2 pm hu3 hm3 p1' p2' hne1 hne2
  by_cases h0 : 0 < (movesL side ks t l).length
  · have hd : decide (0 < (movesL side ks t l).length) = true := decide_eq_true h0
    have HV := Lib.hid (show stateV side ks t l = 1 by unfold stateV; rw [if_pos h0])
    clear h0
    go_wp2_with fail
    go_ret
    exact ⟨ri HV.out.symm, hbe3.alloc hz3 _⟩
  · have hd : decide (0 < (movesL side ks t l).length) = false := decide_eq_false h0
    have hb4 := hbe3.alloc hz3 (.cells #[.int .i64 (mvAt (movesL side ks t l) 0).1, .int .i64 (mvAt (movesL side ks t l) 0).2] 60)
    cases hc : checkB side ks l t
    · have HV := Lib.hid (show stateV side ks t l = 3 by unfold stateV; rw [if_neg h0, hc]; rfl)
      have HC := Lib.hid hc
      clear h0 hc
      go_wp2_with fail
      refine (inCheck_any _ _ _ _ _ _ _ t _ _ ((HR.out.below hb4).more hb4.size) ((HM.out.below hb4).more hb4.size) HOK.out HSH.out (by omega)).mono ?_
      rw [HC.out]
      rintro e w5 ⟨rfl, hb5⟩
      go_wp2_with fail
      go_ret
      exact ⟨ri HV.out.symm, hb4.trans (hb5.mono hb4.size)⟩
    · have HV := Lib.hid (show stateV side ks t l = 2 by unfold stateV; rw [if_neg h0, hc]; rfl)
      have HC := Lib.hid hc
      clear h0 hc
      go_wp2_with fail
      refine (inCheck_any _ _ _ _ _ _ _ t _ _ ((HR.out.below hb4).more hb4.size) ((HM.out.below hb4).more hb4.size) HOK.out HSH.out (by omega)).mono ?_
      rw [HC.out]
      rintro e w5 ⟨rfl, hb5⟩
      go_wp2_with fail
      go_ret
      exact ⟨ri HV.out.symm, hb4.trans (hb5.mono hb4.size)⟩
end Go.Proofs.YtoaajkkebnleaaaGreatDoor.Ko
