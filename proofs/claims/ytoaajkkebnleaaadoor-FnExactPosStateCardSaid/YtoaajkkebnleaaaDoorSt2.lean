/- PosState of the program and of the model. -/
import Derived.Test.YtoaajkkebnleaaaDoorSo
import Derived.Test.YtoaajkkebnleaaaDoorVm
import Derived.Test.YtoaajkkebnleaaaDoorPk
namespace Go.Proofs.YtoaajkkebnleaaaDoor.Ko
open Go.ChangeShapes Go.WideShapes Go.ChangeAt Go.RowKit Base Sq
set_option linter.unusedVariables false
set_option maxRecDepth 20000
attribute [local irreducible] wpQuiet

def stateP (side : Int) (ks : List Kd) (t : Int) (l : List St) : Int := if posB side ks t l = true then stateV side ks t l else 0

set_option maxHeartbeats 4000000 in
theorem l4State_any (side : Int) (A : Option Addr) (c : Nat) (ks : List Kd) (t : Int) (M : Option Addr) (cm : Nat) (l : List St) (w : World) (hR : IsKinds w w.heap.size A ks) (hM : IsSteps w w.heap.size M l)
    (hok : rulesOk side ks = true) (hsh : shapeB side ks t l = true) :
    Calls Tryd.prog 15 #[.agg #[.int .i64 side, .slice A ks.length c], .agg #[.int .i64 t, .slice M l.length cm]] w fun e w' => e = .returned (.int .i64 (stateV side ks t l)) ∧ Below w.heap.size w w' := by
  have HOK := Lib.hid hok
  have HSH := Lib.hid hsh
  have ht01 := (shapeB_facts hsh).1
  have HR := Lib.hid hR
  have HM := Lib.hid hM
  clear hok hsh hR hM
  have hb0 := (below_of w (.cells #[.int .i64 side, .slice A ks.length c] 33)).alloc (by first | (simp; done) | (simp; omega) | omega) (.cells #[.int .i64 t, .slice M l.length cm] 37)
  have p1 := (Blk.new w #[.int .i64 side, .slice A ks.length c] 33).alloc (.cells #[.int .i64 t, .slice M l.length cm] 37)
  have p2 := Blk.new (w.alloc (.cells #[.int .i64 side, .slice A ks.length c] 33)) #[.int .i64 t, .slice M l.length cm] 37
  simp only [World.size_alloc] at p2
  go_enter Tryd.func15, Tryd.ntmps15
  go_wp2_with fail
  generalize hW0 : (w.alloc _).alloc _ = W0 at *
  clear hW0
  refine (l4All_any side A c ks t M cm l _ ((HR.out.below hb0).more hb0.size) ((HM.out.below hb0).more hb0.size) HOK.out HSH.out).mono ?_
  rintro e w2 ⟨A2, c2, rfl, hmv, hb2⟩
  have q1 := p1.below hb2 p1.lt
  have q2 := p2.below hb2 p2.lt
  have hbe := hb0.trans (hb2.mono hb0.size)
  obtain ⟨⟨r0, r1⟩, _⟩ := q1.at2
  obtain ⟨⟨o0, o1⟩, _⟩ := q2.at2
  clear p1 p2 hb2 hb0 hmv
  by_cases h0 : 0 < (movesL side ks t l).length
  · have hd : decide (0 < (movesL side ks t l).length) = true := decide_eq_true h0
    have HV := Lib.hid (show stateV side ks t l = 1 by unfold stateV; rw [if_pos h0])
    clear h0
    go_wp2_with fail
    go_ret
    exact ⟨ri HV.out.symm, hbe⟩
  · have hd : decide (0 < (movesL side ks t l).length) = false := decide_eq_false h0
    cases hc : checkB side ks l t
    · have HV := Lib.hid (show stateV side ks t l = 3 by unfold stateV; rw [if_neg h0, hc]; rfl)
      have HC := Lib.hid hc
      clear h0 hc
      go_wp2_with fail
      refine (l3Check_any _ _ _ _ _ _ _ _ _ t _ ((HR.out.below hbe).more hbe.size) ((HM.out.below hbe).more hbe.size) HOK.out HSH.out (by omega)).mono ?_
      rw [HC.out]
      rintro e w5 ⟨rfl, hb5⟩
      go_wp2_with fail
      go_ret
      exact ⟨ri HV.out.symm, hbe.trans (hb5.mono hbe.size)⟩
    · have HV := Lib.hid (show stateV side ks t l = 2 by unfold stateV; rw [if_neg h0, hc]; rfl)
      have HC := Lib.hid hc
      clear h0 hc
      go_wp2_with fail
      refine (l3Check_any _ _ _ _ _ _ _ _ _ t _ ((HR.out.below hbe).more hbe.size) ((HM.out.below hbe).more hbe.size) HOK.out HSH.out (by omega)).mono ?_
      rw [HC.out]
      rintro e w5 ⟨rfl, hb5⟩
      go_wp2_with fail
      go_ret
      exact ⟨ri HV.out.symm, hbe.trans (hb5.mono hbe.size)⟩

set_option maxHeartbeats 4000000 in
theorem posState_any (side : Int) (A : Option Addr) (c : Nat) (ks : List Kd) (t : Int) (M : Option Addr) (cm : Nat) (l : List St) (w : World) (hR : IsKinds w w.heap.size A ks) (hM : IsSteps w w.heap.size M l) (hT : TabAt w)
    (hsm : Small ks) (hl : l.length ≤ 1048576) :
    Calls Tryd.prog 9 #[.agg #[.int .i64 side, .slice A ks.length c], .agg #[.int .i64 t, .slice M l.length cm]] w fun e w' => e = .returned (.int .i64 (stateP side ks t l)) ∧ Below w.heap.size w w' := by
  have hb0 := (below_of w (.cells #[.int .i64 side, .slice A ks.length c] 33)).alloc (by first | (simp; done) | (simp; omega) | omega) (.cells #[.int .i64 t, .slice M l.length cm] 37)
  have p1 := (Blk.new w #[.int .i64 side, .slice A ks.length c] 33).alloc (.cells #[.int .i64 t, .slice M l.length cm] 37)
  have p2 := Blk.new (w.alloc (.cells #[.int .i64 side, .slice A ks.length c] 33)) #[.int .i64 t, .slice M l.length cm] 37
  simp only [World.size_alloc] at p2
  have hR1 := (hR.below hb0).more hb0.size
  have hM1 := (hM.below hb0).more hb0.size
  have hT1 := hT.below hb0 hT.lt
  clear hR hM hT
  go_enter Tryd.func9, Tryd.ntmps9
  go_wp2_with fail
  generalize hW0 : (w.alloc _).alloc _ = W0 at *
  clear hW0
  refine (posOk_any _ _ _ _ _ _ _ _ _ hR1 hM1 hsm hl).mono ?_
  rintro e w2 ⟨rfl, hb2⟩
  have p1' := p1.below hb2 p1.lt
  have p2' := p2.below hb2 p2.lt
  have hR2 := (hR1.below hb2).more hb2.size
  have hM2 := (hM1.below hb2).more hb2.size
  have hT2 := hT1.keep hb2
  have hbe := hb0.trans (hb2.mono hb0.size)
  obtain ⟨⟨r0, r1⟩, _⟩ := p1'.at2
  obtain ⟨⟨o0, o1⟩, _⟩ := p2'.at2
  have hz2 := hbe.size
  clear p1 p2 hb0 hb2 hR1 hM1 hT1
  cases hp : posB side ks t l
  · have HN := Lib.hid (show stateP side ks t l = 0 by unfold stateP; rw [hp]; rfl)
    clear hp
    go_wp2_with fail
    go_ret
    exact ⟨ri HN.out.symm, hbe⟩
  · obtain ⟨hok, hsh, _⟩ := posB_facts hp
    have HO := Lib.hid hok
    have HS := Lib.hid hsh
    have HN := Lib.hid (show stateP side ks t l = stateV side ks t l by unfold stateP; rw [hp]; rfl)
    clear hp hok hsh
    go_wp2_with fail
    refine (stateOf_any side A c ks t M cm l _ hR2 hM2 hT2 HO.out HS.out).mono ?_
    rintro e w3 ⟨rfl, hb3⟩
    go_wp2_with fail
    go_ret
    exact ⟨ri HN.out.symm, hbe.trans (hb3.mono hz2)⟩

set_option maxHeartbeats 4000000 in
theorem specPosState_any (side : Int) (A : Option Addr) (c : Nat) (ks : List Kd) (t : Int) (M : Option Addr) (cm : Nat) (l : List St) (w : World) (hR : IsKinds w w.heap.size A ks) (hM : IsSteps w w.heap.size M l)
    (hsm : Small ks) (hl : l.length ≤ 1048576) :
    Calls Tryd.prog 6 #[.agg #[.int .i64 side, .slice A ks.length c], .agg #[.int .i64 t, .slice M l.length cm]] w fun e w' => e = .returned (.int .i64 (stateP side ks t l)) ∧ Below w.heap.size w w' := by
  have hb0 := (below_of w (.cells #[.int .i64 side, .slice A ks.length c] 33)).alloc (by first | (simp; done) | (simp; omega) | omega) (.cells #[.int .i64 t, .slice M l.length cm] 37)
  have p1 := (Blk.new w #[.int .i64 side, .slice A ks.length c] 33).alloc (.cells #[.int .i64 t, .slice M l.length cm] 37)
  have p2 := Blk.new (w.alloc (.cells #[.int .i64 side, .slice A ks.length c] 33)) #[.int .i64 t, .slice M l.length cm] 37
  simp only [World.size_alloc] at p2
  have hR1 := (hR.below hb0).more hb0.size
  have hM1 := (hM.below hb0).more hb0.size
  clear hR hM
  go_enter Tryd.func6, Tryd.ntmps6
  go_wp2_with fail
  generalize hW0 : (w.alloc _).alloc _ = W0 at *
  clear hW0
  refine (specPosOk_any _ _ _ _ _ _ _ _ _ hR1 hM1 hsm hl).mono ?_
  rintro e w2 ⟨rfl, hb2⟩
  have p1' := p1.below hb2 p1.lt
  have p2' := p2.below hb2 p2.lt
  have hR2 := (hR1.below hb2).more hb2.size
  have hM2 := (hM1.below hb2).more hb2.size
  have hbe := hb0.trans (hb2.mono hb0.size)
  obtain ⟨⟨r0, r1⟩, _⟩ := p1'.at2
  obtain ⟨⟨o0, o1⟩, _⟩ := p2'.at2
  have hz2 := hbe.size
  clear p1 p2 hb0 hb2 hR1 hM1
  cases hp : posB side ks t l
  · have HN := Lib.hid (show stateP side ks t l = 0 by unfold stateP; rw [hp]; rfl)
    clear hp
    go_wp2_with fail
    go_ret
    exact ⟨ri HN.out.symm, hbe⟩
  · obtain ⟨hok, hsh, _⟩ := posB_facts hp
    have HO := Lib.hid hok
    have HS := Lib.hid hsh
    have HN := Lib.hid (show stateP side ks t l = stateV side ks t l by unfold stateP; rw [hp]; rfl)
    clear hp hok hsh
    go_wp2_with fail
    refine (l4State_any side A c ks t M cm l _ hR2 hM2 HO.out HS.out).mono ?_
    rintro e w3 ⟨rfl, hb3⟩
    go_wp2_with fail
    go_ret
    exact ⟨ri HN.out.symm, hbe.trans (hb3.mono hz2)⟩
end Go.Proofs.YtoaajkkebnleaaaDoor.Ko
