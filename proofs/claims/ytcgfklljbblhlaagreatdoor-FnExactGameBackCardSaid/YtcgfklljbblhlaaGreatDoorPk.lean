/- PosOk of the program and of the model. -/
import Derived.Test.YtcgfklljbblhlaaGreatDoorSh
import Derived.Test.YtcgfklljbblhlaaGreatDoorCs
namespace Go.Proofs.YtcgfklljbblhlaaGreatDoor.Ko
open Go.ChangeShapes Go.WideShapes Go.ChangeAt Go.RowKit Base Sq
set_option linter.unusedVariables false
set_option maxRecDepth 20000
attribute [local irreducible] wpQuiet

/-- a valid position of valid rules -/
def posB (side : Int) (ks : List Kd) (t : Int) (l : List St) : Bool := rulesOk side ks && posOk side ks t l
theorem posB_shape {side t : Int} {ks : List Kd} {l : List St} (h : shapeB side ks t l = true) : (0 ≤ t ∧ t ≤ 1) ∧ ((1 - t = 0 ∨ 1 - t = 1) ∧ (t = 0 ∨ t = 1)) := by
  have := (shapeB_facts h).1
  omega
theorem posB_facts {side t : Int} {ks : List Kd} {l : List St} (h : posB side ks t l = true) : rulesOk side ks = true ∧ shapeB side ks t l = true ∧ checkB side ks l (1 - t) = false := by
  unfold posB posOk at h
  simp only [Bool.and_eq_true, Bool.not_eq_true'] at h
  exact ⟨h.1, h.2.1, h.2.2⟩

set_option maxHeartbeats 2000000 in
theorem posOk_any (side : Int) (A : Option Addr) (c : Nat) (ks : List Kd) (t : Int) (M : Option Addr) (cm : Nat) (l : List St) (w : World) (hR : IsKinds w w.heap.size A ks) (hM : IsSteps w w.heap.size M l)
    (hsm : Small ks) (hl : l.length ≤ 1048576) :
    Calls Tryz.prog 56 #[.agg #[.int .i64 side, .slice A ks.length c], .agg #[.int .i64 t, .slice M l.length cm]] w fun e w' => e = .returned (.bool (posB side ks t l)) ∧ Below w.heap.size w w' := by
  go_enter Tryz.func56, Tryz.ntmps56
  go_wp2_with fail
  have hb0 : Below w.heap.size w ((w.alloc (.cells #[.int .i64 side, .slice A ks.length c] 40)).alloc (.cells #[.int .i64 t, .slice M l.length cm] 35)) := (by repeat (first | exact Below.refl _ _ | assumption | (refine Below.alloc ?_ (by first | omega | (simp; done) | (simp; omega)) _) | (refine Below.setCell ?_ (by first | omega | (simp; done) | (simp; omega)) _) | refine Below.drew ?_))
  have p1 := (Blk.new w #[.int .i64 side, .slice A ks.length c] 40).alloc (.cells #[.int .i64 t, .slice M l.length cm] 35)
  have p2 := Blk.new (w.alloc (.cells #[.int .i64 side, .slice A ks.length c] 40)) #[.int .i64 t, .slice M l.length cm] 35
  simp only [World.size_alloc] at p2
  generalize hW0 : (w.alloc _).alloc _ = W0 at *
  clear hW0
  refine (rulesOk_any _ _ _ _ _ ((hR.below hb0).more hb0.size) hsm).mono ?_
  rintro e w2 ⟨rfl, hb2⟩
  have p1' := p1.below hb2 p1.lt
  have p2' := p2.below hb2 p2.lt
  have hb0' := hb0.trans (hb2.mono hb0.size)
  obtain ⟨⟨r0, r1⟩, _⟩ := p1'.at2
  obtain ⟨⟨o0, o1⟩, _⟩ := p2'.at2
  clear p1 p2 hb0 hb2
  cases hok : rulesOk side ks
  · have HO := Lib.hid hok
    clear hok
    go_wp2_with fail
    go_ret
    exact ⟨rb (by unfold posB; rw [HO.out]; rfl), hb0'⟩
  · have HO := Lib.hid hok
    clear hok
    cases hpl : inB t 0 1
    · have HP := Lib.hid hpl
      go_wp2_with (go_at_call 82; refine (playerOk_any _ _).mono ?_; rw [HP.out]; rintro e w' ⟨rfl, rfl⟩)
      go_ret
      exact ⟨rb (by unfold posB posOk; rw [shape_men, HO.out, HP.out]; rfl), hb0'⟩
    · have HP := Lib.hid hpl
      obtain ⟨ht1, ht2⟩ := inB_facts hpl
      clear hpl
      go_wp2_with (go_at_call 82; refine (playerOk_any _ _).mono ?_; rw [HP.out]; rintro e w' ⟨rfl, rfl⟩)
      refine (menOk_any _ _ _ _ _ _ _ _ ((hR.below hb0').more hb0'.size) ((hM.below hb0').more hb0'.size) HO.out hl).mono ?_
      rintro e w3 ⟨rfl, hb3⟩
      have p1 := p1'.below hb3 p1'.lt
      have p2 := p2'.below hb3 p2'.lt
      have hb0 := hb0'.trans (hb3.mono hb0'.size)
      obtain ⟨⟨r0, r1⟩, _⟩ := p1.at2
      obtain ⟨⟨o0, o1⟩, _⟩ := p2.at2
      clear p1' p2' hb0' hb3
      cases hmn : menB side ks l
      · have HM := Lib.hid hmn
        clear hmn
        go_wp2_with fail
        go_ret
        exact ⟨rb (by unfold posB posOk; rw [shape_men, HO.out, HP.out, HM.out]; rfl), hb0⟩
      · have HSH := Lib.hid (show shapeB side ks t l = true by rw [shape_men, HP.out, hmn]; rfl)
        clear hmn
        go_wp2_with fail
        refine (inCheck_any _ _ _ _ _ _ _ t _ _ ((hR.below hb0).more hb0.size) ((hM.below hb0).more hb0.size) HO.out HSH.out (by omega)).mono ?_
        rintro e w4 ⟨rfl, hb4⟩
        go_wp2_with fail
        go_ret
        exact ⟨rb (by unfold posB posOk; rw [HO.out, HSH.out]; simp), hb0.trans (hb4.mono hb0.size)⟩

set_option maxHeartbeats 2000000 in
theorem l3Ok_any (side : Int) (A : Option Addr) (c : Nat) (ks : List Kd) (t : Int) (M : Option Addr) (cm : Nat) (l : List St) (w : World) (hR : IsKinds w w.heap.size A ks) (hM : IsSteps w w.heap.size M l)
    (hok : rulesOk side ks = true) (hl : l.length ≤ 1048576) :
    Calls Tryz.prog 70 #[.agg #[.int .i64 side, .slice A ks.length c], .agg #[.int .i64 t, .slice M l.length cm]] w fun e w' => e = .returned (.bool (posOk side ks t l)) ∧ Below w.heap.size w w' := by
  have HO := Lib.hid hok
  clear hok
  go_enter Tryz.func70, Tryz.ntmps70
  go_wp2_with fail
  have hb0 : Below w.heap.size w ((w.alloc (.cells #[.int .i64 side, .slice A ks.length c] 40)).alloc (.cells #[.int .i64 t, .slice M l.length cm] 35)) := (by repeat (first | exact Below.refl _ _ | assumption | (refine Below.alloc ?_ (by first | omega | (simp; done) | (simp; omega)) _) | (refine Below.setCell ?_ (by first | omega | (simp; done) | (simp; omega)) _) | refine Below.drew ?_))
  have p1 := (Blk.new w #[.int .i64 side, .slice A ks.length c] 40).alloc (.cells #[.int .i64 t, .slice M l.length cm] 35)
  have p2 := Blk.new (w.alloc (.cells #[.int .i64 side, .slice A ks.length c] 40)) #[.int .i64 t, .slice M l.length cm] 35
  simp only [World.size_alloc] at p2
  generalize hW0 : (w.alloc _).alloc _ = W0 at *
  clear hW0
  refine (l3Shape_any _ _ _ _ _ _ _ _ _ ((hR.below hb0).more hb0.size) ((hM.below hb0).more hb0.size) HO.out hl).mono ?_
  rintro e w2 ⟨rfl, hb2⟩
  have p1' := p1.below hb2 p1.lt
  have p2' := p2.below hb2 p2.lt
  have hb0' := hb0.trans (hb2.mono hb0.size)
  obtain ⟨⟨r0, r1⟩, _⟩ := p1'.at2
  obtain ⟨⟨o0, o1⟩, _⟩ := p2'.at2
  clear p1 p2 hb0 hb2
  cases hsh : shapeB side ks t l
  · have HS := Lib.hid hsh
    clear hsh
    go_wp2_with fail
    go_ret
    exact ⟨rb (by unfold posOk; rw [HS.out]; rfl), hb0'⟩
  · have HS := Lib.hid hsh
    obtain ⟨⟨ht1, ht2⟩, ht3, _⟩ := posB_shape hsh
    clear hsh
    go_wp2_with fail
    refine (l3Check_any _ _ _ _ _ t _ _ _ _ _ ((hR.below hb0').more hb0'.size) ((hM.below hb0').more hb0'.size) HO.out HS.out (by omega)).mono ?_
    rintro e w4 ⟨rfl, hb4⟩
    go_wp2_with fail
    go_ret
    exact ⟨rb (by unfold posOk; rw [HS.out]; simp), hb0'.trans (hb4.mono hb0'.size)⟩

/-- whether the player to move is in check, in a valid position -/
def posChk (side : Int) (ks : List Kd) (t : Int) (l : List St) : Bool := posB side ks t l && checkB side ks l t

end Go.Proofs.YtcgfklljbblhlaaGreatDoor.Ko
