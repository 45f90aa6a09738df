/- The walk of the law FnSquareGet. -/
import Derived.Test.YtebbcndfdjhioaaDoorLput
import Derived.Test.YtebbcndfdjhioaaDoorSj
import Derived.Test.YtebbcndfdjhioaaDoorDg
namespace Go.Proofs.YtebbcndfdjhioaaDoor.Laws
open Go.ChangeShapes Go.WideShapes Go.ChangeAt Go.RowKit Base Sq Rd
set_option linter.unusedVariables false
set_option maxRecDepth 20000
set_option maxHeartbeats 4000000 in
theorem fnSquareGet_walk (w : World) (A : Option Addr) (n c : Nat) (zs : List Int) (h : IsRow .u8 w A n c zs) :
    Calls Tryd.prog 3 #[.slice A n c] w fun e w' => e = .returned (.bool true) ∧ Below w.heap.size w w' := by
  by_cases hn : 1048576 < n
  · have hd : decide (1048576 < (n : Int)) = true := decide_eq_true (by omega)
    clear h
    go_enter Tryd.func3, Tryd.ntmps3
    go_wp2_with fail
    go_ret
    exact ⟨rfl, Below.refl _ _⟩
  have hd : decide (1048576 < (n : Int)) = false := decide_eq_false (by omega)
  have hn2 : n ≤ 1048576 := by omega
  have HH := Lib.hid h
  clear h hn
  go_enter Tryd.func3, Tryd.ntmps3
  go_wp2_with fail
  refine (drawSquareGet_any _ _ _ _ _ HH.out hn2).mono ?_
  rintro e w1 ⟨s, t, hz, rfl, hb1⟩
  have HL := Lib.hid (show t.size ≤ 4611686018427387903 by omega)
  clear hz
  go_wp2_with fail
  refine (impl_get _ _ _ HL.out).mono ?_
  rintro e w2 ⟨rfl, hb2⟩
  have hb := hb1.trans (hb2.mono hb1.size)
  clear hb1 hb2
  have HP := Lib.hid (fun h : 0 ≤ getV s t => put_get h)
  obtain ⟨G, hG⟩ : ∃ G, getV s t = G := ⟨_, rfl⟩
  have HG := Lib.hid hG
  rw [hG]
  clear hG
  by_cases hlt : G < 0
  · have hd2 : decide (G < 0) = true := decide_eq_true hlt
    go_wp2_with fail
    refine (spec_get _ _ _ HL.out).mono ?_
    rw [HG.out]
    rintro e w3 ⟨rfl, hb3⟩
    have hb4 := hb.trans (hb3.mono hb.size)
    clear hb hb3
    go_wp2_with fail
    refine (spec_get _ _ _ HL.out).mono ?_
    rw [HG.out]
    rintro e w4 ⟨rfl, hb5⟩
    have hb6 := hb4.trans (hb5.mono hb4.size)
    clear hb4 hb5
    go_wp2_with fail
    go_ret
    exact ⟨rb (by first | rfl | simp), hb6⟩
  · have hd2 : decide (G < 0) = false := decide_eq_false hlt
    have HV := Lib.hid (show putV s G = t by have := (HP.out (by rw [HG.out]; omega)).2; rwa [HG.out] at this)
    go_wp2_with fail
    refine (spec_get _ _ _ HL.out).mono ?_
    rw [HG.out]
    rintro e w3 ⟨rfl, hb3⟩
    have hb4 := hb.trans (hb3.mono hb.size)
    clear hb hb3
    go_wp2_with fail
    refine (squarePut_any _ _ _).mono ?_
    rw [HV.out]
    rintro e w4 ⟨rfl, hb5⟩
    have hb6 := hb4.trans (hb5.mono hb4.size)
    clear hb4 hb5
    go_wp2_with fail
    go_ret
    exact ⟨rb (by first | rfl | simp), hb6⟩
end Go.Proofs.YtebbcndfdjhioaaDoor.Laws
