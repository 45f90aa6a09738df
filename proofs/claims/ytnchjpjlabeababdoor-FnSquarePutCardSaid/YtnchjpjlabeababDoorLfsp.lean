/- The walk of the law FnSquarePut. -/
import Derived.Test.YtnchjpjlabeababDoorLput
import Derived.Test.YtnchjpjlabeababDoorSk
import Derived.Test.YtnchjpjlabeababDoorDk
namespace Go.Proofs.YtnchjpjlabeababDoor.Laws
open Go.ChangeShapes Go.WideShapes Go.ChangeAt Go.RowKit Base Sq Rd
set_option linter.unusedVariables false
set_option maxRecDepth 20000
set_option maxHeartbeats 4000000 in
theorem fnSquarePut_walk (w : World) (A : Option Addr) (n c : Nat) (zs : List Int) (h : IsRow .u8 w A n c zs) :
    Calls Tryd.prog 3 #[.slice A n c] w fun e w' => e = .returned (.bool true) ∧ Below w.heap.size w w' := by
  by_cases hn : 1048576 < n
  · have hd : decide (1048576 < (n : Int)) = true := decide_eq_true (by omega)
    clear h
    go_enter Tryd.func3, Tryd.ntmps3
    go_wp2_with fail
    go_ret
    exact ⟨rfl, Below.refl _ _⟩
  have hd : decide (1048576 < (n : Int)) = false := decide_eq_false (by omega)
  have hn2 : n ≤ 1048576 := by omega
  have HH := Lib.hid h
  clear h hn
  go_enter Tryd.func3, Tryd.ntmps3
  go_wp2_with fail
  refine (drawSquarePut_any _ _ _ _ _ HH.out hn2).mono ?_
  rintro e w1 ⟨s, a, rfl, hb1⟩
  go_wp2_with fail
  refine (squarePut_any _ _ _).mono ?_
  rintro e w2 ⟨rfl, hb2⟩
  have hb := hb1.trans (hb2.mono hb1.size)
  clear hb1 hb2
  cases hk : okB s a
  · have HK := Lib.hid hk
    have hv : putV s a = ⟨#[]⟩ := by unfold putV; rw [hk]; rfl
    have HV := Lib.hid hv
    rw [hv]
    clear hk hv
    go_wp2_with fail
    refine (specSquarePut_any _ _ _).mono ?_
    rw [HV.out]
    rintro e w3 ⟨rfl, hb3⟩
    go_wp2_with (first | (go_at_call 12; refine (sq_ok _ _ _).mono ?_; rw [HK.out]; rintro e w' ⟨rfl, rfl⟩) | (go_at_call 13; refine (sp_sq_ok _ _ _).mono ?_; rw [HK.out]; rintro e w' ⟨rfl, rfl⟩))
    refine (specSquarePut_any _ _ _).mono ?_
    rw [HV.out]
    rintro e w4 ⟨rfl, hb4⟩
    go_wp2_with (first | (go_at_call 12; refine (sq_ok _ _ _).mono ?_; rw [HK.out]; rintro e w' ⟨rfl, rfl⟩) | (go_at_call 13; refine (sp_sq_ok _ _ _).mono ?_; rw [HK.out]; rintro e w' ⟨rfl, rfl⟩))
    go_ret
    have hb5 := hb.trans (hb3.mono hb.size)
    exact ⟨rfl, hb5.trans (hb4.mono hb5.size)⟩
  · have HK := Lib.hid hk
    have hv : putV s a = putS (a % s) (a / s) := by unfold putV; rw [hk]; rfl
    obtain ⟨hne, hne2⟩ := put_ne (a % s) (a / s)
    have hg := get_put hk
    have hem := put_em (a % s) (a / s)
    rw [hv]
    obtain ⟨G, hG⟩ : ∃ G, putS (a % s) (a / s) = G := ⟨_, rfl⟩
    rw [hG] at hv hne hne2 hg hem ⊢
    have hsz : G.size ≤ 4611686018427387903 := by rw [← hG]; show 2 ≤ 4611686018427387903; omega
    have HV := Lib.hid hv
    have HG := Lib.hid hg
    have HSZ := Lib.hid hsz
    clear hk hv hG hg hsz
    go_wp2_with fail
    refine (specSquarePut_any _ _ _).mono ?_
    rw [HV.out]
    rintro e w3 ⟨rfl, hb3⟩
    go_wp2_with (first | (go_at_call 12; refine (sq_ok _ _ _).mono ?_; rw [HK.out]; rintro e w' ⟨rfl, rfl⟩) | (go_at_call 13; refine (sp_sq_ok _ _ _).mono ?_; rw [HK.out]; rintro e w' ⟨rfl, rfl⟩))
    refine (impl_get _ _ _ HSZ.out).mono ?_
    rw [HG.out]
    rintro e w4 ⟨rfl, hb4⟩
    go_wp2_with fail
    go_ret
    have hb5 := hb.trans (hb3.mono hb.size)
    exact ⟨rb (by first | rfl | simp), hb5.trans (hb4.mono hb5.size)⟩
end Go.Proofs.YtnchjpjlabeababDoor.Laws
