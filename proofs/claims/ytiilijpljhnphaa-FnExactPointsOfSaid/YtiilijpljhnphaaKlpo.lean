/- The walk of the exact law FnExactPointsOf. -/
import Derived.Test.YtiilijpljhnphaaJn
import Derived.Test.YtiilijpljhnphaaJrn
import Derived.Test.YtiilijpljhnphaaKt2
namespace Go.Proofs.Ytiilijpljhnphaa.Laws
open Go.ChangeShapes Go.WideShapes Go.ChangeAt Go.RowKit Base Sq In Ko Opn
set_option linter.unusedVariables false
set_option maxRecDepth 20000

set_option maxHeartbeats 16000000 in
theorem fnExactPointsOf_walk {H : Type} {enc : TypeId × Value → H} {b0 : Nat} {d1 : DataW H} {pl1 : List MemPlace} (w : World) (q0 : Int) (hq0 : (Lit.int .i64 q0).wf = true)
    (v1 : Value) (hv1 : Value.okWide Try.prog w .any b0 40 v1) (h1 : DataW.Trod enc Try.prog w 0 (fun _ => true) true 40 v1 d1 pl1) :
    Calls Try.prog 13 #[.int .i64 q0, v1] w fun e w' => e = .returned (.bool true) ∧ Below w.heap.size w w' := by
  obtain ⟨A1, c1, z1, rfl, hn1, hs1⟩ := open_results hv1 h1
  clear hv1 h1
  unfold maxLen at hn1
  clear hq0
  by_cases hbig1 : (1048576 : Int) - (z1.length : Int) < 0
  · go_enter Try.func13, Try.ntmps13
    go_wp2_with fail
    refine (szResultS_any _ _ _ _ _ (by omega) (by omega) (by omega)).mono ?_
    rw [if_pos (by omega)]
    rintro e w2 ⟨rfl, rfl⟩
    go_wp2_with fail
    go_ret
    exact ⟨rfl, (by repeat (first | exact Below.refl _ _ | assumption | (refine Below.alloc ?_ (by first | omega | (simp; done) | (simp; omega)) _) | (refine Below.setCell ?_ (by first | omega | (simp; done) | (simp; omega)) _) | refine Below.drew ?_))⟩
  have hl1 : z1.length ≤ 1048576 := by omega
  have hlenL : (pointsV q0 z1).length ≤ 1048576 := pointsV_len
  obtain ⟨LL, hLL⟩ : ∃ LL, LL = pointsV q0 z1 := ⟨_, rfl⟩
  rw [← hLL] at hlenL
  have HLL := Lib.hid hLL
  clear hLL
  have HO1 := Lib.hid hs1
  clear hs1
  go_enter Try.func13, Try.ntmps13
  go_wp2_with fail
  refine (szResultS_any _ _ _ _ _ (by omega) (by omega) (by omega)).mono ?_
  rw [if_neg (by omega)]
  rintro e w2 ⟨rfl, rfl⟩
  have hlft : decide ((1048576 : Int) - (z1.length : Int) < 0) = false := decide_eq_false (by omega)
  go_wp2_with fail
  clear hlft
  have hW_0 : Below w.heap.size w w := Below.refl _ _
  have hz_00 := hW_0.size
  clear hbig1
  -- the model's
  refine (toResultS_any _ _ _ _ ((HO1.out.below hW_0).more hW_0.size) hl1).mono ?_
  rintro e wS1 ⟨gS1, cS1, rfl, hNx, hb⟩
  have hNy := hNx.a
  clear hNx
  have hW_1 := hW_0.trans (hb.mono hW_0.size)
  have hz_1 := hb.size
  clear hb hW_0
  have S1_1 := hNy
  clear hNy
  go_wp2_with fail
  refine (specPointsOf_any _ _ _ _ _ (S1_1.is.more (by omega)) hl1).mono ?_
  rw [← HLL.out]
  rintro e wIw ⟨AIw, cIw, rfl, hIx, hb⟩
  have hW_2 := hW_1.trans (hb.mono hW_1.size)
  have S1_2 := S1_1.below (hb.mono (by omega))
  have hz_2 := hb.size
  clear hb hW_1 S1_1
  have Iw_2 := hIx
  clear hIx
  go_wp2_with fail
  clear S1_2
  -- the program's
  refine (toResultS_any _ _ _ _ ((HO1.out.below hW_2).more hW_2.size) hl1).mono ?_
  rintro e wX1 ⟨gX1, cX1, rfl, hNx, hb⟩
  have hNy := hNx.a
  clear hNx
  have hW_3 := hW_2.trans (hb.mono hW_2.size)
  have Iw_3 := Iw_2.below (hb.mono (by omega))
  have hz_3 := hb.size
  clear hb hW_2 Iw_2
  have X1_3 := hNy
  clear hNy
  go_wp2_with fail
  refine (pointsOf_any _ _ _ _ _ (X1_3.is.more (by omega)) hl1).mono ?_
  rw [← HLL.out]
  rintro e wIg ⟨AIg, cIg, rfl, hIx, hb⟩
  have hW_4 := hW_3.trans (hb.mono hW_3.size)
  have Iw_4 := Iw_3.below (hb.mono (by omega))
  have X1_4 := X1_3.below (hb.mono (by omega))
  have hz_4 := hb.size
  clear hb hW_3 Iw_3 X1_3
  have Ig_4 := hIx
  clear hIx
  go_wp2_with fail
  refine (eqIntS_same _ _ _ _ _ _ (Ig_4.is.more (by omega)) (Iw_4.is.more (by omega)) hlenL).mono ?_
  rintro e we1 ⟨rfl, hb⟩
  have hW_5 := hW_4.trans (hb.mono hW_4.size)
  have Iw_5 := Iw_4.below (hb.mono (by omega))
  have X1_5 := X1_4.below (hb.mono (by omega))
  have Ig_5 := Ig_4.below (hb.mono (by omega))
  have hz_5 := hb.size
  clear hb hW_4 Iw_4 X1_4 Ig_4
  go_wp2_with fail
  refine (toResultS_any _ _ _ _ ((HO1.out.below hW_5).more hW_5.size) hl1).mono ?_
  rintro e wY ⟨gY, cY, rfl, hNx, hb⟩
  have hNy := hNx.a
  clear hNx
  have hW_6 := hW_5.trans (hb.mono hW_5.size)
  have Iw_6 := Iw_5.below (hb.mono (by omega))
  have X1_6 := X1_5.below (hb.mono (by omega))
  have Ig_6 := Ig_5.below (hb.mono (by omega))
  have hz_6 := hb.size
  clear hb hW_5 Iw_5 X1_5 Ig_5
  have Y_6 := hNy
  clear hNy
  go_wp2_with fail
  refine (eqResultS_same _ _ _ _ _ _ (X1_6.is.more (by omega)) (Y_6.is.more (by omega)) hl1).mono ?_
  rintro e wf1 ⟨rfl, hb⟩
  have hW_7 := hW_6.trans (hb.mono hW_6.size)
  have Iw_7 := Iw_6.below (hb.mono (by omega))
  have X1_7 := X1_6.below (hb.mono (by omega))
  have Ig_7 := Ig_6.below (hb.mono (by omega))
  have Y_7 := Y_6.below (hb.mono (by omega))
  have hz_7 := hb.size
  clear hb hW_6 Iw_6 X1_6 Ig_6 Y_6
  go_wp2_with fail
  clear Y_7
  -- marks
  refine (markResultS_any _ _ _ _ _ _ _ X1_7 hl1 (by omega) (by omega)).mono ?_
  rintro e wk1 ⟨rfl, hIm, sp⟩
  clear hIm
  have hkn : decide (1 + 3 * (z1.length : Int) < 0) = false := decide_eq_false (by omega)
  have hW_8 := hW_7.trans (sp.toBelow (B := w.heap.size) (by omega) (by omega))
  have Iw_8 := Iw_7.span sp (by omega)
  have Ig_8 := Ig_7.span sp (by omega)
  have hz_8 := sp.size
  clear sp hW_7 Iw_7 X1_7 Ig_7
  go_wp2_with fail
  refine (eqIntS_same _ _ _ _ _ _ (Ig_8.is.more (by omega)) (Iw_8.is.more (by omega)) hlenL).mono ?_
  rintro e we2 ⟨rfl, hb⟩
  have hW_9 := hW_8.trans (hb.mono hW_8.size)
  have Iw_9 := Iw_8.below (hb.mono (by omega))
  have Ig_9 := Ig_8.below (hb.mono (by omega))
  have hz_9 := hb.size
  clear hb hW_8 Iw_8 Ig_8
  go_wp2_with fail
  have hln : decide (1 + (LL.length : Int) < 0) = false := decide_eq_false (by omega)
  refine (markIntS_any _ _ _ _ _ _ _ Ig_9 hlenL (by omega) (by omega)).mono ?_
  rintro e wo ⟨rfl, hIm, sp⟩
  have hW_10 := hW_9.trans (sp.toBelow (B := w.heap.size) (by omega) (by omega))
  have Iw_10 := Iw_9.span sp (by omega)
  have hz_10 := sp.size
  clear sp hW_9 Iw_9 Ig_9
  have Im_10 := hIm
  clear hIm
  go_wp2_with fail
  refine (heldIntS_any _ _ _ _ _ _ Im_10.is hlenL (by omega) (by omega)).mono ?_
  rintro e wh ⟨rfl, rfl⟩
  go_wp2_with fail
  refine (toResultS_any _ _ _ _ ((HO1.out.below hW_10).more hW_10.size) hl1).mono ?_
  rintro e wH1 ⟨gH1, cH1, rfl, hNx, hb⟩
  have hNy := hNx.a
  clear hNx
  have hW_11 := hW_10.trans (hb.mono hW_10.size)
  have Iw_11 := Iw_10.below (hb.mono (by omega))
  have Im_11 := Im_10.below (hb.mono (by omega))
  have hz_11 := hb.size
  clear hb hW_10 Iw_10 Im_10
  have H1_11 := hNy
  clear hNy
  go_wp2_with fail
  refine (pointsOf_any _ _ _ _ _ (H1_11.is.more (by omega)) hl1).mono ?_
  rw [← HLL.out]
  rintro e wIh ⟨AIh, cIh, rfl, hIx, hb⟩
  have hW_12 := hW_11.trans (hb.mono hW_11.size)
  have Iw_12 := Iw_11.below (hb.mono (by omega))
  have Im_12 := Im_11.below (hb.mono (by omega))
  have H1_12 := H1_11.below (hb.mono (by omega))
  have hz_12 := hb.size
  clear hb hW_11 Iw_11 Im_11 H1_11
  have Ih_12 := hIx
  clear hIx
  go_wp2_with fail
  refine (eqIntS_same _ _ _ _ _ _ (Ih_12.is.more (by omega)) (Iw_12.is.more (by omega)) hlenL).mono ?_
  rintro e we3 ⟨rfl, hb⟩
  have hW_13 := hW_12.trans (hb.mono hW_12.size)
  have Iw_13 := Iw_12.below (hb.mono (by omega))
  have Im_13 := Im_12.below (hb.mono (by omega))
  have H1_13 := H1_12.below (hb.mono (by omega))
  have Ih_13 := Ih_12.below (hb.mono (by omega))
  have hz_13 := hb.size
  clear hb hW_12 Iw_12 Im_12 H1_12 Ih_12
  go_wp2_with fail
  refine (heldIntS_any _ _ _ _ _ _ Im_13.is hlenL (by omega) (by omega)).mono ?_
  rintro e wh ⟨rfl, rfl⟩
  go_wp2_with fail
  go_ret
  exact ⟨rfl, hW_13⟩
end Go.Proofs.Ytiilijpljhnphaa.Laws
