/- The walk of the exact law FnExactHeapsBest. -/
import Derived.Test.YtiilijpljhnphaaJn
import Derived.Test.YtiilijpljhnphaaKi
import Derived.Test.YtiilijpljhnphaaKj
namespace Go.Proofs.Ytiilijpljhnphaa.Laws
open Go.ChangeShapes Go.WideShapes Go.ChangeAt Go.RowKit Base Sq In Ko Opn
set_option linter.unusedVariables false
set_option maxRecDepth 20000

set_option maxHeartbeats 16000000 in
theorem fnExactHeapsBest_walk {H : Type} {enc : TypeId × Value → H} {b0 : Nat} {d0 : DataW H} {pl0 : List MemPlace} {d1 : DataW H} {pl1 : List MemPlace} (w : World)
    (v0 : Value) (hv0 : Value.okWide Try.prog w .any b0 22 v0) (h0 : DataW.Trod enc Try.prog w 0 (fun _ => true) true 22 v0 d0 pl0)
    (v1 : Value) (hv1 : Value.okWide Try.prog w .any b0 22 v1) (h1 : DataW.Trod enc Try.prog w 0 (fun _ => true) true 22 v1 d1 pl1) :
    Calls Try.prog 7 #[v0, v1] w fun e w' => e = .returned (.bool true) ∧ Below w.heap.size w w' := by
  obtain ⟨A0, c0, z0, rfl, hn0, _, hs0⟩ := open_nums hv0 h0
  clear hv0 h0
  unfold maxLen at hn0
  obtain ⟨A1, c1, z1, rfl, hn1, _, hs1⟩ := open_nums hv1 h1
  clear hv1 h1
  unfold maxLen at hn1
  by_cases hbig0 : (1048576 : Int) < (z0.length : Int)
  · go_enter Try.func7, Try.ntmps7
    go_wp2_with fail
    go_ret
    exact ⟨rfl, (by repeat (first | exact Below.refl _ _ | assumption | (refine Below.alloc ?_ (by first | omega | (simp; done) | (simp; omega)) _) | (refine Below.setCell ?_ (by first | omega | (simp; done) | (simp; omega)) _) | refine Below.drew ?_))⟩
  have hl0 : z0.length ≤ 1048576 := by omega
  by_cases hbig1 : (1048576 : Int) < (z1.length : Int)
  · go_enter Try.func7, Try.ntmps7
    go_wp2_with fail
    go_ret
    exact ⟨rfl, (by repeat (first | exact Below.refl _ _ | assumption | (refine Below.alloc ?_ (by first | omega | (simp; done) | (simp; omega)) _) | (refine Below.setCell ?_ (by first | omega | (simp; done) | (simp; omega)) _) | refine Below.drew ?_))⟩
  have hl1 : z1.length ≤ 1048576 := by omega
  have hlenL : (bestH z0 z1).length ≤ 1048576 := bestH_len
  obtain ⟨LL, hLL⟩ : ∃ LL, LL = bestH z0 z1 := ⟨_, rfl⟩
  rw [← hLL] at hlenL
  have HLL := Lib.hid hLL
  clear hLL
  have HO0 := Lib.hid hs0
  clear hs0
  have HO1 := Lib.hid hs1
  clear hs1
  go_enter Try.func7, Try.ntmps7
  go_wp2_with fail
  have hW_0 : Below w.heap.size w w := Below.refl _ _
  have hz_00 := hW_0.size
  clear hbig0
  clear hbig1
  -- the model's
  refine (toIntS_any _ _ _ _ ((HO0.out.below hW_0).more hW_0.size) hl0).mono ?_
  rintro e wS0 ⟨gS0, cS0, rfl, hNx, hb⟩
  have hNy := hNx.ints
  clear hNx
  have hW_1 := hW_0.trans (hb.mono hW_0.size)
  have hz_1 := hb.size
  clear hb hW_0
  have S0_1 := hNy
  clear hNy
  go_wp2_with fail
  refine (toIntS_any _ _ _ _ ((HO1.out.below hW_1).more hW_1.size) hl1).mono ?_
  rintro e wS1 ⟨gS1, cS1, rfl, hNx, hb⟩
  have hNy := hNx.ints
  clear hNx
  have hW_2 := hW_1.trans (hb.mono hW_1.size)
  have S0_2 := S0_1.below (hb.mono (by omega))
  have hz_2 := hb.size
  clear hb hW_1 S0_1
  have S1_2 := hNy
  clear hNy
  go_wp2_with fail
  refine (specHeapsBest_any _ _ _ _ _ _ _ (S0_2.is.more (by omega)) (S1_2.is.more (by omega)) hl0 hl1).mono ?_
  rw [← HLL.out]
  rintro e wIw ⟨AIw, cIw, rfl, hIx, hb⟩
  have hW_3 := hW_2.trans (hb.mono hW_2.size)
  have S0_3 := S0_2.below (hb.mono (by omega))
  have S1_3 := S1_2.below (hb.mono (by omega))
  have hz_3 := hb.size
  clear hb hW_2 S0_2 S1_2
  have Iw_3 := hIx
  clear hIx
  go_wp2_with fail
  clear S0_3 S1_3
  -- the program's
  refine (toIntS_any _ _ _ _ ((HO0.out.below hW_3).more hW_3.size) hl0).mono ?_
  rintro e wX0 ⟨gX0, cX0, rfl, hNx, hb⟩
  have hNy := hNx.ints
  clear hNx
  have hW_4 := hW_3.trans (hb.mono hW_3.size)
  have Iw_4 := Iw_3.below (hb.mono (by omega))
  have hz_4 := hb.size
  clear hb hW_3 Iw_3
  have X0_4 := hNy
  clear hNy
  go_wp2_with fail
  refine (toIntS_any _ _ _ _ ((HO1.out.below hW_4).more hW_4.size) hl1).mono ?_
  rintro e wX1 ⟨gX1, cX1, rfl, hNx, hb⟩
  have hNy := hNx.ints
  clear hNx
  have hW_5 := hW_4.trans (hb.mono hW_4.size)
  have Iw_5 := Iw_4.below (hb.mono (by omega))
  have X0_5 := X0_4.below (hb.mono (by omega))
  have hz_5 := hb.size
  clear hb hW_4 Iw_4 X0_4
  have X1_5 := hNy
  clear hNy
  go_wp2_with fail
  refine (heapsBest_any _ _ _ _ _ _ _ (X0_5.is.more (by omega)) (X1_5.is.more (by omega)) hl0 hl1).mono ?_
  rw [← HLL.out]
  rintro e wIg ⟨AIg, cIg, rfl, hIx, hb⟩
  have hW_6 := hW_5.trans (hb.mono hW_5.size)
  have Iw_6 := Iw_5.below (hb.mono (by omega))
  have X0_6 := X0_5.below (hb.mono (by omega))
  have X1_6 := X1_5.below (hb.mono (by omega))
  have hz_6 := hb.size
  clear hb hW_5 Iw_5 X0_5 X1_5
  have Ig_6 := hIx
  clear hIx
  go_wp2_with fail
  refine (eqTakeS_same _ _ _ _ _ _ (Ig_6.is.more (by omega)) (Iw_6.is.more (by omega)) hlenL).mono ?_
  rintro e we1 ⟨rfl, hb⟩
  have hW_7 := hW_6.trans (hb.mono hW_6.size)
  have Iw_7 := Iw_6.below (hb.mono (by omega))
  have X0_7 := X0_6.below (hb.mono (by omega))
  have X1_7 := X1_6.below (hb.mono (by omega))
  have Ig_7 := Ig_6.below (hb.mono (by omega))
  have hz_7 := hb.size
  clear hb hW_6 Iw_6 X0_6 X1_6 Ig_6
  go_wp2_with fail
  refine (toIntS_any _ _ _ _ ((HO0.out.below hW_7).more hW_7.size) hl0).mono ?_
  rintro e wY ⟨gY, cY, rfl, hNx, hb⟩
  have hNy := hNx.ints
  clear hNx
  have hW_8 := hW_7.trans (hb.mono hW_7.size)
  have Iw_8 := Iw_7.below (hb.mono (by omega))
  have X0_8 := X0_7.below (hb.mono (by omega))
  have X1_8 := X1_7.below (hb.mono (by omega))
  have Ig_8 := Ig_7.below (hb.mono (by omega))
  have hz_8 := hb.size
  clear hb hW_7 Iw_7 X0_7 X1_7 Ig_7
  have Y_8 := hNy
  clear hNy
  go_wp2_with fail
  refine (eqIntS_same _ _ _ _ _ _ (X0_8.is.more (by omega)) (Y_8.is.more (by omega)) hl0).mono ?_
  rintro e wf0 ⟨rfl, hb⟩
  have hW_9 := hW_8.trans (hb.mono hW_8.size)
  have Iw_9 := Iw_8.below (hb.mono (by omega))
  have X0_9 := X0_8.below (hb.mono (by omega))
  have X1_9 := X1_8.below (hb.mono (by omega))
  have Ig_9 := Ig_8.below (hb.mono (by omega))
  have Y_9 := Y_8.below (hb.mono (by omega))
  have hz_9 := hb.size
  clear hb hW_8 Iw_8 X0_8 X1_8 Ig_8 Y_8
  go_wp2_with fail
  clear Y_9
  refine (toIntS_any _ _ _ _ ((HO1.out.below hW_9).more hW_9.size) hl1).mono ?_
  rintro e wY ⟨gY, cY, rfl, hNx, hb⟩
  have hNy := hNx.ints
  clear hNx
  have hW_10 := hW_9.trans (hb.mono hW_9.size)
  have Iw_10 := Iw_9.below (hb.mono (by omega))
  have X0_10 := X0_9.below (hb.mono (by omega))
  have X1_10 := X1_9.below (hb.mono (by omega))
  have Ig_10 := Ig_9.below (hb.mono (by omega))
  have hz_10 := hb.size
  clear hb hW_9 Iw_9 X0_9 X1_9 Ig_9
  have Y_10 := hNy
  clear hNy
  go_wp2_with fail
  refine (eqIntS_same _ _ _ _ _ _ (X1_10.is.more (by omega)) (Y_10.is.more (by omega)) hl1).mono ?_
  rintro e wf1 ⟨rfl, hb⟩
  have hW_11 := hW_10.trans (hb.mono hW_10.size)
  have Iw_11 := Iw_10.below (hb.mono (by omega))
  have X0_11 := X0_10.below (hb.mono (by omega))
  have X1_11 := X1_10.below (hb.mono (by omega))
  have Ig_11 := Ig_10.below (hb.mono (by omega))
  have Y_11 := Y_10.below (hb.mono (by omega))
  have hz_11 := hb.size
  clear hb hW_10 Iw_10 X0_10 X1_10 Ig_10 Y_10
  go_wp2_with fail
  clear Y_11
  -- marks
  refine (markIntS_any _ _ _ _ _ _ _ X0_11 hl0 (by omega) (by omega)).mono ?_
  rintro e wk0 ⟨rfl, hIm, sp⟩
  clear hIm
  have hW_12 := hW_11.trans (sp.toBelow (B := w.heap.size) (by omega) (by omega))
  have Iw_12 := Iw_11.span sp (by omega)
  have X1_12 := X1_11.span sp (by omega)
  have Ig_12 := Ig_11.span sp (by omega)
  have hz_12 := sp.size
  clear sp hW_11 Iw_11 X0_11 X1_11 Ig_11
  go_wp2_with fail
  refine (markIntS_any _ _ _ _ _ _ _ X1_12 hl1 (by omega) (by omega)).mono ?_
  rintro e wk1 ⟨rfl, hIm, sp⟩
  clear hIm
  have hkn : decide (1 + (z0.length : Int) + (z1.length : Int) < 0) = false := decide_eq_false (by omega)
  have hW_13 := hW_12.trans (sp.toBelow (B := w.heap.size) (by omega) (by omega))
  have Iw_13 := Iw_12.span sp (by omega)
  have Ig_13 := Ig_12.span sp (by omega)
  have hz_13 := sp.size
  clear sp hW_12 Iw_12 X1_12 Ig_12
  go_wp2_with fail
  refine (eqTakeS_same _ _ _ _ _ _ (Ig_13.is.more (by omega)) (Iw_13.is.more (by omega)) hlenL).mono ?_
  rintro e we2 ⟨rfl, hb⟩
  have hW_14 := hW_13.trans (hb.mono hW_13.size)
  have Iw_14 := Iw_13.below (hb.mono (by omega))
  have Ig_14 := Ig_13.below (hb.mono (by omega))
  have hz_14 := hb.size
  clear hb hW_13 Iw_13 Ig_13
  go_wp2_with fail
  have hln : decide (1 + 2 * (LL.length : Int) < 0) = false := decide_eq_false (by omega)
  refine (markTakeS_any _ _ _ _ _ _ _ Ig_14 hlenL (by omega) (by omega)).mono ?_
  rintro e wo ⟨rfl, hIm, sp⟩
  have hW_15 := hW_14.trans (sp.toBelow (B := w.heap.size) (by omega) (by omega))
  have Iw_15 := Iw_14.span sp (by omega)
  have hz_15 := sp.size
  clear sp hW_14 Iw_14 Ig_14
  have Im_15 := hIm
  clear hIm
  go_wp2_with fail
  refine (heldTakeS_any _ _ _ _ _ _ Im_15.is hlenL (by omega) (by omega)).mono ?_
  rintro e wh ⟨rfl, rfl⟩
  go_wp2_with fail
  refine (toIntS_any _ _ _ _ ((HO0.out.below hW_15).more hW_15.size) hl0).mono ?_
  rintro e wH0 ⟨gH0, cH0, rfl, hNx, hb⟩
  have hNy := hNx.ints
  clear hNx
  have hW_16 := hW_15.trans (hb.mono hW_15.size)
  have Iw_16 := Iw_15.below (hb.mono (by omega))
  have Im_16 := Im_15.below (hb.mono (by omega))
  have hz_16 := hb.size
  clear hb hW_15 Iw_15 Im_15
  have H0_16 := hNy
  clear hNy
  go_wp2_with fail
  refine (toIntS_any _ _ _ _ ((HO1.out.below hW_16).more hW_16.size) hl1).mono ?_
  rintro e wH1 ⟨gH1, cH1, rfl, hNx, hb⟩
  have hNy := hNx.ints
  clear hNx
  have hW_17 := hW_16.trans (hb.mono hW_16.size)
  have Iw_17 := Iw_16.below (hb.mono (by omega))
  have Im_17 := Im_16.below (hb.mono (by omega))
  have H0_17 := H0_16.below (hb.mono (by omega))
  have hz_17 := hb.size
  clear hb hW_16 Iw_16 Im_16 H0_16
  have H1_17 := hNy
  clear hNy
  go_wp2_with fail
  refine (heapsBest_any _ _ _ _ _ _ _ (H0_17.is.more (by omega)) (H1_17.is.more (by omega)) hl0 hl1).mono ?_
  rw [← HLL.out]
  rintro e wIh ⟨AIh, cIh, rfl, hIx, hb⟩
  have hW_18 := hW_17.trans (hb.mono hW_17.size)
  have Iw_18 := Iw_17.below (hb.mono (by omega))
  have Im_18 := Im_17.below (hb.mono (by omega))
  have H0_18 := H0_17.below (hb.mono (by omega))
  have H1_18 := H1_17.below (hb.mono (by omega))
  have hz_18 := hb.size
  clear hb hW_17 Iw_17 Im_17 H0_17 H1_17
  have Ih_18 := hIx
  clear hIx
  go_wp2_with fail
  refine (eqTakeS_same _ _ _ _ _ _ (Ih_18.is.more (by omega)) (Iw_18.is.more (by omega)) hlenL).mono ?_
  rintro e we3 ⟨rfl, hb⟩
  have hW_19 := hW_18.trans (hb.mono hW_18.size)
  have Iw_19 := Iw_18.below (hb.mono (by omega))
  have Im_19 := Im_18.below (hb.mono (by omega))
  have H0_19 := H0_18.below (hb.mono (by omega))
  have H1_19 := H1_18.below (hb.mono (by omega))
  have Ih_19 := Ih_18.below (hb.mono (by omega))
  have hz_19 := hb.size
  clear hb hW_18 Iw_18 Im_18 H0_18 H1_18 Ih_18
  go_wp2_with fail
  refine (heldTakeS_any _ _ _ _ _ _ Im_19.is hlenL (by omega) (by omega)).mono ?_
  rintro e wh ⟨rfl, rfl⟩
  go_wp2_with fail
  go_ret
  exact ⟨rfl, hW_19⟩
end Go.Proofs.Ytiilijpljhnphaa.Laws
