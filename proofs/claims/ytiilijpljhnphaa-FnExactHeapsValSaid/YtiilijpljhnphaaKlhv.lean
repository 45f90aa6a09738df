/- The walk of the exact law FnExactHeapsVal. -/
import Derived.Test.YtiilijpljhnphaaJn
import Derived.Test.YtiilijpljhnphaaKe
import Derived.Deep.RegionHeld3
namespace Go.Proofs.Ytiilijpljhnphaa.Laws
open Go.ChangeShapes Go.WideShapes Go.ChangeAt Go.RowKit Base Sq Ko Opn
set_option linter.unusedVariables false
set_option maxRecDepth 20000

set_option maxHeartbeats 16000000 in
theorem fnExactHeapsVal_walk {H : Type} {enc : TypeId × Value → H} {b0 : Nat} {d0 : DataW H} {pl0 : List MemPlace} {d1 : DataW H} {pl1 : List MemPlace} (w : World)
    (v0 : Value) (hv0 : Value.okWide Try.prog w .any b0 22 v0) (h0 : DataW.Trod enc Try.prog w 0 (fun _ => true) true 22 v0 d0 pl0)
    (v1 : Value) (hv1 : Value.okWide Try.prog w .any b0 22 v1) (h1 : DataW.Trod enc Try.prog w 0 (fun _ => true) true 22 v1 d1 pl1) :
    Calls Try.prog 5 #[v0, v1] w fun e w' => e = .returned (.bool true) ∧ Below w.heap.size w w' := by
  obtain ⟨A0, c0, z0, rfl, hn0, _, hs0⟩ := open_nums hv0 h0
  obtain ⟨A1, c1, z1, rfl, hn1, _, hs1⟩ := open_nums hv1 h1
  clear hv0 h0 hv1 h1
  unfold maxLen at hn0
  unfold maxLen at hn1
  by_cases hbig0 : (1048576 : Int) < (z0.length : Int)
  · go_enter Try.func5, Try.ntmps5
    go_wp2_with fail
    go_ret
    exact ⟨rfl, (by repeat (first | exact Below.refl _ _ | assumption | (refine Below.alloc ?_ (by first | omega | (simp; done) | (simp; omega)) _) | (refine Below.setCell ?_ (by first | omega | (simp; done) | (simp; omega)) _) | refine Below.drew ?_))⟩
  have hl0 : z0.length ≤ 1048576 := by omega
  by_cases hbig1 : (1048576 : Int) < (z1.length : Int)
  · go_enter Try.func5, Try.ntmps5
    go_wp2_with fail
    go_ret
    exact ⟨rfl, (by repeat (first | exact Below.refl _ _ | assumption | (refine Below.alloc ?_ (by first | omega | (simp; done) | (simp; omega)) _) | (refine Below.setCell ?_ (by first | omega | (simp; done) | (simp; omega)) _) | refine Below.drew ?_))⟩
  have hl1 : z1.length ≤ 1048576 := by omega
  go_enter Try.func5, Try.ntmps5
  go_wp2_with fail
  clear hbig0
  clear hbig1
  have hW0 : Below w.heap.size w w := (by repeat (first | exact Below.refl _ _ | assumption | (refine Below.alloc ?_ (by first | omega | (simp; done) | (simp; omega)) _) | (refine Below.setCell ?_ (by first | omega | (simp; done) | (simp; omega)) _) | refine Below.drew ?_))
  have HO0 := Lib.hid hs0
  clear hs0
  have HO1 := Lib.hid hs1
  clear hs1
  go_wp2_with fail
  -- the model's
  refine (toIntS_any _ _ _ _ ((HO0.out.below hW0).more hW0.size) hl0).mono ?_
  rintro e wn0 ⟨gn0, cn0, rfl, hN0_, hbn0⟩
  have hW_1 := hW0.trans (hbn0.mono hW0.size)
  clear hW0
  clear hbn0
  go_wp2_with fail
  refine (toIntS_any _ _ _ _ ((HO1.out.below hW_1).more hW_1.size) hl1).mono ?_
  rintro e wn1 ⟨gn1, cn1, rfl, hN1_, hbn1⟩
  have hW_2 := hW_1.trans (hbn1.mono hW_1.size)
  have hN0_2 := hN0_.below hbn1
  clear hW_1 hN0_
  clear hbn1
  go_wp2_with fail
  refine (specHeapsVal_any _ _ _ _ _ _ _ hN0_2.is hN1_.is hl0 hl1).mono ?_
  rintro e wsp ⟨rfl, hbs⟩
  clear hN0_2 hN1_
  have hW_3 := hW_2.trans (hbs.mono hW_2.size)
  clear hW_2
  clear hbs
  go_wp2_with fail
  refine (toIntS_any _ _ _ _ ((HO0.out.below hW_3).more hW_3.size) hl0).mono ?_
  rintro e wx0 ⟨g0, cx0, rfl, hNx, hb⟩
  have hW_4 := hW_3.trans (hb.mono hW_3.size)
  clear hW_3
  have hN0_4 := hNx
  clear hNx hb
  go_wp2_with fail
  refine (toIntS_any _ _ _ _ ((HO1.out.below hW_4).more hW_4.size) hl1).mono ?_
  rintro e wx1 ⟨g1, cx1, rfl, hNx, hb⟩
  have hW_5 := hW_4.trans (hb.mono hW_4.size)
  have hN0_5 := hN0_4.below hb
  clear hW_4 hN0_4
  have hN1_5 := hNx
  clear hNx hb
  go_wp2_with fail
  refine (heapsVal_any _ _ _ _ _ _ _ hN0_5.is hN1_5.is hl0 hl1).mono ?_
  rintro e wim ⟨rfl, hb⟩
  have hW_6 := hW_5.trans (hb.mono hW_5.size)
  have hN0_6 := hN0_5.below hb
  have hN1_6 := hN1_5.below hb
  clear hW_5 hN0_5 hN1_5
  clear hb
  go_wp2_with fail
  refine (toIntS_any _ _ _ _ ((HO0.out.below hW_6).more hW_6.size) hl0).mono ?_
  rintro e wa0 ⟨ga, ca, rfl, hna, hba⟩
  have hNk := hN0_6.below hba
  go_wp2_with fail
  refine (eqIntS_same _ _ _ _ _ _ hNk.is hna.is hl0).mono ?_
  rintro e wq0 ⟨rfl, hbb⟩
  have hb := hba.trans (hbb.mono hba.size)
  clear hba hbb hna hNk
  have hW_7 := hW_6.trans (hb.mono hW_6.size)
  have hN0_7 := hN0_6.below hb
  have hN1_7 := hN1_6.below hb
  clear hW_6 hN0_6 hN1_6
  clear hb
  go_wp2_with fail
  refine (toIntS_any _ _ _ _ ((HO1.out.below hW_7).more hW_7.size) hl1).mono ?_
  rintro e wa1 ⟨ga, ca, rfl, hna, hba⟩
  have hNk := hN1_7.below hba
  go_wp2_with fail
  refine (eqIntS_same _ _ _ _ _ _ hNk.is hna.is hl1).mono ?_
  rintro e wq1 ⟨rfl, hbb⟩
  have hb := hba.trans (hbb.mono hba.size)
  clear hba hbb hna hNk
  have hW_8 := hW_7.trans (hb.mono hW_7.size)
  have hN0_8 := hN0_7.below hb
  have hN1_8 := hN1_7.below hb
  clear hW_7 hN0_7 hN1_7
  clear hb
  go_wp2_with fail
  go_ret
  exact ⟨rfl, hW_8⟩
end Go.Proofs.Ytiilijpljhnphaa.Laws
