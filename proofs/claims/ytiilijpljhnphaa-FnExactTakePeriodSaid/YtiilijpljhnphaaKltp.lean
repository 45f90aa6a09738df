/- The walk of the exact law FnExactTakePeriod. -/
import Derived.Test.YtiilijpljhnphaaJn
import Derived.Test.YtiilijpljhnphaaPes
import Derived.Deep.RegionHeld3
namespace Go.Proofs.Ytiilijpljhnphaa.Laws
open Go.ChangeShapes Go.WideShapes Go.ChangeAt Go.RowKit Base Sq Ko Opn Per
set_option linter.unusedVariables false
set_option maxRecDepth 20000

set_option maxHeartbeats 16000000 in
theorem fnExactTakePeriod_walk {H : Type} {enc : TypeId × Value → H} {b0 : Nat} {d0 : DataW H} {pl0 : List MemPlace} (w : World)
    (v0 : Value) (hv0 : Value.okWide Try.prog w .any b0 22 v0) (h0 : DataW.Trod enc Try.prog w 0 (fun _ => true) true 22 v0 d0 pl0) :
    Calls Try.prog 8 #[v0] w fun e w' => e = .returned (.bool true) ∧ Below w.heap.size w w' := by
  obtain ⟨A0, c0, z0, rfl, hn0, _, hs0⟩ := open_nums hv0 h0
  clear hv0 h0
  unfold maxLen at hn0
  by_cases hbig0 : (1048576 : Int) < (z0.length : Int)
  · go_enter Try.func8, Try.ntmps8
    go_wp2_with fail
    go_ret
    exact ⟨rfl, (by repeat (first | exact Below.refl _ _ | assumption | (refine Below.alloc ?_ (by first | omega | (simp; done) | (simp; omega)) _) | (refine Below.setCell ?_ (by first | omega | (simp; done) | (simp; omega)) _) | refine Below.drew ?_))⟩
  have hl0 : z0.length ≤ 1048576 := by omega
  go_enter Try.func8, Try.ntmps8
  go_wp2_with fail
  clear hbig0
  have hW0 : Below w.heap.size w w := (by repeat (first | exact Below.refl _ _ | assumption | (refine Below.alloc ?_ (by first | omega | (simp; done) | (simp; omega)) _) | (refine Below.setCell ?_ (by first | omega | (simp; done) | (simp; omega)) _) | refine Below.drew ?_))
  have HO0 := Lib.hid hs0
  clear hs0
  go_wp2_with fail
  -- the model's
  refine (toIntS_any _ _ _ _ ((HO0.out.below hW0).more hW0.size) hl0).mono ?_
  rintro e wn0 ⟨gn0, cn0, rfl, hN0_, hbn0⟩
  have hW_1 := hW0.trans (hbn0.mono hW0.size)
  clear hW0
  clear hbn0
  go_wp2_with fail
  refine (specTakePeriod_any _ _ _ _ hN0_.is hl0).mono ?_
  rintro e wsp ⟨P, F, rfl, hTP, hbs⟩
  have HTP := Lib.hid hTP
  clear hTP
  clear hN0_
  have hW_2 := hW_1.trans (hbs.mono hW_1.size)
  clear hW_1
  clear hbs
  go_wp2_with fail
  refine (toIntS_any _ _ _ _ ((HO0.out.below hW_2).more hW_2.size) hl0).mono ?_
  rintro e wx0 ⟨g0, cx0, rfl, hNx, hb⟩
  have hW_3 := hW_2.trans (hb.mono hW_2.size)
  clear hW_2
  have hN0_3 := hNx
  clear hNx hb
  go_wp2_with fail
  refine (takePeriod_any _ _ _ _ hN0_3.is hl0).mono ?_
  rintro e wim ⟨P', F', rfl, hTP', hb⟩
  obtain ⟨rfl, rfl⟩ := hTP'.uniq HTP.out
  clear hTP' HTP
  have hW_4 := hW_3.trans (hb.mono hW_3.size)
  have hN0_4 := hN0_3.below hb
  clear hW_3 hN0_3
  clear hb
  go_wp2_with fail
  refine (toIntS_any _ _ _ _ ((HO0.out.below hW_4).more hW_4.size) hl0).mono ?_
  rintro e wa0 ⟨ga, ca, rfl, hna, hba⟩
  have hNk := hN0_4.below hba
  go_wp2_with fail
  refine (eqIntS_same _ _ _ _ _ _ hNk.is hna.is hl0).mono ?_
  rintro e wq0 ⟨rfl, hbb⟩
  have hb := hba.trans (hbb.mono hba.size)
  clear hba hbb hna hNk
  have hW_5 := hW_4.trans (hb.mono hW_4.size)
  have hN0_5 := hN0_4.below hb
  clear hW_4 hN0_4
  clear hb
  go_wp2_with fail
  go_ret
  exact ⟨rfl, hW_5⟩
end Go.Proofs.Ytiilijpljhnphaa.Laws
