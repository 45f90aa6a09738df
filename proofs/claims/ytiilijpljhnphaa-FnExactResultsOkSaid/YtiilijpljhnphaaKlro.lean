/- The walk of the exact law FnExactResultsOk. -/
import Derived.Test.YtiilijpljhnphaaJrn
import Derived.Test.YtiilijpljhnphaaKs2
import Derived.Deep.RegionHeld3
namespace Go.Proofs.Ytiilijpljhnphaa.Laws
open Go.ChangeShapes Go.WideShapes Go.ChangeAt Go.RowKit Base Sq Ko Opn
set_option linter.unusedVariables false
set_option maxRecDepth 20000

set_option maxHeartbeats 16000000 in
theorem fnExactResultsOk_walk {H : Type} {enc : TypeId × Value → H} {b0 : Nat} {d1 : DataW H} {pl1 : List MemPlace} (w : World) (q0 : Int) (hq0 : (Lit.int .i64 q0).wf = true)
    (v1 : Value) (hv1 : Value.okWide Try.prog w .any b0 40 v1) (h1 : DataW.Trod enc Try.prog w 0 (fun _ => true) true 40 v1 d1 pl1) :
    Calls Try.prog 12 #[.int .i64 q0, v1] w fun e w' => e = .returned (.bool true) ∧ Below w.heap.size w w' := by
  obtain ⟨A1, c1, m1, rfl, hn1, hs1⟩ := open_results hv1 h1
  clear hv1 h1
  unfold maxLen at hn1
  clear hq0
  go_enter Try.func12, Try.ntmps12
  go_wp2_with fail
  have hW0 : Below w.heap.size w w := (by repeat (first | exact Below.refl _ _ | assumption | (refine Below.alloc ?_ (by first | omega | (simp; done) | (simp; omega)) _) | (refine Below.setCell ?_ (by first | omega | (simp; done) | (simp; omega)) _) | refine Below.drew ?_))
  have HO1 := Lib.hid hs1
  clear hs1
  by_cases hbig : (1048576 : Int) - (m1.length : Int) < 0
  · have HN := Lib.hid hbig
    clear hbig
    go_wp2_with fail
    refine (szResultS_any _ _ _ _ _ (by omega) (by omega) (by omega)).mono ?_
    rw [if_pos (by have := HN.out; omega)]
    rintro e w2 ⟨rfl, rfl⟩
    go_wp2_with fail
    go_ret
    exact ⟨rfl, hW0⟩
  have hl1 : m1.length ≤ 1048576 := by omega
  have HN := Lib.hid hbig
  clear hbig
  go_wp2_with fail
  refine (szResultS_any _ _ _ _ _ (by omega) (by omega) (by omega)).mono ?_
  rw [if_neg (by have := HN.out; omega)]
  rintro e w2 ⟨rfl, rfl⟩
  have hnn1 : 0 ≤ (1048576 : Int) - (m1.length : Int) := by have := HN.out; omega
  have hle1 : (1048576 : Int) - (m1.length : Int) ≤ 1048576 := by omega
  generalize hvm : (1048576 : Int) - (m1.length : Int) = lf1 at *
  clear hvm HN
  go_wp2_with fail
  -- the model's
  refine (toResultS_any _ _ _ _ ((HO1.out.below hW0).more hW0.size) hl1).mono ?_
  rintro e wn1 ⟨gn1, cn1, rfl, hN1_, hbn1⟩
  have hW_1 := hW0.trans (hbn1.mono hW0.size)
  clear hW0
  clear hbn1
  go_wp2_with fail
  refine (specResultsOk_any _ _ _ _ _ hN1_.is hl1).mono ?_
  rintro e wsp ⟨rfl, hbs⟩
  clear hN1_
  have hW_2 := hW_1.trans (hbs.mono hW_1.size)
  clear hW_1
  clear hbs
  go_wp2_with fail
  refine (toResultS_any _ _ _ _ ((HO1.out.below hW_2).more hW_2.size) hl1).mono ?_
  rintro e wx1 ⟨g1, cx1, rfl, hNx, hb⟩
  have hW_3 := hW_2.trans (hb.mono hW_2.size)
  clear hW_2
  have hN1_3 := hNx
  clear hNx hb
  go_wp2_with fail
  refine (resultsOk_any _ _ _ _ _ hN1_3.is hl1).mono ?_
  rintro e wim ⟨rfl, hb⟩
  have hW_4 := hW_3.trans (hb.mono hW_3.size)
  have hN1_4 := hN1_3.below hb
  clear hW_3 hN1_3
  clear hb
  go_wp2_with fail
  refine (toResultS_any _ _ _ _ ((HO1.out.below hW_4).more hW_4.size) hl1).mono ?_
  rintro e wa1 ⟨ga, ca, rfl, hna, hba⟩
  have hNk := hN1_4.below hba
  go_wp2_with fail
  refine (eqResultS_same _ _ _ _ _ _ hNk.is hna.is hl1).mono ?_
  rintro e wq1 ⟨rfl, hbb⟩
  have hb := hba.trans (hbb.mono hba.size)
  clear hba hbb hna hNk
  have hW_5 := hW_4.trans (hb.mono hW_4.size)
  have hN1_5 := hN1_4.below hb
  clear hW_4 hN1_4
  clear hb
  go_wp2_with fail
  go_ret
  exact ⟨rfl, hW_5⟩
end Go.Proofs.Ytiilijpljhnphaa.Laws
