/- The walk of the exact law FnExactGenOk. -/
import Derived.Test.YtmfcgikfgikbfaaOpm
import Derived.Test.YtmfcgikfgikbfaaGn
import Derived.Test.YtmfcgikfgikbfaaGu
import Derived.Deep.RegionHeld3
namespace Go.Proofs.Ytmfcgikfgikbfaa.Laws
open Go.ChangeShapes Go.WideShapes Go.ChangeAt Go.RowKit Base Sq Ko Opn
set_option linter.unusedVariables false
set_option maxRecDepth 20000

set_option maxHeartbeats 16000000 in
theorem fnExactGenOk_walk {H : Type} {enc : TypeId × Value → H} {b0 : Nat} {d0 : DataW H} {pl0 : List MemPlace} {d1 : DataW H} {pl1 : List MemPlace} {d2 : DataW H} {pl2 : List MemPlace} (w : World)
    (v0 : Value) (hv0 : Value.okWide Try.prog w .any b0 24 v0) (h0 : DataW.Trod enc Try.prog w 0 (fun _ => true) true 24 v0 d0 pl0)
    (v1 : Value) (hv1 : Value.okWide Try.prog w .any b0 25 v1) (h1 : DataW.Trod enc Try.prog w 0 (fun _ => true) true 25 v1 d1 pl1)
    (v2 : Value) (hv2 : Value.okWide Try.prog w .any b0 51 v2) (h2 : DataW.Trod enc Try.prog w 0 (fun _ => true) true 51 v2 d2 pl2) :
    Calls Try.prog 4 #[v0, v1, v2] w fun e w' => e = .returned (.bool true) ∧ Below w.heap.size w w' := by
  obtain ⟨sd0, A0, c0, ks0, rfl, hl0, hs0⟩ := open_rules hv0 h0
  obtain ⟨A1, c1, m1, rfl, hn1, hs1⟩ := open_pieces hv1 h1
  obtain ⟨ply2, idle2, A2, c2, z2, rfl, hn2, hs2⟩ := open_gen hv2 h2
  clear hv0 h0 hv1 h1 hv2 h2
  unfold maxLen at hn1
  unfold maxLen at hn2
  go_enter Try.func4, Try.ntmps4
  go_wp2_with fail
  have hW0 : Below w.heap.size w ((w.alloc (.cells #[.int .i64 sd0, .slice A0 ks0.length c0] 24)).alloc (.cells #[.int .i64 ply2, .int .i64 idle2, .slice A2 z2.length c2] 51)) := (by repeat (first | exact Below.refl _ _ | assumption | (refine Below.alloc ?_ (by first | omega | (simp; done) | (simp; omega)) _) | (refine Below.setCell ?_ (by first | omega | (simp; done) | (simp; omega)) _) | refine Below.drew ?_))
  have pB0_0 := (Blk.new w #[.int .i64 sd0, .slice A0 ks0.length c0] 24).alloc (.cells #[.int .i64 ply2, .int .i64 idle2, .slice A2 z2.length c2] 51)
  have pB2_0 := (Blk.new (w.alloc (.cells #[.int .i64 sd0, .slice A0 ks0.length c0] 24)) #[.int .i64 ply2, .int .i64 idle2, .slice A2 z2.length c2] 51)
  simp only [World.size_alloc] at pB2_0
  generalize hWx : ((w.alloc _).alloc _) = W0 at *
  clear hWx
  have HO0 := Lib.hid hs0
  clear hs0
  have HO1 := Lib.hid hs1
  clear hs1
  have HO2 := Lib.hid hs2
  clear hs2
  refine (szRules_any _ _ _ _ _ _ ((HO0.out.below hW0).more hW0.size) hl0 (by omega) (by omega)).mono ?_
  rintro e w10 ⟨lf0, rfl, hle0, hor0, hb⟩
  clear hl0
  have pB0_1 := pB0_0.below hb pB0_0.lt
  have pB2_1 := pB2_0.below hb pB2_0.lt
  have hW_1 := hW0.trans (hb.mono hW0.size)
  clear pB0_0 pB2_0 hW0
  clear hb
  rcases hor0 with rfl | ⟨hnn0, hsm0⟩
  · go_wp2_with fail
    go_ret
    exact ⟨rfl, hW_1⟩
  have HSM0 := Lib.hid hsm0
  clear hsm0
  obtain ⟨⟨a00, a01⟩, _⟩ := pB0_1.at2
  obtain ⟨⟨a20, a21, a22⟩, _⟩ := pB2_1.at3
  by_cases hbig : lf0 - (m1.length : Int) < 0
  · have HN := Lib.hid hbig
    clear hbig
    go_wp2_with fail
    refine (szPieceS_any _ _ _ _ _ (by omega) hnn0 hle0).mono ?_
    rw [if_pos (by have := HN.out; omega)]
    rintro e w2 ⟨rfl, rfl⟩
    go_wp2_with fail
    go_ret
    exact ⟨rfl, hW_1⟩
  have hl1 : m1.length ≤ 1048576 := by omega
  have HN := Lib.hid hbig
  clear hbig
  go_wp2_with fail
  refine (szPieceS_any _ _ _ _ _ (by omega) hnn0 hle0).mono ?_
  rw [if_neg (by have := HN.out; omega)]
  rintro e w2 ⟨rfl, rfl⟩
  have hnn1 : 0 ≤ lf0 - (m1.length : Int) := by have := HN.out; omega
  have hle1 : lf0 - (m1.length : Int) ≤ 1048576 := by omega
  generalize hvm : lf0 - (m1.length : Int) = lf1 at *
  clear hvm HN
  by_cases hbig : lf1 - (z2.length : Int) < 0
  · have HN := Lib.hid hbig
    clear hbig
    go_wp2_with fail
    refine (szGen_any _ _ _ _ _ _ _ (by omega) hnn1 hle1).mono ?_
    rw [if_pos (by have := HN.out; omega)]
    rintro e w2 ⟨rfl, hb2⟩
    go_wp2_with fail
    go_ret
    exact ⟨rfl, hW_1.trans (hb2.mono hW_1.size)⟩
  have hl2 : z2.length ≤ 1048576 := by omega
  have HN := Lib.hid hbig
  clear hbig
  go_wp2_with fail
  refine (szGen_any _ _ _ _ _ _ _ (by omega) hnn1 hle1).mono ?_
  rw [if_neg (by have := HN.out; omega)]
  rintro e w12 ⟨rfl, hb⟩
  clear a00 a01 a20 a21 a22
  have pB0_2 := pB0_1.below hb pB0_1.lt
  have pB2_2 := pB2_1.below hb pB2_1.lt
  have hW_2 := hW_1.trans (hb.mono hW_1.size)
  clear pB0_1 pB2_1 hW_1
  clear hb
  obtain ⟨⟨a00, a01⟩, _⟩ := pB0_2.at2
  obtain ⟨⟨a20, a21, a22⟩, _⟩ := pB2_2.at3
  have hnn2 : 0 ≤ lf1 - (z2.length : Int) := by have := HN.out; omega
  have hle2 : lf1 - (z2.length : Int) ≤ 1048576 := by omega
  generalize hvm : lf1 - (z2.length : Int) = lf2 at *
  clear hvm HN
  go_wp2_with fail
  -- the model's
  have hz0 := hW_2.size
  have HS : Hid (∀ w', Below w12.heap.size w12 w' → (w'.cell? ⟨w.heap.size, 0, none⟩ = some (.int .i64 sd0) ∧ w'.cell? ⟨w.heap.size, 1, none⟩ = some (.slice A0 ks0.length c0) ∧ w'.cell? ⟨w.heap.size + 1, 0, none⟩ = some (.int .i64 ply2) ∧ w'.cell? ⟨w.heap.size + 1, 1, none⟩ = some (.int .i64 idle2) ∧ w'.cell? ⟨w.heap.size + 1, 2, none⟩ = some (.slice A2 z2.length c2))) := Lib.hid (fun w' hb => by
    obtain ⟨⟨e00, e01⟩, _⟩ := (pB0_2.below hb pB0_2.lt).at2
    obtain ⟨⟨e10, e11, e12⟩, _⟩ := (pB2_2.below hb pB2_2.lt).at3
    exact ⟨e00, e01, e10, e11, e12⟩)
  have hw : Below w12.heap.size w12 w12.drew := (Below.refl _ _).drew
  have hO0 := ((HO0.out.below hW_2).more hW_2.size)
  have hO1 := ((HO1.out.below hW_2).more hW_2.size)
  have hO2 := ((HO2.out.below hW_2).more hW_2.size)
  go_region_held3 (fun w' => w'.cell? ⟨w.heap.size, 0, none⟩ = some (.int .i64 sd0) ∧ w'.cell? ⟨w.heap.size, 1, none⟩ = some (.slice A0 ks0.length c0) ∧ w'.cell? ⟨w.heap.size + 1, 0, none⟩ = some (.int .i64 ply2) ∧ w'.cell? ⟨w.heap.size + 1, 1, none⟩ = some (.int .i64 idle2) ∧ w'.cell? ⟨w.heap.size + 1, 2, none⟩ = some (.slice A2 z2.length c2))
    (exact HS.out _ hw)
    (first
      | (go_at_call 11; refine (toRules_any _ _ _ _ _ ((hO0.below hw).more hw.size) HSM0.out).mono ?_; rintro e wn0 ⟨gn0, cn0, rfl, hN0, hbn0⟩; have hw := hw.trans (hbn0.mono hw.size); try (have hN1 := hN1.below hbn0); try (have hN2 := hN2.below hbn0))
      | (go_at_call 12; refine (toPieceS_any _ _ _ _ ((hO1.below hw).more hw.size) hl1).mono ?_; rintro e wn1 ⟨gn1, cn1, rfl, hN1, hbn1⟩; have hw := hw.trans (hbn1.mono hw.size); try (have hN0 := hN0.below hbn1); try (have hN2 := hN2.below hbn1))
      | (go_at_call 22; refine (toGen_any _ _ _ _ _ _ ((hO2.below hw).more hw.size) hl2).mono ?_; rintro e wn2 ⟨gn2, cn2, rfl, hN2, hbn2⟩; have hw := hw.trans (hbn2.mono hw.size); try (have hN0 := hN0.below hbn2); try (have hN1 := hN1.below hbn2))
      | (go_at_call 21; refine (specGenOk_any _ _ _ _ _ _ _ _ _ _ _ _ _ hN0.is hN1.is hN2.is HSM0.out hl1 hl2).mono ?_; rintro e wsp ⟨rfl, hbs⟩; have hw := hw.trans (hbs.mono hw.size)))
  all_goals
    clear HS hN0 hN1 hN2 hO0 hO1 hO2 hz0
    clear a00 a01 a20 a21 a22
    have pB0_3 := pB0_2.below hw pB0_2.lt
    have pB2_3 := pB2_2.below hw pB2_2.lt
    have hW_3 := hW_2.trans (hw.mono hW_2.size)
    clear pB0_2 pB2_2 hW_2
    clear hw
    obtain ⟨⟨a00, a01⟩, _⟩ := pB0_3.at2
    obtain ⟨⟨a20, a21, a22⟩, _⟩ := pB2_3.at3
    go_wp2_with fail
    refine (toRules_any _ _ _ _ _ ((HO0.out.below hW_3).more hW_3.size) HSM0.out).mono ?_
    rintro e wx0 ⟨g0, cx0, rfl, hNx, hb⟩
    clear a00 a01 a20 a21 a22
    have hXx := Blk.new wx0 #[.int .i64 sd0, .slice (some ⟨g0, 0, none⟩) ks0.length cx0] 36
    have hA := below_of wx0 (.cells #[.int .i64 sd0, .slice (some ⟨g0, 0, none⟩) ks0.length cx0] 36)
    have hbA := hb.trans (hA.mono hb.size)
    have hNy := hNx.below hA
    clear hNx
    have lt_pB0 := (pB0_3.below hb pB0_3.lt).lt
    obtain ⟨⟨y_pB00, y_pB01⟩, _⟩ := (pB0_3.below hb pB0_3.lt).at2
    have lt_pB2 := (pB2_3.below hb pB2_3.lt).lt
    obtain ⟨⟨y_pB20, y_pB21, y_pB22⟩, _⟩ := (pB2_3.below hb pB2_3.lt).at3
    have pB0_4 := pB0_3.below hbA pB0_3.lt
    have pB2_4 := pB2_3.below hbA pB2_3.lt
    have hW_4 := hW_3.trans (hbA.mono hW_3.size)
    clear pB0_3 pB2_3 hW_3
    have pX0_4 := hXx
    have hN0_4 := hNy
    clear hXx hNy
    obtain ⟨⟨z_pB00, z_pB01⟩, _⟩ := pB0_4.at2
    obtain ⟨⟨z_pB20, z_pB21, z_pB22⟩, _⟩ := pB2_4.at3
    obtain ⟨⟨z_pX00, z_pX01⟩, _⟩ := pX0_4.at2
    go_wp2_with fail
    generalize hZx : wx0.alloc _ = W1 at *
    generalize hzx : wx0.heap.size = x0 at *
    clear hZx hzx hb hA hbA
    clear y_pB00 y_pB01 y_pB20 y_pB21 y_pB22 z_pB00 z_pB01 z_pB20 z_pB21 z_pB22 z_pX00 z_pX01 lt_pB0 lt_pB2
    refine (toPieceS_any _ _ _ _ ((HO1.out.below hW_4).more hW_4.size) hl1).mono ?_
    rintro e wx1 ⟨g1, cx1, rfl, hNx, hb⟩
    have pB0_5 := pB0_4.below hb pB0_4.lt
    have pB2_5 := pB2_4.below hb pB2_4.lt
    have hW_5 := hW_4.trans (hb.mono hW_4.size)
    have pX0_5 := pX0_4.below hb pX0_4.lt
    have hN0_5 := hN0_4.below hb
    clear pB0_4 pB2_4 hW_4 pX0_4 hN0_4
    have hN1_5 := hNx
    clear hNx hb
    obtain ⟨⟨z_pB00, z_pB01⟩, _⟩ := pB0_5.at2
    obtain ⟨⟨z_pB20, z_pB21, z_pB22⟩, _⟩ := pB2_5.at3
    obtain ⟨⟨z_pX00, z_pX01⟩, _⟩ := pX0_5.at2
    go_wp2_with fail
    clear z_pB00 z_pB01 z_pB20 z_pB21 z_pB22 z_pX00 z_pX01
    refine (toGen_any _ _ _ _ _ _ ((HO2.out.below hW_5).more hW_5.size) hl2).mono ?_
    rintro e wx2 ⟨g2, cx2, rfl, hNx, hb⟩
    have hXx := Blk.new wx2 #[.int .i64 ply2, .int .i64 idle2, .slice (some ⟨g2, 0, none⟩) z2.length cx2] 54
    have hA := below_of wx2 (.cells #[.int .i64 ply2, .int .i64 idle2, .slice (some ⟨g2, 0, none⟩) z2.length cx2] 54)
    have hbA := hb.trans (hA.mono hb.size)
    have hNy := hNx.below hA
    clear hNx
    have lt_pB0 := (pB0_5.below hb pB0_5.lt).lt
    obtain ⟨⟨y_pB00, y_pB01⟩, _⟩ := (pB0_5.below hb pB0_5.lt).at2
    have lt_pB2 := (pB2_5.below hb pB2_5.lt).lt
    obtain ⟨⟨y_pB20, y_pB21, y_pB22⟩, _⟩ := (pB2_5.below hb pB2_5.lt).at3
    have lt_pX0 := (pX0_5.below hb pX0_5.lt).lt
    obtain ⟨⟨y_pX00, y_pX01⟩, _⟩ := (pX0_5.below hb pX0_5.lt).at2
    have pB0_6 := pB0_5.below hbA pB0_5.lt
    have pB2_6 := pB2_5.below hbA pB2_5.lt
    have hW_6 := hW_5.trans (hbA.mono hW_5.size)
    have pX0_6 := pX0_5.below hbA pX0_5.lt
    have hN0_6 := hN0_5.below hbA
    have hN1_6 := hN1_5.below hbA
    clear pB0_5 pB2_5 hW_5 pX0_5 hN0_5 hN1_5
    have pX2_6 := hXx
    have hN2_6 := hNy
    clear hXx hNy
    obtain ⟨⟨z_pB00, z_pB01⟩, _⟩ := pB0_6.at2
    obtain ⟨⟨z_pB20, z_pB21, z_pB22⟩, _⟩ := pB2_6.at3
    obtain ⟨⟨z_pX00, z_pX01⟩, _⟩ := pX0_6.at2
    obtain ⟨⟨z_pX20, z_pX21, z_pX22⟩, _⟩ := pX2_6.at3
    go_wp2_with fail
    generalize hZx : wx2.alloc _ = W3 at *
    generalize hzx : wx2.heap.size = x2 at *
    clear hZx hzx hb hA hbA
    clear y_pB00 y_pB01 y_pB20 y_pB21 y_pB22 y_pX00 y_pX01 z_pB00 z_pB01 z_pB20 z_pB21 z_pB22 z_pX00 z_pX01 z_pX20 z_pX21 z_pX22 lt_pB0 lt_pB2 lt_pX0
    refine (genOk_any _ _ _ _ _ _ _ _ _ _ _ _ _ hN0_6.is hN1_6.is hN2_6.is HSM0.out hl1 hl2).mono ?_
    rintro e wim ⟨rfl, hb⟩
    have pB0_7 := pB0_6.below hb pB0_6.lt
    have pB2_7 := pB2_6.below hb pB2_6.lt
    have hW_7 := hW_6.trans (hb.mono hW_6.size)
    have pX0_7 := pX0_6.below hb pX0_6.lt
    have hN0_7 := hN0_6.below hb
    have hN1_7 := hN1_6.below hb
    have pX2_7 := pX2_6.below hb pX2_6.lt
    have hN2_7 := hN2_6.below hb
    clear pB0_6 pB2_6 hW_6 pX0_6 hN0_6 hN1_6 pX2_6 hN2_6
    clear hb
    obtain ⟨⟨z_pB00, z_pB01⟩, _⟩ := pB0_7.at2
    obtain ⟨⟨z_pB20, z_pB21, z_pB22⟩, _⟩ := pB2_7.at3
    obtain ⟨⟨z_pX00, z_pX01⟩, _⟩ := pX0_7.at2
    obtain ⟨⟨z_pX20, z_pX21, z_pX22⟩, _⟩ := pX2_7.at3
    go_wp2_with fail
    clear z_pB00 z_pB01 z_pB20 z_pB21 z_pB22 z_pX00 z_pX01 z_pX20 z_pX21 z_pX22
    have HS : Hid (∀ w', Below wim.heap.size wim w' → (w'.cell? ⟨w.heap.size, 0, none⟩ = some (.int .i64 sd0) ∧ w'.cell? ⟨w.heap.size, 1, none⟩ = some (.slice A0 ks0.length c0) ∧ w'.cell? ⟨x0, 0, none⟩ = some (.int .i64 sd0) ∧ w'.cell? ⟨x0, 1, none⟩ = some (.slice (some ⟨g0, 0, none⟩) ks0.length cx0))) := Lib.hid (fun w' hb => by
      obtain ⟨⟨e00, e01⟩, _⟩ := (pB0_7.below hb pB0_7.lt).at2
      obtain ⟨⟨e10, e11⟩, _⟩ := (pX0_7.below hb pX0_7.lt).at2
      exact ⟨e00, e01, e10, e11⟩)
    have hw : Below wim.heap.size wim wim.drew := (Below.refl _ _).drew
    have hO := ((HO0.out.below hW_7).more hW_7.size)
    have hNk := hN0_7
    go_region_held3 (fun w' => w'.cell? ⟨w.heap.size, 0, none⟩ = some (.int .i64 sd0) ∧ w'.cell? ⟨w.heap.size, 1, none⟩ = some (.slice A0 ks0.length c0) ∧ w'.cell? ⟨x0, 0, none⟩ = some (.int .i64 sd0) ∧ w'.cell? ⟨x0, 1, none⟩ = some (.slice (some ⟨g0, 0, none⟩) ks0.length cx0))
      (exact HS.out _ hw)
      (first
        | (go_at_call 11; refine (toRules_any _ _ _ _ _ ((hO.below hw).more hw.size) HSM0.out).mono ?_; rintro e wa0 ⟨ga, ca, rfl, hna, hba⟩; have hw := hw.trans (hba.mono hw.size))
        | (go_at_call 16; refine (eqRules_same _ _ _ _ _ _ _ (hNk.below hw).is hna.is HSM0.out).mono ?_; rintro e wq0 ⟨rfl, hbb⟩; have hw := hw.trans (hbb.mono hw.size)))
    clear HS hO hNk hna
    have pB0_8 := pB0_7.below hw pB0_7.lt
    have pB2_8 := pB2_7.below hw pB2_7.lt
    have hW_8 := hW_7.trans (hw.mono hW_7.size)
    have pX0_8 := pX0_7.below hw pX0_7.lt
    have hN0_8 := hN0_7.below hw
    have hN1_8 := hN1_7.below hw
    have pX2_8 := pX2_7.below hw pX2_7.lt
    have hN2_8 := hN2_7.below hw
    clear pB0_7 pB2_7 hW_7 pX0_7 hN0_7 hN1_7 pX2_7 hN2_7
    clear hw
    obtain ⟨⟨z_pB00, z_pB01⟩, _⟩ := pB0_8.at2
    obtain ⟨⟨z_pB20, z_pB21, z_pB22⟩, _⟩ := pB2_8.at3
    obtain ⟨⟨z_pX00, z_pX01⟩, _⟩ := pX0_8.at2
    obtain ⟨⟨z_pX20, z_pX21, z_pX22⟩, _⟩ := pX2_8.at3
    go_wp2_with fail
    clear z_pB00 z_pB01 z_pB20 z_pB21 z_pB22 z_pX00 z_pX01 z_pX20 z_pX21 z_pX22
    refine (toPieceS_any _ _ _ _ ((HO1.out.below hW_8).more hW_8.size) hl1).mono ?_
    rintro e wa1 ⟨ga, ca, rfl, hna, hba⟩
    have hNk := hN1_8.below hba
    go_wp2_with fail
    refine (eqPieceS_same _ _ _ _ _ _ hNk.is hna.is hl1).mono ?_
    rintro e wq1 ⟨rfl, hbb⟩
    have hb := hba.trans (hbb.mono hba.size)
    clear hba hbb hna hNk
    have pB0_9 := pB0_8.below hb pB0_8.lt
    have pB2_9 := pB2_8.below hb pB2_8.lt
    have hW_9 := hW_8.trans (hb.mono hW_8.size)
    have pX0_9 := pX0_8.below hb pX0_8.lt
    have hN0_9 := hN0_8.below hb
    have hN1_9 := hN1_8.below hb
    have pX2_9 := pX2_8.below hb pX2_8.lt
    have hN2_9 := hN2_8.below hb
    clear pB0_8 pB2_8 hW_8 pX0_8 hN0_8 hN1_8 pX2_8 hN2_8
    clear hb
    obtain ⟨⟨z_pB00, z_pB01⟩, _⟩ := pB0_9.at2
    obtain ⟨⟨z_pB20, z_pB21, z_pB22⟩, _⟩ := pB2_9.at3
    obtain ⟨⟨z_pX00, z_pX01⟩, _⟩ := pX0_9.at2
    obtain ⟨⟨z_pX20, z_pX21, z_pX22⟩, _⟩ := pX2_9.at3
    go_wp2_with fail
    clear z_pB00 z_pB01 z_pB20 z_pB21 z_pB22 z_pX00 z_pX01 z_pX20 z_pX21 z_pX22
    have HS : Hid (∀ w', Below wq1.heap.size wq1 w' → (w'.cell? ⟨w.heap.size + 1, 0, none⟩ = some (.int .i64 ply2) ∧ w'.cell? ⟨w.heap.size + 1, 1, none⟩ = some (.int .i64 idle2) ∧ w'.cell? ⟨w.heap.size + 1, 2, none⟩ = some (.slice A2 z2.length c2) ∧ w'.cell? ⟨x2, 0, none⟩ = some (.int .i64 ply2) ∧ w'.cell? ⟨x2, 1, none⟩ = some (.int .i64 idle2) ∧ w'.cell? ⟨x2, 2, none⟩ = some (.slice (some ⟨g2, 0, none⟩) z2.length cx2))) := Lib.hid (fun w' hb => by
      obtain ⟨⟨e00, e01, e02⟩, _⟩ := (pB2_9.below hb pB2_9.lt).at3
      obtain ⟨⟨e10, e11, e12⟩, _⟩ := (pX2_9.below hb pX2_9.lt).at3
      exact ⟨e00, e01, e02, e10, e11, e12⟩)
    have hw : Below wq1.heap.size wq1 wq1.drew := (Below.refl _ _).drew
    have hO := ((HO2.out.below hW_9).more hW_9.size)
    have hNk := hN2_9
    go_region_held3 (fun w' => w'.cell? ⟨w.heap.size + 1, 0, none⟩ = some (.int .i64 ply2) ∧ w'.cell? ⟨w.heap.size + 1, 1, none⟩ = some (.int .i64 idle2) ∧ w'.cell? ⟨w.heap.size + 1, 2, none⟩ = some (.slice A2 z2.length c2) ∧ w'.cell? ⟨x2, 0, none⟩ = some (.int .i64 ply2) ∧ w'.cell? ⟨x2, 1, none⟩ = some (.int .i64 idle2) ∧ w'.cell? ⟨x2, 2, none⟩ = some (.slice (some ⟨g2, 0, none⟩) z2.length cx2))
      (exact HS.out _ hw)
      (first
        | (go_at_call 22; refine (toGen_any _ _ _ _ _ _ ((hO.below hw).more hw.size) hl2).mono ?_; rintro e wa2 ⟨ga, ca, rfl, hna, hba⟩; have hw := hw.trans (hba.mono hw.size))
        | (go_at_call 24; refine (eqGen_same _ _ _ _ _ _ _ _ (hNk.below hw).is hna.is hl2).mono ?_; rintro e wq2 ⟨rfl, hbb⟩; have hw := hw.trans (hbb.mono hw.size)))
    clear HS hO hNk hna
    have pB0_10 := pB0_9.below hw pB0_9.lt
    have pB2_10 := pB2_9.below hw pB2_9.lt
    have hW_10 := hW_9.trans (hw.mono hW_9.size)
    have pX0_10 := pX0_9.below hw pX0_9.lt
    have hN0_10 := hN0_9.below hw
    have hN1_10 := hN1_9.below hw
    have pX2_10 := pX2_9.below hw pX2_9.lt
    have hN2_10 := hN2_9.below hw
    clear pB0_9 pB2_9 hW_9 pX0_9 hN0_9 hN1_9 pX2_9 hN2_9
    clear hw
    go_wp2_with fail
    go_ret
    exact ⟨rfl, hW_10⟩
end Go.Proofs.Ytmfcgikfgikbfaa.Laws
