/- The walk of the exact law FnExactTableVal. -/
import Derived.Test.YtmfcgikfgikbfaaOpm
import Derived.Test.YtmfcgikfgikbfaaOpp
import Derived.Test.YtmfcgikfgikbfaaOpv
import Derived.Test.YtmfcgikfgikbfaaTvl
import Derived.Deep.RegionHeld3
namespace Go.Proofs.Ytmfcgikfgikbfaa.Laws
open Go.ChangeShapes Go.WideShapes Go.ChangeAt Go.RowKit Base Sq Ko Opn
set_option linter.unusedVariables false
set_option maxRecDepth 20000

set_option maxHeartbeats 16000000 in
theorem fnExactTableVal_walk {H : Type} {enc : TypeId × Value → H} {b0 : Nat} {d0 : DataW H} {pl0 : List MemPlace} {d1 : DataW H} {pl1 : List MemPlace} {d2 : DataW H} {pl2 : List MemPlace} {d3 : DataW H} {pl3 : List MemPlace} (w : World)
    (v0 : Value) (hv0 : Value.okWide Try.prog w .any b0 24 v0) (h0 : DataW.Trod enc Try.prog w 0 (fun _ => true) true 24 v0 d0 pl0)
    (v1 : Value) (hv1 : Value.okWide Try.prog w .any b0 25 v1) (h1 : DataW.Trod enc Try.prog w 0 (fun _ => true) true 25 v1 d1 pl1)
    (v2 : Value) (hv2 : Value.okWide Try.prog w .any b0 26 v2) (h2 : DataW.Trod enc Try.prog w 0 (fun _ => true) true 26 v2 d2 pl2)
    (v3 : Value) (hv3 : Value.okWide Try.prog w .any b0 29 v3) (h3 : DataW.Trod enc Try.prog w 0 (fun _ => true) true 29 v3 d3 pl3) :
    Calls Try.prog 3 #[v0, v1, v2, v3] w fun e w' => e = .returned (.bool true) ∧ Below w.heap.size w w' := by
  obtain ⟨sd0, A0, c0, ks0, rfl, hl0, hs0⟩ := open_rules hv0 h0
  obtain ⟨A1, c1, m1, rfl, hn1, hs1⟩ := open_pieces hv1 h1
  obtain ⟨A2, c2, z2, rfl, hn2, _, hs2⟩ := open_nums hv2 h2
  obtain ⟨t3, A3, c3, l3, rfl, hn3, _, hs3⟩ := open_pos hv3 h3
  clear hv0 h0 hv1 h1 hv2 h2 hv3 h3
  unfold maxLen at hn1
  unfold maxLen at hn2
  unfold maxLen at hn3
  by_cases hbig2 : (1048576 : Int) < (z2.length : Int)
  · go_enter Try.func3, Try.ntmps3
    go_wp2_with fail
    go_ret
    exact ⟨rfl, (by repeat (first | exact Below.refl _ _ | assumption | (refine Below.alloc ?_ (by first | omega | (simp; done) | (simp; omega)) _) | (refine Below.setCell ?_ (by first | omega | (simp; done) | (simp; omega)) _) | refine Below.drew ?_))⟩
  have hl2 : z2.length ≤ 1048576 := by omega
  go_enter Try.func3, Try.ntmps3
  go_wp2_with fail
  clear hbig2
  have hW0 : Below w.heap.size w ((w.alloc (.cells #[.int .i64 sd0, .slice A0 ks0.length c0] 24)).alloc (.cells #[.int .i64 t3, .slice A3 l3.length c3] 29)) := (by repeat (first | exact Below.refl _ _ | assumption | (refine Below.alloc ?_ (by first | omega | (simp; done) | (simp; omega)) _) | (refine Below.setCell ?_ (by first | omega | (simp; done) | (simp; omega)) _) | refine Below.drew ?_))
  have pB0_0 := (Blk.new w #[.int .i64 sd0, .slice A0 ks0.length c0] 24).alloc (.cells #[.int .i64 t3, .slice A3 l3.length c3] 29)
  have pB3_0 := (Blk.new (w.alloc (.cells #[.int .i64 sd0, .slice A0 ks0.length c0] 24)) #[.int .i64 t3, .slice A3 l3.length c3] 29)
  simp only [World.size_alloc] at pB3_0
  generalize hWx : ((w.alloc _).alloc _) = W0 at *
  clear hWx
  have HO0 := Lib.hid hs0
  clear hs0
  have HO1 := Lib.hid hs1
  clear hs1
  have HO2 := Lib.hid hs2
  clear hs2
  have HO3 := Lib.hid hs3
  clear hs3
  refine (szRules_any _ _ _ _ _ _ ((HO0.out.below hW0).more hW0.size) hl0 (by omega) (by omega)).mono ?_
  rintro e w10 ⟨lf0, rfl, hle0, hor0, hb⟩
  clear hl0
  have pB0_1 := pB0_0.below hb pB0_0.lt
  have pB3_1 := pB3_0.below hb pB3_0.lt
  have hW_1 := hW0.trans (hb.mono hW0.size)
  clear pB0_0 pB3_0 hW0
  clear hb
  rcases hor0 with rfl | ⟨hnn0, hsm0⟩
  · go_wp2_with fail
    go_ret
    exact ⟨rfl, hW_1⟩
  have HSM0 := Lib.hid hsm0
  clear hsm0
  obtain ⟨⟨a00, a01⟩, _⟩ := pB0_1.at2
  obtain ⟨⟨a30, a31⟩, _⟩ := pB3_1.at2
  by_cases hbig : lf0 - (m1.length : Int) < 0
  · have HN := Lib.hid hbig
    clear hbig
    go_wp2_with fail
    refine (szPieceS_any _ _ _ _ _ (by omega) hnn0 hle0).mono ?_
    rw [if_pos (by have := HN.out; omega)]
    rintro e w2 ⟨rfl, rfl⟩
    go_wp2_with fail
    go_ret
    exact ⟨rfl, hW_1⟩
  have hl1 : m1.length ≤ 1048576 := by omega
  have HN := Lib.hid hbig
  clear hbig
  go_wp2_with fail
  refine (szPieceS_any _ _ _ _ _ (by omega) hnn0 hle0).mono ?_
  rw [if_neg (by have := HN.out; omega)]
  rintro e w2 ⟨rfl, rfl⟩
  have hnn1 : 0 ≤ lf0 - (m1.length : Int) := by have := HN.out; omega
  have hle1 : lf0 - (m1.length : Int) ≤ 1048576 := by omega
  generalize hvm : lf0 - (m1.length : Int) = lf1 at *
  clear hvm HN
  by_cases hbig : lf1 - (l3.length : Int) < 0
  · have HN := Lib.hid hbig
    clear hbig
    go_wp2_with fail
    refine (szPos_any _ _ _ _ _ _ (by omega) hnn1 hle1).mono ?_
    rw [if_pos (by have := HN.out; omega)]
    rintro e w2 ⟨rfl, hb2⟩
    go_wp2_with fail
    go_ret
    exact ⟨rfl, hW_1.trans (hb2.mono hW_1.size)⟩
  have hl3 : l3.length ≤ 1048576 := by omega
  have HN := Lib.hid hbig
  clear hbig
  go_wp2_with fail
  refine (szPos_any _ _ _ _ _ _ (by omega) hnn1 hle1).mono ?_
  rw [if_neg (by have := HN.out; omega)]
  rintro e w13 ⟨rfl, hb⟩
  clear a00 a01 a30 a31
  have pB0_2 := pB0_1.below hb pB0_1.lt
  have pB3_2 := pB3_1.below hb pB3_1.lt
  have hW_2 := hW_1.trans (hb.mono hW_1.size)
  clear pB0_1 pB3_1 hW_1
  clear hb
  obtain ⟨⟨a00, a01⟩, _⟩ := pB0_2.at2
  obtain ⟨⟨a30, a31⟩, _⟩ := pB3_2.at2
  have hnn3 : 0 ≤ lf1 - (l3.length : Int) := by have := HN.out; omega
  have hle3 : lf1 - (l3.length : Int) ≤ 1048576 := by omega
  generalize hvm : lf1 - (l3.length : Int) = lf3 at *
  clear hvm HN
  go_wp2_with fail
  -- the model's
  have hz0 := hW_2.size
  have HS : Hid (∀ w', Below w13.heap.size w13 w' → (w'.cell? ⟨w.heap.size, 0, none⟩ = some (.int .i64 sd0) ∧ w'.cell? ⟨w.heap.size, 1, none⟩ = some (.slice A0 ks0.length c0) ∧ w'.cell? ⟨w.heap.size + 1, 0, none⟩ = some (.int .i64 t3) ∧ w'.cell? ⟨w.heap.size + 1, 1, none⟩ = some (.slice A3 l3.length c3))) := Lib.hid (fun w' hb => by
    obtain ⟨⟨e00, e01⟩, _⟩ := (pB0_2.below hb pB0_2.lt).at2
    obtain ⟨⟨e10, e11⟩, _⟩ := (pB3_2.below hb pB3_2.lt).at2
    exact ⟨e00, e01, e10, e11⟩)
  have hw : Below w13.heap.size w13 w13.drew := (Below.refl _ _).drew
  have hO0 := ((HO0.out.below hW_2).more hW_2.size)
  have hO1 := ((HO1.out.below hW_2).more hW_2.size)
  have hO2 := ((HO2.out.below hW_2).more hW_2.size)
  have hO3 := ((HO3.out.below hW_2).more hW_2.size)
  go_region_held3 (fun w' => w'.cell? ⟨w.heap.size, 0, none⟩ = some (.int .i64 sd0) ∧ w'.cell? ⟨w.heap.size, 1, none⟩ = some (.slice A0 ks0.length c0) ∧ w'.cell? ⟨w.heap.size + 1, 0, none⟩ = some (.int .i64 t3) ∧ w'.cell? ⟨w.heap.size + 1, 1, none⟩ = some (.slice A3 l3.length c3))
    (exact HS.out _ hw)
    (first
      | (go_at_call 11; refine (toRules_any _ _ _ _ _ ((hO0.below hw).more hw.size) HSM0.out).mono ?_; rintro e wn0 ⟨gn0, cn0, rfl, hN0, hbn0⟩; have hw := hw.trans (hbn0.mono hw.size); try (have hN1 := hN1.below hbn0); try (have hN2 := hN2.below hbn0); try (have hN3 := hN3.below hbn0))
      | (go_at_call 12; refine (toPieceS_any _ _ _ _ ((hO1.below hw).more hw.size) hl1).mono ?_; rintro e wn1 ⟨gn1, cn1, rfl, hN1, hbn1⟩; have hw := hw.trans (hbn1.mono hw.size); try (have hN0 := hN0.below hbn1); try (have hN2 := hN2.below hbn1); try (have hN3 := hN3.below hbn1))
      | (go_at_call 13; refine (toIntS_any _ _ _ _ ((hO2.below hw).more hw.size) hl2).mono ?_; rintro e wn2 ⟨gn2, cn2, rfl, hN2, hbn2⟩; have hw := hw.trans (hbn2.mono hw.size); try (have hN0 := hN0.below hbn2); try (have hN1 := hN1.below hbn2); try (have hN3 := hN3.below hbn2))
      | (go_at_call 14; refine (toPos_any _ _ _ _ _ ((hO3.below hw).more hw.size) hl3).mono ?_; rintro e wn3 ⟨gn3, cn3, rfl, hN3, hbn3⟩; have hw := hw.trans (hbn3.mono hw.size); try (have hN0 := hN0.below hbn3); try (have hN1 := hN1.below hbn3); try (have hN2 := hN2.below hbn3))
      | (go_at_call 10; refine (specTableVal_any _ _ _ _ _ _ _ _ _ _ _ _ _ _ _ hN0.is hN1.is hN2.is hN3.is HSM0.out hl1 hl2 hl3).mono ?_; rintro e wsp ⟨rfl, hbs⟩; have hw := hw.trans (hbs.mono hw.size)))
  all_goals
    clear HS hN0 hN1 hN2 hN3 hO0 hO1 hO2 hO3 hz0
    clear a00 a01 a30 a31
    have pB0_3 := pB0_2.below hw pB0_2.lt
    have pB3_3 := pB3_2.below hw pB3_2.lt
    have hW_3 := hW_2.trans (hw.mono hW_2.size)
    clear pB0_2 pB3_2 hW_2
    clear hw
    obtain ⟨⟨a00, a01⟩, _⟩ := pB0_3.at2
    obtain ⟨⟨a30, a31⟩, _⟩ := pB3_3.at2
    go_wp2_with fail
    refine (toRules_any _ _ _ _ _ ((HO0.out.below hW_3).more hW_3.size) HSM0.out).mono ?_
    rintro e wx0 ⟨g0, cx0, rfl, hNx, hb⟩
    clear a00 a01 a30 a31
    have hXx := Blk.new wx0 #[.int .i64 sd0, .slice (some ⟨g0, 0, none⟩) ks0.length cx0] 36
    have hA := below_of wx0 (.cells #[.int .i64 sd0, .slice (some ⟨g0, 0, none⟩) ks0.length cx0] 36)
    have hbA := hb.trans (hA.mono hb.size)
    have hNy := hNx.below hA
    clear hNx
    have lt_pB0 := (pB0_3.below hb pB0_3.lt).lt
    obtain ⟨⟨y_pB00, y_pB01⟩, _⟩ := (pB0_3.below hb pB0_3.lt).at2
    have lt_pB3 := (pB3_3.below hb pB3_3.lt).lt
    obtain ⟨⟨y_pB30, y_pB31⟩, _⟩ := (pB3_3.below hb pB3_3.lt).at2
    have pB0_4 := pB0_3.below hbA pB0_3.lt
    have pB3_4 := pB3_3.below hbA pB3_3.lt
    have hW_4 := hW_3.trans (hbA.mono hW_3.size)
    clear pB0_3 pB3_3 hW_3
    have pX0_4 := hXx
    have hN0_4 := hNy
    clear hXx hNy
    obtain ⟨⟨z_pB00, z_pB01⟩, _⟩ := pB0_4.at2
    obtain ⟨⟨z_pB30, z_pB31⟩, _⟩ := pB3_4.at2
    obtain ⟨⟨z_pX00, z_pX01⟩, _⟩ := pX0_4.at2
    go_wp2_with fail
    generalize hZx : wx0.alloc _ = W1 at *
    generalize hzx : wx0.heap.size = x0 at *
    clear hZx hzx hb hA hbA
    clear y_pB00 y_pB01 y_pB30 y_pB31 z_pB00 z_pB01 z_pB30 z_pB31 z_pX00 z_pX01 lt_pB0 lt_pB3
    refine (toPieceS_any _ _ _ _ ((HO1.out.below hW_4).more hW_4.size) hl1).mono ?_
    rintro e wx1 ⟨g1, cx1, rfl, hNx, hb⟩
    have pB0_5 := pB0_4.below hb pB0_4.lt
    have pB3_5 := pB3_4.below hb pB3_4.lt
    have hW_5 := hW_4.trans (hb.mono hW_4.size)
    have pX0_5 := pX0_4.below hb pX0_4.lt
    have hN0_5 := hN0_4.below hb
    clear pB0_4 pB3_4 hW_4 pX0_4 hN0_4
    have hN1_5 := hNx
    clear hNx hb
    obtain ⟨⟨z_pB00, z_pB01⟩, _⟩ := pB0_5.at2
    obtain ⟨⟨z_pB30, z_pB31⟩, _⟩ := pB3_5.at2
    obtain ⟨⟨z_pX00, z_pX01⟩, _⟩ := pX0_5.at2
    go_wp2_with fail
    clear z_pB00 z_pB01 z_pB30 z_pB31 z_pX00 z_pX01
    refine (toIntS_any _ _ _ _ ((HO2.out.below hW_5).more hW_5.size) hl2).mono ?_
    rintro e wx2 ⟨g2, cx2, rfl, hNx, hb⟩
    have pB0_6 := pB0_5.below hb pB0_5.lt
    have pB3_6 := pB3_5.below hb pB3_5.lt
    have hW_6 := hW_5.trans (hb.mono hW_5.size)
    have pX0_6 := pX0_5.below hb pX0_5.lt
    have hN0_6 := hN0_5.below hb
    have hN1_6 := hN1_5.below hb
    clear pB0_5 pB3_5 hW_5 pX0_5 hN0_5 hN1_5
    have hN2_6 := hNx
    clear hNx hb
    obtain ⟨⟨z_pB00, z_pB01⟩, _⟩ := pB0_6.at2
    obtain ⟨⟨z_pB30, z_pB31⟩, _⟩ := pB3_6.at2
    obtain ⟨⟨z_pX00, z_pX01⟩, _⟩ := pX0_6.at2
    go_wp2_with fail
    clear z_pB00 z_pB01 z_pB30 z_pB31 z_pX00 z_pX01
    refine (toPos_any _ _ _ _ _ ((HO3.out.below hW_6).more hW_6.size) hl3).mono ?_
    rintro e wx3 ⟨g3, cx3, rfl, hNx, hb⟩
    have hXx := Blk.new wx3 #[.int .i64 t3, .slice (some ⟨g3, 0, none⟩) l3.length cx3] 43
    have hA := below_of wx3 (.cells #[.int .i64 t3, .slice (some ⟨g3, 0, none⟩) l3.length cx3] 43)
    have hbA := hb.trans (hA.mono hb.size)
    have hNy := hNx.below hA
    clear hNx
    have lt_pB0 := (pB0_6.below hb pB0_6.lt).lt
    obtain ⟨⟨y_pB00, y_pB01⟩, _⟩ := (pB0_6.below hb pB0_6.lt).at2
    have lt_pB3 := (pB3_6.below hb pB3_6.lt).lt
    obtain ⟨⟨y_pB30, y_pB31⟩, _⟩ := (pB3_6.below hb pB3_6.lt).at2
    have lt_pX0 := (pX0_6.below hb pX0_6.lt).lt
    obtain ⟨⟨y_pX00, y_pX01⟩, _⟩ := (pX0_6.below hb pX0_6.lt).at2
    have pB0_7 := pB0_6.below hbA pB0_6.lt
    have pB3_7 := pB3_6.below hbA pB3_6.lt
    have hW_7 := hW_6.trans (hbA.mono hW_6.size)
    have pX0_7 := pX0_6.below hbA pX0_6.lt
    have hN0_7 := hN0_6.below hbA
    have hN1_7 := hN1_6.below hbA
    have hN2_7 := hN2_6.below hbA
    clear pB0_6 pB3_6 hW_6 pX0_6 hN0_6 hN1_6 hN2_6
    have pX3_7 := hXx
    have hN3_7 := hNy
    clear hXx hNy
    obtain ⟨⟨z_pB00, z_pB01⟩, _⟩ := pB0_7.at2
    obtain ⟨⟨z_pB30, z_pB31⟩, _⟩ := pB3_7.at2
    obtain ⟨⟨z_pX00, z_pX01⟩, _⟩ := pX0_7.at2
    obtain ⟨⟨z_pX30, z_pX31⟩, _⟩ := pX3_7.at2
    go_wp2_with fail
    generalize hZx : wx3.alloc _ = W4 at *
    generalize hzx : wx3.heap.size = x3 at *
    clear hZx hzx hb hA hbA
    clear y_pB00 y_pB01 y_pB30 y_pB31 y_pX00 y_pX01 z_pB00 z_pB01 z_pB30 z_pB31 z_pX00 z_pX01 z_pX30 z_pX31 lt_pB0 lt_pB3 lt_pX0
    refine (tableVal_any _ _ _ _ _ _ _ _ _ _ _ _ _ _ _ hN0_7.is hN1_7.is hN2_7.is hN3_7.is HSM0.out hl1 hl2 hl3).mono ?_
    rintro e wim ⟨rfl, hb⟩
    have pB0_8 := pB0_7.below hb pB0_7.lt
    have pB3_8 := pB3_7.below hb pB3_7.lt
    have hW_8 := hW_7.trans (hb.mono hW_7.size)
    have pX0_8 := pX0_7.below hb pX0_7.lt
    have hN0_8 := hN0_7.below hb
    have hN1_8 := hN1_7.below hb
    have hN2_8 := hN2_7.below hb
    have pX3_8 := pX3_7.below hb pX3_7.lt
    have hN3_8 := hN3_7.below hb
    clear pB0_7 pB3_7 hW_7 pX0_7 hN0_7 hN1_7 hN2_7 pX3_7 hN3_7
    clear hb
    obtain ⟨⟨z_pB00, z_pB01⟩, _⟩ := pB0_8.at2
    obtain ⟨⟨z_pB30, z_pB31⟩, _⟩ := pB3_8.at2
    obtain ⟨⟨z_pX00, z_pX01⟩, _⟩ := pX0_8.at2
    obtain ⟨⟨z_pX30, z_pX31⟩, _⟩ := pX3_8.at2
    go_wp2_with fail
    clear z_pB00 z_pB01 z_pB30 z_pB31 z_pX00 z_pX01 z_pX30 z_pX31
    have HS : Hid (∀ w', Below wim.heap.size wim w' → (w'.cell? ⟨w.heap.size, 0, none⟩ = some (.int .i64 sd0) ∧ w'.cell? ⟨w.heap.size, 1, none⟩ = some (.slice A0 ks0.length c0) ∧ w'.cell? ⟨x0, 0, none⟩ = some (.int .i64 sd0) ∧ w'.cell? ⟨x0, 1, none⟩ = some (.slice (some ⟨g0, 0, none⟩) ks0.length cx0))) := Lib.hid (fun w' hb => by
      obtain ⟨⟨e00, e01⟩, _⟩ := (pB0_8.below hb pB0_8.lt).at2
      obtain ⟨⟨e10, e11⟩, _⟩ := (pX0_8.below hb pX0_8.lt).at2
      exact ⟨e00, e01, e10, e11⟩)
    have hw : Below wim.heap.size wim wim.drew := (Below.refl _ _).drew
    have hO := ((HO0.out.below hW_8).more hW_8.size)
    have hNk := hN0_8
    go_region_held3 (fun w' => w'.cell? ⟨w.heap.size, 0, none⟩ = some (.int .i64 sd0) ∧ w'.cell? ⟨w.heap.size, 1, none⟩ = some (.slice A0 ks0.length c0) ∧ w'.cell? ⟨x0, 0, none⟩ = some (.int .i64 sd0) ∧ w'.cell? ⟨x0, 1, none⟩ = some (.slice (some ⟨g0, 0, none⟩) ks0.length cx0))
      (exact HS.out _ hw)
      (first
        | (go_at_call 11; refine (toRules_any _ _ _ _ _ ((hO.below hw).more hw.size) HSM0.out).mono ?_; rintro e wa0 ⟨ga, ca, rfl, hna, hba⟩; have hw := hw.trans (hba.mono hw.size))
        | (go_at_call 16; refine (eqRules_same _ _ _ _ _ _ _ (hNk.below hw).is hna.is HSM0.out).mono ?_; rintro e wq0 ⟨rfl, hbb⟩; have hw := hw.trans (hbb.mono hw.size)))
    clear HS hO hNk hna
    have pB0_9 := pB0_8.below hw pB0_8.lt
    have pB3_9 := pB3_8.below hw pB3_8.lt
    have hW_9 := hW_8.trans (hw.mono hW_8.size)
    have pX0_9 := pX0_8.below hw pX0_8.lt
    have hN0_9 := hN0_8.below hw
    have hN1_9 := hN1_8.below hw
    have hN2_9 := hN2_8.below hw
    have pX3_9 := pX3_8.below hw pX3_8.lt
    have hN3_9 := hN3_8.below hw
    clear pB0_8 pB3_8 hW_8 pX0_8 hN0_8 hN1_8 hN2_8 pX3_8 hN3_8
    clear hw
    obtain ⟨⟨z_pB00, z_pB01⟩, _⟩ := pB0_9.at2
    obtain ⟨⟨z_pB30, z_pB31⟩, _⟩ := pB3_9.at2
    obtain ⟨⟨z_pX00, z_pX01⟩, _⟩ := pX0_9.at2
    obtain ⟨⟨z_pX30, z_pX31⟩, _⟩ := pX3_9.at2
    go_wp2_with fail
    clear z_pB00 z_pB01 z_pB30 z_pB31 z_pX00 z_pX01 z_pX30 z_pX31
    refine (toPieceS_any _ _ _ _ ((HO1.out.below hW_9).more hW_9.size) hl1).mono ?_
    rintro e wa1 ⟨ga, ca, rfl, hna, hba⟩
    have hNk := hN1_9.below hba
    go_wp2_with fail
    refine (eqPieceS_same _ _ _ _ _ _ hNk.is hna.is hl1).mono ?_
    rintro e wq1 ⟨rfl, hbb⟩
    have hb := hba.trans (hbb.mono hba.size)
    clear hba hbb hna hNk
    have pB0_10 := pB0_9.below hb pB0_9.lt
    have pB3_10 := pB3_9.below hb pB3_9.lt
    have hW_10 := hW_9.trans (hb.mono hW_9.size)
    have pX0_10 := pX0_9.below hb pX0_9.lt
    have hN0_10 := hN0_9.below hb
    have hN1_10 := hN1_9.below hb
    have hN2_10 := hN2_9.below hb
    have pX3_10 := pX3_9.below hb pX3_9.lt
    have hN3_10 := hN3_9.below hb
    clear pB0_9 pB3_9 hW_9 pX0_9 hN0_9 hN1_9 hN2_9 pX3_9 hN3_9
    clear hb
    obtain ⟨⟨z_pB00, z_pB01⟩, _⟩ := pB0_10.at2
    obtain ⟨⟨z_pB30, z_pB31⟩, _⟩ := pB3_10.at2
    obtain ⟨⟨z_pX00, z_pX01⟩, _⟩ := pX0_10.at2
    obtain ⟨⟨z_pX30, z_pX31⟩, _⟩ := pX3_10.at2
    go_wp2_with fail
    clear z_pB00 z_pB01 z_pB30 z_pB31 z_pX00 z_pX01 z_pX30 z_pX31
    refine (toIntS_any _ _ _ _ ((HO2.out.below hW_10).more hW_10.size) hl2).mono ?_
    rintro e wa2 ⟨ga, ca, rfl, hna, hba⟩
    have hNk := hN2_10.below hba
    go_wp2_with fail
    refine (eqIntS_same _ _ _ _ _ _ hNk.is hna.is hl2).mono ?_
    rintro e wq2 ⟨rfl, hbb⟩
    have hb := hba.trans (hbb.mono hba.size)
    clear hba hbb hna hNk
    have pB0_11 := pB0_10.below hb pB0_10.lt
    have pB3_11 := pB3_10.below hb pB3_10.lt
    have hW_11 := hW_10.trans (hb.mono hW_10.size)
    have pX0_11 := pX0_10.below hb pX0_10.lt
    have hN0_11 := hN0_10.below hb
    have hN1_11 := hN1_10.below hb
    have hN2_11 := hN2_10.below hb
    have pX3_11 := pX3_10.below hb pX3_10.lt
    have hN3_11 := hN3_10.below hb
    clear pB0_10 pB3_10 hW_10 pX0_10 hN0_10 hN1_10 hN2_10 pX3_10 hN3_10
    clear hb
    obtain ⟨⟨z_pB00, z_pB01⟩, _⟩ := pB0_11.at2
    obtain ⟨⟨z_pB30, z_pB31⟩, _⟩ := pB3_11.at2
    obtain ⟨⟨z_pX00, z_pX01⟩, _⟩ := pX0_11.at2
    obtain ⟨⟨z_pX30, z_pX31⟩, _⟩ := pX3_11.at2
    go_wp2_with fail
    clear z_pB00 z_pB01 z_pB30 z_pB31 z_pX00 z_pX01 z_pX30 z_pX31
    have HS : Hid (∀ w', Below wq2.heap.size wq2 w' → (w'.cell? ⟨w.heap.size + 1, 0, none⟩ = some (.int .i64 t3) ∧ w'.cell? ⟨w.heap.size + 1, 1, none⟩ = some (.slice A3 l3.length c3) ∧ w'.cell? ⟨x3, 0, none⟩ = some (.int .i64 t3) ∧ w'.cell? ⟨x3, 1, none⟩ = some (.slice (some ⟨g3, 0, none⟩) l3.length cx3))) := Lib.hid (fun w' hb => by
      obtain ⟨⟨e00, e01⟩, _⟩ := (pB3_11.below hb pB3_11.lt).at2
      obtain ⟨⟨e10, e11⟩, _⟩ := (pX3_11.below hb pX3_11.lt).at2
      exact ⟨e00, e01, e10, e11⟩)
    have hw : Below wq2.heap.size wq2 wq2.drew := (Below.refl _ _).drew
    have hO := ((HO3.out.below hW_11).more hW_11.size)
    have hNk := hN3_11
    go_region_held3 (fun w' => w'.cell? ⟨w.heap.size + 1, 0, none⟩ = some (.int .i64 t3) ∧ w'.cell? ⟨w.heap.size + 1, 1, none⟩ = some (.slice A3 l3.length c3) ∧ w'.cell? ⟨x3, 0, none⟩ = some (.int .i64 t3) ∧ w'.cell? ⟨x3, 1, none⟩ = some (.slice (some ⟨g3, 0, none⟩) l3.length cx3))
      (exact HS.out _ hw)
      (first
        | (go_at_call 14; refine (toPos_any _ _ _ _ _ ((hO.below hw).more hw.size) hl3).mono ?_; rintro e wa3 ⟨ga, ca, rfl, hna, hba⟩; have hw := hw.trans (hba.mono hw.size))
        | (go_at_call 19; refine (eqPos_same _ _ _ _ _ _ _ (hNk.below hw).is hna.is hl3).mono ?_; rintro e wq3 ⟨rfl, hbb⟩; have hw := hw.trans (hbb.mono hw.size)))
    clear HS hO hNk hna
    have pB0_12 := pB0_11.below hw pB0_11.lt
    have pB3_12 := pB3_11.below hw pB3_11.lt
    have hW_12 := hW_11.trans (hw.mono hW_11.size)
    have pX0_12 := pX0_11.below hw pX0_11.lt
    have hN0_12 := hN0_11.below hw
    have hN1_12 := hN1_11.below hw
    have hN2_12 := hN2_11.below hw
    have pX3_12 := pX3_11.below hw pX3_11.lt
    have hN3_12 := hN3_11.below hw
    clear pB0_11 pB3_11 hW_11 pX0_11 hN0_11 hN1_11 hN2_11 pX3_11 hN3_11
    clear hw
    go_wp2_with fail
    go_ret
    exact ⟨rfl, hW_12⟩
end Go.Proofs.Ytmfcgikfgikbfaa.Laws
