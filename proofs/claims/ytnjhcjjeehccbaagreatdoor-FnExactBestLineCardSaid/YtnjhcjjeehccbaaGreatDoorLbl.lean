/- The walk of the exact law FnExactBestLine. -/
import Derived.Test.YtnjhcjjeehccbaaGreatDoorOpr
import Derived.Test.YtnjhcjjeehccbaaGreatDoorY2
import Derived.Test.YtnjhcjjeehccbaaGreatDoorY6
import Derived.Deep.RegionHeld3
namespace Go.Proofs.YtnjhcjjeehccbaaGreatDoor.Laws
open Go.ChangeShapes Go.WideShapes Go.ChangeAt Go.RowKit Base Sq Ko Opn
set_option linter.unusedVariables false
set_option maxRecDepth 20000

set_option maxHeartbeats 16000000 in
theorem fnExactBestLine_walk {H : Type} {enc : TypeId × Value → H} {b0 : Nat} {d0 : DataW H} {pl0 : List MemPlace} {d1 : DataW H} {pl1 : List MemPlace} {d2 : DataW H} {pl2 : List MemPlace} {d3 : DataW H} {pl3 : List MemPlace} (w : World)
    (v0 : Value) (hv0 : Value.okWide Tryz.prog w .any b0 24 v0) (h0 : DataW.Trod enc Tryz.prog w 0 (fun _ => true) true 24 v0 d0 pl0)
    (v1 : Value) (hv1 : Value.okWide Tryz.prog w .any b0 72 v1) (h1 : DataW.Trod enc Tryz.prog w 0 (fun _ => true) true 72 v1 d1 pl1)
    (v2 : Value) (hv2 : Value.okWide Tryz.prog w .any b0 73 v2) (h2 : DataW.Trod enc Tryz.prog w 0 (fun _ => true) true 73 v2 d2 pl2)
    (v3 : Value) (hv3 : Value.okWide Tryz.prog w .any b0 27 v3) (h3 : DataW.Trod enc Tryz.prog w 0 (fun _ => true) true 27 v3 d3 pl3) (hT : TabAt w) :
    Calls Tryz.prog 11 #[v0, v1, v2, v3] w fun e w' => e = .returned (.bool true) ∧ Below w.heap.size w w' := by
  obtain ⟨sd0, A0, c0, ks0, rfl, hl0, hs0⟩ := open_rules hv0 h0
  obtain ⟨A1, c1, m1, rfl, hn1, hs1⟩ := open_pieces hv1 h1
  obtain ⟨A2, c2, z2, rfl, hn2, _, hs2⟩ := open_nums hv2 h2
  obtain ⟨t3, A3, c3, l3, rfl, hn3, _, hs3⟩ := open_pos hv3 h3
  clear hv0 h0 hv1 h1 hv2 h2 hv3 h3
  have HT := Lib.hid hT
  have hT0 := hT.lt
  clear hT
  unfold maxLen at hn1
  unfold maxLen at hn2
  unfold maxLen at hn3
  by_cases hbig2 : (1048576 : Int) < (z2.length : Int)
  · go_enter Tryz.func11, Tryz.ntmps11
    go_wp2_with fail
    go_ret
    exact ⟨rfl, (by repeat (first | exact Below.refl _ _ | assumption | (refine Below.alloc ?_ (by first | omega | (simp; done) | (simp; omega)) _) | (refine Below.setCell ?_ (by first | omega | (simp; done) | (simp; omega)) _) | refine Below.drew ?_))⟩
  have hl2 : z2.length ≤ 1048576 := by omega
  go_enter Tryz.func11, Tryz.ntmps11
  go_wp2_with fail
  clear hbig2
  have hW0 : Below w.heap.size w ((w.alloc (.cells #[.int .i64 sd0, .slice A0 ks0.length c0] 24)).alloc (.cells #[.int .i64 t3, .slice A3 l3.length c3] 27)) := (by repeat (first | exact Below.refl _ _ | assumption | (refine Below.alloc ?_ (by first | omega | (simp; done) | (simp; omega)) _) | (refine Below.setCell ?_ (by first | omega | (simp; done) | (simp; omega)) _) | refine Below.drew ?_))
  have pB0_0 := (Blk.new w #[.int .i64 sd0, .slice A0 ks0.length c0] 24).alloc (.cells #[.int .i64 t3, .slice A3 l3.length c3] 27)
  have pB3_0 := (Blk.new (w.alloc (.cells #[.int .i64 sd0, .slice A0 ks0.length c0] 24)) #[.int .i64 t3, .slice A3 l3.length c3] 27)
  simp only [World.size_alloc] at pB3_0
  generalize hWx : ((w.alloc _).alloc _) = W0 at *
  clear hWx
  have HO0 := Lib.hid hs0
  clear hs0
  have HO1 := Lib.hid hs1
  clear hs1
  have HO2 := Lib.hid hs2
  clear hs2
  have HO3 := Lib.hid hs3
  clear hs3
  refine (szRules_any _ _ _ _ _ _ ((HO0.out.below hW0).more hW0.size) hl0 (by omega) (by omega)).mono ?_
  rintro e w10 ⟨lf0, rfl, hle0, hor0, hb⟩
  clear hl0
  have pB0_1 := pB0_0.below hb pB0_0.lt
  have pB3_1 := pB3_0.below hb pB3_0.lt
  have hW_1 := hW0.trans (hb.mono hW0.size)
  clear pB0_0 pB3_0 hW0
  clear hb
  rcases hor0 with rfl | ⟨hnn0, hsm0⟩
  · go_wp2_with fail
    go_ret
    exact ⟨rfl, hW_1⟩
  have HSM0 := Lib.hid hsm0
  clear hsm0
  obtain ⟨⟨a00, a01⟩, _⟩ := pB0_1.at2
  obtain ⟨⟨a30, a31⟩, _⟩ := pB3_1.at2
  by_cases hbig : lf0 - (m1.length : Int) < 0
  · have HN := Lib.hid hbig
    clear hbig
    go_wp2_with fail
    refine (szPieceS_any _ _ _ _ _ (by omega) hnn0 hle0).mono ?_
    rw [if_pos (by have := HN.out; omega)]
    rintro e w2 ⟨rfl, rfl⟩
    go_wp2_with fail
    go_ret
    exact ⟨rfl, hW_1⟩
  have hl1 : m1.length ≤ 1048576 := by omega
  have HN := Lib.hid hbig
  clear hbig
  go_wp2_with fail
  refine (szPieceS_any _ _ _ _ _ (by omega) hnn0 hle0).mono ?_
  rw [if_neg (by have := HN.out; omega)]
  rintro e w2 ⟨rfl, rfl⟩
  have hnn1 : 0 ≤ lf0 - (m1.length : Int) := by have := HN.out; omega
  have hle1 : lf0 - (m1.length : Int) ≤ 1048576 := by omega
  generalize hvm : lf0 - (m1.length : Int) = lf1 at *
  clear hvm HN
  by_cases hbig : lf1 - (l3.length : Int) < 0
  · have HN := Lib.hid hbig
    clear hbig
    go_wp2_with fail
    refine (szPos_any _ _ _ _ _ _ (by omega) hnn1 hle1).mono ?_
    rw [if_pos (by have := HN.out; omega)]
    rintro e w2 ⟨rfl, hb2⟩
    go_wp2_with fail
    go_ret
    exact ⟨rfl, hW_1.trans (hb2.mono hW_1.size)⟩
  have hl3 : l3.length ≤ 1048576 := by omega
  have HN := Lib.hid hbig
  clear hbig
  go_wp2_with fail
  refine (szPos_any _ _ _ _ _ _ (by omega) hnn1 hle1).mono ?_
  rw [if_neg (by have := HN.out; omega)]
  rintro e w13 ⟨rfl, hb⟩
  clear a00 a01 a30 a31
  have pB0_2 := pB0_1.below hb pB0_1.lt
  have pB3_2 := pB3_1.below hb pB3_1.lt
  have hW_2 := hW_1.trans (hb.mono hW_1.size)
  clear pB0_1 pB3_1 hW_1
  clear hb
  obtain ⟨⟨a00, a01⟩, _⟩ := pB0_2.at2
  obtain ⟨⟨a30, a31⟩, _⟩ := pB3_2.at2
  have hnn3 : 0 ≤ lf1 - (l3.length : Int) := by have := HN.out; omega
  have hle3 : lf1 - (l3.length : Int) ≤ 1048576 := by omega
  generalize hvm : lf1 - (l3.length : Int) = lf3 at *
  clear hvm HN
  go_wp2_with fail
  have hlenL : (lineV sd0 ks0 m1 z2 t3 l3).length ≤ 1048576 := lineV_len sd0 ks0 m1 z2 t3 l3
  obtain ⟨LL, hLL⟩ : ∃ LL, LL = lineV sd0 ks0 m1 z2 t3 l3 := ⟨_, rfl⟩
  rw [← hLL] at hlenL
  have HLL := Lib.hid hLL
  clear hLL
  have hz_w0 := hW_2.size
  have hz_b0 := pB0_2.lt
  have hz_b3 := pB3_2.lt
  clear a00 a01 a30 a31
  obtain ⟨⟨z_pB00, z_pB01⟩, _⟩ := pB0_2.at2
  obtain ⟨⟨z_pB30, z_pB31⟩, _⟩ := pB3_2.at2
  clear z_pB00 z_pB01 z_pB30 z_pB31
  -- the model's
  have hO0 := ((HO0.out.below hW_2).more hW_2.size)
  have hO1 := ((HO1.out.below hW_2).more hW_2.size)
  have hO2 := ((HO2.out.below hW_2).more hW_2.size)
  have hO3 := ((HO3.out.below hW_2).more hW_2.size)
  go_cut [10] from 38 (fun sx wx => ∃ (Aw : Option Addr) (cw : Nat), sx = .slice Aw LL.length cw ∧ MvA w13.heap.size wx.heap.size wx Aw LL ∧ Below w13.heap.size w13 wx)
  case first =>
    have HS : Hid (∀ w', Below w13.heap.size w13 w' → (w'.cell? ⟨w.heap.size, 0, none⟩ = some (.int .i64 sd0) ∧ w'.cell? ⟨w.heap.size, 1, none⟩ = some (.slice A0 ks0.length c0) ∧ w'.cell? ⟨w.heap.size + 1, 0, none⟩ = some (.int .i64 t3) ∧ w'.cell? ⟨w.heap.size + 1, 1, none⟩ = some (.slice A3 l3.length c3))) := Lib.hid (fun w' hb => by
      obtain ⟨⟨e00, e01⟩, _⟩ := (pB0_2.below hb pB0_2.lt).at2
      obtain ⟨⟨e10, e11⟩, _⟩ := (pB3_2.below hb pB3_2.lt).at2
      exact ⟨e00, e01, e10, e11⟩)
    have hw : Below w13.heap.size w13 w13.drew := (Below.refl _ _).drew
    go_region_held3 (fun w' => w'.cell? ⟨w.heap.size, 0, none⟩ = some (.int .i64 sd0) ∧ w'.cell? ⟨w.heap.size, 1, none⟩ = some (.slice A0 ks0.length c0) ∧ w'.cell? ⟨w.heap.size + 1, 0, none⟩ = some (.int .i64 t3) ∧ w'.cell? ⟨w.heap.size + 1, 1, none⟩ = some (.slice A3 l3.length c3))
      (exact HS.out _ hw)
      (first
        | (go_at_call 15; refine (toRules_any _ _ _ _ _ ((hO0.below hw).more hw.size) HSM0.out).mono ?_; rintro e wn0 ⟨gn0, cn0, rfl, hN0, hbn0⟩; have hw := hw.trans (hbn0.mono hw.size); try (have hN1 := hN1.below hbn0); try (have hN2 := hN2.below hbn0); try (have hN3 := hN3.below hbn0))
        | (go_at_call 46; refine (toPieceS_any _ _ _ _ ((hO1.below hw).more hw.size) hl1).mono ?_; rintro e wn1 ⟨gn1, cn1, rfl, hN1, hbn1⟩; have hw := hw.trans (hbn1.mono hw.size); try (have hN0 := hN0.below hbn1); try (have hN2 := hN2.below hbn1); try (have hN3 := hN3.below hbn1))
        | (go_at_call 47; refine (toIntS_any _ _ _ _ ((hO2.below hw).more hw.size) hl2).mono ?_; rintro e wn2 ⟨gn2, cn2, rfl, hN2, hbn2⟩; have hw := hw.trans (hbn2.mono hw.size); try (have hN0 := hN0.below hbn2); try (have hN1 := hN1.below hbn2); try (have hN3 := hN3.below hbn2))
        | (go_at_call 39; refine (toPos_any _ _ _ _ _ ((hO3.below hw).more hw.size) hl3).mono ?_; rintro e wn3 ⟨gn3, cn3, rfl, hN3, hbn3⟩; have hw := hw.trans (hbn3.mono hw.size); try (have hN0 := hN0.below hbn3); try (have hN1 := hN1.below hbn3); try (have hN2 := hN2.below hbn3))
        | (go_at_call 45; refine (specBestLine_any _ _ _ _ _ _ _ _ _ _ _ _ _ _ _ hN0.is hN1.is hN2.is hN3.is HSM0.out hl1 hl2 hl3).mono ?_; rw [← HLL.out]; rintro e wsp ⟨Aw, cw, rfl, hIw, hbs⟩; have hwq := hw.size; have hw := hw.trans (hbs.mono hw.size)))
    all_goals
      go_wp2_with fail
      go_meet
      exact ⟨_, _, rfl, hIw.more hwq (Nat.le_refl _), hw⟩
  clear hO0 hO1 hO2 hO3
  obtain ⟨Afs, cfs, rfl, hIx, hb⟩ := hcut
  have pB0_3 := pB0_2.below hb pB0_2.lt
  have pB3_3 := pB3_2.below hb pB3_2.lt
  have hW_3 := hW_2.trans (hb.mono hW_2.size)
  have hz_3 := hb.size
  clear pB0_2 pB3_2 hW_2
  have Is_3 := hIx
  clear hIx hb
  obtain ⟨⟨z_pB00, z_pB01⟩, _⟩ := pB0_3.at2
  obtain ⟨⟨z_pB30, z_pB31⟩, _⟩ := pB3_3.at2
  go_wp2_with fail
  clear z_pB00 z_pB01 z_pB30 z_pB31
  refine (toRules_any _ _ _ _ _ ((HO0.out.below hW_3).more hW_3.size) HSM0.out).mono ?_
  rintro e wr0 ⟨gr0, cr0, rfl, hNx, hb⟩
  have hXx := Blk.new wr0 #[.int .i64 sd0, .slice (some ⟨gr0, 0, none⟩) ks0.length cr0] 36
  have hA := below_of wr0 (.cells #[.int .i64 sd0, .slice (some ⟨gr0, 0, none⟩) ks0.length cr0] 36)
  have hbA := hb.trans (hA.mono hb.size)
  have hs_xr0 : (wr0.alloc (.cells #[.int .i64 sd0, .slice (some ⟨gr0, 0, none⟩) ks0.length cr0] 36)).heap.size = wr0.heap.size + 1 := by simp
  have hq_xr0 := hb.size
  have n_hn0 := hNx.below hA
  have n_KS := hNx.shape.below hA
  have lt_pB0 := (pB0_3.below hb pB0_3.lt).lt
  obtain ⟨⟨y_pB00, y_pB01⟩, _⟩ := (pB0_3.below hb pB0_3.lt).at2
  have lt_pB3 := (pB3_3.below hb pB3_3.lt).lt
  obtain ⟨⟨y_pB30, y_pB31⟩, _⟩ := (pB3_3.below hb pB3_3.lt).at2
  have pB0_4 := pB0_3.below hbA pB0_3.lt
  have pB3_4 := pB3_3.below hbA pB3_3.lt
  have hW_4 := hW_3.trans (hbA.mono hW_3.size)
  have Is_4 := Is_3.below (hbA.mono (by omega))
  have hz_4 := hbA.size
  clear pB0_3 pB3_3 hW_3 Is_3
  have hn0_4 := n_hn0
  clear n_hn0
  have KS_4 := n_KS
  clear n_KS
  have pxr0_4 := hXx
  clear hXx
  obtain ⟨⟨z_pB00, z_pB01⟩, _⟩ := pB0_4.at2
  obtain ⟨⟨z_pB30, z_pB31⟩, _⟩ := pB3_4.at2
  obtain ⟨⟨z_pxr00, z_pxr01⟩, _⟩ := pxr0_4.at2
  go_wp2_with fail
  generalize hZx : wr0.alloc _ = Wr0 at *
  generalize hzx : wr0.heap.size = xr0 at *
  clear hZx hzx hb hA hbA
  clear y_pB00 y_pB01 y_pB30 y_pB31 z_pB00 z_pB01 z_pB30 z_pB31 z_pxr00 z_pxr01 lt_pB0 lt_pB3
  clear hNx
  refine (toPieceS_any _ _ _ _ ((HO1.out.below hW_4).more hW_4.size) hl1).mono ?_
  rintro e wr1 ⟨gr1, cr1, rfl, hNx, hb⟩
  have hgr1 := hNx.lt
  have hgq1 : _ ≤ gr1 := (by obtain ⟨_, hh, _⟩ := hNx; exact hh)
  have pB0_5 := pB0_4.below hb pB0_4.lt
  have pB3_5 := pB3_4.below hb pB3_4.lt
  have hW_5 := hW_4.trans (hb.mono hW_4.size)
  have Is_5 := Is_4.below (hb.mono (by omega))
  have hn0_5 := hn0_4.below hb
  have KS_5 := KS_4.below (hb.mono (by omega))
  have pxr0_5 := pxr0_4.below hb pxr0_4.lt
  have hz_5 := hb.size
  clear pB0_4 pB3_4 hW_4 Is_4 hn0_4 KS_4 pxr0_4
  have hn1_5 := hNx
  have MB_5 := hNx.big
  clear hNx hb
  obtain ⟨⟨z_pB00, z_pB01⟩, _⟩ := pB0_5.at2
  obtain ⟨⟨z_pB30, z_pB31⟩, _⟩ := pB3_5.at2
  obtain ⟨⟨z_pxr00, z_pxr01⟩, _⟩ := pxr0_5.at2
  go_wp2_with fail
  clear z_pB00 z_pB01 z_pB30 z_pB31 z_pxr00 z_pxr01
  refine (toIntS_any _ _ _ _ ((HO2.out.below hW_5).more hW_5.size) hl2).mono ?_
  rintro e wr2 ⟨gr2, cr2, rfl, hNx, hb⟩
  have hgr2 := hNx.lt
  have hgq2 : _ ≤ gr2 := (by obtain ⟨_, hh, _⟩ := hNx; exact hh)
  have hIZ : NewInts gr2 (gr2 + 1) wr2 (some ⟨gr2, 0, none⟩) z2 := fun _ => by
    obtain ⟨cs, _, hbk, hsz, hin⟩ := hNx
    exact ⟨gr2, cs, rfl, Nat.le_refl _, Nat.lt_succ_self _, hbk, Nat.le_of_eq hsz.symm, hin⟩
  have pB0_6 := pB0_5.below hb pB0_5.lt
  have pB3_6 := pB3_5.below hb pB3_5.lt
  have hW_6 := hW_5.trans (hb.mono hW_5.size)
  have Is_6 := Is_5.below (hb.mono (by omega))
  have hn0_6 := hn0_5.below hb
  have KS_6 := KS_5.below (hb.mono (by omega))
  have pxr0_6 := pxr0_5.below hb pxr0_5.lt
  have hn1_6 := hn1_5.below hb
  have MB_6 := MB_5.below hb MB_5.lt
  have hz_6 := hb.size
  clear pB0_5 pB3_5 hW_5 Is_5 hn0_5 KS_5 pxr0_5 hn1_5 MB_5
  have hn2_6 := hNx
  have IZ_6 := hIZ
  clear hIZ
  clear hNx hb
  obtain ⟨⟨z_pB00, z_pB01⟩, _⟩ := pB0_6.at2
  obtain ⟨⟨z_pB30, z_pB31⟩, _⟩ := pB3_6.at2
  obtain ⟨⟨z_pxr00, z_pxr01⟩, _⟩ := pxr0_6.at2
  go_wp2_with fail
  clear z_pB00 z_pB01 z_pB30 z_pB31 z_pxr00 z_pxr01
  refine (toPos_any _ _ _ _ _ ((HO3.out.below hW_6).more hW_6.size) hl3).mono ?_
  rintro e wr3 ⟨gr3, cr3, rfl, hNx, hb⟩
  have hgr3 := hNx.lt
  have hgq3 : _ ≤ gr3 := (by obtain ⟨_, hh, _⟩ := hNx; exact hh)
  have hXx := Blk.new wr3 #[.int .i64 t3, .slice (some ⟨gr3, 0, none⟩) l3.length cr3] 40
  have hA := below_of wr3 (.cells #[.int .i64 t3, .slice (some ⟨gr3, 0, none⟩) l3.length cr3] 40)
  have hbA := hb.trans (hA.mono hb.size)
  have hs_xr3 : (wr3.alloc (.cells #[.int .i64 t3, .slice (some ⟨gr3, 0, none⟩) l3.length cr3] 40)).heap.size = wr3.heap.size + 1 := by simp
  have hq_xr3 := hb.size
  have n_hn3 := hNx.below hA
  have n_MP := hNx.big.below hA hNx.lt
  have lt_pB0 := (pB0_6.below hb pB0_6.lt).lt
  obtain ⟨⟨y_pB00, y_pB01⟩, _⟩ := (pB0_6.below hb pB0_6.lt).at2
  have lt_pB3 := (pB3_6.below hb pB3_6.lt).lt
  obtain ⟨⟨y_pB30, y_pB31⟩, _⟩ := (pB3_6.below hb pB3_6.lt).at2
  have lt_pxr0 := (pxr0_6.below hb pxr0_6.lt).lt
  obtain ⟨⟨y_pxr00, y_pxr01⟩, _⟩ := (pxr0_6.below hb pxr0_6.lt).at2
  have pB0_7 := pB0_6.below hbA pB0_6.lt
  have pB3_7 := pB3_6.below hbA pB3_6.lt
  have hW_7 := hW_6.trans (hbA.mono hW_6.size)
  have Is_7 := Is_6.below (hbA.mono (by omega))
  have hn0_7 := hn0_6.below hbA
  have KS_7 := KS_6.below (hbA.mono (by omega))
  have pxr0_7 := pxr0_6.below hbA pxr0_6.lt
  have hn1_7 := hn1_6.below hbA
  have MB_7 := MB_6.below hbA MB_6.lt
  have hn2_7 := hn2_6.below hbA
  have IZ_7 := IZ_6.below (hbA.mono (by omega))
  have hz_7 := hbA.size
  clear pB0_6 pB3_6 hW_6 Is_6 hn0_6 KS_6 pxr0_6 hn1_6 MB_6 hn2_6 IZ_6
  have hn3_7 := n_hn3
  clear n_hn3
  have MP_7 := n_MP
  clear n_MP
  have pxr3_7 := hXx
  clear hXx
  obtain ⟨⟨z_pB00, z_pB01⟩, _⟩ := pB0_7.at2
  obtain ⟨⟨z_pB30, z_pB31⟩, _⟩ := pB3_7.at2
  obtain ⟨⟨z_pxr00, z_pxr01⟩, _⟩ := pxr0_7.at2
  obtain ⟨⟨z_pxr30, z_pxr31⟩, _⟩ := pxr3_7.at2
  go_wp2_with fail
  generalize hZx : wr3.alloc _ = Wr3 at *
  generalize hzx : wr3.heap.size = xr3 at *
  clear hZx hzx hb hA hbA
  clear y_pB00 y_pB01 y_pB30 y_pB31 y_pxr00 y_pxr01 z_pB00 z_pB01 z_pB30 z_pB31 z_pxr00 z_pxr01 z_pxr30 z_pxr31 lt_pB0 lt_pB3 lt_pxr0
  clear hNx
  refine (BestLine_any _ _ _ _ _ _ _ _ _ _ _ _ _ _ _ hn0_7.is hn1_7.is hn2_7.is hn3_7.is (HT.out.below hW_7 hT0) HSM0.out hl1 hl2 hl3).mono ?_
  rw [← HLL.out]
  rintro e wfg ⟨Afg, cfg, rfl, hIx, hb⟩
  have pB0_8 := pB0_7.below hb pB0_7.lt
  have pB3_8 := pB3_7.below hb pB3_7.lt
  have hW_8 := hW_7.trans (hb.mono hW_7.size)
  have Is_8 := Is_7.below (hb.mono (by omega))
  have hn0_8 := hn0_7.below hb
  have KS_8 := KS_7.below (hb.mono (by omega))
  have pxr0_8 := pxr0_7.below hb pxr0_7.lt
  have hn1_8 := hn1_7.below hb
  have MB_8 := MB_7.below hb MB_7.lt
  have hn2_8 := hn2_7.below hb
  have IZ_8 := IZ_7.below (hb.mono (by omega))
  have hn3_8 := hn3_7.below hb
  have MP_8 := MP_7.below hb MP_7.lt
  have pxr3_8 := pxr3_7.below hb pxr3_7.lt
  have hz_8 := hb.size
  clear pB0_7 pB3_7 hW_7 Is_7 hn0_7 KS_7 pxr0_7 hn1_7 MB_7 hn2_7 IZ_7 hn3_7 MP_7 pxr3_7
  have Ig_8 := hIx
  clear hIx hb
  obtain ⟨⟨z_pB00, z_pB01⟩, _⟩ := pB0_8.at2
  obtain ⟨⟨z_pB30, z_pB31⟩, _⟩ := pB3_8.at2
  obtain ⟨⟨z_pxr00, z_pxr01⟩, _⟩ := pxr0_8.at2
  obtain ⟨⟨z_pxr30, z_pxr31⟩, _⟩ := pxr3_8.at2
  go_wp2_with fail
  clear z_pB00 z_pB01 z_pB30 z_pB31 z_pxr00 z_pxr01 z_pxr30 z_pxr31
  refine (eqMoveS_same _ _ _ _ _ _ (Ig_8.is.more (by omega)) (Is_8.is.more (by omega)) hlenL).mono ?_
  rintro e we1 ⟨rfl, hb⟩
  have pB0_9 := pB0_8.below hb pB0_8.lt
  have pB3_9 := pB3_8.below hb pB3_8.lt
  have hW_9 := hW_8.trans (hb.mono hW_8.size)
  have Is_9 := Is_8.below (hb.mono (by omega))
  have hn0_9 := hn0_8.below hb
  have KS_9 := KS_8.below (hb.mono (by omega))
  have pxr0_9 := pxr0_8.below hb pxr0_8.lt
  have hn1_9 := hn1_8.below hb
  have MB_9 := MB_8.below hb MB_8.lt
  have hn2_9 := hn2_8.below hb
  have IZ_9 := IZ_8.below (hb.mono (by omega))
  have hn3_9 := hn3_8.below hb
  have MP_9 := MP_8.below hb MP_8.lt
  have pxr3_9 := pxr3_8.below hb pxr3_8.lt
  have Ig_9 := Ig_8.below (hb.mono (by omega))
  have hz_9 := hb.size
  clear pB0_8 pB3_8 hW_8 Is_8 hn0_8 KS_8 pxr0_8 hn1_8 MB_8 hn2_8 IZ_8 hn3_8 MP_8 pxr3_8 Ig_8
  clear hb
  obtain ⟨⟨z_pB00, z_pB01⟩, _⟩ := pB0_9.at2
  obtain ⟨⟨z_pB30, z_pB31⟩, _⟩ := pB3_9.at2
  obtain ⟨⟨z_pxr00, z_pxr01⟩, _⟩ := pxr0_9.at2
  obtain ⟨⟨z_pxr30, z_pxr31⟩, _⟩ := pxr3_9.at2
  go_wp2_with fail
  clear z_pB00 z_pB01 z_pB30 z_pB31 z_pxr00 z_pxr01 z_pxr30 z_pxr31
  have HS : Hid (∀ w', Below we1.heap.size we1 w' → (w'.cell? ⟨w.heap.size, 0, none⟩ = some (.int .i64 sd0) ∧ w'.cell? ⟨w.heap.size, 1, none⟩ = some (.slice A0 ks0.length c0) ∧ w'.cell? ⟨xr0, 0, none⟩ = some (.int .i64 sd0) ∧ w'.cell? ⟨xr0, 1, none⟩ = some (.slice (some ⟨gr0, 0, none⟩) ks0.length cr0))) := Lib.hid (fun w' hb => by
    obtain ⟨⟨e00, e01⟩, _⟩ := (pB0_9.below hb pB0_9.lt).at2
    obtain ⟨⟨e10, e11⟩, _⟩ := (pxr0_9.below hb pxr0_9.lt).at2
    exact ⟨e00, e01, e10, e11⟩)
  have hw : Below we1.heap.size we1 we1.drew := (Below.refl _ _).drew
  have hO := ((HO0.out.below hW_9).more hW_9.size)
  have hNk := hn0_9
  go_region_held3 (fun w' => w'.cell? ⟨w.heap.size, 0, none⟩ = some (.int .i64 sd0) ∧ w'.cell? ⟨w.heap.size, 1, none⟩ = some (.slice A0 ks0.length c0) ∧ w'.cell? ⟨xr0, 0, none⟩ = some (.int .i64 sd0) ∧ w'.cell? ⟨xr0, 1, none⟩ = some (.slice (some ⟨gr0, 0, none⟩) ks0.length cr0))
    (exact HS.out _ hw)
    (first
      | (go_at_call 15; refine (toRules_any _ _ _ _ _ ((hO.below hw).more hw.size) HSM0.out).mono ?_; rintro e wa0 ⟨ga, ca, rfl, hna, hba⟩; have hw := hw.trans (hba.mono hw.size))
      | (go_at_call 18; refine (eqRules_same _ _ _ _ _ _ _ (hNk.below hw).is hna.is HSM0.out).mono ?_; rintro e wq0 ⟨rfl, hbb⟩; have hw := hw.trans (hbb.mono hw.size)))
  clear HS hO hNk hna
  have pB0_10 := pB0_9.below hw pB0_9.lt
  have pB3_10 := pB3_9.below hw pB3_9.lt
  have hW_10 := hW_9.trans (hw.mono hW_9.size)
  have Is_10 := Is_9.below (hw.mono (by omega))
  have KS_10 := KS_9.below (hw.mono (by omega))
  have pxr0_10 := pxr0_9.below hw pxr0_9.lt
  have hn1_10 := hn1_9.below hw
  have MB_10 := MB_9.below hw MB_9.lt
  have hn2_10 := hn2_9.below hw
  have IZ_10 := IZ_9.below (hw.mono (by omega))
  have hn3_10 := hn3_9.below hw
  have MP_10 := MP_9.below hw MP_9.lt
  have pxr3_10 := pxr3_9.below hw pxr3_9.lt
  have Ig_10 := Ig_9.below (hw.mono (by omega))
  have hz_10 := hw.size
  clear pB0_9 pB3_9 hW_9 Is_9 hn0_9 KS_9 pxr0_9 hn1_9 MB_9 hn2_9 IZ_9 hn3_9 MP_9 pxr3_9 Ig_9
  clear hw
  obtain ⟨⟨z_pB00, z_pB01⟩, _⟩ := pB0_10.at2
  obtain ⟨⟨z_pB30, z_pB31⟩, _⟩ := pB3_10.at2
  obtain ⟨⟨z_pxr00, z_pxr01⟩, _⟩ := pxr0_10.at2
  obtain ⟨⟨z_pxr30, z_pxr31⟩, _⟩ := pxr3_10.at2
  go_wp2_with fail
  clear z_pB00 z_pB01 z_pB30 z_pB31 z_pxr00 z_pxr01 z_pxr30 z_pxr31
  refine (toPieceS_any _ _ _ _ ((HO1.out.below hW_10).more hW_10.size) hl1).mono ?_
  rintro e wa1 ⟨ga, ca, rfl, hna, hba⟩
  have hNk := hn1_10.below hba
  go_wp2_with fail
  refine (eqPieceS_same _ _ _ _ _ _ hNk.is hna.is hl1).mono ?_
  rintro e wq1 ⟨rfl, hbb⟩
  have hb := hba.trans (hbb.mono hba.size)
  clear hba hbb hna hNk
  have pB0_11 := pB0_10.below hb pB0_10.lt
  have pB3_11 := pB3_10.below hb pB3_10.lt
  have hW_11 := hW_10.trans (hb.mono hW_10.size)
  have Is_11 := Is_10.below (hb.mono (by omega))
  have KS_11 := KS_10.below (hb.mono (by omega))
  have pxr0_11 := pxr0_10.below hb pxr0_10.lt
  have MB_11 := MB_10.below hb MB_10.lt
  have hn2_11 := hn2_10.below hb
  have IZ_11 := IZ_10.below (hb.mono (by omega))
  have hn3_11 := hn3_10.below hb
  have MP_11 := MP_10.below hb MP_10.lt
  have pxr3_11 := pxr3_10.below hb pxr3_10.lt
  have Ig_11 := Ig_10.below (hb.mono (by omega))
  have hz_11 := hb.size
  clear pB0_10 pB3_10 hW_10 Is_10 KS_10 pxr0_10 hn1_10 MB_10 hn2_10 IZ_10 hn3_10 MP_10 pxr3_10 Ig_10
  clear hb
  obtain ⟨⟨z_pB00, z_pB01⟩, _⟩ := pB0_11.at2
  obtain ⟨⟨z_pB30, z_pB31⟩, _⟩ := pB3_11.at2
  obtain ⟨⟨z_pxr00, z_pxr01⟩, _⟩ := pxr0_11.at2
  obtain ⟨⟨z_pxr30, z_pxr31⟩, _⟩ := pxr3_11.at2
  go_wp2_with fail
  clear z_pB00 z_pB01 z_pB30 z_pB31 z_pxr00 z_pxr01 z_pxr30 z_pxr31
  refine (toIntS_any _ _ _ _ ((HO2.out.below hW_11).more hW_11.size) hl2).mono ?_
  rintro e wa2 ⟨ga, ca, rfl, hna, hba⟩
  have hNk := hn2_11.below hba
  go_wp2_with fail
  refine (eqIntS_same _ _ _ _ _ _ hNk.is hna.is hl2).mono ?_
  rintro e wq2 ⟨rfl, hbb⟩
  have hb := hba.trans (hbb.mono hba.size)
  clear hba hbb hna hNk
  have pB0_12 := pB0_11.below hb pB0_11.lt
  have pB3_12 := pB3_11.below hb pB3_11.lt
  have hW_12 := hW_11.trans (hb.mono hW_11.size)
  have Is_12 := Is_11.below (hb.mono (by omega))
  have KS_12 := KS_11.below (hb.mono (by omega))
  have pxr0_12 := pxr0_11.below hb pxr0_11.lt
  have MB_12 := MB_11.below hb MB_11.lt
  have IZ_12 := IZ_11.below (hb.mono (by omega))
  have hn3_12 := hn3_11.below hb
  have MP_12 := MP_11.below hb MP_11.lt
  have pxr3_12 := pxr3_11.below hb pxr3_11.lt
  have Ig_12 := Ig_11.below (hb.mono (by omega))
  have hz_12 := hb.size
  clear pB0_11 pB3_11 hW_11 Is_11 KS_11 pxr0_11 MB_11 hn2_11 IZ_11 hn3_11 MP_11 pxr3_11 Ig_11
  clear hb
  obtain ⟨⟨z_pB00, z_pB01⟩, _⟩ := pB0_12.at2
  obtain ⟨⟨z_pB30, z_pB31⟩, _⟩ := pB3_12.at2
  obtain ⟨⟨z_pxr00, z_pxr01⟩, _⟩ := pxr0_12.at2
  obtain ⟨⟨z_pxr30, z_pxr31⟩, _⟩ := pxr3_12.at2
  go_wp2_with fail
  clear z_pB00 z_pB01 z_pB30 z_pB31 z_pxr00 z_pxr01 z_pxr30 z_pxr31
  have HS : Hid (∀ w', Below wq2.heap.size wq2 w' → (w'.cell? ⟨w.heap.size + 1, 0, none⟩ = some (.int .i64 t3) ∧ w'.cell? ⟨w.heap.size + 1, 1, none⟩ = some (.slice A3 l3.length c3) ∧ w'.cell? ⟨xr3, 0, none⟩ = some (.int .i64 t3) ∧ w'.cell? ⟨xr3, 1, none⟩ = some (.slice (some ⟨gr3, 0, none⟩) l3.length cr3))) := Lib.hid (fun w' hb => by
    obtain ⟨⟨e00, e01⟩, _⟩ := (pB3_12.below hb pB3_12.lt).at2
    obtain ⟨⟨e10, e11⟩, _⟩ := (pxr3_12.below hb pxr3_12.lt).at2
    exact ⟨e00, e01, e10, e11⟩)
  have hw : Below wq2.heap.size wq2 wq2.drew := (Below.refl _ _).drew
  have hO := ((HO3.out.below hW_12).more hW_12.size)
  have hNk := hn3_12
  go_region_held3 (fun w' => w'.cell? ⟨w.heap.size + 1, 0, none⟩ = some (.int .i64 t3) ∧ w'.cell? ⟨w.heap.size + 1, 1, none⟩ = some (.slice A3 l3.length c3) ∧ w'.cell? ⟨xr3, 0, none⟩ = some (.int .i64 t3) ∧ w'.cell? ⟨xr3, 1, none⟩ = some (.slice (some ⟨gr3, 0, none⟩) l3.length cr3))
    (exact HS.out _ hw)
    (first
      | (go_at_call 39; refine (toPos_any _ _ _ _ _ ((hO.below hw).more hw.size) hl3).mono ?_; rintro e wa3 ⟨ga, ca, rfl, hna, hba⟩; have hw := hw.trans (hba.mono hw.size))
      | (go_at_call 22; refine (eqPos_same _ _ _ _ _ _ _ (hNk.below hw).is hna.is hl3).mono ?_; rintro e wq3 ⟨rfl, hbb⟩; have hw := hw.trans (hbb.mono hw.size)))
  clear HS hO hNk hna
  have pB0_13 := pB0_12.below hw pB0_12.lt
  have pB3_13 := pB3_12.below hw pB3_12.lt
  have hW_13 := hW_12.trans (hw.mono hW_12.size)
  have Is_13 := Is_12.below (hw.mono (by omega))
  have KS_13 := KS_12.below (hw.mono (by omega))
  have pxr0_13 := pxr0_12.below hw pxr0_12.lt
  have MB_13 := MB_12.below hw MB_12.lt
  have IZ_13 := IZ_12.below (hw.mono (by omega))
  have MP_13 := MP_12.below hw MP_12.lt
  have pxr3_13 := pxr3_12.below hw pxr3_12.lt
  have Ig_13 := Ig_12.below (hw.mono (by omega))
  have hz_13 := hw.size
  clear pB0_12 pB3_12 hW_12 Is_12 KS_12 pxr0_12 MB_12 IZ_12 hn3_12 MP_12 pxr3_12 Ig_12
  clear hw
  obtain ⟨⟨z_pB00, z_pB01⟩, _⟩ := pB0_13.at2
  obtain ⟨⟨z_pB30, z_pB31⟩, _⟩ := pB3_13.at2
  obtain ⟨⟨z_pxr00, z_pxr01⟩, _⟩ := pxr0_13.at2
  obtain ⟨⟨z_pxr30, z_pxr31⟩, _⟩ := pxr3_13.at2
  go_wp2_with fail
  clear z_pB00 z_pB01 z_pB30 z_pB31 z_pxr00 z_pxr01 z_pxr30 z_pxr31
  -- marks
  have lx0 := pxr0_13.lt
  have lx3 := pxr3_13.lt
  refine (markRules_any _ _ _ _ _ _ _ _ KS_13 HSM0.out (by omega) (by omega) (by omega)).mono ?_
  rintro e wk0 ⟨k1, rfl, hk11, hk12, sp⟩
  have pB0_14 := sp.blk pB0_13 (by omega)
  have pB3_14 := sp.blk pB3_13 (by omega)
  have hW_14 := hW_13.trans (sp.toBelow (B := w.heap.size) (by omega) (by omega))
  have Is_14 := Is_13.span sp (by omega)
  have pxr0_14 := sp.blk pxr0_13 (by omega)
  have MB_14 := sp.shape _ _ _ MB_13
  have IZ_14 := IZ_13.span sp (by omega)
  have MP_14 := sp.shape _ _ _ MP_13
  have pxr3_14 := sp.blk pxr3_13 (by omega)
  have Ig_14 := Ig_13.span sp (by omega)
  have hz_14 := sp.size
  clear pB0_13 pB3_13 hW_13 Is_13 KS_13 pxr0_13 MB_13 IZ_13 MP_13 pxr3_13 Ig_13
  clear sp
  obtain ⟨⟨z_pB00, z_pB01⟩, _⟩ := pB0_14.at2
  obtain ⟨⟨z_pB30, z_pB31⟩, _⟩ := pB3_14.at2
  obtain ⟨⟨z_pxr00, z_pxr01⟩, _⟩ := pxr0_14.at2
  obtain ⟨⟨z_pxr30, z_pxr31⟩, _⟩ := pxr3_14.at2
  go_wp2_with fail
  clear z_pB00 z_pB01 z_pB30 z_pB31 z_pxr00 z_pxr01 z_pxr30 z_pxr31
  refine (markPieceS_any _ _ _ _ _ MB_14 hl1 (by omega) (by omega)).mono ?_
  rintro e wk1 ⟨rfl, sp⟩
  have pB0_15 := sp.blk pB0_14 (by omega)
  have pB3_15 := sp.blk pB3_14 (by omega)
  have hW_15 := hW_14.trans (sp.toBelow (B := w.heap.size) (by omega) (by omega))
  have Is_15 := Is_14.span sp (by omega)
  have pxr0_15 := sp.blk pxr0_14 (by omega)
  have IZ_15 := IZ_14.span sp (by omega)
  have MP_15 := sp.shape _ _ _ MP_14
  have pxr3_15 := sp.blk pxr3_14 (by omega)
  have Ig_15 := Ig_14.span sp (by omega)
  have hz_15 := sp.size
  clear pB0_14 pB3_14 hW_14 Is_14 pxr0_14 MB_14 IZ_14 MP_14 pxr3_14 Ig_14
  clear sp
  obtain ⟨⟨z_pB00, z_pB01⟩, _⟩ := pB0_15.at2
  obtain ⟨⟨z_pB30, z_pB31⟩, _⟩ := pB3_15.at2
  obtain ⟨⟨z_pxr00, z_pxr01⟩, _⟩ := pxr0_15.at2
  obtain ⟨⟨z_pxr30, z_pxr31⟩, _⟩ := pxr3_15.at2
  go_wp2_with fail
  clear z_pB00 z_pB01 z_pB30 z_pB31 z_pxr00 z_pxr01 z_pxr30 z_pxr31
  refine (markIntS_any _ _ _ _ _ _ _ IZ_15 hl2 (by omega) (by omega)).mono ?_
  rintro e wk2 ⟨rfl, _, sp⟩
  have pB0_16 := sp.blk pB0_15 (by omega)
  have pB3_16 := sp.blk pB3_15 (by omega)
  have hW_16 := hW_15.trans (sp.toBelow (B := w.heap.size) (by omega) (by omega))
  have Is_16 := Is_15.span sp (by omega)
  have pxr0_16 := sp.blk pxr0_15 (by omega)
  have MP_16 := sp.shape _ _ _ MP_15
  have pxr3_16 := sp.blk pxr3_15 (by omega)
  have Ig_16 := Ig_15.span sp (by omega)
  have hz_16 := sp.size
  clear pB0_15 pB3_15 hW_15 Is_15 pxr0_15 IZ_15 MP_15 pxr3_15 Ig_15
  clear sp
  obtain ⟨⟨z_pB00, z_pB01⟩, _⟩ := pB0_16.at2
  obtain ⟨⟨z_pB30, z_pB31⟩, _⟩ := pB3_16.at2
  obtain ⟨⟨z_pxr00, z_pxr01⟩, _⟩ := pxr0_16.at2
  obtain ⟨⟨z_pxr30, z_pxr31⟩, _⟩ := pxr3_16.at2
  go_wp2_with fail
  clear z_pB00 z_pB01 z_pB30 z_pB31 z_pxr00 z_pxr01 z_pxr30 z_pxr31
  refine (markPos_any gr3 (gr3 + 1) _ _ _ _ _ _ MP_16 (by omega) (by omega) hl3 (by omega) (by omega)).mono ?_
  rintro e wk3 ⟨k2, rfl, hk21, hk22, sp⟩
  have pB0_17 := sp.blk pB0_16 (by omega)
  have pB3_17 := sp.blk pB3_16 (by omega)
  have hW_17 := hW_16.trans (sp.toBelow (B := w.heap.size) (by omega) (by omega))
  have Is_17 := Is_16.span sp (by omega)
  have pxr0_17 := sp.blk pxr0_16 (by omega)
  have pxr3_17 := sp.blk pxr3_16 (by omega)
  have Ig_17 := Ig_16.span sp (by omega)
  have hz_17 := sp.size
  clear pB0_16 pB3_16 hW_16 Is_16 pxr0_16 MP_16 pxr3_16 Ig_16
  clear sp
  have hkn : decide (k2 < 0) = false := decide_eq_false (by omega)
  obtain ⟨⟨z_pB00, z_pB01⟩, _⟩ := pB0_17.at2
  obtain ⟨⟨z_pB30, z_pB31⟩, _⟩ := pB3_17.at2
  obtain ⟨⟨z_pxr00, z_pxr01⟩, _⟩ := pxr0_17.at2
  obtain ⟨⟨z_pxr30, z_pxr31⟩, _⟩ := pxr3_17.at2
  go_wp2_with fail
  clear z_pB00 z_pB01 z_pB30 z_pB31 z_pxr00 z_pxr01 z_pxr30 z_pxr31
  refine (eqMoveS_same _ _ _ _ _ _ (Ig_17.is.more (by omega)) (Is_17.is.more (by omega)) hlenL).mono ?_
  rintro e we2 ⟨rfl, hb⟩
  have pB0_18 := pB0_17.below hb pB0_17.lt
  have pB3_18 := pB3_17.below hb pB3_17.lt
  have hW_18 := hW_17.trans (hb.mono hW_17.size)
  have Is_18 := Is_17.below (hb.mono (by omega))
  have pxr0_18 := pxr0_17.below hb pxr0_17.lt
  have pxr3_18 := pxr3_17.below hb pxr3_17.lt
  have Ig_18 := Ig_17.below (hb.mono (by omega))
  have hz_18 := hb.size
  clear pB0_17 pB3_17 hW_17 Is_17 pxr0_17 pxr3_17 Ig_17
  clear hb
  obtain ⟨⟨z_pB00, z_pB01⟩, _⟩ := pB0_18.at2
  obtain ⟨⟨z_pB30, z_pB31⟩, _⟩ := pB3_18.at2
  obtain ⟨⟨z_pxr00, z_pxr01⟩, _⟩ := pxr0_18.at2
  obtain ⟨⟨z_pxr30, z_pxr31⟩, _⟩ := pxr3_18.at2
  go_wp2_with fail
  clear z_pB00 z_pB01 z_pB30 z_pB31 z_pxr00 z_pxr01 z_pxr30 z_pxr31
  have hln : decide (1 + 2 * (LL.length : Int) < 0) = false := decide_eq_false (by omega)
  refine (markMoveS_any _ _ _ _ _ _ _ Ig_18 hlenL (by omega) (by omega)).mono ?_
  rintro e wo ⟨rfl, hIm, sp⟩
  have pB0_19 := sp.blk pB0_18 (by omega)
  have pB3_19 := sp.blk pB3_18 (by omega)
  have hW_19 := hW_18.trans (sp.toBelow (B := w.heap.size) (by omega) (by omega))
  have Is_19 := Is_18.span sp (by omega)
  have pxr0_19 := sp.blk pxr0_18 (by omega)
  have pxr3_19 := sp.blk pxr3_18 (by omega)
  have hz_19 := sp.size
  clear pB0_18 pB3_18 hW_18 Is_18 pxr0_18 pxr3_18 Ig_18
  have Im_19 := hIm
  clear sp hIm
  obtain ⟨⟨z_pB00, z_pB01⟩, _⟩ := pB0_19.at2
  obtain ⟨⟨z_pB30, z_pB31⟩, _⟩ := pB3_19.at2
  obtain ⟨⟨z_pxr00, z_pxr01⟩, _⟩ := pxr0_19.at2
  obtain ⟨⟨z_pxr30, z_pxr31⟩, _⟩ := pxr3_19.at2
  go_wp2_with fail
  clear z_pB00 z_pB01 z_pB30 z_pB31 z_pxr00 z_pxr01 z_pxr30 z_pxr31
  refine (heldMoveS_any _ _ _ _ _ _ Im_19.is hlenL (by omega) (by omega)).mono ?_
  rintro e wh ⟨rfl, rfl⟩
  obtain ⟨⟨z_pB00, z_pB01⟩, _⟩ := pB0_19.at2
  obtain ⟨⟨z_pB30, z_pB31⟩, _⟩ := pB3_19.at2
  obtain ⟨⟨z_pxr00, z_pxr01⟩, _⟩ := pxr0_19.at2
  obtain ⟨⟨z_pxr30, z_pxr31⟩, _⟩ := pxr3_19.at2
  go_wp2_with fail
  clear z_pB00 z_pB01 z_pB30 z_pB31 z_pxr00 z_pxr01 z_pxr30 z_pxr31
  have hO0 := ((HO0.out.below hW_19).more hW_19.size)
  have hO1 := ((HO1.out.below hW_19).more hW_19.size)
  have hO2 := ((HO2.out.below hW_19).more hW_19.size)
  have hO3 := ((HO3.out.below hW_19).more hW_19.size)
  have HTB := Lib.hid (HT.out.below hW_19 hT0)
  go_cut [19] from 115 (fun sx wx => ∃ (Aw : Option Addr) (cw : Nat), sx = .slice Aw LL.length cw ∧ MvA wo.heap.size wx.heap.size wx Aw LL ∧ Below wo.heap.size wo wx)
  case first =>
    have HS : Hid (∀ w', Below wo.heap.size wo w' → (w'.cell? ⟨w.heap.size, 0, none⟩ = some (.int .i64 sd0) ∧ w'.cell? ⟨w.heap.size, 1, none⟩ = some (.slice A0 ks0.length c0) ∧ w'.cell? ⟨w.heap.size + 1, 0, none⟩ = some (.int .i64 t3) ∧ w'.cell? ⟨w.heap.size + 1, 1, none⟩ = some (.slice A3 l3.length c3))) := Lib.hid (fun w' hb => by
      obtain ⟨⟨e00, e01⟩, _⟩ := (pB0_19.below hb pB0_19.lt).at2
      obtain ⟨⟨e10, e11⟩, _⟩ := (pB3_19.below hb pB3_19.lt).at2
      exact ⟨e00, e01, e10, e11⟩)
    have hw : Below wo.heap.size wo wo.drew := (Below.refl _ _).drew
    go_region_held3 (fun w' => w'.cell? ⟨w.heap.size, 0, none⟩ = some (.int .i64 sd0) ∧ w'.cell? ⟨w.heap.size, 1, none⟩ = some (.slice A0 ks0.length c0) ∧ w'.cell? ⟨w.heap.size + 1, 0, none⟩ = some (.int .i64 t3) ∧ w'.cell? ⟨w.heap.size + 1, 1, none⟩ = some (.slice A3 l3.length c3))
      (exact HS.out _ hw)
      (first
        | (go_at_call 15; refine (toRules_any _ _ _ _ _ ((hO0.below hw).more hw.size) HSM0.out).mono ?_; rintro e wn0 ⟨gn0, cn0, rfl, hN0, hbn0⟩; have hw := hw.trans (hbn0.mono hw.size); try (have hN1 := hN1.below hbn0); try (have hN2 := hN2.below hbn0); try (have hN3 := hN3.below hbn0))
        | (go_at_call 46; refine (toPieceS_any _ _ _ _ ((hO1.below hw).more hw.size) hl1).mono ?_; rintro e wn1 ⟨gn1, cn1, rfl, hN1, hbn1⟩; have hw := hw.trans (hbn1.mono hw.size); try (have hN0 := hN0.below hbn1); try (have hN2 := hN2.below hbn1); try (have hN3 := hN3.below hbn1))
        | (go_at_call 47; refine (toIntS_any _ _ _ _ ((hO2.below hw).more hw.size) hl2).mono ?_; rintro e wn2 ⟨gn2, cn2, rfl, hN2, hbn2⟩; have hw := hw.trans (hbn2.mono hw.size); try (have hN0 := hN0.below hbn2); try (have hN1 := hN1.below hbn2); try (have hN3 := hN3.below hbn2))
        | (go_at_call 39; refine (toPos_any _ _ _ _ _ ((hO3.below hw).more hw.size) hl3).mono ?_; rintro e wn3 ⟨gn3, cn3, rfl, hN3, hbn3⟩; have hw := hw.trans (hbn3.mono hw.size); try (have hN0 := hN0.below hbn3); try (have hN1 := hN1.below hbn3); try (have hN2 := hN2.below hbn3))
        | (go_at_call 48; refine (BestLine_any _ _ _ _ _ _ _ _ _ _ _ _ _ _ _ hN0.is hN1.is hN2.is hN3.is (HTB.out.keep hw) HSM0.out hl1 hl2 hl3).mono ?_; rw [← HLL.out]; rintro e wsp ⟨Aw, cw, rfl, hIw, hbs⟩; have hwq := hw.size; have hw := hw.trans (hbs.mono hw.size)))
    all_goals
      go_wp2_with fail
      go_meet
      exact ⟨_, _, rfl, hIw.more hwq (Nat.le_refl _), hw⟩
  clear hO0 hO1 hO2 hO3
  obtain ⟨Afh, cfh, rfl, hIx, hb⟩ := hcut
  have pB0_20 := pB0_19.below hb pB0_19.lt
  have pB3_20 := pB3_19.below hb pB3_19.lt
  have hW_20 := hW_19.trans (hb.mono hW_19.size)
  have Is_20 := Is_19.below (hb.mono (by omega))
  have pxr0_20 := pxr0_19.below hb pxr0_19.lt
  have pxr3_20 := pxr3_19.below hb pxr3_19.lt
  have Im_20 := Im_19.below (hb.mono (by omega))
  have hz_20 := hb.size
  clear pB0_19 pB3_19 hW_19 Is_19 pxr0_19 pxr3_19 Im_19
  have Ih_20 := hIx
  clear hIx hb
  obtain ⟨⟨z_pB00, z_pB01⟩, _⟩ := pB0_20.at2
  obtain ⟨⟨z_pB30, z_pB31⟩, _⟩ := pB3_20.at2
  obtain ⟨⟨z_pxr00, z_pxr01⟩, _⟩ := pxr0_20.at2
  obtain ⟨⟨z_pxr30, z_pxr31⟩, _⟩ := pxr3_20.at2
  go_wp2_with fail
  clear z_pB00 z_pB01 z_pB30 z_pB31 z_pxr00 z_pxr01 z_pxr30 z_pxr31
  refine (eqMoveS_same _ _ _ _ _ _ (Ih_20.is.more (by omega)) (Is_20.is.more (by omega)) hlenL).mono ?_
  rintro e we3 ⟨rfl, hb⟩
  have pB0_21 := pB0_20.below hb pB0_20.lt
  have pB3_21 := pB3_20.below hb pB3_20.lt
  have hW_21 := hW_20.trans (hb.mono hW_20.size)
  have Is_21 := Is_20.below (hb.mono (by omega))
  have pxr0_21 := pxr0_20.below hb pxr0_20.lt
  have pxr3_21 := pxr3_20.below hb pxr3_20.lt
  have Im_21 := Im_20.below (hb.mono (by omega))
  have Ih_21 := Ih_20.below (hb.mono (by omega))
  have hz_21 := hb.size
  clear pB0_20 pB3_20 hW_20 Is_20 pxr0_20 pxr3_20 Im_20 Ih_20
  clear hb
  obtain ⟨⟨z_pB00, z_pB01⟩, _⟩ := pB0_21.at2
  obtain ⟨⟨z_pB30, z_pB31⟩, _⟩ := pB3_21.at2
  obtain ⟨⟨z_pxr00, z_pxr01⟩, _⟩ := pxr0_21.at2
  obtain ⟨⟨z_pxr30, z_pxr31⟩, _⟩ := pxr3_21.at2
  go_wp2_with fail
  clear z_pB00 z_pB01 z_pB30 z_pB31 z_pxr00 z_pxr01 z_pxr30 z_pxr31
  refine (heldMoveS_any _ _ _ _ _ _ Im_21.is hlenL (by omega) (by omega)).mono ?_
  rintro e wh ⟨rfl, rfl⟩
  obtain ⟨⟨z_pB00, z_pB01⟩, _⟩ := pB0_21.at2
  obtain ⟨⟨z_pB30, z_pB31⟩, _⟩ := pB3_21.at2
  obtain ⟨⟨z_pxr00, z_pxr01⟩, _⟩ := pxr0_21.at2
  obtain ⟨⟨z_pxr30, z_pxr31⟩, _⟩ := pxr3_21.at2
  go_wp2_with fail
  clear z_pB00 z_pB01 z_pB30 z_pB31 z_pxr00 z_pxr01 z_pxr30 z_pxr31
  go_ret
  exact ⟨rfl, hW_21⟩
end Go.Proofs.YtnjhcjjeehccbaaGreatDoor.Laws
