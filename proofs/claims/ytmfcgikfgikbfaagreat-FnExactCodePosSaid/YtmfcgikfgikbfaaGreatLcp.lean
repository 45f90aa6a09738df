/- The walk of the exact law FnExactCodePos. -/
import Derived.Test.YtmfcgikfgikbfaaGreatOpr
import Derived.Test.YtmfcgikfgikbfaaGreatOpm
import Derived.Test.YtmfcgikfgikbfaaGreatCpo
import Derived.Test.YtmfcgikfgikbfaaGreatGm
import Derived.Test.YtmfcgikfgikbfaaGreatMm
import Derived.Deep.RegionHeld3
namespace Go.Proofs.YtmfcgikfgikbfaaGreat.Laws
open Go.ChangeShapes Go.WideShapes Go.ChangeAt Go.RowKit Base Sq Ko Opn
set_option linter.unusedVariables false
set_option maxRecDepth 20000

set_option maxHeartbeats 16000000 in
theorem fnExactCodePos_walk {H : Type} {enc : TypeId × Value → H} {b0 : Nat} {d0 : DataW H} {pl0 : List MemPlace} {d1 : DataW H} {pl1 : List MemPlace} (w : World)
    (v0 : Value) (hv0 : Value.okWide Tryz.prog w .any b0 24 v0) (h0 : DataW.Trod enc Tryz.prog w 0 (fun _ => true) true 24 v0 d0 pl0)
    (v1 : Value) (hv1 : Value.okWide Tryz.prog w .any b0 25 v1) (h1 : DataW.Trod enc Tryz.prog w 0 (fun _ => true) true 25 v1 d1 pl1) (q2 : Int) (hq2 : (Lit.int .i64 q2).wf = true) :
    Calls Tryz.prog 3 #[v0, v1, .int .i64 q2] w fun e w' => e = .returned (.bool true) ∧ Below w.heap.size w w' := by
  obtain ⟨sd0, A0, c0, ks0, rfl, hl0, hs0⟩ := open_rules hv0 h0
  obtain ⟨A1, c1, m1, rfl, hn1, hs1⟩ := open_pieces hv1 h1
  clear hv0 h0 hv1 h1
  unfold maxLen at hn1
  clear hq2
  go_enter Tryz.func3, Tryz.ntmps3
  go_wp2_with fail
  have hW0 : Below w.heap.size w (w.alloc (.cells #[.int .i64 sd0, .slice A0 ks0.length c0] 24)) := (by repeat (first | exact Below.refl _ _ | assumption | (refine Below.alloc ?_ (by first | omega | (simp; done) | (simp; omega)) _) | (refine Below.setCell ?_ (by first | omega | (simp; done) | (simp; omega)) _) | refine Below.drew ?_))
  have pB0_0 := (Blk.new w #[.int .i64 sd0, .slice A0 ks0.length c0] 24)
  generalize hWx : (w.alloc _) = W0 at *
  clear hWx
  have HO0 := Lib.hid hs0
  clear hs0
  have HO1 := Lib.hid hs1
  clear hs1
  refine (szRules_any _ _ _ _ _ _ ((HO0.out.below hW0).more hW0.size) hl0 (by omega) (by omega)).mono ?_
  rintro e w10 ⟨lf0, rfl, hle0, hor0, hb⟩
  clear hl0
  have pB0_1 := pB0_0.below hb pB0_0.lt
  have hW_1 := hW0.trans (hb.mono hW0.size)
  clear pB0_0 hW0
  clear hb
  rcases hor0 with rfl | ⟨hnn0, hsm0⟩
  · go_wp2_with fail
    go_ret
    exact ⟨rfl, hW_1⟩
  have HSM0 := Lib.hid hsm0
  clear hsm0
  obtain ⟨⟨a00, a01⟩, _⟩ := pB0_1.at2
  by_cases hbig : lf0 - (m1.length : Int) < 0
  · have HN := Lib.hid hbig
    clear hbig
    go_wp2_with fail
    refine (szPieceS_any _ _ _ _ _ (by omega) hnn0 hle0).mono ?_
    rw [if_pos (by have := HN.out; omega)]
    rintro e w2 ⟨rfl, rfl⟩
    go_wp2_with fail
    go_ret
    exact ⟨rfl, hW_1⟩
  have hl1 : m1.length ≤ 1048576 := by omega
  have HN := Lib.hid hbig
  clear hbig
  go_wp2_with fail
  refine (szPieceS_any _ _ _ _ _ (by omega) hnn0 hle0).mono ?_
  rw [if_neg (by have := HN.out; omega)]
  rintro e w2 ⟨rfl, rfl⟩
  have hnn1 : 0 ≤ lf0 - (m1.length : Int) := by have := HN.out; omega
  have hle1 : lf0 - (m1.length : Int) ≤ 1048576 := by omega
  generalize hvm : lf0 - (m1.length : Int) = lf1 at *
  clear hvm HN
  go_wp2_with fail
  have hlenL : (cpL sd0 ks0 m1 q2).length ≤ 1048576 := cpL_len sd0 ks0 m1 q2
  obtain ⟨LL, hLL⟩ : ∃ LL, LL = cpL sd0 ks0 m1 q2 := ⟨_, rfl⟩
  rw [← hLL] at hlenL
  have HLL := Lib.hid hLL
  clear hLL
  obtain ⟨TT, hTT⟩ : ∃ TT, TT = cpT sd0 ks0 m1 q2 := ⟨_, rfl⟩
  have HTT := Lib.hid hTT
  obtain ⟨BB, hBB⟩ : ∃ BB, BB = cpB sd0 ks0 m1 q2 := ⟨_, rfl⟩
  have HBB := Lib.hid hBB
  clear hTT hBB
  have hbb : (BB != BB) = false := by simp
  have hz_w0 := hW_1.size
  have hz_b0 := pB0_1.lt
  clear a00 a01
  obtain ⟨⟨z_pB00, z_pB01⟩, _⟩ := pB0_1.at2
  -- the model's
  clear z_pB00 z_pB01
  refine (toRules_any _ _ _ _ _ ((HO0.out.below hW_1).more hW_1.size) HSM0.out).mono ?_
  rintro e wrs ⟨grs, crs, rfl, hNx, hb⟩
  have pB0_2 := pB0_1.below hb pB0_1.lt
  have hW_2 := hW_1.trans (hb.mono hW_1.size)
  have hz_2 := hb.size
  clear pB0_1 hW_1
  have hks_2 := hNx
  clear hNx hb
  obtain ⟨⟨z_pB00, z_pB01⟩, _⟩ := pB0_2.at2
  go_wp2_with fail
  clear z_pB00 z_pB01
  refine (toPieceS_any _ _ _ _ ((HO1.out.below hW_2).more hW_2.size) hl1).mono ?_
  rintro e wms ⟨gms, cms, rfl, hNx, hb⟩
  have pB0_3 := pB0_2.below hb pB0_2.lt
  have hW_3 := hW_2.trans (hb.mono hW_2.size)
  have hks_3 := hks_2.below hb
  have hz_3 := hb.size
  clear pB0_2 hW_2 hks_2
  have hns_3 := hNx
  clear hNx hb
  obtain ⟨⟨z_pB00, z_pB01⟩, _⟩ := pB0_3.at2
  go_wp2_with fail
  clear z_pB00 z_pB01
  refine (specCodePos_any _ _ _ _ _ _ _ _ _ hks_3.is hns_3.is HSM0.out hl1).mono ?_
  rw [← HLL.out, ← HTT.out, ← HBB.out]
  rintro e wfs hpr
  obtain ⟨Afs, cfs, rfl, hIx, hb⟩ := posRes_men2 hpr
  clear hpr
  have hXx := Blk.new wfs #[.int .i64 TT, .slice Afs LL.length cfs] 30
  have hA := below_of wfs (.cells #[.int .i64 TT, .slice Afs LL.length cfs] 30)
  have hbA := hb.trans (hA.mono hb.size)
  have hs_xfs : (wfs.alloc (.cells #[.int .i64 TT, .slice Afs LL.length cfs] 30)).heap.size = wfs.heap.size + 1 := by simp
  have hq_xfs := hb.size
  have n_Is := hIx.below hA
  have lt_pB0 := (pB0_3.below hb pB0_3.lt).lt
  obtain ⟨⟨y_pB00, y_pB01⟩, _⟩ := (pB0_3.below hb pB0_3.lt).at2
  have pB0_4 := pB0_3.below hbA pB0_3.lt
  have hW_4 := hW_3.trans (hbA.mono hW_3.size)
  have hks_4 := hks_3.below hbA
  have hns_4 := hns_3.below hbA
  have hz_4 := hbA.size
  clear pB0_3 hW_3 hks_3 hns_3
  have Is_4 := n_Is
  clear n_Is
  have pxfs_4 := hXx
  clear hXx
  obtain ⟨⟨z_pB00, z_pB01⟩, _⟩ := pB0_4.at2
  obtain ⟨⟨z_pxfs0, z_pxfs1⟩, _⟩ := pxfs_4.at2
  go_wp2_with fail
  generalize hZx : wfs.alloc _ = Wfs at *
  generalize hzx : wfs.heap.size = xfs at *
  clear hZx hzx hb hA hbA
  clear y_pB00 y_pB01 z_pB00 z_pB01 z_pxfs0 z_pxfs1 lt_pB0
  clear hIx
  -- the arguments again
  refine (toRules_any _ _ _ _ _ ((HO0.out.below hW_4).more hW_4.size) HSM0.out).mono ?_
  rintro e wr ⟨gr, cr, rfl, hNx, hb⟩
  clear hks_4
  clear hns_4
  have hXx := Blk.new wr #[.int .i64 sd0, .slice (some ⟨gr, 0, none⟩) ks0.length cr] 35
  have hA := below_of wr (.cells #[.int .i64 sd0, .slice (some ⟨gr, 0, none⟩) ks0.length cr] 35)
  have hbA := hb.trans (hA.mono hb.size)
  have hs_xr : (wr.alloc (.cells #[.int .i64 sd0, .slice (some ⟨gr, 0, none⟩) ks0.length cr] 35)).heap.size = wr.heap.size + 1 := by simp
  have hq_xr := hb.size
  have n_hk := hNx.below hA
  have n_KS := hNx.shape.below hA
  have lt_pB0 := (pB0_4.below hb pB0_4.lt).lt
  obtain ⟨⟨y_pB00, y_pB01⟩, _⟩ := (pB0_4.below hb pB0_4.lt).at2
  have lt_pxfs := (pxfs_4.below hb pxfs_4.lt).lt
  obtain ⟨⟨y_pxfs0, y_pxfs1⟩, _⟩ := (pxfs_4.below hb pxfs_4.lt).at2
  have pB0_5 := pB0_4.below hbA pB0_4.lt
  have hW_5 := hW_4.trans (hbA.mono hW_4.size)
  have Is_5 := Is_4.below (hbA.mono (by omega))
  have pxfs_5 := pxfs_4.below hbA pxfs_4.lt
  have hz_5 := hbA.size
  clear pB0_4 hW_4 Is_4 pxfs_4
  have hk_5 := n_hk
  clear n_hk
  have KS_5 := n_KS
  clear n_KS
  have pxr_5 := hXx
  clear hXx
  obtain ⟨⟨z_pB00, z_pB01⟩, _⟩ := pB0_5.at2
  obtain ⟨⟨z_pxfs0, z_pxfs1⟩, _⟩ := pxfs_5.at2
  obtain ⟨⟨z_pxr0, z_pxr1⟩, _⟩ := pxr_5.at2
  go_wp2_with fail
  generalize hZx : wr.alloc _ = Wr at *
  generalize hzx : wr.heap.size = xr at *
  clear hZx hzx hb hA hbA
  clear y_pB00 y_pB01 y_pxfs0 y_pxfs1 z_pB00 z_pB01 z_pxfs0 z_pxfs1 z_pxr0 z_pxr1 lt_pB0 lt_pxfs
  clear hNx
  refine (toPieceS_any _ _ _ _ ((HO1.out.below hW_5).more hW_5.size) hl1).mono ?_
  rintro e wm ⟨gm, cm, rfl, hNx, hb⟩
  have hgm := hNx.lt
  have hgm0 : Wr.heap.size ≤ gm := by obtain ⟨_, hh, _⟩ := hNx; exact hh
  have pB0_6 := pB0_5.below hb pB0_5.lt
  have hW_6 := hW_5.trans (hb.mono hW_5.size)
  have Is_6 := Is_5.below (hb.mono (by omega))
  have pxfs_6 := pxfs_5.below hb pxfs_5.lt
  have hk_6 := hk_5.below hb
  have KS_6 := KS_5.below (hb.mono (by omega))
  have pxr_6 := pxr_5.below hb pxr_5.lt
  have hz_6 := hb.size
  clear pB0_5 hW_5 Is_5 pxfs_5 hk_5 KS_5 pxr_5
  have hn_6 := hNx
  have MB_6 := hNx.big
  clear hNx hb
  obtain ⟨⟨z_pB00, z_pB01⟩, _⟩ := pB0_6.at2
  obtain ⟨⟨z_pxfs0, z_pxfs1⟩, _⟩ := pxfs_6.at2
  obtain ⟨⟨z_pxr0, z_pxr1⟩, _⟩ := pxr_6.at2
  go_wp2_with fail
  clear z_pB00 z_pB01 z_pxfs0 z_pxfs1 z_pxr0 z_pxr1
  refine (CodePos_any _ _ _ _ _ _ _ _ _ hk_6.is hn_6.is HSM0.out hl1).mono ?_
  rw [← HLL.out, ← HTT.out, ← HBB.out]
  rintro e wfg hpr
  obtain ⟨Afg, cfg, rfl, hIx, hb⟩ := posRes_men2 hpr
  clear hpr
  have hXx := Blk.new wfg #[.int .i64 TT, .slice Afg LL.length cfg] 30
  have hA := below_of wfg (.cells #[.int .i64 TT, .slice Afg LL.length cfg] 30)
  have hbA := hb.trans (hA.mono hb.size)
  have hs_xfg : (wfg.alloc (.cells #[.int .i64 TT, .slice Afg LL.length cfg] 30)).heap.size = wfg.heap.size + 1 := by simp
  have hq_xfg := hb.size
  have n_Ig := hIx.below hA
  have lt_pB0 := (pB0_6.below hb pB0_6.lt).lt
  obtain ⟨⟨y_pB00, y_pB01⟩, _⟩ := (pB0_6.below hb pB0_6.lt).at2
  have lt_pxfs := (pxfs_6.below hb pxfs_6.lt).lt
  obtain ⟨⟨y_pxfs0, y_pxfs1⟩, _⟩ := (pxfs_6.below hb pxfs_6.lt).at2
  have lt_pxr := (pxr_6.below hb pxr_6.lt).lt
  obtain ⟨⟨y_pxr0, y_pxr1⟩, _⟩ := (pxr_6.below hb pxr_6.lt).at2
  have pB0_7 := pB0_6.below hbA pB0_6.lt
  have hW_7 := hW_6.trans (hbA.mono hW_6.size)
  have Is_7 := Is_6.below (hbA.mono (by omega))
  have pxfs_7 := pxfs_6.below hbA pxfs_6.lt
  have hk_7 := hk_6.below hbA
  have KS_7 := KS_6.below (hbA.mono (by omega))
  have pxr_7 := pxr_6.below hbA pxr_6.lt
  have hn_7 := hn_6.below hbA
  have MB_7 := MB_6.below hbA MB_6.lt
  have hz_7 := hbA.size
  clear pB0_6 hW_6 Is_6 pxfs_6 hk_6 KS_6 pxr_6 hn_6 MB_6
  have Ig_7 := n_Ig
  clear n_Ig
  have pxfg_7 := hXx
  clear hXx
  obtain ⟨⟨z_pB00, z_pB01⟩, _⟩ := pB0_7.at2
  obtain ⟨⟨z_pxfs0, z_pxfs1⟩, _⟩ := pxfs_7.at2
  obtain ⟨⟨z_pxr0, z_pxr1⟩, _⟩ := pxr_7.at2
  obtain ⟨⟨z_pxfg0, z_pxfg1⟩, _⟩ := pxfg_7.at2
  go_wp2_with fail
  generalize hZx : wfg.alloc _ = Wfg at *
  generalize hzx : wfg.heap.size = xfg at *
  clear hZx hzx hb hA hbA
  clear y_pB00 y_pB01 y_pxfs0 y_pxfs1 y_pxr0 y_pxr1 z_pB00 z_pB01 z_pxfs0 z_pxfs1 z_pxr0 z_pxr1 z_pxfg0 z_pxfg1 lt_pB0 lt_pxfs lt_pxr
  clear hIx
  refine (eqPos_same _ _ _ _ _ _ _ (Ig_7.is.more (by omega)) (Is_7.is.more (by omega)) hlenL).mono ?_
  rintro e we1 ⟨rfl, hb⟩
  have pB0_8 := pB0_7.below hb pB0_7.lt
  have hW_8 := hW_7.trans (hb.mono hW_7.size)
  have Is_8 := Is_7.below (hb.mono (by omega))
  have pxfs_8 := pxfs_7.below hb pxfs_7.lt
  have hk_8 := hk_7.below hb
  have KS_8 := KS_7.below (hb.mono (by omega))
  have pxr_8 := pxr_7.below hb pxr_7.lt
  have hn_8 := hn_7.below hb
  have MB_8 := MB_7.below hb MB_7.lt
  have Ig_8 := Ig_7.below (hb.mono (by omega))
  have pxfg_8 := pxfg_7.below hb pxfg_7.lt
  have hz_8 := hb.size
  clear pB0_7 hW_7 Is_7 pxfs_7 hk_7 KS_7 pxr_7 hn_7 MB_7 Ig_7 pxfg_7
  clear hb
  obtain ⟨⟨z_pB00, z_pB01⟩, _⟩ := pB0_8.at2
  obtain ⟨⟨z_pxfs0, z_pxfs1⟩, _⟩ := pxfs_8.at2
  obtain ⟨⟨z_pxr0, z_pxr1⟩, _⟩ := pxr_8.at2
  obtain ⟨⟨z_pxfg0, z_pxfg1⟩, _⟩ := pxfg_8.at2
  go_wp2_with fail
  clear z_pB00 z_pB01 z_pxfs0 z_pxfs1 z_pxr0 z_pxr1 z_pxfg0 z_pxfg1
  -- r as it was
  have HS : Hid (∀ w', Below we1.heap.size we1 w' → (w'.cell? ⟨w.heap.size, 0, none⟩ = some (.int .i64 sd0) ∧ w'.cell? ⟨w.heap.size, 1, none⟩ = some (.slice A0 ks0.length c0) ∧ w'.cell? ⟨xr, 0, none⟩ = some (.int .i64 sd0) ∧ w'.cell? ⟨xr, 1, none⟩ = some (.slice (some ⟨gr, 0, none⟩) ks0.length cr))) := Lib.hid (fun w' hb => by
    obtain ⟨⟨e00, e01⟩, _⟩ := (pB0_8.below hb pB0_8.lt).at2
    obtain ⟨⟨e10, e11⟩, _⟩ := (pxr_8.below hb pxr_8.lt).at2
    exact ⟨e00, e01, e10, e11⟩)
  have hw : Below we1.heap.size we1 we1.drew := (Below.refl _ _).drew
  have hO := ((HO0.out.below hW_8).more hW_8.size)
  have hNk := hk_8
  go_region_held3 (fun w' => w'.cell? ⟨w.heap.size, 0, none⟩ = some (.int .i64 sd0) ∧ w'.cell? ⟨w.heap.size, 1, none⟩ = some (.slice A0 ks0.length c0) ∧ w'.cell? ⟨xr, 0, none⟩ = some (.int .i64 sd0) ∧ w'.cell? ⟨xr, 1, none⟩ = some (.slice (some ⟨gr, 0, none⟩) ks0.length cr))
    (exact HS.out _ hw)
    (first
      | (go_at_call 8; refine (toRules_any _ _ _ _ _ ((hO.below hw).more hw.size) HSM0.out).mono ?_; rintro e wa ⟨ga, ca, rfl, hna, hba⟩; have hw := hw.trans (hba.mono hw.size))
      | (go_at_call 12; refine (eqRules_same _ _ _ _ _ _ _ (hNk.below hw).is hna.is HSM0.out).mono ?_; rintro e wq ⟨rfl, hbb⟩; have hw := hw.trans (hbb.mono hw.size)))
  clear HS hO hNk hna
  have pB0_9 := pB0_8.below hw pB0_8.lt
  have hW_9 := hW_8.trans (hw.mono hW_8.size)
  have Is_9 := Is_8.below (hw.mono (by omega))
  have pxfs_9 := pxfs_8.below hw pxfs_8.lt
  have KS_9 := KS_8.below (hw.mono (by omega))
  have pxr_9 := pxr_8.below hw pxr_8.lt
  have hn_9 := hn_8.below hw
  have MB_9 := MB_8.below hw MB_8.lt
  have Ig_9 := Ig_8.below (hw.mono (by omega))
  have pxfg_9 := pxfg_8.below hw pxfg_8.lt
  have hz_9 := hw.size
  clear pB0_8 hW_8 Is_8 pxfs_8 hk_8 KS_8 pxr_8 hn_8 MB_8 Ig_8 pxfg_8
  clear hw
  obtain ⟨⟨z_pB00, z_pB01⟩, _⟩ := pB0_9.at2
  obtain ⟨⟨z_pxfs0, z_pxfs1⟩, _⟩ := pxfs_9.at2
  obtain ⟨⟨z_pxr0, z_pxr1⟩, _⟩ := pxr_9.at2
  obtain ⟨⟨z_pxfg0, z_pxfg1⟩, _⟩ := pxfg_9.at2
  go_wp2_with fail
  clear z_pB00 z_pB01 z_pxfs0 z_pxfs1 z_pxr0 z_pxr1 z_pxfg0 z_pxfg1
  -- m as it was
  refine (toPieceS_any _ _ _ _ ((HO1.out.below hW_9).more hW_9.size) hl1).mono ?_
  rintro e wb ⟨gb, cb, rfl, hnb, hbb⟩
  have hNk := hn_9.below hbb
  go_wp2_with fail
  refine (eqPieceS_same _ _ _ _ _ _ hNk.is hnb.is hl1).mono ?_
  rintro e wc ⟨rfl, hbc⟩
  have hb := hbb.trans (hbc.mono hbb.size)
  clear hbb hbc hnb hNk
  have pB0_10 := pB0_9.below hb pB0_9.lt
  have hW_10 := hW_9.trans (hb.mono hW_9.size)
  have Is_10 := Is_9.below (hb.mono (by omega))
  have pxfs_10 := pxfs_9.below hb pxfs_9.lt
  have KS_10 := KS_9.below (hb.mono (by omega))
  have pxr_10 := pxr_9.below hb pxr_9.lt
  have MB_10 := MB_9.below hb MB_9.lt
  have Ig_10 := Ig_9.below (hb.mono (by omega))
  have pxfg_10 := pxfg_9.below hb pxfg_9.lt
  have hz_10 := hb.size
  clear pB0_9 hW_9 Is_9 pxfs_9 KS_9 pxr_9 hn_9 MB_9 Ig_9 pxfg_9
  clear hb
  obtain ⟨⟨z_pB00, z_pB01⟩, _⟩ := pB0_10.at2
  obtain ⟨⟨z_pxfs0, z_pxfs1⟩, _⟩ := pxfs_10.at2
  obtain ⟨⟨z_pxr0, z_pxr1⟩, _⟩ := pxr_10.at2
  obtain ⟨⟨z_pxfg0, z_pxfg1⟩, _⟩ := pxfg_10.at2
  go_wp2_with fail
  clear z_pB00 z_pB01 z_pxfs0 z_pxfs1 z_pxr0 z_pxr1 z_pxfg0 z_pxfg1
  -- marks
  have lx1 := pxr_10.lt
  have lx2 := MB_10.lt
  refine (markRules_any _ _ _ _ _ _ _ _ KS_10 HSM0.out (by omega) (by omega) (by omega)).mono ?_
  rintro e wk ⟨k1, rfl, hk11, hk12, sp⟩
  have pB0_11 := sp.blk pB0_10 (by omega)
  have hW_11 := hW_10.trans (sp.toBelow (B := w.heap.size) (by omega) (by omega))
  have Is_11 := Is_10.span sp (by omega)
  have pxfs_11 := sp.blk pxfs_10 (by omega)
  have pxr_11 := sp.blk pxr_10 (by omega)
  have MB_11 := sp.shape _ _ _ MB_10
  have Ig_11 := Ig_10.span sp (by omega)
  have pxfg_11 := sp.blk pxfg_10 (by omega)
  have hz_11 := sp.size
  clear pB0_10 hW_10 Is_10 pxfs_10 KS_10 pxr_10 MB_10 Ig_10 pxfg_10
  clear sp
  obtain ⟨⟨z_pB00, z_pB01⟩, _⟩ := pB0_11.at2
  obtain ⟨⟨z_pxfs0, z_pxfs1⟩, _⟩ := pxfs_11.at2
  obtain ⟨⟨z_pxr0, z_pxr1⟩, _⟩ := pxr_11.at2
  obtain ⟨⟨z_pxfg0, z_pxfg1⟩, _⟩ := pxfg_11.at2
  go_wp2_with fail
  clear z_pB00 z_pB01 z_pxfs0 z_pxfs1 z_pxr0 z_pxr1 z_pxfg0 z_pxfg1
  refine (markPieceS_any _ _ _ _ _ MB_11 hl1 (by omega) (by omega)).mono ?_
  rintro e wl ⟨rfl, sp⟩
  have pB0_12 := sp.blk pB0_11 (by omega)
  have hW_12 := hW_11.trans (sp.toBelow (B := w.heap.size) (by omega) (by omega))
  have Is_12 := Is_11.span sp (by omega)
  have pxfs_12 := sp.blk pxfs_11 (by omega)
  have pxr_12 := sp.blk pxr_11 (by omega)
  have Ig_12 := Ig_11.span sp (by omega)
  have pxfg_12 := sp.blk pxfg_11 (by omega)
  have hz_12 := sp.size
  clear pB0_11 hW_11 Is_11 pxfs_11 pxr_11 MB_11 Ig_11 pxfg_11
  clear sp
  have hkn : decide (k1 + 2 * (m1.length : Int) < 0) = false := decide_eq_false (by omega)
  obtain ⟨⟨z_pB00, z_pB01⟩, _⟩ := pB0_12.at2
  obtain ⟨⟨z_pxfs0, z_pxfs1⟩, _⟩ := pxfs_12.at2
  obtain ⟨⟨z_pxr0, z_pxr1⟩, _⟩ := pxr_12.at2
  obtain ⟨⟨z_pxfg0, z_pxfg1⟩, _⟩ := pxfg_12.at2
  go_wp2_with fail
  clear z_pB00 z_pB01 z_pxfs0 z_pxfs1 z_pxr0 z_pxr1 z_pxfg0 z_pxfg1
  refine (eqPos_same _ _ _ _ _ _ _ (Ig_12.is.more (by omega)) (Is_12.is.more (by omega)) hlenL).mono ?_
  rintro e we2 ⟨rfl, hb⟩
  have pB0_13 := pB0_12.below hb pB0_12.lt
  have hW_13 := hW_12.trans (hb.mono hW_12.size)
  have Is_13 := Is_12.below (hb.mono (by omega))
  have pxfs_13 := pxfs_12.below hb pxfs_12.lt
  have pxr_13 := pxr_12.below hb pxr_12.lt
  have Ig_13 := Ig_12.below (hb.mono (by omega))
  have pxfg_13 := pxfg_12.below hb pxfg_12.lt
  have hz_13 := hb.size
  clear pB0_12 hW_12 Is_12 pxfs_12 pxr_12 Ig_12 pxfg_12
  clear hb
  obtain ⟨⟨z_pB00, z_pB01⟩, _⟩ := pB0_13.at2
  obtain ⟨⟨z_pxfs0, z_pxfs1⟩, _⟩ := pxfs_13.at2
  obtain ⟨⟨z_pxr0, z_pxr1⟩, _⟩ := pxr_13.at2
  obtain ⟨⟨z_pxfg0, z_pxfg1⟩, _⟩ := pxfg_13.at2
  go_wp2_with fail
  clear z_pB00 z_pB01 z_pxfs0 z_pxfs1 z_pxr0 z_pxr1 z_pxfg0 z_pxfg1
  have hln : decide (1 + 3 * (LL.length : Int) < 0) = false := decide_eq_false (by omega)
  refine (markPosA_any _ _ _ _ _ _ _ _ Ig_13 (by omega) hlenL (by omega) (by omega)).mono ?_
  rintro e wo ⟨rfl, hIm, sp⟩
  have pB0_14 := sp.blk pB0_13 (by omega)
  have hW_14 := hW_13.trans (sp.toBelow (B := w.heap.size) (by omega) (by omega))
  have Is_14 := Is_13.span sp (by omega)
  have pxfs_14 := sp.blk pxfs_13 (by omega)
  have pxr_14 := sp.blk pxr_13 (by omega)
  have pxfg_14 := sp.blk pxfg_13 (by omega)
  have hz_14 := sp.size
  clear pB0_13 hW_13 Is_13 pxfs_13 pxr_13 Ig_13 pxfg_13
  have Im_14 := hIm
  clear sp hIm
  obtain ⟨⟨z_pB00, z_pB01⟩, _⟩ := pB0_14.at2
  obtain ⟨⟨z_pxfs0, z_pxfs1⟩, _⟩ := pxfs_14.at2
  obtain ⟨⟨z_pxr0, z_pxr1⟩, _⟩ := pxr_14.at2
  obtain ⟨⟨z_pxfg0, z_pxfg1⟩, _⟩ := pxfg_14.at2
  go_wp2_with fail
  clear z_pB00 z_pB01 z_pxfs0 z_pxfs1 z_pxr0 z_pxr1 z_pxfg0 z_pxfg1
  refine (heldPosA_any _ _ _ _ _ _ (Im_14.is.more (by omega)) hlenL (by omega) (by omega)).mono ?_
  rintro e wh ⟨rfl, hb⟩
  have pB0_15 := pB0_14.below hb pB0_14.lt
  have hW_15 := hW_14.trans (hb.mono hW_14.size)
  have Is_15 := Is_14.below (hb.mono (by omega))
  have pxfs_15 := pxfs_14.below hb pxfs_14.lt
  have pxr_15 := pxr_14.below hb pxr_14.lt
  have pxfg_15 := pxfg_14.below hb pxfg_14.lt
  have Im_15 := Im_14.below (hb.mono (by omega))
  have hz_15 := hb.size
  clear pB0_14 hW_14 Is_14 pxfs_14 pxr_14 pxfg_14 Im_14
  clear hb
  obtain ⟨⟨z_pB00, z_pB01⟩, _⟩ := pB0_15.at2
  obtain ⟨⟨z_pxfs0, z_pxfs1⟩, _⟩ := pxfs_15.at2
  obtain ⟨⟨z_pxr0, z_pxr1⟩, _⟩ := pxr_15.at2
  obtain ⟨⟨z_pxfg0, z_pxfg1⟩, _⟩ := pxfg_15.at2
  go_wp2_with fail
  clear z_pB00 z_pB01 z_pxfs0 z_pxfs1 z_pxr0 z_pxr1 z_pxfg0 z_pxfg1
  refine (toRules_any _ _ _ _ _ ((HO0.out.below hW_15).more hW_15.size) HSM0.out).mono ?_
  rintro e wrh ⟨grh, crh, rfl, hNx, hb⟩
  have pB0_16 := pB0_15.below hb pB0_15.lt
  have hW_16 := hW_15.trans (hb.mono hW_15.size)
  have Is_16 := Is_15.below (hb.mono (by omega))
  have pxfs_16 := pxfs_15.below hb pxfs_15.lt
  have pxr_16 := pxr_15.below hb pxr_15.lt
  have pxfg_16 := pxfg_15.below hb pxfg_15.lt
  have Im_16 := Im_15.below (hb.mono (by omega))
  have hz_16 := hb.size
  clear pB0_15 hW_15 Is_15 pxfs_15 pxr_15 pxfg_15 Im_15
  have hkh_16 := hNx
  clear hNx hb
  obtain ⟨⟨z_pB00, z_pB01⟩, _⟩ := pB0_16.at2
  obtain ⟨⟨z_pxfs0, z_pxfs1⟩, _⟩ := pxfs_16.at2
  obtain ⟨⟨z_pxr0, z_pxr1⟩, _⟩ := pxr_16.at2
  obtain ⟨⟨z_pxfg0, z_pxfg1⟩, _⟩ := pxfg_16.at2
  go_wp2_with fail
  clear z_pB00 z_pB01 z_pxfs0 z_pxfs1 z_pxr0 z_pxr1 z_pxfg0 z_pxfg1
  refine (toPieceS_any _ _ _ _ ((HO1.out.below hW_16).more hW_16.size) hl1).mono ?_
  rintro e wmh ⟨gmh, cmh, rfl, hNx, hb⟩
  have pB0_17 := pB0_16.below hb pB0_16.lt
  have hW_17 := hW_16.trans (hb.mono hW_16.size)
  have Is_17 := Is_16.below (hb.mono (by omega))
  have pxfs_17 := pxfs_16.below hb pxfs_16.lt
  have pxr_17 := pxr_16.below hb pxr_16.lt
  have pxfg_17 := pxfg_16.below hb pxfg_16.lt
  have Im_17 := Im_16.below (hb.mono (by omega))
  have hkh_17 := hkh_16.below hb
  have hz_17 := hb.size
  clear pB0_16 hW_16 Is_16 pxfs_16 pxr_16 pxfg_16 Im_16 hkh_16
  have hnh_17 := hNx
  clear hNx hb
  obtain ⟨⟨z_pB00, z_pB01⟩, _⟩ := pB0_17.at2
  obtain ⟨⟨z_pxfs0, z_pxfs1⟩, _⟩ := pxfs_17.at2
  obtain ⟨⟨z_pxr0, z_pxr1⟩, _⟩ := pxr_17.at2
  obtain ⟨⟨z_pxfg0, z_pxfg1⟩, _⟩ := pxfg_17.at2
  go_wp2_with fail
  clear z_pB00 z_pB01 z_pxfs0 z_pxfs1 z_pxr0 z_pxr1 z_pxfg0 z_pxfg1
  refine (CodePos_any _ _ _ _ _ _ _ _ _ hkh_17.is hnh_17.is HSM0.out hl1).mono ?_
  rw [← HLL.out, ← HTT.out, ← HBB.out]
  rintro e wfh hpr
  obtain ⟨Afh, cfh, rfl, hIx, hb⟩ := posRes_men2 hpr
  clear hpr
  have hXx := Blk.new wfh #[.int .i64 TT, .slice Afh LL.length cfh] 30
  have hA := below_of wfh (.cells #[.int .i64 TT, .slice Afh LL.length cfh] 30)
  have hbA := hb.trans (hA.mono hb.size)
  have hs_xfh : (wfh.alloc (.cells #[.int .i64 TT, .slice Afh LL.length cfh] 30)).heap.size = wfh.heap.size + 1 := by simp
  have hq_xfh := hb.size
  have n_Ih := hIx.below hA
  have lt_pB0 := (pB0_17.below hb pB0_17.lt).lt
  obtain ⟨⟨y_pB00, y_pB01⟩, _⟩ := (pB0_17.below hb pB0_17.lt).at2
  have lt_pxfs := (pxfs_17.below hb pxfs_17.lt).lt
  obtain ⟨⟨y_pxfs0, y_pxfs1⟩, _⟩ := (pxfs_17.below hb pxfs_17.lt).at2
  have lt_pxr := (pxr_17.below hb pxr_17.lt).lt
  obtain ⟨⟨y_pxr0, y_pxr1⟩, _⟩ := (pxr_17.below hb pxr_17.lt).at2
  have lt_pxfg := (pxfg_17.below hb pxfg_17.lt).lt
  obtain ⟨⟨y_pxfg0, y_pxfg1⟩, _⟩ := (pxfg_17.below hb pxfg_17.lt).at2
  have pB0_18 := pB0_17.below hbA pB0_17.lt
  have hW_18 := hW_17.trans (hbA.mono hW_17.size)
  have Is_18 := Is_17.below (hbA.mono (by omega))
  have pxfs_18 := pxfs_17.below hbA pxfs_17.lt
  have pxr_18 := pxr_17.below hbA pxr_17.lt
  have pxfg_18 := pxfg_17.below hbA pxfg_17.lt
  have Im_18 := Im_17.below (hbA.mono (by omega))
  have hkh_18 := hkh_17.below hbA
  have hnh_18 := hnh_17.below hbA
  have hz_18 := hbA.size
  clear pB0_17 hW_17 Is_17 pxfs_17 pxr_17 pxfg_17 Im_17 hkh_17 hnh_17
  have Ih_18 := n_Ih
  clear n_Ih
  have pxfh_18 := hXx
  clear hXx
  obtain ⟨⟨z_pB00, z_pB01⟩, _⟩ := pB0_18.at2
  obtain ⟨⟨z_pxfs0, z_pxfs1⟩, _⟩ := pxfs_18.at2
  obtain ⟨⟨z_pxr0, z_pxr1⟩, _⟩ := pxr_18.at2
  obtain ⟨⟨z_pxfg0, z_pxfg1⟩, _⟩ := pxfg_18.at2
  obtain ⟨⟨z_pxfh0, z_pxfh1⟩, _⟩ := pxfh_18.at2
  go_wp2_with fail
  generalize hZx : wfh.alloc _ = Wfh at *
  generalize hzx : wfh.heap.size = xfh at *
  clear hZx hzx hb hA hbA
  clear y_pB00 y_pB01 y_pxfs0 y_pxfs1 y_pxr0 y_pxr1 y_pxfg0 y_pxfg1 z_pB00 z_pB01 z_pxfs0 z_pxfs1 z_pxr0 z_pxr1 z_pxfg0 z_pxfg1 z_pxfh0 z_pxfh1 lt_pB0 lt_pxfs lt_pxr lt_pxfg
  clear hIx
  refine (eqPos_same _ _ _ _ _ _ _ (Ih_18.is.more (by omega)) (Is_18.is.more (by omega)) hlenL).mono ?_
  rintro e we3 ⟨rfl, hb⟩
  have pB0_19 := pB0_18.below hb pB0_18.lt
  have hW_19 := hW_18.trans (hb.mono hW_18.size)
  have Is_19 := Is_18.below (hb.mono (by omega))
  have pxfs_19 := pxfs_18.below hb pxfs_18.lt
  have pxr_19 := pxr_18.below hb pxr_18.lt
  have pxfg_19 := pxfg_18.below hb pxfg_18.lt
  have Im_19 := Im_18.below (hb.mono (by omega))
  have hkh_19 := hkh_18.below hb
  have hnh_19 := hnh_18.below hb
  have Ih_19 := Ih_18.below (hb.mono (by omega))
  have pxfh_19 := pxfh_18.below hb pxfh_18.lt
  have hz_19 := hb.size
  clear pB0_18 hW_18 Is_18 pxfs_18 pxr_18 pxfg_18 Im_18 hkh_18 hnh_18 Ih_18 pxfh_18
  clear hb
  obtain ⟨⟨z_pB00, z_pB01⟩, _⟩ := pB0_19.at2
  obtain ⟨⟨z_pxfs0, z_pxfs1⟩, _⟩ := pxfs_19.at2
  obtain ⟨⟨z_pxr0, z_pxr1⟩, _⟩ := pxr_19.at2
  obtain ⟨⟨z_pxfg0, z_pxfg1⟩, _⟩ := pxfg_19.at2
  obtain ⟨⟨z_pxfh0, z_pxfh1⟩, _⟩ := pxfh_19.at2
  go_wp2_with fail
  clear z_pB00 z_pB01 z_pxfs0 z_pxfs1 z_pxr0 z_pxr1 z_pxfg0 z_pxfg1 z_pxfh0 z_pxfh1
  refine (heldPosA_any _ _ _ _ _ _ (Im_19.is.more (by omega)) hlenL (by omega) (by omega)).mono ?_
  rintro e wh ⟨rfl, hb⟩
  have pB0_20 := pB0_19.below hb pB0_19.lt
  have hW_20 := hW_19.trans (hb.mono hW_19.size)
  have Is_20 := Is_19.below (hb.mono (by omega))
  have pxfs_20 := pxfs_19.below hb pxfs_19.lt
  have pxr_20 := pxr_19.below hb pxr_19.lt
  have pxfg_20 := pxfg_19.below hb pxfg_19.lt
  have Im_20 := Im_19.below (hb.mono (by omega))
  have hkh_20 := hkh_19.below hb
  have hnh_20 := hnh_19.below hb
  have Ih_20 := Ih_19.below (hb.mono (by omega))
  have pxfh_20 := pxfh_19.below hb pxfh_19.lt
  have hz_20 := hb.size
  clear pB0_19 hW_19 Is_19 pxfs_19 pxr_19 pxfg_19 Im_19 hkh_19 hnh_19 Ih_19 pxfh_19
  clear hb
  obtain ⟨⟨z_pB00, z_pB01⟩, _⟩ := pB0_20.at2
  obtain ⟨⟨z_pxfs0, z_pxfs1⟩, _⟩ := pxfs_20.at2
  obtain ⟨⟨z_pxr0, z_pxr1⟩, _⟩ := pxr_20.at2
  obtain ⟨⟨z_pxfg0, z_pxfg1⟩, _⟩ := pxfg_20.at2
  obtain ⟨⟨z_pxfh0, z_pxfh1⟩, _⟩ := pxfh_20.at2
  go_wp2_with fail
  clear z_pB00 z_pB01 z_pxfs0 z_pxfs1 z_pxr0 z_pxr1 z_pxfg0 z_pxfg1 z_pxfh0 z_pxfh1
  go_ret
  exact ⟨rfl, hW_20⟩
end Go.Proofs.YtmfcgikfgikbfaaGreat.Laws
