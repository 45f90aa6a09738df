/- The walk of the exact law FnExactGameBack. -/
import Derived.Test.YtcgfklljbblhlaaGreatDoorYh
import Derived.Test.YtcgfklljbblhlaaGreatDoorTl
import Derived.Deep.RegionHeld3
import Derived.Deep.Cut
namespace Go.Proofs.YtcgfklljbblhlaaGreatDoor.Laws
open Go.ChangeShapes Go.WideShapes Go.ChangeAt Go.RowKit Base Sq Ko Opn
set_option linter.unusedVariables false
set_option maxRecDepth 20000

set_option maxHeartbeats 16000000 in
theorem fnExactGameBack_walk {H : Type} {enc : TypeId × Value → H} {b0 : Nat} {d0 : DataW H} {pl0 : List MemPlace} {d1 : DataW H} {pl1 : List MemPlace} (w : World)
    (v0 : Value) (hv0 : Value.okWide Tryz.prog w .any b0 24 v0) (h0 : DataW.Trod enc Tryz.prog w 0 (fun _ => true) true 24 v0 d0 pl0)
    (v1 : Value) (hv1 : Value.okWide Tryz.prog w .any b0 30 v1) (h1 : DataW.Trod enc Tryz.prog w 0 (fun _ => true) true 30 v1 d1 pl1) (hT : TabAt w) :
    Calls Tryz.prog 4 #[v0, v1] w fun e w' => e = .returned (.bool true) ∧ Below w.heap.size w w' := by
  obtain ⟨sd0, A0, c0, ks0, rfl, hl0, hs0⟩ := open_rules hv0 h0
  obtain ⟨t1, A1, c1, l1, M1, cm1, ms1, rfl, hn1, hnm1, hs1_, hsm1_⟩ := open_game hv1 h1
  have hs1 : InG w w.heap.size A1 l1 M1 ms1 := ⟨hs1_, hsm1_⟩
  clear hs1_ hsm1_
  clear hv0 h0 hv1 h1
  have HT := Lib.hid hT
  have hT0 := hT.lt
  clear hT
  unfold maxLen at hn1 hnm1
  go_enter Tryz.func4, Tryz.ntmps4
  go_wp2_with fail
  have hW0 : Below w.heap.size w ((w.alloc (.cells #[.int .i64 sd0, .slice A0 ks0.length c0] 24)).alloc (.cells #[.int .i64 t1, .slice A1 l1.length c1, .slice M1 ms1.length cm1] 30)) := (by repeat (first | exact Below.refl _ _ | assumption | (refine Below.alloc ?_ (by first | omega | (simp; done) | (simp; omega)) _) | (refine Below.setCell ?_ (by first | omega | (simp; done) | (simp; omega)) _) | refine Below.drew ?_))
  have pB0_0 := (Blk.new w #[.int .i64 sd0, .slice A0 ks0.length c0] 24).alloc (.cells #[.int .i64 t1, .slice A1 l1.length c1, .slice M1 ms1.length cm1] 30)
  have pB1_0 := (Blk.new (w.alloc (.cells #[.int .i64 sd0, .slice A0 ks0.length c0] 24)) #[.int .i64 t1, .slice A1 l1.length c1, .slice M1 ms1.length cm1] 30)
  simp only [World.size_alloc] at pB1_0
  generalize hWx : ((w.alloc _).alloc _) = W0 at *
  clear hWx
  have HO0 := Lib.hid hs0
  clear hs0
  have HO1 := Lib.hid hs1
  clear hs1
  refine (szRules_any _ _ _ _ _ _ ((HO0.out.below hW0).more hW0.size) hl0 (by omega) (by omega)).mono ?_
  rintro e w10 ⟨lf0, rfl, hle0, hor0, hb⟩
  clear hl0
  have pB0_1 := pB0_0.below hb pB0_0.lt
  have pB1_1 := pB1_0.below hb pB1_0.lt
  have hW_1 := hW0.trans (hb.mono hW0.size)
  clear pB0_0 pB1_0 hW0
  clear hb
  rcases hor0 with rfl | ⟨hnn0, hsm0⟩
  · go_wp2_with fail
    go_ret
    exact ⟨rfl, hW_1⟩
  have HSM0 := Lib.hid hsm0
  clear hsm0
  obtain ⟨⟨a00, a01⟩, _⟩ := pB0_1.at2
  obtain ⟨⟨a10, a11, a12⟩, _⟩ := pB1_1.at3
  by_cases hbig : lf0 - ((l1.length + ms1.length : Nat) : Int) < 0
  · have HN := Lib.hid hbig
    clear hbig
    go_wp2_with fail
    refine (szGameK_any _ _ _ _ _ _ _ _ _ ⟨by omega, by omega⟩ hnn0 hle0).mono ?_
    rw [if_pos (by have := HN.out; omega)]
    rintro e w2 ⟨rfl, hb2⟩
    go_wp2_with fail
    go_ret
    exact ⟨rfl, hW_1.trans (hb2.mono hW_1.size)⟩
  have hl1 : l1.length ≤ 1048576 ∧ ms1.length ≤ 1048576 := by omega
  have HN := Lib.hid hbig
  clear hbig
  go_wp2_with fail
  refine (szGameK_any _ _ _ _ _ _ _ _ _ ⟨by omega, by omega⟩ hnn0 hle0).mono ?_
  rw [if_neg (by have := HN.out; omega)]
  rintro e w11 ⟨rfl, hb⟩
  clear a00 a01 a10 a11 a12
  have pB0_2 := pB0_1.below hb pB0_1.lt
  have pB1_2 := pB1_1.below hb pB1_1.lt
  have hW_2 := hW_1.trans (hb.mono hW_1.size)
  clear pB0_1 pB1_1 hW_1
  clear hb
  obtain ⟨⟨a00, a01⟩, _⟩ := pB0_2.at2
  obtain ⟨⟨a10, a11, a12⟩, _⟩ := pB1_2.at3
  have hnn1 : 0 ≤ lf0 - ((l1.length + ms1.length : Nat) : Int) := by have := HN.out; omega
  have hle1 : lf0 - ((l1.length + ms1.length : Nat) : Int) ≤ 1048576 := by omega
  generalize hvm : lf0 - ((l1.length + ms1.length : Nat) : Int) = lf1 at *
  clear hvm HN
  have hlenL : (gbL sd0 ks0 t1 l1 ms1).length ≤ 1048576 := gbL_len hl1
  have hlenM : (gbM sd0 ks0 t1 l1 ms1).length ≤ 1048576 := gbM_len hl1
  obtain ⟨TT, hTT⟩ : ∃ x, x = gbT sd0 ks0 t1 l1 ms1 := ⟨_, rfl⟩
  have HTT := Lib.hid hTT
  clear hTT
  obtain ⟨LL, hLL⟩ : ∃ x, x = gbL sd0 ks0 t1 l1 ms1 := ⟨_, rfl⟩
  rw [← hLL] at hlenL
  have HLL := Lib.hid hLL
  clear hLL
  obtain ⟨MM, hMM⟩ : ∃ x, x = gbM sd0 ks0 t1 l1 ms1 := ⟨_, rfl⟩
  rw [← hMM] at hlenM
  have HMM := Lib.hid hMM
  clear hMM
  obtain ⟨BB, hBB⟩ : ∃ x, x = gbB sd0 ks0 t1 l1 ms1 := ⟨_, rfl⟩
  have HBB := Lib.hid hBB
  clear hBB
  have hbb : (BB != BB) = false := by simp
  have hz_w0 := hW_2.size
  have hz_b0 := pB0_2.lt
  have hz_b1 := pB1_2.lt
  go_wp2_with fail
  clear a00 a01 a10 a11 a12
  -- the model's
  have hO0 := ((HO0.out.below hW_2).more hW_2.size)
  have hO1 := ((HO1.out.below hW_2).more hW_2.size)
  obtain ⟨⟨z_pB00, z_pB01⟩, _⟩ := pB0_2.at2
  obtain ⟨⟨z_pB10, z_pB11, z_pB12⟩, _⟩ := pB1_2.at3
  go_cut [6, 7] from 27 (fun sa sb wx => ∃ (bw : Nat) (Aw : Option Addr) (cw : Nat) (Mw : Option Addr) (cmw lo hi : Nat), sa = .pointer (some ⟨bw, 0, none⟩) ∧ sb = .bool BB ∧ w11.heap.size ≤ bw ∧ w11.heap.size ≤ lo ∧ hi ≤ wx.heap.size ∧ (bw < lo ∨ hi ≤ bw) ∧ Blk wx bw #[.int .i64 TT, .slice Aw LL.length cw, .slice Mw MM.length cmw] 44 ∧ MenA lo hi wx Aw LL ∧ MvA lo hi wx Mw MM ∧ Below w11.heap.size w11 wx)
  case first =>
    have HS : Hid (∀ w', Below w11.heap.size w11 w' → (w'.cell? ⟨w.heap.size, 0, none⟩ = some (.int .i64 sd0) ∧ w'.cell? ⟨w.heap.size, 1, none⟩ = some (.slice A0 ks0.length c0) ∧ w'.cell? ⟨w.heap.size + 1, 0, none⟩ = some (.int .i64 t1) ∧ w'.cell? ⟨w.heap.size + 1, 1, none⟩ = some (.slice A1 l1.length c1) ∧ w'.cell? ⟨w.heap.size + 1, 2, none⟩ = some (.slice M1 ms1.length cm1))) := Lib.hid (fun w' hb => by
      obtain ⟨⟨e00, e01⟩, _⟩ := (pB0_2.below hb pB0_2.lt).at2
      obtain ⟨⟨e10, e11, e12⟩, _⟩ := (pB1_2.below hb pB1_2.lt).at3
      exact ⟨e00, e01, e10, e11, e12⟩)
    have hw : Below w11.heap.size w11 w11.drew := (Below.refl _ _).drew
    clear z_pB00 z_pB01 z_pB10 z_pB11 z_pB12
    go_region_held3 (fun w' => w'.cell? ⟨w.heap.size, 0, none⟩ = some (.int .i64 sd0) ∧ w'.cell? ⟨w.heap.size, 1, none⟩ = some (.slice A0 ks0.length c0) ∧ w'.cell? ⟨w.heap.size + 1, 0, none⟩ = some (.int .i64 t1) ∧ w'.cell? ⟨w.heap.size + 1, 1, none⟩ = some (.slice A1 l1.length c1) ∧ w'.cell? ⟨w.heap.size + 1, 2, none⟩ = some (.slice M1 ms1.length cm1))
      (exact HS.out _ (by first | exact hw | exact hw.alloc (by first | omega | (simp; done) | (have := hw.size; simp; omega)) _ | exact ((hw.setCell (by first | omega | (simp; done) | (simp; omega)) _).setCell (by first | omega | (simp; done) | (simp; omega)) _).setCell (by first | omega | (simp; done) | (simp; omega)) _))
      (first
        | (go_at_call 9; refine (toRules_any _ _ _ _ _ ((hO0.below (by first | exact hw | exact hw.alloc (by first | omega | (simp; done) | (have := hw.size; simp; omega)) _)).more (by first | exact hw.size | (have := hw.size; simp; done) | (have := hw.size; simp; omega))) HSM0.out).mono ?_; rintro e wa ⟨ga, ca, rfl, hna, hba⟩; have hw : Below w11.heap.size w11 wa := Below.trans (by first | exact hw | exact hw.alloc (by first | omega | (simp; done) | (have := hw.size; simp; omega)) _) (hba.mono (by first | exact hw.size | (have := hw.size; simp; done) | (have := hw.size; simp; omega))); have hws := hw.size; (first | (have hx := hx.below hba hx.lt; have hxl := hx.lt) | (have hx : Blk wa w11.heap.size #[.int .i64 0, .slice none 0 0, .slice none 0 0] 44 := (Blk.new w11.drew _ _).below hba (by simp); have hxl := hx.lt) | (have hx : Blk wa _ #[.int .i64 0, .slice none 0 0, .slice none 0 0] 44 := (Blk.new _ _ _).below hba (by simp); have hxl := hx.lt) | skip); try (have hnb : NewG _ wa _ _ _ _ := hnb.below (by first | exact hba | exact (below_of _ _).trans (hba.mono (by simp)))))
        | (go_at_call 10; refine (toGameK_any _ _ _ _ _ _ _ _ ((hO1.below (by first | exact hw | exact hw.alloc (by first | omega | (simp; done) | (have := hw.size; simp; omega)) _)).more (by first | exact hw.size | (have := hw.size; simp; done) | (have := hw.size; simp; omega))) hl1).mono ?_; rintro e wb ⟨gb, gmb, cb, rfl, hnb, hbb⟩; have hw : Below w11.heap.size w11 wb := Below.trans (by first | exact hw | exact hw.alloc (by first | omega | (simp; done) | (have := hw.size; simp; omega)) _) (hbb.mono (by first | exact hw.size | (have := hw.size; simp; done) | (have := hw.size; simp; omega))); have hws := hw.size; (first | (have hx := hx.below hbb hx.lt; have hxl := hx.lt) | (have hx : Blk wb w11.heap.size #[.int .i64 0, .slice none 0 0, .slice none 0 0] 44 := (Blk.new w11.drew _ _).below hbb (by simp); have hxl := hx.lt) | (have hx : Blk wb _ #[.int .i64 0, .slice none 0 0, .slice none 0 0] 44 := (Blk.new _ _ _).below hbb (by simp); have hxl := hx.lt) | skip); try (have hna : NewKinds _ wb _ _ := hna.below (by first | exact hbb | exact (below_of _ _).trans (hbb.mono (by simp)))))
        | (go_at_call 19; refine (specGameBackK_any _ _ _ _ _ _ _ _ _ _ _ (by first | exact hna.is | exact (hna.below (below_of _ _)).is) (by first | exact hnb.is | exact (hnb.below (below_of _ _)).is) HSM0.out hl1).mono ?_; rw [← HTT.out, ← HLL.out, ← HMM.out, ← HBB.out]; rintro e wg ⟨Aw, cw, Mw, cmw, rfl, hIw, hJw, hbg⟩; have hw : Below w11.heap.size w11 wg := Below.trans (by first | exact hw | exact hw.alloc (by first | omega | (simp; done) | (have := hw.size; simp; omega)) _) (hbg.mono (by first | exact hw.size | (have := hw.size; simp; done) | (have := hw.size; simp; omega))); have hws := hw.size; (first | (have hx := hx.below hbg hx.lt; have hxl := hx.lt) | (have hx : Blk wg w11.heap.size #[.int .i64 0, .slice none 0 0, .slice none 0 0] 44 := (Blk.new w11.drew _ _).below hbg (by simp); have hxl := hx.lt) | (have hx : Blk wg _ #[.int .i64 0, .slice none 0 0, .slice none 0 0] 44 := (Blk.new _ _ _).below hbg (by simp); have hxl := hx.lt) | skip); try (obtain ⟨⟨hx0, hx1, hx2⟩, ⟨hx3, hx4, hx5⟩⟩ := hx.at3)))
    all_goals
      have hws2 : w11.heap.size ≤ wg.heap.size := hw.size
      go_wp2_with fail
      go_meet
      first
        | exact ⟨_, _, _, _, _, _, _, rfl, rfl, hws2, (by first | omega | (simp; omega)), (by simp), .inr (Nat.le_refl _), Blk.new wg _ _, hIw.below (below_of wg _), hJw.below (below_of wg _), hw.alloc hws2 _⟩
        | exact ⟨_, _, _, _, _, _, _, rfl, rfl, by first | exact Nat.le_refl _ | omega, (by first | omega | (simp; omega)), (by simp), .inl (by first | omega | (simp; done) | (simp; omega)), hx.set3 _ _ _, (MenA.off (MenA.off (MenA.off hIw ⟨_, 0, none⟩ _ (by (try dsimp only); first | omega | (simp; done) | (simp; omega))) ⟨_, 1, none⟩ _ (by (try dsimp only); first | omega | (simp; done) | (simp; omega))) ⟨_, 2, none⟩ _ (by (try dsimp only); first | omega | (simp; done) | (simp; omega))), (MvA.offG (MvA.offG (MvA.offG hJw ⟨_, 0, none⟩ _ (by (try dsimp only); first | omega | (simp; done) | (simp; omega))) ⟨_, 1, none⟩ _ (by (try dsimp only); first | omega | (simp; done) | (simp; omega))) ⟨_, 2, none⟩ _ (by (try dsimp only); first | omega | (simp; done) | (simp; omega))), (((hw.setCell (by (try dsimp only); first | exact Nat.le_refl _ | omega) _).setCell (by (try dsimp only); first | exact Nat.le_refl _ | omega) _).setCell (by (try dsimp only); first | exact Nat.le_refl _ | omega) _)⟩
  obtain ⟨bws, Aws, cws, Mws, cmws, los, his, rfl, rfl, hbws, hlos, hhis, hdiss, pw0, iw0, jw0, hb0⟩ := hcut
  have lws := pw0.lt
  clear hO0 hO1
  have pB0_3 := pB0_2.below hb0 pB0_2.lt
  have pB1_3 := pB1_2.below hb0 pB1_2.lt
  have hW_3 := hW_2.trans (hb0.mono hW_2.size)
  have hz_3 := hb0.size
  clear pB0_2 pB1_2 hW_2
  clear hb0
  have pWs_3 := pw0
  have Is_3 := iw0
  have Js_3 := jw0
  clear pw0 iw0 jw0
  obtain ⟨⟨z_pB00, z_pB01⟩, _⟩ := pB0_3.at2
  obtain ⟨⟨z_pB10, z_pB11, z_pB12⟩, _⟩ := pB1_3.at3
  obtain ⟨⟨z_pWs0, z_pWs1, z_pWs2⟩, _⟩ := pWs_3.at3
  go_wp2_with fail
  clear z_pB00 z_pB01 z_pB10 z_pB11 z_pB12 z_pWs0 z_pWs1 z_pWs2
  -- the arguments again
  refine (toRules_any _ _ _ _ _ ((HO0.out.below hW_3).more hW_3.size) HSM0.out).mono ?_
  rintro e wr ⟨gr, cr, rfl, hNx, hb⟩
  have hXx := Blk.new wr #[.int .i64 sd0, .slice (some ⟨gr, 0, none⟩) ks0.length cr] 40
  have hA := below_of wr (.cells #[.int .i64 sd0, .slice (some ⟨gr, 0, none⟩) ks0.length cr] 40)
  have hbA := hb.trans (hA.mono hb.size)
  have hs_xr : (wr.alloc (.cells #[.int .i64 sd0, .slice (some ⟨gr, 0, none⟩) ks0.length cr] 40)).heap.size = wr.heap.size + 1 := by simp
  have hq_xr := hb.size
  have n_hk := hNx.below hA
  have n_KS := hNx.shape.below hA
  have lt_pB0 := (pB0_3.below hb pB0_3.lt).lt
  obtain ⟨⟨y_pB00, y_pB01⟩, _⟩ := (pB0_3.below hb pB0_3.lt).at2
  have lt_pB1 := (pB1_3.below hb pB1_3.lt).lt
  obtain ⟨⟨y_pB10, y_pB11, y_pB12⟩, _⟩ := (pB1_3.below hb pB1_3.lt).at3
  have lt_pWs := (pWs_3.below hb pWs_3.lt).lt
  obtain ⟨⟨y_pWs0, y_pWs1, y_pWs2⟩, _⟩ := (pWs_3.below hb pWs_3.lt).at3
  have pB0_4 := pB0_3.below hbA pB0_3.lt
  have pB1_4 := pB1_3.below hbA pB1_3.lt
  have hW_4 := hW_3.trans (hbA.mono hW_3.size)
  have pWs_4 := pWs_3.below hbA pWs_3.lt
  have Is_4 := Is_3.below (hbA.mono (by omega))
  have Js_4 := Js_3.below (hbA.mono (by omega))
  have hz_4 := hbA.size
  clear pB0_3 pB1_3 hW_3 pWs_3 Is_3 Js_3
  have hk_4 := n_hk
  clear n_hk
  have KS_4 := n_KS
  clear n_KS
  have pxr_4 := hXx
  clear hXx
  obtain ⟨⟨z_pB00, z_pB01⟩, _⟩ := pB0_4.at2
  obtain ⟨⟨z_pB10, z_pB11, z_pB12⟩, _⟩ := pB1_4.at3
  obtain ⟨⟨z_pWs0, z_pWs1, z_pWs2⟩, _⟩ := pWs_4.at3
  obtain ⟨⟨z_pxr0, z_pxr1⟩, _⟩ := pxr_4.at2
  go_wp2_with fail
  generalize hZx : wr.alloc _ = Wr at *
  generalize hzx : wr.heap.size = xr at *
  clear hZx hzx hb hA hbA
  clear y_pB00 y_pB01 y_pB10 y_pB11 y_pB12 y_pWs0 y_pWs1 y_pWs2 z_pB00 z_pB01 z_pB10 z_pB11 z_pB12 z_pWs0 z_pWs1 z_pWs2 z_pxr0 z_pxr1 lt_pB0 lt_pB1 lt_pWs
  clear hNx
  refine (toGameK_any _ _ _ _ _ _ _ _ ((HO1.out.below hW_4).more hW_4.size) hl1).mono ?_
  rintro e wm ⟨gm, gmm, cm, rfl, hNx, hb⟩
  have hgm := hNx.1.lt
  have hgm0 : Wr.heap.size ≤ gm := by obtain ⟨⟨_, hh, _⟩, _⟩ := hNx; exact hh
  have hgmm := hNx.2.lt
  have hgmm0 : Wr.heap.size ≤ gmm := by obtain ⟨_, _, hh, _⟩ := hNx; exact hh
  have hXx := Blk.new wm #[.int .i64 t1, .slice (some ⟨gm, 0, none⟩) l1.length cm, .slice (some ⟨gmm, 0, none⟩) ms1.length ms1.length] 44
  have hA := below_of wm (.cells #[.int .i64 t1, .slice (some ⟨gm, 0, none⟩) l1.length cm, .slice (some ⟨gmm, 0, none⟩) ms1.length ms1.length] 44)
  have hbA := hb.trans (hA.mono hb.size)
  have hs_xm : (wm.alloc (.cells #[.int .i64 t1, .slice (some ⟨gm, 0, none⟩) l1.length cm, .slice (some ⟨gmm, 0, none⟩) ms1.length ms1.length] 44)).heap.size = wm.heap.size + 1 := by simp
  have hq_xm := hb.size
  have n_hn := hNx.below hA
  have n_MB := hNx.1.big.below hA hNx.1.big.lt
  have n_MC := hNx.2.big.below hA hNx.2.big.lt
  have lt_pB0 := (pB0_4.below hb pB0_4.lt).lt
  obtain ⟨⟨y_pB00, y_pB01⟩, _⟩ := (pB0_4.below hb pB0_4.lt).at2
  have lt_pB1 := (pB1_4.below hb pB1_4.lt).lt
  obtain ⟨⟨y_pB10, y_pB11, y_pB12⟩, _⟩ := (pB1_4.below hb pB1_4.lt).at3
  have lt_pWs := (pWs_4.below hb pWs_4.lt).lt
  obtain ⟨⟨y_pWs0, y_pWs1, y_pWs2⟩, _⟩ := (pWs_4.below hb pWs_4.lt).at3
  have lt_pxr := (pxr_4.below hb pxr_4.lt).lt
  obtain ⟨⟨y_pxr0, y_pxr1⟩, _⟩ := (pxr_4.below hb pxr_4.lt).at2
  have pB0_5 := pB0_4.below hbA pB0_4.lt
  have pB1_5 := pB1_4.below hbA pB1_4.lt
  have hW_5 := hW_4.trans (hbA.mono hW_4.size)
  have pWs_5 := pWs_4.below hbA pWs_4.lt
  have Is_5 := Is_4.below (hbA.mono (by omega))
  have Js_5 := Js_4.below (hbA.mono (by omega))
  have hk_5 := hk_4.below hbA
  have KS_5 := KS_4.below (hbA.mono (by omega))
  have pxr_5 := pxr_4.below hbA pxr_4.lt
  have hz_5 := hbA.size
  clear pB0_4 pB1_4 hW_4 pWs_4 Is_4 Js_4 hk_4 KS_4 pxr_4
  have hn_5 := n_hn
  clear n_hn
  have MB_5 := n_MB
  clear n_MB
  have MC_5 := n_MC
  clear n_MC
  have pxm_5 := hXx
  clear hXx
  obtain ⟨⟨z_pB00, z_pB01⟩, _⟩ := pB0_5.at2
  obtain ⟨⟨z_pB10, z_pB11, z_pB12⟩, _⟩ := pB1_5.at3
  obtain ⟨⟨z_pWs0, z_pWs1, z_pWs2⟩, _⟩ := pWs_5.at3
  obtain ⟨⟨z_pxr0, z_pxr1⟩, _⟩ := pxr_5.at2
  obtain ⟨⟨z_pxm0, z_pxm1, z_pxm2⟩, _⟩ := pxm_5.at3
  go_wp2_with fail
  generalize hZx : wm.alloc _ = Wm at *
  generalize hzx : wm.heap.size = xm at *
  clear hZx hzx hb hA hbA
  clear y_pB00 y_pB01 y_pB10 y_pB11 y_pB12 y_pWs0 y_pWs1 y_pWs2 y_pxr0 y_pxr1 z_pB00 z_pB01 z_pB10 z_pB11 z_pB12 z_pWs0 z_pWs1 z_pWs2 z_pxr0 z_pxr1 z_pxm0 z_pxm1 z_pxm2 lt_pB0 lt_pB1 lt_pWs lt_pxr
  clear hNx
  refine (gameBackK_any _ _ _ _ _ _ _ _ _ _ _ hk_5.is hn_5.is (HT.out.below hW_5 hT0) HSM0.out hl1).mono ?_
  rw [← HTT.out, ← HLL.out, ← HMM.out, ← HBB.out]
  rintro e wi ⟨Awg, cwg, Mwg, cmwg, rfl, hIx, hJx, hb⟩
  have hXx := Blk.new wi #[.int .i64 TT, .slice Awg LL.length cwg, .slice Mwg MM.length cmwg] 44
  have hA := below_of wi (.cells #[.int .i64 TT, .slice Awg LL.length cwg, .slice Mwg MM.length cmwg] 44)
  have hbA := hb.trans (hA.mono hb.size)
  have hs_xg : (wi.alloc (.cells #[.int .i64 TT, .slice Awg LL.length cwg, .slice Mwg MM.length cmwg] 44)).heap.size = wi.heap.size + 1 := by simp
  have hq_xg := hb.size
  have n_Ig := hIx.below hA
  have n_Jg := hJx.below hA
  have lt_pB0 := (pB0_5.below hb pB0_5.lt).lt
  obtain ⟨⟨y_pB00, y_pB01⟩, _⟩ := (pB0_5.below hb pB0_5.lt).at2
  have lt_pB1 := (pB1_5.below hb pB1_5.lt).lt
  obtain ⟨⟨y_pB10, y_pB11, y_pB12⟩, _⟩ := (pB1_5.below hb pB1_5.lt).at3
  have lt_pWs := (pWs_5.below hb pWs_5.lt).lt
  obtain ⟨⟨y_pWs0, y_pWs1, y_pWs2⟩, _⟩ := (pWs_5.below hb pWs_5.lt).at3
  have lt_pxr := (pxr_5.below hb pxr_5.lt).lt
  obtain ⟨⟨y_pxr0, y_pxr1⟩, _⟩ := (pxr_5.below hb pxr_5.lt).at2
  have lt_pxm := (pxm_5.below hb pxm_5.lt).lt
  obtain ⟨⟨y_pxm0, y_pxm1, y_pxm2⟩, _⟩ := (pxm_5.below hb pxm_5.lt).at3
  have pB0_6 := pB0_5.below hbA pB0_5.lt
  have pB1_6 := pB1_5.below hbA pB1_5.lt
  have hW_6 := hW_5.trans (hbA.mono hW_5.size)
  have pWs_6 := pWs_5.below hbA pWs_5.lt
  have Is_6 := Is_5.below (hbA.mono (by omega))
  have Js_6 := Js_5.below (hbA.mono (by omega))
  have hk_6 := hk_5.below hbA
  have KS_6 := KS_5.below (hbA.mono (by omega))
  have pxr_6 := pxr_5.below hbA pxr_5.lt
  have hn_6 := hn_5.below hbA
  have MB_6 := MB_5.below hbA MB_5.lt
  have MC_6 := MC_5.below hbA MC_5.lt
  have pxm_6 := pxm_5.below hbA pxm_5.lt
  have hz_6 := hbA.size
  clear pB0_5 pB1_5 hW_5 pWs_5 Is_5 Js_5 hk_5 KS_5 pxr_5 hn_5 MB_5 MC_5 pxm_5
  have Ig_6 := n_Ig
  clear n_Ig
  have Jg_6 := n_Jg
  clear n_Jg
  have pxg_6 := hXx
  clear hXx
  obtain ⟨⟨z_pB00, z_pB01⟩, _⟩ := pB0_6.at2
  obtain ⟨⟨z_pB10, z_pB11, z_pB12⟩, _⟩ := pB1_6.at3
  obtain ⟨⟨z_pWs0, z_pWs1, z_pWs2⟩, _⟩ := pWs_6.at3
  obtain ⟨⟨z_pxr0, z_pxr1⟩, _⟩ := pxr_6.at2
  obtain ⟨⟨z_pxm0, z_pxm1, z_pxm2⟩, _⟩ := pxm_6.at3
  obtain ⟨⟨z_pxg0, z_pxg1, z_pxg2⟩, _⟩ := pxg_6.at3
  go_wp2_with fail
  generalize hZx : wi.alloc _ = Wi at *
  generalize hzx : wi.heap.size = xg at *
  clear hZx hzx hb hA hbA
  clear y_pB00 y_pB01 y_pB10 y_pB11 y_pB12 y_pWs0 y_pWs1 y_pWs2 y_pxr0 y_pxr1 y_pxm0 y_pxm1 y_pxm2 z_pB00 z_pB01 z_pB10 z_pB11 z_pB12 z_pWs0 z_pWs1 z_pWs2 z_pxr0 z_pxr1 z_pxm0 z_pxm1 z_pxm2 z_pxg0 z_pxg1 z_pxg2 lt_pB0 lt_pB1 lt_pWs lt_pxr lt_pxm
  clear hIx hJx
  refine (eqGame_same _ _ _ _ _ _ _ _ _ _ _ _ (Ig_6.is.more (by omega)) (Is_6.is.more (by omega)) (Jg_6.inm.more (by omega)) (Js_6.inm.more (by omega)) hlenL hlenM).mono ?_
  rintro e we1 ⟨rfl, hb⟩
  have pB0_7 := pB0_6.below hb pB0_6.lt
  have pB1_7 := pB1_6.below hb pB1_6.lt
  have hW_7 := hW_6.trans (hb.mono hW_6.size)
  have pWs_7 := pWs_6.below hb pWs_6.lt
  have Is_7 := Is_6.below (hb.mono (by omega))
  have Js_7 := Js_6.below (hb.mono (by omega))
  have hk_7 := hk_6.below hb
  have KS_7 := KS_6.below (hb.mono (by omega))
  have pxr_7 := pxr_6.below hb pxr_6.lt
  have hn_7 := hn_6.below hb
  have MB_7 := MB_6.below hb MB_6.lt
  have MC_7 := MC_6.below hb MC_6.lt
  have pxm_7 := pxm_6.below hb pxm_6.lt
  have Ig_7 := Ig_6.below (hb.mono (by omega))
  have Jg_7 := Jg_6.below (hb.mono (by omega))
  have pWg_7 := pxg_6.below hb pxg_6.lt
  have hz_7 := hb.size
  clear pB0_6 pB1_6 hW_6 pWs_6 Is_6 Js_6 hk_6 KS_6 pxr_6 hn_6 MB_6 MC_6 pxm_6 Ig_6 Jg_6 pxg_6
  clear hb
  obtain ⟨⟨z_pB00, z_pB01⟩, _⟩ := pB0_7.at2
  obtain ⟨⟨z_pB10, z_pB11, z_pB12⟩, _⟩ := pB1_7.at3
  obtain ⟨⟨z_pWs0, z_pWs1, z_pWs2⟩, _⟩ := pWs_7.at3
  obtain ⟨⟨z_pxr0, z_pxr1⟩, _⟩ := pxr_7.at2
  obtain ⟨⟨z_pxm0, z_pxm1, z_pxm2⟩, _⟩ := pxm_7.at3
  obtain ⟨⟨z_pWg0, z_pWg1, z_pWg2⟩, _⟩ := pWg_7.at3
  go_wp2_with fail
  clear z_pB00 z_pB01 z_pB10 z_pB11 z_pB12 z_pWs0 z_pWs1 z_pWs2 z_pxr0 z_pxr1 z_pxm0 z_pxm1 z_pxm2 z_pWg0 z_pWg1 z_pWg2
  have HS : Hid (∀ w', Below we1.heap.size we1 w' → (w'.cell? ⟨w.heap.size, 0, none⟩ = some (.int .i64 sd0) ∧ w'.cell? ⟨w.heap.size, 1, none⟩ = some (.slice A0 ks0.length c0) ∧ w'.cell? ⟨xr, 0, none⟩ = some (.int .i64 sd0) ∧ w'.cell? ⟨xr, 1, none⟩ = some (.slice (some ⟨gr, 0, none⟩) ks0.length cr))) := Lib.hid (fun w' hb => by
    obtain ⟨⟨e00, e01⟩, _⟩ := (pB0_7.below hb pB0_7.lt).at2
    obtain ⟨⟨e10, e11⟩, _⟩ := (pxr_7.below hb pxr_7.lt).at2
    exact ⟨e00, e01, e10, e11⟩)
  have hw : Below we1.heap.size we1 we1.drew := (Below.refl _ _).drew
  have hO := ((HO0.out.below hW_7).more hW_7.size)
  have hNk := hk_7
  go_region_held3 (fun w' => w'.cell? ⟨w.heap.size, 0, none⟩ = some (.int .i64 sd0) ∧ w'.cell? ⟨w.heap.size, 1, none⟩ = some (.slice A0 ks0.length c0) ∧ w'.cell? ⟨xr, 0, none⟩ = some (.int .i64 sd0) ∧ w'.cell? ⟨xr, 1, none⟩ = some (.slice (some ⟨gr, 0, none⟩) ks0.length cr))
    (exact HS.out _ hw)
    (first
      | (go_at_call 9; refine (toRules_any _ _ _ _ _ ((hO.below hw).more hw.size) HSM0.out).mono ?_; rintro e wawq0 ⟨ga, ca, rfl, hna, hba⟩; have hw := hw.trans (hba.mono hw.size))
      | (go_at_call 13; refine (eqRules_same _ _ _ _ _ _ _ (hNk.below hw).is hna.is HSM0.out).mono ?_; rintro e wq0 ⟨rfl, hbb2⟩; have hw := hw.trans (hbb2.mono hw.size)))
  clear HS hO hNk hna
  have pB0_8 := pB0_7.below hw pB0_7.lt
  have pB1_8 := pB1_7.below hw pB1_7.lt
  have hW_8 := hW_7.trans (hw.mono hW_7.size)
  have pWs_8 := pWs_7.below hw pWs_7.lt
  have Is_8 := Is_7.below (hw.mono (by omega))
  have Js_8 := Js_7.below (hw.mono (by omega))
  have KS_8 := KS_7.below (hw.mono (by omega))
  have pxr_8 := pxr_7.below hw pxr_7.lt
  have hn_8 := hn_7.below hw
  have MB_8 := MB_7.below hw MB_7.lt
  have MC_8 := MC_7.below hw MC_7.lt
  have pxm_8 := pxm_7.below hw pxm_7.lt
  have Ig_8 := Ig_7.below (hw.mono (by omega))
  have Jg_8 := Jg_7.below (hw.mono (by omega))
  have pWg_8 := pWg_7.below hw pWg_7.lt
  have hz_8 := hw.size
  clear pB0_7 pB1_7 hW_7 pWs_7 Is_7 Js_7 hk_7 KS_7 pxr_7 hn_7 MB_7 MC_7 pxm_7 Ig_7 Jg_7 pWg_7
  clear hw
  obtain ⟨⟨z_pB00, z_pB01⟩, _⟩ := pB0_8.at2
  obtain ⟨⟨z_pB10, z_pB11, z_pB12⟩, _⟩ := pB1_8.at3
  obtain ⟨⟨z_pWs0, z_pWs1, z_pWs2⟩, _⟩ := pWs_8.at3
  obtain ⟨⟨z_pxr0, z_pxr1⟩, _⟩ := pxr_8.at2
  obtain ⟨⟨z_pxm0, z_pxm1, z_pxm2⟩, _⟩ := pxm_8.at3
  obtain ⟨⟨z_pWg0, z_pWg1, z_pWg2⟩, _⟩ := pWg_8.at3
  go_wp2_with fail
  clear z_pB00 z_pB01 z_pB10 z_pB11 z_pB12 z_pWs0 z_pWs1 z_pWs2 z_pxr0 z_pxr1 z_pxm0 z_pxm1 z_pxm2 z_pWg0 z_pWg1 z_pWg2
  have HS : Hid (∀ w', Below wq0.heap.size wq0 w' → (w'.cell? ⟨w.heap.size + 1, 0, none⟩ = some (.int .i64 t1) ∧ w'.cell? ⟨w.heap.size + 1, 1, none⟩ = some (.slice A1 l1.length c1) ∧ w'.cell? ⟨w.heap.size + 1, 2, none⟩ = some (.slice M1 ms1.length cm1) ∧ w'.cell? ⟨xm, 0, none⟩ = some (.int .i64 t1) ∧ w'.cell? ⟨xm, 1, none⟩ = some (.slice (some ⟨gm, 0, none⟩) l1.length cm) ∧ w'.cell? ⟨xm, 2, none⟩ = some (.slice (some ⟨gmm, 0, none⟩) ms1.length ms1.length))) := Lib.hid (fun w' hb => by
    obtain ⟨⟨e00, e01, e02⟩, _⟩ := (pB1_8.below hb pB1_8.lt).at3
    obtain ⟨⟨e10, e11, e12⟩, _⟩ := (pxm_8.below hb pxm_8.lt).at3
    exact ⟨e00, e01, e02, e10, e11, e12⟩)
  have hw : Below wq0.heap.size wq0 wq0.drew := (Below.refl _ _).drew
  have hO := ((HO1.out.below hW_8).more hW_8.size)
  have hNk := hn_8
  go_region_held3 (fun w' => w'.cell? ⟨w.heap.size + 1, 0, none⟩ = some (.int .i64 t1) ∧ w'.cell? ⟨w.heap.size + 1, 1, none⟩ = some (.slice A1 l1.length c1) ∧ w'.cell? ⟨w.heap.size + 1, 2, none⟩ = some (.slice M1 ms1.length cm1) ∧ w'.cell? ⟨xm, 0, none⟩ = some (.int .i64 t1) ∧ w'.cell? ⟨xm, 1, none⟩ = some (.slice (some ⟨gm, 0, none⟩) l1.length cm) ∧ w'.cell? ⟨xm, 2, none⟩ = some (.slice (some ⟨gmm, 0, none⟩) ms1.length ms1.length))
    (exact HS.out _ hw)
    (first
      | (go_at_call 10; refine (toGameK_any _ _ _ _ _ _ _ _ ((hO.below hw).more hw.size) hl1).mono ?_; rintro e wawq1 ⟨ga, gb, ca, rfl, hna, hba⟩; have hw := hw.trans (hba.mono hw.size))
      | (go_at_call 14; refine (eqGameK_same _ _ _ _ _ _ _ _ _ _ _ _ (hNk.below hw).is hna.is hl1).mono ?_; rintro e wq1 ⟨rfl, hbb2⟩; have hw := hw.trans (hbb2.mono hw.size)))
  clear HS hO hNk hna
  have pB0_9 := pB0_8.below hw pB0_8.lt
  have pB1_9 := pB1_8.below hw pB1_8.lt
  have hW_9 := hW_8.trans (hw.mono hW_8.size)
  have pWs_9 := pWs_8.below hw pWs_8.lt
  have Is_9 := Is_8.below (hw.mono (by omega))
  have Js_9 := Js_8.below (hw.mono (by omega))
  have KS_9 := KS_8.below (hw.mono (by omega))
  have pxr_9 := pxr_8.below hw pxr_8.lt
  have MB_9 := MB_8.below hw MB_8.lt
  have MC_9 := MC_8.below hw MC_8.lt
  have pxm_9 := pxm_8.below hw pxm_8.lt
  have Ig_9 := Ig_8.below (hw.mono (by omega))
  have Jg_9 := Jg_8.below (hw.mono (by omega))
  have pWg_9 := pWg_8.below hw pWg_8.lt
  have hz_9 := hw.size
  clear pB0_8 pB1_8 hW_8 pWs_8 Is_8 Js_8 KS_8 pxr_8 hn_8 MB_8 MC_8 pxm_8 Ig_8 Jg_8 pWg_8
  clear hw
  obtain ⟨⟨z_pB00, z_pB01⟩, _⟩ := pB0_9.at2
  obtain ⟨⟨z_pB10, z_pB11, z_pB12⟩, _⟩ := pB1_9.at3
  obtain ⟨⟨z_pWs0, z_pWs1, z_pWs2⟩, _⟩ := pWs_9.at3
  obtain ⟨⟨z_pxr0, z_pxr1⟩, _⟩ := pxr_9.at2
  obtain ⟨⟨z_pxm0, z_pxm1, z_pxm2⟩, _⟩ := pxm_9.at3
  obtain ⟨⟨z_pWg0, z_pWg1, z_pWg2⟩, _⟩ := pWg_9.at3
  go_wp2_with fail
  clear z_pB00 z_pB01 z_pB10 z_pB11 z_pB12 z_pWs0 z_pWs1 z_pWs2 z_pxr0 z_pxr1 z_pxm0 z_pxm1 z_pxm2 z_pWg0 z_pWg1 z_pWg2
  -- marks
  have lx1 := pxr_9.lt
  have lx2 := pxm_9.lt
  have lx3 := pWg_9.lt
  refine (markRules_any _ _ _ _ _ _ _ _ KS_9 HSM0.out (by omega) (by omega) (by omega)).mono ?_
  rintro e wk ⟨k1, rfl, hk11, hk12, sp⟩
  have pB0_10 := sp.blk pB0_9 (by omega)
  have pB1_10 := sp.blk pB1_9 (by omega)
  have hW_10 := hW_9.trans (sp.toBelow (B := w.heap.size) (by omega) (by omega))
  have pWs_10 := sp.blk pWs_9 (by omega)
  have Is_10 := Is_9.span sp (by omega)
  have Js_10 := Js_9.span sp (by omega)
  have MB_10 := sp.shape _ _ _ MB_9
  have MC_10 := sp.shape _ _ _ MC_9
  have pxm_10 := sp.blk pxm_9 (by omega)
  have Ig_10 := Ig_9.span sp (by omega)
  have Jg_10 := Jg_9.span sp (by omega)
  have pWg_10 := sp.blk pWg_9 (by omega)
  have hz_10 := sp.size
  clear pB0_9 pB1_9 hW_9 pWs_9 Is_9 Js_9 KS_9 pxr_9 MB_9 MC_9 pxm_9 Ig_9 Jg_9 pWg_9
  clear sp
  obtain ⟨⟨z_pB00, z_pB01⟩, _⟩ := pB0_10.at2
  obtain ⟨⟨z_pB10, z_pB11, z_pB12⟩, _⟩ := pB1_10.at3
  obtain ⟨⟨z_pWs0, z_pWs1, z_pWs2⟩, _⟩ := pWs_10.at3
  obtain ⟨⟨z_pxm0, z_pxm1, z_pxm2⟩, _⟩ := pxm_10.at3
  obtain ⟨⟨z_pWg0, z_pWg1, z_pWg2⟩, _⟩ := pWg_10.at3
  go_wp2_with fail
  clear z_pB00 z_pB01 z_pB10 z_pB11 z_pB12 z_pWs0 z_pWs1 z_pWs2 z_pxm0 z_pxm1 z_pxm2 z_pWg0 z_pWg1 z_pWg2
  refine (markGame_any Wr.heap.size xm _ _ _ _ _ _ _ _ _ MB_10 MC_10 ⟨by omega, by omega⟩ ⟨by omega, by omega⟩ hl1 (by omega) (by omega)).mono ?_
  rintro e wl ⟨k2, rfl, hk21, hk22, sp⟩
  have pB0_11 := sp.blk pB0_10 (by omega)
  have pB1_11 := sp.blk pB1_10 (by omega)
  have hW_11 := hW_10.trans (sp.toBelow (B := w.heap.size) (by omega) (by omega))
  have pWs_11 := sp.blk pWs_10 (by omega)
  have Is_11 := Is_10.span sp (by omega)
  have Js_11 := Js_10.span sp (by omega)
  have Ig_11 := Ig_10.span sp (by omega)
  have Jg_11 := Jg_10.span sp (by omega)
  have pWg_11 := sp.blk pWg_10 (by omega)
  have hz_11 := sp.size
  clear pB0_10 pB1_10 hW_10 pWs_10 Is_10 Js_10 MB_10 MC_10 pxm_10 Ig_10 Jg_10 pWg_10
  clear sp
  have hkn : decide (k2 < 0) = false := decide_eq_false (by omega)
  obtain ⟨⟨z_pB00, z_pB01⟩, _⟩ := pB0_11.at2
  obtain ⟨⟨z_pB10, z_pB11, z_pB12⟩, _⟩ := pB1_11.at3
  obtain ⟨⟨z_pWs0, z_pWs1, z_pWs2⟩, _⟩ := pWs_11.at3
  obtain ⟨⟨z_pWg0, z_pWg1, z_pWg2⟩, _⟩ := pWg_11.at3
  go_wp2_with fail
  clear z_pB00 z_pB01 z_pB10 z_pB11 z_pB12 z_pWs0 z_pWs1 z_pWs2 z_pWg0 z_pWg1 z_pWg2
  refine (eqGame_same _ _ _ _ _ _ _ _ _ _ _ _ (Ig_11.is.more (by omega)) (Is_11.is.more (by omega)) (Jg_11.inm.more (by omega)) (Js_11.inm.more (by omega)) hlenL hlenM).mono ?_
  rintro e we2 ⟨rfl, hb⟩
  have pB0_12 := pB0_11.below hb pB0_11.lt
  have pB1_12 := pB1_11.below hb pB1_11.lt
  have hW_12 := hW_11.trans (hb.mono hW_11.size)
  have pWs_12 := pWs_11.below hb pWs_11.lt
  have Is_12 := Is_11.below (hb.mono (by omega))
  have Js_12 := Js_11.below (hb.mono (by omega))
  have Ig_12 := Ig_11.below (hb.mono (by omega))
  have Jg_12 := Jg_11.below (hb.mono (by omega))
  have pWg_12 := pWg_11.below hb pWg_11.lt
  have hz_12 := hb.size
  clear pB0_11 pB1_11 hW_11 pWs_11 Is_11 Js_11 Ig_11 Jg_11 pWg_11
  clear hb
  obtain ⟨⟨z_pB00, z_pB01⟩, _⟩ := pB0_12.at2
  obtain ⟨⟨z_pB10, z_pB11, z_pB12⟩, _⟩ := pB1_12.at3
  obtain ⟨⟨z_pWs0, z_pWs1, z_pWs2⟩, _⟩ := pWs_12.at3
  obtain ⟨⟨z_pWg0, z_pWg1, z_pWg2⟩, _⟩ := pWg_12.at3
  go_wp2_with fail
  clear z_pB00 z_pB01 z_pB10 z_pB11 z_pB12 z_pWs0 z_pWs1 z_pWs2 z_pWg0 z_pWg1 z_pWg2
  have hln : decide (1 + 3 * (LL.length : Int) + 2 * (MM.length : Int) < 0) = false := decide_eq_false (by omega)
  refine (markGameA_any _ _ _ _ _ _ _ _ _ _ _ Ig_12 Jg_12 (by omega) (by omega) hlenL hlenM (by omega) (by omega)).mono ?_
  rintro e wo ⟨rfl, hIm, hJm, sp⟩
  have pB0_13 := sp.blk pB0_12 (by omega)
  have pB1_13 := sp.blk pB1_12 (by omega)
  have hW_13 := hW_12.trans (sp.toBelow (B := w.heap.size) (by omega) (by omega))
  have pWs_13 := sp.blk pWs_12 (by omega)
  have Is_13 := Is_12.span sp (by omega)
  have Js_13 := Js_12.span sp (by omega)
  have pWg_13 := sp.blk pWg_12 (by omega)
  have hz_13 := sp.size
  clear pB0_12 pB1_12 hW_12 pWs_12 Is_12 Js_12 Ig_12 Jg_12 pWg_12
  have Im_13 := hIm
  have Jm_13 := hJm
  clear sp hIm hJm
  obtain ⟨⟨z_pB00, z_pB01⟩, _⟩ := pB0_13.at2
  obtain ⟨⟨z_pB10, z_pB11, z_pB12⟩, _⟩ := pB1_13.at3
  obtain ⟨⟨z_pWs0, z_pWs1, z_pWs2⟩, _⟩ := pWs_13.at3
  obtain ⟨⟨z_pWg0, z_pWg1, z_pWg2⟩, _⟩ := pWg_13.at3
  go_wp2_with fail
  clear z_pB00 z_pB01 z_pB10 z_pB11 z_pB12 z_pWs0 z_pWs1 z_pWs2 z_pWg0 z_pWg1 z_pWg2
  refine (heldGameA_any _ _ _ _ _ _ _ _ _ (Im_13.is.more (by omega)) (Jm_13.is.more (by omega)) hlenL hlenM (by omega) (by omega)).mono ?_
  rintro e wh1 ⟨rfl, hb⟩
  have pB0_14 := pB0_13.below hb pB0_13.lt
  have pB1_14 := pB1_13.below hb pB1_13.lt
  have hW_14 := hW_13.trans (hb.mono hW_13.size)
  have pWs_14 := pWs_13.below hb pWs_13.lt
  have Is_14 := Is_13.below (hb.mono (by omega))
  have Js_14 := Js_13.below (hb.mono (by omega))
  have pWg_14 := pWg_13.below hb pWg_13.lt
  have Im_14 := Im_13.below (hb.mono (by omega))
  have Jm_14 := Jm_13.below (hb.mono (by omega))
  have hz_14 := hb.size
  clear pB0_13 pB1_13 hW_13 pWs_13 Is_13 Js_13 pWg_13 Im_13 Jm_13
  clear hb
  obtain ⟨⟨z_pB00, z_pB01⟩, _⟩ := pB0_14.at2
  obtain ⟨⟨z_pB10, z_pB11, z_pB12⟩, _⟩ := pB1_14.at3
  obtain ⟨⟨z_pWs0, z_pWs1, z_pWs2⟩, _⟩ := pWs_14.at3
  obtain ⟨⟨z_pWg0, z_pWg1, z_pWg2⟩, _⟩ := pWg_14.at3
  go_wp2_with fail
  clear z_pB00 z_pB01 z_pB10 z_pB11 z_pB12 z_pWs0 z_pWs1 z_pWs2 z_pWg0 z_pWg1 z_pWg2
  have kz1 : w.heap.size ≤ wh1.heap.size := by omega
  have kz2 : his ≤ wh1.heap.size := by omega
  have kz3 : xg ≤ wh1.heap.size := by omega
  have kz4 : w.heap.size + 1 < wh1.heap.size := by have := pB0_14.lt; have := pB1_14.lt; omega
  clear hbws hlos hhis hdiss hkn hk11 hk12 hk21 hk22 hz_w0 hz_b0 hz_b1 lws hz_3 hs_xr hq_xr hz_4 hgm hgm0 hgmm hgmm0 hs_xm hq_xm hz_5 hs_xg hq_xg hz_6 hz_7 hz_8 hz_9 lx1 lx2 lx3 hz_10 hz_11 hz_12 hz_13 hz_14
  have hO0 := ((HO0.out.below hW_14).more hW_14.size)
  have hO1 := ((HO1.out.below hW_14).more hW_14.size)
  have HTc := Lib.hid (HT.out.below hW_14 hT0)
  have hT1 := HTc.out.lt
  obtain ⟨⟨z_pB00, z_pB01⟩, _⟩ := pB0_14.at2
  obtain ⟨⟨z_pB10, z_pB11, z_pB12⟩, _⟩ := pB1_14.at3
  obtain ⟨⟨z_pWs0, z_pWs1, z_pWs2⟩, _⟩ := pWs_14.at3
  obtain ⟨⟨z_pWg0, z_pWg1, z_pWg2⟩, _⟩ := pWg_14.at3
  go_cut [15, 16] from 94 (fun sa sb wx => ∃ (bw : Nat) (Aw : Option Addr) (cw : Nat) (Mw : Option Addr) (cmw lo hi : Nat), sa = .pointer (some ⟨bw, 0, none⟩) ∧ sb = .bool BB ∧ wh1.heap.size ≤ bw ∧ wh1.heap.size ≤ lo ∧ hi ≤ wx.heap.size ∧ (bw < lo ∨ hi ≤ bw) ∧ Blk wx bw #[.int .i64 TT, .slice Aw LL.length cw, .slice Mw MM.length cmw] 44 ∧ MenA lo hi wx Aw LL ∧ MvA lo hi wx Mw MM ∧ Below wh1.heap.size wh1 wx)
  case first =>
    have HS : Hid (∀ w', Below wh1.heap.size wh1 w' → (w'.cell? ⟨w.heap.size, 0, none⟩ = some (.int .i64 sd0) ∧ w'.cell? ⟨w.heap.size, 1, none⟩ = some (.slice A0 ks0.length c0) ∧ w'.cell? ⟨w.heap.size + 1, 0, none⟩ = some (.int .i64 t1) ∧ w'.cell? ⟨w.heap.size + 1, 1, none⟩ = some (.slice A1 l1.length c1) ∧ w'.cell? ⟨w.heap.size + 1, 2, none⟩ = some (.slice M1 ms1.length cm1))) := Lib.hid (fun w' hb => by
      obtain ⟨⟨e00, e01⟩, _⟩ := (pB0_14.below hb pB0_14.lt).at2
      obtain ⟨⟨e10, e11, e12⟩, _⟩ := (pB1_14.below hb pB1_14.lt).at3
      exact ⟨e00, e01, e10, e11, e12⟩)
    have hw : Below wh1.heap.size wh1 wh1.drew := (Below.refl _ _).drew
    clear z_pB00 z_pB01 z_pB10 z_pB11 z_pB12 z_pWs0 z_pWs1 z_pWs2 z_pWg0 z_pWg1 z_pWg2
    go_region_held3 (fun w' => w'.cell? ⟨w.heap.size, 0, none⟩ = some (.int .i64 sd0) ∧ w'.cell? ⟨w.heap.size, 1, none⟩ = some (.slice A0 ks0.length c0) ∧ w'.cell? ⟨w.heap.size + 1, 0, none⟩ = some (.int .i64 t1) ∧ w'.cell? ⟨w.heap.size + 1, 1, none⟩ = some (.slice A1 l1.length c1) ∧ w'.cell? ⟨w.heap.size + 1, 2, none⟩ = some (.slice M1 ms1.length cm1))
      (exact HS.out _ (by first | exact hw | exact hw.alloc (by first | omega | (simp; done) | (have := hw.size; simp; omega)) _ | exact ((hw.setCell (by first | omega | (simp; done) | (simp; omega)) _).setCell (by first | omega | (simp; done) | (simp; omega)) _).setCell (by first | omega | (simp; done) | (simp; omega)) _))
      (first
        | (go_at_call 9; refine (toRules_any _ _ _ _ _ ((hO0.below (by first | exact hw | exact hw.alloc (by first | omega | (simp; done) | (have := hw.size; simp; omega)) _)).more (by first | exact hw.size | (have := hw.size; simp; done) | (have := hw.size; simp; omega))) HSM0.out).mono ?_; rintro e wa ⟨ga, ca, rfl, hna, hba⟩; have hw : Below wh1.heap.size wh1 wa := Below.trans (by first | exact hw | exact hw.alloc (by first | omega | (simp; done) | (have := hw.size; simp; omega)) _) (hba.mono (by first | exact hw.size | (have := hw.size; simp; done) | (have := hw.size; simp; omega))); have hws := hw.size; (first | (have hx := hx.below hba hx.lt; have hxl := hx.lt) | (have hx : Blk wa wh1.heap.size #[.int .i64 0, .slice none 0 0, .slice none 0 0] 44 := (Blk.new wh1.drew _ _).below hba (by simp); have hxl := hx.lt) | (have hx : Blk wa _ #[.int .i64 0, .slice none 0 0, .slice none 0 0] 44 := (Blk.new _ _ _).below hba (by simp); have hxl := hx.lt) | skip); try (have hnb : NewG _ wa _ _ _ _ := hnb.below (by first | exact hba | exact (below_of _ _).trans (hba.mono (by simp)))))
        | (go_at_call 10; refine (toGameK_any _ _ _ _ _ _ _ _ ((hO1.below (by first | exact hw | exact hw.alloc (by first | omega | (simp; done) | (have := hw.size; simp; omega)) _)).more (by first | exact hw.size | (have := hw.size; simp; done) | (have := hw.size; simp; omega))) hl1).mono ?_; rintro e wb ⟨gb, gmb, cb, rfl, hnb, hbb⟩; have hw : Below wh1.heap.size wh1 wb := Below.trans (by first | exact hw | exact hw.alloc (by first | omega | (simp; done) | (have := hw.size; simp; omega)) _) (hbb.mono (by first | exact hw.size | (have := hw.size; simp; done) | (have := hw.size; simp; omega))); have hws := hw.size; (first | (have hx := hx.below hbb hx.lt; have hxl := hx.lt) | (have hx : Blk wb wh1.heap.size #[.int .i64 0, .slice none 0 0, .slice none 0 0] 44 := (Blk.new wh1.drew _ _).below hbb (by simp); have hxl := hx.lt) | (have hx : Blk wb _ #[.int .i64 0, .slice none 0 0, .slice none 0 0] 44 := (Blk.new _ _ _).below hbb (by simp); have hxl := hx.lt) | skip); try (have hna : NewKinds _ wb _ _ := hna.below (by first | exact hbb | exact (below_of _ _).trans (hbb.mono (by simp)))))
        | (go_at_call 20; refine (gameBackK_any _ _ _ _ _ _ _ _ _ _ _ (by first | exact hna.is | exact (hna.below (below_of _ _)).is) (by first | exact hnb.is | exact (hnb.below (below_of _ _)).is) (HTc.out.below (by first | exact hw | exact hw.alloc (by first | omega | (simp; done) | (have := hw.size; simp; omega)) _) hT1) HSM0.out hl1).mono ?_; rw [← HTT.out, ← HLL.out, ← HMM.out, ← HBB.out]; rintro e wg ⟨Aw, cw, Mw, cmw, rfl, hIw, hJw, hbg⟩; have hw : Below wh1.heap.size wh1 wg := Below.trans (by first | exact hw | exact hw.alloc (by first | omega | (simp; done) | (have := hw.size; simp; omega)) _) (hbg.mono (by first | exact hw.size | (have := hw.size; simp; done) | (have := hw.size; simp; omega))); have hws := hw.size; (first | (have hx := hx.below hbg hx.lt; have hxl := hx.lt) | (have hx : Blk wg wh1.heap.size #[.int .i64 0, .slice none 0 0, .slice none 0 0] 44 := (Blk.new wh1.drew _ _).below hbg (by simp); have hxl := hx.lt) | (have hx : Blk wg _ #[.int .i64 0, .slice none 0 0, .slice none 0 0] 44 := (Blk.new _ _ _).below hbg (by simp); have hxl := hx.lt) | skip); try (obtain ⟨⟨hx0, hx1, hx2⟩, ⟨hx3, hx4, hx5⟩⟩ := hx.at3)))
    all_goals
      have hws2 : wh1.heap.size ≤ wg.heap.size := hw.size
      go_wp2_with fail
      go_meet
      first
        | exact ⟨_, _, _, _, _, _, _, rfl, rfl, hws2, (by first | omega | (simp; omega)), (by simp), .inr (Nat.le_refl _), Blk.new wg _ _, hIw.below (below_of wg _), hJw.below (below_of wg _), hw.alloc hws2 _⟩
        | exact ⟨_, _, _, _, _, _, _, rfl, rfl, by first | exact Nat.le_refl _ | omega, (by first | omega | (simp; omega)), (by simp), .inl (by first | omega | (simp; done) | (simp; omega)), hx.set3 _ _ _, (MenA.off (MenA.off (MenA.off hIw ⟨_, 0, none⟩ _ (by (try dsimp only); first | omega | (simp; done) | (simp; omega))) ⟨_, 1, none⟩ _ (by (try dsimp only); first | omega | (simp; done) | (simp; omega))) ⟨_, 2, none⟩ _ (by (try dsimp only); first | omega | (simp; done) | (simp; omega))), (MvA.offG (MvA.offG (MvA.offG hJw ⟨_, 0, none⟩ _ (by (try dsimp only); first | omega | (simp; done) | (simp; omega))) ⟨_, 1, none⟩ _ (by (try dsimp only); first | omega | (simp; done) | (simp; omega))) ⟨_, 2, none⟩ _ (by (try dsimp only); first | omega | (simp; done) | (simp; omega))), (((hw.setCell (by (try dsimp only); first | exact Nat.le_refl _ | omega) _).setCell (by (try dsimp only); first | exact Nat.le_refl _ | omega) _).setCell (by (try dsimp only); first | exact Nat.le_refl _ | omega) _)⟩
  obtain ⟨bwh, Awh, cwh, Mwh, cmwh, loh, hih, rfl, rfl, hbwh, hloh, hhih, hdish, pw0, iw0, jw0, hb0⟩ := hcut
  have lwh := pw0.lt
  clear hO0 hO1 HTc hT1
  have pB0_15 := pB0_14.below hb0 pB0_14.lt
  have pB1_15 := pB1_14.below hb0 pB1_14.lt
  have hW_15 := hW_14.trans (hb0.mono hW_14.size)
  have pWs_15 := pWs_14.below hb0 pWs_14.lt
  have Is_15 := Is_14.below (hb0.mono (by omega))
  have Js_15 := Js_14.below (hb0.mono (by omega))
  have pWg_15 := pWg_14.below hb0 pWg_14.lt
  have Im_15 := Im_14.below (hb0.mono (by omega))
  have Jm_15 := Jm_14.below (hb0.mono (by omega))
  have hz_15 := hb0.size
  clear pB0_14 pB1_14 hW_14 pWs_14 Is_14 Js_14 pWg_14 Im_14 Jm_14
  clear hb0
  have pWh_15 := pw0
  have Ih_15 := iw0
  have Jh_15 := jw0
  clear pw0 iw0 jw0
  obtain ⟨⟨z_pB00, z_pB01⟩, _⟩ := pB0_15.at2
  obtain ⟨⟨z_pB10, z_pB11, z_pB12⟩, _⟩ := pB1_15.at3
  obtain ⟨⟨z_pWs0, z_pWs1, z_pWs2⟩, _⟩ := pWs_15.at3
  obtain ⟨⟨z_pWg0, z_pWg1, z_pWg2⟩, _⟩ := pWg_15.at3
  obtain ⟨⟨z_pWh0, z_pWh1, z_pWh2⟩, _⟩ := pWh_15.at3
  go_wp2_with fail
  clear z_pB00 z_pB01 z_pB10 z_pB11 z_pB12 z_pWs0 z_pWs1 z_pWs2 z_pWg0 z_pWg1 z_pWg2 z_pWh0 z_pWh1 z_pWh2
  refine (eqGame_same _ _ _ _ _ _ _ _ _ _ _ _ (Ih_15.is.more (by omega)) (Is_15.is.more (by omega)) (Jh_15.inm.more (by omega)) (Js_15.inm.more (by omega)) hlenL hlenM).mono ?_
  rintro e we3 ⟨rfl, hb⟩
  have pB0_16 := pB0_15.below hb pB0_15.lt
  have pB1_16 := pB1_15.below hb pB1_15.lt
  have hW_16 := hW_15.trans (hb.mono hW_15.size)
  have pWs_16 := pWs_15.below hb pWs_15.lt
  have Is_16 := Is_15.below (hb.mono (by omega))
  have Js_16 := Js_15.below (hb.mono (by omega))
  have pWg_16 := pWg_15.below hb pWg_15.lt
  have Im_16 := Im_15.below (hb.mono (by omega))
  have Jm_16 := Jm_15.below (hb.mono (by omega))
  have pWh_16 := pWh_15.below hb pWh_15.lt
  have Ih_16 := Ih_15.below (hb.mono (by omega))
  have Jh_16 := Jh_15.below (hb.mono (by omega))
  have hz_16 := hb.size
  clear pB0_15 pB1_15 hW_15 pWs_15 Is_15 Js_15 pWg_15 Im_15 Jm_15 pWh_15 Ih_15 Jh_15
  clear hb
  obtain ⟨⟨z_pB00, z_pB01⟩, _⟩ := pB0_16.at2
  obtain ⟨⟨z_pB10, z_pB11, z_pB12⟩, _⟩ := pB1_16.at3
  obtain ⟨⟨z_pWs0, z_pWs1, z_pWs2⟩, _⟩ := pWs_16.at3
  obtain ⟨⟨z_pWg0, z_pWg1, z_pWg2⟩, _⟩ := pWg_16.at3
  obtain ⟨⟨z_pWh0, z_pWh1, z_pWh2⟩, _⟩ := pWh_16.at3
  go_wp2_with fail
  clear z_pB00 z_pB01 z_pB10 z_pB11 z_pB12 z_pWs0 z_pWs1 z_pWs2 z_pWg0 z_pWg1 z_pWg2 z_pWh0 z_pWh1 z_pWh2
  refine (heldGameA_any _ _ _ _ _ _ _ _ _ (Im_16.is.more (by omega)) (Jm_16.is.more (by omega)) hlenL hlenM (by omega) (by omega)).mono ?_
  rintro e wh2 ⟨rfl, hb⟩
  have pB0_17 := pB0_16.below hb pB0_16.lt
  have pB1_17 := pB1_16.below hb pB1_16.lt
  have hW_17 := hW_16.trans (hb.mono hW_16.size)
  have pWs_17 := pWs_16.below hb pWs_16.lt
  have Is_17 := Is_16.below (hb.mono (by omega))
  have Js_17 := Js_16.below (hb.mono (by omega))
  have pWg_17 := pWg_16.below hb pWg_16.lt
  have Im_17 := Im_16.below (hb.mono (by omega))
  have Jm_17 := Jm_16.below (hb.mono (by omega))
  have pWh_17 := pWh_16.below hb pWh_16.lt
  have Ih_17 := Ih_16.below (hb.mono (by omega))
  have Jh_17 := Jh_16.below (hb.mono (by omega))
  have hz_17 := hb.size
  clear pB0_16 pB1_16 hW_16 pWs_16 Is_16 Js_16 pWg_16 Im_16 Jm_16 pWh_16 Ih_16 Jh_16
  clear hb
  obtain ⟨⟨z_pB00, z_pB01⟩, _⟩ := pB0_17.at2
  obtain ⟨⟨z_pB10, z_pB11, z_pB12⟩, _⟩ := pB1_17.at3
  obtain ⟨⟨z_pWs0, z_pWs1, z_pWs2⟩, _⟩ := pWs_17.at3
  obtain ⟨⟨z_pWg0, z_pWg1, z_pWg2⟩, _⟩ := pWg_17.at3
  obtain ⟨⟨z_pWh0, z_pWh1, z_pWh2⟩, _⟩ := pWh_17.at3
  go_wp2_with fail
  clear z_pB00 z_pB01 z_pB10 z_pB11 z_pB12 z_pWs0 z_pWs1 z_pWs2 z_pWg0 z_pWg1 z_pWg2 z_pWh0 z_pWh1 z_pWh2
  go_ret
  exact ⟨rfl, hW_17⟩
end Go.Proofs.YtcgfklljbblhlaaGreatDoor.Laws
