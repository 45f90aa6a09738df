/- GameState of the program and of the model. The walk of the exact law FnExactGameState. -/
import Derived.Test.YtnjhcjjeehccbaaGreatDoorY0
import Derived.Test.YtnjhcjjeehccbaaGreatDoorY6
import Derived.Deep.RegionHeld3
namespace Go.Proofs.YtnjhcjjeehccbaaGreatDoor.Ko
open Go.ChangeShapes Go.WideShapes Go.ChangeAt Go.RowKit Base Sq
set_option linter.unusedVariables false
set_option maxRecDepth 20000
attribute [local irreducible] wpQuiet

theorem gameB_facts {side t : Int} {ks : List Kd} {l : List St} {ms : List Mv} (h : gameB side ks t l ms = true) : rulesOk side ks = true ∧ posOk side ks t l = true ∧ playB side ks t l ms ms.length = true ∧ ms.length ≤ 30 := by
  unfold gameB posB at h
  simp only [Bool.and_eq_true, decide_eq_true_eq] at h
  exact ⟨h.1.1.1, h.1.1.2, h.1.2, h.2⟩
noncomputable def gsV (side : Int) (ks : List Kd) (t : Int) (l : List St) (ms : List Mv) : Int := if gameB side ks t l ms = true then stG side ks t l ms ms.length else 0
set_option maxHeartbeats 4000000 in
theorem specGameStateK_any (side : Int) (A : Option Addr) (c : Nat) (ks : List Kd) (t : Int) (N : Option Addr) (cn : Nat) (l : List St) (M : Option Addr) (ms : List Mv) (w : World) (hR : IsKinds w w.heap.size A ks) (hG : InG w w.heap.size N l M ms) (hsm : Small ks) (hl : l.length ≤ 1048576 ∧ ms.length ≤ 1048576) :
    Calls Tryz.prog 27 #[.agg #[.int .i64 side, .slice A ks.length c], .agg #[.int .i64 t, .slice N l.length cn, .slice M ms.length ms.length]] w fun e w' => e = .returned (.int .i64 (gsV side ks t l ms)) ∧ Below w.heap.size w w' := by
  have hb0 : Below w.heap.size w ((w.alloc (.cells #[.int .i64 side, .slice A ks.length c] 36)).alloc (.cells #[.int .i64 t, .slice N l.length cn, .slice M ms.length ms.length] 43)) := (by repeat (first | exact Below.refl _ _ | assumption | (refine Below.alloc ?_ (by first | omega | (simp; done) | (simp; omega)) _) | (refine Below.setCell ?_ (by first | omega | (simp; done) | (simp; omega)) _) | refine Below.drew ?_))
  have p1 := (Blk.new w #[.int .i64 side, .slice A ks.length c] 36).alloc (.cells #[.int .i64 t, .slice N l.length cn, .slice M ms.length ms.length] 43)
  have p2 := Blk.new (w.alloc (.cells #[.int .i64 side, .slice A ks.length c] 36)) #[.int .i64 t, .slice N l.length cn, .slice M ms.length ms.length] 43
  simp only [World.size_alloc] at p2
  go_enter Tryz.func27, Tryz.ntmps27
  go_wp2_with fail
  generalize hW0 : (w.alloc _).alloc _ = W0 at *
  clear hW0
  refine (specGameOkK_any _ _ _ _ _ _ _ _ _ _ _ ((hR.below hb0).more hb0.size) ((hG.below hb0).more hb0.size) hsm hl).mono ?_
  rintro e w2 ⟨rfl, hb2⟩
  have q1 := p1.below hb2 p1.lt
  have q2 := p2.below hb2 p2.lt
  have hbe := hb0.trans (hb2.mono hb0.size)
  obtain ⟨⟨r0, r1⟩, _⟩ := q1.at2
  obtain ⟨⟨g0, g1, g2⟩, _⟩ := q2.at3
  clear p1 p2 hb0 hb2
  cases hg : gameB side ks t l ms
  · have HV := Lib.hid (show gsV side ks t l ms = 0 from if_neg (by rw [hg]; decide))
    clear hg q1 q2
    go_wp2_with fail
    go_ret
    exact ⟨ri (by rw [HV.out]), hbe⟩
  · have HV := Lib.hid (show gsV side ks t l ms = stG side ks t l ms ms.length from if_pos hg)
    have HF := Lib.hid (gameB_facts hg)
    clear hg
    have HG := Lib.hid hG
    have HR := Lib.hid hR
    go_wp2_with fail
    refine (l14All_any side A c ks t N cn l M ms.length ms w2 ((HR.out.below hbe).more hbe.size) ((HG.out.1.below hbe).more hbe.size) ((HG.out.2.below hbe).more hbe.size) HF.out.1 HF.out.2.1 hl.2 (Nat.le_refl _)).mono ?_
    rintro e w3 ⟨_, h2, hb3⟩
    obtain ⟨S, cS, rfl, hq⟩ := h2 HF.out.2.2.1
    have q13 := q1.below hb3 q1.lt
    have q23 := q2.below hb3 q2.lt
    have HB3 := Lib.hid (hbe.trans (hb3.mono hbe.size))
    have HQ := Lib.hid hq
    clear r0 r1 g0 g1 g2 q1 q2 hb3 h2 hq hbe
    obtain ⟨⟨r0, r1⟩, _⟩ := q13.at2
    obtain ⟨⟨g0, g1, g2⟩, _⟩ := q23.at3
    go_wp2_with fail
    refine (l14State_any side A c ks S cS M ms.length ms.length t l ms w3 ((HR.out.below HB3.out).more HB3.out.size) HQ.out ((HG.out.2.below HB3.out).more HB3.out.size) HF.out.1 (fun i hi => posOk_shape (gP_ok (rulesOk_facts HF.out.1).1 HF.out.2.1 i (playB_le HF.out.2.2.1 i hi))) hl.2).mono ?_
    rintro e w4 ⟨rfl, hb4⟩
    have HB4 := Lib.hid (HB3.out.trans (hb4.mono HB3.out.size))
    clear hb4
    go_wp2_with fail
    go_ret
    exact ⟨ri (by rw [HV.out]), HB4.out⟩
set_option maxHeartbeats 4000000 in
theorem gameStateK_any (side : Int) (A : Option Addr) (c : Nat) (ks : List Kd) (t : Int) (N : Option Addr) (cn : Nat) (l : List St) (M : Option Addr) (ms : List Mv) (w : World) (hR : IsKinds w w.heap.size A ks) (hG : InG w w.heap.size N l M ms) (hTA : TabAt w) (hsm : Small ks) (hl : l.length ≤ 1048576 ∧ ms.length ≤ 1048576) :
    Calls Tryz.prog 28 #[.agg #[.int .i64 side, .slice A ks.length c], .agg #[.int .i64 t, .slice N l.length cn, .slice M ms.length ms.length]] w fun e w' => e = .returned (.int .i64 (gsV side ks t l ms)) ∧ Below w.heap.size w w' := by
  have hb0 : Below w.heap.size w ((w.alloc (.cells #[.int .i64 side, .slice A ks.length c] 36)).alloc (.cells #[.int .i64 t, .slice N l.length cn, .slice M ms.length ms.length] 43)) := (by repeat (first | exact Below.refl _ _ | assumption | (refine Below.alloc ?_ (by first | omega | (simp; done) | (simp; omega)) _) | (refine Below.setCell ?_ (by first | omega | (simp; done) | (simp; omega)) _) | refine Below.drew ?_))
  go_enter Tryz.func28, Tryz.ntmps28
  go_wp2_with fail
  generalize hW0 : (w.alloc _).alloc _ = W0 at *
  clear hW0
  refine (courseOf_any side A c ks t N cn l M ms.length ms W0 ((hR.below hb0).more hb0.size) ((hG.1.below hb0).more hb0.size) ((hG.2.below hb0).more hb0.size) (hTA.keep hb0) hsm hl.1 hl.2).mono ?_
  rintro e w2 ⟨h0, h1, hb2⟩
  have hbe := hb0.trans (hb2.mono hb0.size)
  have HBE := Lib.hid hbe
  cases hg : gameB side ks t l ms
  · obtain rfl := h0 hg
    have HV := Lib.hid (show gsV side ks t l ms = 0 from if_neg (by rw [hg]; decide))
    clear h0 h1 hg hb2 hbe
    go_wp2_with fail
    go_ret
    exact ⟨ri (by rw [HV.out]), HBE.out⟩
  · obtain ⟨g, m, rfl, _, _, hI⟩ := h1 hg
    have HV := Lib.hid (show gsV side ks t l ms = stG side ks t l ms ms.length from if_pos hg)
    obtain ⟨hok, hpo, hpl, h30⟩ := gameB_facts hg
    obtain ⟨N', cn', F, k1, k2, k3, k4⟩ := hI
    have hpi := gP_ok (rulesOk_facts hok).1 hpo ms.length hpl
    have hlen := (shapeB_facts (posOk_shape hpi)).2.1
    have hFT : F (posT side ks (gP t l ms ms.length).1 (gP t l ms ms.length).2) = (occK t l ms (gP t l ms ms.length) (ms.length + 1) : Int) := by
      rw [posT_ok hok hpi]; exact k4.1 _ hpi
    have HS := Lib.hid (show Calls Tryz.prog 70 #[.pointer (some ⟨g, 0, none⟩)] w2 fun e w' => e = .returned (.int .i64 (stG side ks t l ms ms.length)) ∧ Below w2.heap.size w2 w' from by
      have := state_any side A c ks (gP t l ms ms.length).1 N' cn' (gP t l ms ms.length).2 g m (ms.length + 1) F (ms.length : Int) (quietK t l ms ms.length : Int) w2 k1 ((hR.below hbe).more hbe.size) k2.is k3 (hTA.keep hbe) hsm hok (posOk_shape hpi) (by omega) (posT_len (by omega))
      rwa [hFT, crS_stG] at this)
    clear h0 h1 hg hb2 k1 k2 k3 k4 hpi hlen hFT hpl hpo hok h30
    go_wp2_with fail
    refine HS.out.mono ?_
    rintro e w3 ⟨rfl, hb3⟩
    have HB3 := Lib.hid (HBE.out.trans (hb3.mono HBE.out.size))
    clear hb3
    go_wp2_with fail
    go_ret
    exact ⟨ri (by rw [HV.out]), HB3.out⟩
end Go.Proofs.YtnjhcjjeehccbaaGreatDoor.Ko

namespace Go.Proofs.YtnjhcjjeehccbaaGreatDoor.Laws
open Go.ChangeShapes Go.WideShapes Go.ChangeAt Go.RowKit Base Sq Ko Opn
set_option linter.unusedVariables false
set_option maxRecDepth 20000

set_option maxHeartbeats 16000000 in
theorem fnExactGameState_walk {H : Type} {enc : TypeId × Value → H} {b0 : Nat} {d0 : DataW H} {pl0 : List MemPlace} {d1 : DataW H} {pl1 : List MemPlace} (w : World)
    (v0 : Value) (hv0 : Value.okWide Tryz.prog w .any b0 24 v0) (h0 : DataW.Trod enc Tryz.prog w 0 (fun _ => true) true 24 v0 d0 pl0)
    (v1 : Value) (hv1 : Value.okWide Tryz.prog w .any b0 30 v1) (h1 : DataW.Trod enc Tryz.prog w 0 (fun _ => true) true 30 v1 d1 pl1) (hT : TabAt w) :
    Calls Tryz.prog 5 #[v0, v1] w fun e w' => e = .returned (.bool true) ∧ Below w.heap.size w w' := by
  obtain ⟨sd0, A0, c0, ks0, rfl, hl0, hs0⟩ := open_rules hv0 h0
  obtain ⟨t1, A1, c1, l1, M1, cm1, ms1, rfl, hn1, hnm1, hs1_, hsm1_⟩ := open_game hv1 h1
  have hs1 : InG w w.heap.size A1 l1 M1 ms1 := ⟨hs1_, hsm1_⟩
  clear hs1_ hsm1_
  clear hv0 h0 hv1 h1
  have HT := Lib.hid hT
  have hT0 := hT.lt
  clear hT
  unfold maxLen at hn1 hnm1
  go_enter Tryz.func5, Tryz.ntmps5
  go_wp2_with fail
  have hW0 : Below w.heap.size w ((w.alloc (.cells #[.int .i64 sd0, .slice A0 ks0.length c0] 24)).alloc (.cells #[.int .i64 t1, .slice A1 l1.length c1, .slice M1 ms1.length cm1] 30)) := (by repeat (first | exact Below.refl _ _ | assumption | (refine Below.alloc ?_ (by first | omega | (simp; done) | (simp; omega)) _) | (refine Below.setCell ?_ (by first | omega | (simp; done) | (simp; omega)) _) | refine Below.drew ?_))
  have pB0_0 := (Blk.new w #[.int .i64 sd0, .slice A0 ks0.length c0] 24).alloc (.cells #[.int .i64 t1, .slice A1 l1.length c1, .slice M1 ms1.length cm1] 30)
  have pB1_0 := (Blk.new (w.alloc (.cells #[.int .i64 sd0, .slice A0 ks0.length c0] 24)) #[.int .i64 t1, .slice A1 l1.length c1, .slice M1 ms1.length cm1] 30)
  simp only [World.size_alloc] at pB1_0
  generalize hWx : ((w.alloc _).alloc _) = W0 at *
  clear hWx
  have HO0 := Lib.hid hs0
  clear hs0
  have HO1 := Lib.hid hs1
  clear hs1
  refine (szRules_any _ _ _ _ _ _ ((HO0.out.below hW0).more hW0.size) hl0 (by omega) (by omega)).mono ?_
  rintro e w10 ⟨lf0, rfl, hle0, hor0, hb⟩
  clear hl0
  have pB0_1 := pB0_0.below hb pB0_0.lt
  have pB1_1 := pB1_0.below hb pB1_0.lt
  have hW_1 := hW0.trans (hb.mono hW0.size)
  clear pB0_0 pB1_0 hW0
  clear hb
  rcases hor0 with rfl | ⟨hnn0, hsm0⟩
  · go_wp2_with fail
    go_ret
    exact ⟨rfl, hW_1⟩
  have HSM0 := Lib.hid hsm0
  clear hsm0
  obtain ⟨⟨a00, a01⟩, _⟩ := pB0_1.at2
  obtain ⟨⟨a10, a11, a12⟩, _⟩ := pB1_1.at3
  by_cases hbig : lf0 - ((l1.length + ms1.length : Nat) : Int) < 0
  · have HN := Lib.hid hbig
    clear hbig
    go_wp2_with fail
    refine (szGameK_any _ _ _ _ _ _ _ _ _ ⟨by omega, by omega⟩ hnn0 hle0).mono ?_
    rw [if_pos (by have := HN.out; omega)]
    rintro e w2 ⟨rfl, hb2⟩
    go_wp2_with fail
    go_ret
    exact ⟨rfl, hW_1.trans (hb2.mono hW_1.size)⟩
  have hl1 : l1.length ≤ 1048576 ∧ ms1.length ≤ 1048576 := by omega
  have HN := Lib.hid hbig
  clear hbig
  go_wp2_with fail
  refine (szGameK_any _ _ _ _ _ _ _ _ _ ⟨by omega, by omega⟩ hnn0 hle0).mono ?_
  rw [if_neg (by have := HN.out; omega)]
  rintro e w11 ⟨rfl, hb⟩
  clear a00 a01 a10 a11 a12
  have pB0_2 := pB0_1.below hb pB0_1.lt
  have pB1_2 := pB1_1.below hb pB1_1.lt
  have hW_2 := hW_1.trans (hb.mono hW_1.size)
  clear pB0_1 pB1_1 hW_1
  clear hb
  obtain ⟨⟨a00, a01⟩, _⟩ := pB0_2.at2
  obtain ⟨⟨a10, a11, a12⟩, _⟩ := pB1_2.at3
  have hnn1 : 0 ≤ lf0 - ((l1.length + ms1.length : Nat) : Int) := by have := HN.out; omega
  have hle1 : lf0 - ((l1.length + ms1.length : Nat) : Int) ≤ 1048576 := by omega
  generalize hvm : lf0 - ((l1.length + ms1.length : Nat) : Int) = lf1 at *
  clear hvm HN
  go_wp2_with fail
  -- the model's
  have hz0 := hW_2.size
  have HS : Hid (∀ w', Below w11.heap.size w11 w' → (w'.cell? ⟨w.heap.size, 0, none⟩ = some (.int .i64 sd0) ∧ w'.cell? ⟨w.heap.size, 1, none⟩ = some (.slice A0 ks0.length c0) ∧ w'.cell? ⟨w.heap.size + 1, 0, none⟩ = some (.int .i64 t1) ∧ w'.cell? ⟨w.heap.size + 1, 1, none⟩ = some (.slice A1 l1.length c1) ∧ w'.cell? ⟨w.heap.size + 1, 2, none⟩ = some (.slice M1 ms1.length cm1))) := Lib.hid (fun w' hb => by
    obtain ⟨⟨e00, e01⟩, _⟩ := (pB0_2.below hb pB0_2.lt).at2
    obtain ⟨⟨e10, e11, e12⟩, _⟩ := (pB1_2.below hb pB1_2.lt).at3
    exact ⟨e00, e01, e10, e11, e12⟩)
  have hw : Below w11.heap.size w11 w11.drew := (Below.refl _ _).drew
  have hO0 := ((HO0.out.below hW_2).more hW_2.size)
  have hO1 := ((HO1.out.below hW_2).more hW_2.size)
  go_region_held3 (fun w' => w'.cell? ⟨w.heap.size, 0, none⟩ = some (.int .i64 sd0) ∧ w'.cell? ⟨w.heap.size, 1, none⟩ = some (.slice A0 ks0.length c0) ∧ w'.cell? ⟨w.heap.size + 1, 0, none⟩ = some (.int .i64 t1) ∧ w'.cell? ⟨w.heap.size + 1, 1, none⟩ = some (.slice A1 l1.length c1) ∧ w'.cell? ⟨w.heap.size + 1, 2, none⟩ = some (.slice M1 ms1.length cm1))
    (exact HS.out _ hw)
    (first
      | (go_at_call 15; refine (toRules_any _ _ _ _ _ ((hO0.below hw).more hw.size) HSM0.out).mono ?_; rintro e wn0 ⟨gn0, cn0, rfl, hN0, hbn0⟩; have hw := hw.trans (hbn0.mono hw.size); try (have hN1 := hN1.below hbn0))
      | (go_at_call 16; refine (toGameK_any _ _ _ _ _ _ _ _ ((hO1.below hw).more hw.size) hl1).mono ?_; rintro e wn1 ⟨gn1, gnm1, cn1, rfl, hN1, hbn1⟩; have hw := hw.trans (hbn1.mono hw.size); try (have hN0 := hN0.below hbn1))
      | (go_at_call 27; refine (specGameStateK_any _ _ _ _ _ _ _ _ _ _ _ hN0.is hN1.is HSM0.out hl1).mono ?_; rintro e wsp ⟨rfl, hbs⟩; have hw := hw.trans (hbs.mono hw.size)))
  all_goals
    clear HS hN0 hN1 hO0 hO1 hz0
    clear a00 a01 a10 a11 a12
    have pB0_3 := pB0_2.below hw pB0_2.lt
    have pB1_3 := pB1_2.below hw pB1_2.lt
    have hW_3 := hW_2.trans (hw.mono hW_2.size)
    clear pB0_2 pB1_2 hW_2
    clear hw
    obtain ⟨⟨a00, a01⟩, _⟩ := pB0_3.at2
    obtain ⟨⟨a10, a11, a12⟩, _⟩ := pB1_3.at3
    go_wp2_with fail
    refine (toRules_any _ _ _ _ _ ((HO0.out.below hW_3).more hW_3.size) HSM0.out).mono ?_
    rintro e wx0 ⟨g0, cx0, rfl, hNx, hb⟩
    clear a00 a01 a10 a11 a12
    have hXx := Blk.new wx0 #[.int .i64 sd0, .slice (some ⟨g0, 0, none⟩) ks0.length cx0] 36
    have hA := below_of wx0 (.cells #[.int .i64 sd0, .slice (some ⟨g0, 0, none⟩) ks0.length cx0] 36)
    have hbA := hb.trans (hA.mono hb.size)
    have hNy := hNx.below hA
    clear hNx
    have lt_pB0 := (pB0_3.below hb pB0_3.lt).lt
    obtain ⟨⟨y_pB00, y_pB01⟩, _⟩ := (pB0_3.below hb pB0_3.lt).at2
    have lt_pB1 := (pB1_3.below hb pB1_3.lt).lt
    obtain ⟨⟨y_pB10, y_pB11, y_pB12⟩, _⟩ := (pB1_3.below hb pB1_3.lt).at3
    have pB0_4 := pB0_3.below hbA pB0_3.lt
    have pB1_4 := pB1_3.below hbA pB1_3.lt
    have hW_4 := hW_3.trans (hbA.mono hW_3.size)
    clear pB0_3 pB1_3 hW_3
    have pX0_4 := hXx
    have hN0_4 := hNy
    clear hXx hNy
    obtain ⟨⟨z_pB00, z_pB01⟩, _⟩ := pB0_4.at2
    obtain ⟨⟨z_pB10, z_pB11, z_pB12⟩, _⟩ := pB1_4.at3
    obtain ⟨⟨z_pX00, z_pX01⟩, _⟩ := pX0_4.at2
    go_wp2_with fail
    generalize hZx : wx0.alloc _ = W1 at *
    generalize hzx : wx0.heap.size = x0 at *
    clear hZx hzx hb hA hbA
    clear y_pB00 y_pB01 y_pB10 y_pB11 y_pB12 z_pB00 z_pB01 z_pB10 z_pB11 z_pB12 z_pX00 z_pX01 lt_pB0 lt_pB1
    refine (toGameK_any _ _ _ _ _ _ _ _ ((HO1.out.below hW_4).more hW_4.size) hl1).mono ?_
    rintro e wx1 ⟨g1, gm1, cx1, rfl, hNx, hb⟩
    have hXx := Blk.new wx1 #[.int .i64 t1, .slice (some ⟨g1, 0, none⟩) l1.length cx1, .slice (some ⟨gm1, 0, none⟩) ms1.length ms1.length] 43
    have hA := below_of wx1 (.cells #[.int .i64 t1, .slice (some ⟨g1, 0, none⟩) l1.length cx1, .slice (some ⟨gm1, 0, none⟩) ms1.length ms1.length] 43)
    have hbA := hb.trans (hA.mono hb.size)
    have hNy := hNx.below hA
    clear hNx
    have lt_pB0 := (pB0_4.below hb pB0_4.lt).lt
    obtain ⟨⟨y_pB00, y_pB01⟩, _⟩ := (pB0_4.below hb pB0_4.lt).at2
    have lt_pB1 := (pB1_4.below hb pB1_4.lt).lt
    obtain ⟨⟨y_pB10, y_pB11, y_pB12⟩, _⟩ := (pB1_4.below hb pB1_4.lt).at3
    have lt_pX0 := (pX0_4.below hb pX0_4.lt).lt
    obtain ⟨⟨y_pX00, y_pX01⟩, _⟩ := (pX0_4.below hb pX0_4.lt).at2
    have pB0_5 := pB0_4.below hbA pB0_4.lt
    have pB1_5 := pB1_4.below hbA pB1_4.lt
    have hW_5 := hW_4.trans (hbA.mono hW_4.size)
    have pX0_5 := pX0_4.below hbA pX0_4.lt
    have hN0_5 := hN0_4.below hbA
    clear pB0_4 pB1_4 hW_4 pX0_4 hN0_4
    have pX1_5 := hXx
    have hN1_5 := hNy
    clear hXx hNy
    obtain ⟨⟨z_pB00, z_pB01⟩, _⟩ := pB0_5.at2
    obtain ⟨⟨z_pB10, z_pB11, z_pB12⟩, _⟩ := pB1_5.at3
    obtain ⟨⟨z_pX00, z_pX01⟩, _⟩ := pX0_5.at2
    obtain ⟨⟨z_pX10, z_pX11, z_pX12⟩, _⟩ := pX1_5.at3
    go_wp2_with fail
    generalize hZx : wx1.alloc _ = W2 at *
    generalize hzx : wx1.heap.size = x1 at *
    clear hZx hzx hb hA hbA
    clear y_pB00 y_pB01 y_pB10 y_pB11 y_pB12 y_pX00 y_pX01 z_pB00 z_pB01 z_pB10 z_pB11 z_pB12 z_pX00 z_pX01 z_pX10 z_pX11 z_pX12 lt_pB0 lt_pB1 lt_pX0
    refine (gameStateK_any _ _ _ _ _ _ _ _ _ _ _ hN0_5.is hN1_5.is (HT.out.below hW_5 hT0) HSM0.out hl1).mono ?_
    rintro e wim ⟨rfl, hb⟩
    have pB0_6 := pB0_5.below hb pB0_5.lt
    have pB1_6 := pB1_5.below hb pB1_5.lt
    have hW_6 := hW_5.trans (hb.mono hW_5.size)
    have pX0_6 := pX0_5.below hb pX0_5.lt
    have hN0_6 := hN0_5.below hb
    have pX1_6 := pX1_5.below hb pX1_5.lt
    have hN1_6 := hN1_5.below hb
    clear pB0_5 pB1_5 hW_5 pX0_5 hN0_5 pX1_5 hN1_5
    clear hb
    obtain ⟨⟨z_pB00, z_pB01⟩, _⟩ := pB0_6.at2
    obtain ⟨⟨z_pB10, z_pB11, z_pB12⟩, _⟩ := pB1_6.at3
    obtain ⟨⟨z_pX00, z_pX01⟩, _⟩ := pX0_6.at2
    obtain ⟨⟨z_pX10, z_pX11, z_pX12⟩, _⟩ := pX1_6.at3
    go_wp2_with fail
    clear z_pB00 z_pB01 z_pB10 z_pB11 z_pB12 z_pX00 z_pX01 z_pX10 z_pX11 z_pX12
    have HS : Hid (∀ w', Below wim.heap.size wim w' → (w'.cell? ⟨w.heap.size, 0, none⟩ = some (.int .i64 sd0) ∧ w'.cell? ⟨w.heap.size, 1, none⟩ = some (.slice A0 ks0.length c0) ∧ w'.cell? ⟨x0, 0, none⟩ = some (.int .i64 sd0) ∧ w'.cell? ⟨x0, 1, none⟩ = some (.slice (some ⟨g0, 0, none⟩) ks0.length cx0))) := Lib.hid (fun w' hb => by
      obtain ⟨⟨e00, e01⟩, _⟩ := (pB0_6.below hb pB0_6.lt).at2
      obtain ⟨⟨e10, e11⟩, _⟩ := (pX0_6.below hb pX0_6.lt).at2
      exact ⟨e00, e01, e10, e11⟩)
    have hw : Below wim.heap.size wim wim.drew := (Below.refl _ _).drew
    have hO := ((HO0.out.below hW_6).more hW_6.size)
    have hNk := hN0_6
    go_region_held3 (fun w' => w'.cell? ⟨w.heap.size, 0, none⟩ = some (.int .i64 sd0) ∧ w'.cell? ⟨w.heap.size, 1, none⟩ = some (.slice A0 ks0.length c0) ∧ w'.cell? ⟨x0, 0, none⟩ = some (.int .i64 sd0) ∧ w'.cell? ⟨x0, 1, none⟩ = some (.slice (some ⟨g0, 0, none⟩) ks0.length cx0))
      (exact HS.out _ hw)
      (first
        | (go_at_call 15; refine (toRules_any _ _ _ _ _ ((hO.below hw).more hw.size) HSM0.out).mono ?_; rintro e wa0 ⟨ga, ca, rfl, hna, hba⟩; have hw := hw.trans (hba.mono hw.size))
        | (go_at_call 18; refine (eqRules_same _ _ _ _ _ _ _ (hNk.below hw).is hna.is HSM0.out).mono ?_; rintro e wq0 ⟨rfl, hbb⟩; have hw := hw.trans (hbb.mono hw.size)))
    clear HS hO hNk hna
    have pB0_7 := pB0_6.below hw pB0_6.lt
    have pB1_7 := pB1_6.below hw pB1_6.lt
    have hW_7 := hW_6.trans (hw.mono hW_6.size)
    have pX0_7 := pX0_6.below hw pX0_6.lt
    have hN0_7 := hN0_6.below hw
    have pX1_7 := pX1_6.below hw pX1_6.lt
    have hN1_7 := hN1_6.below hw
    clear pB0_6 pB1_6 hW_6 pX0_6 hN0_6 pX1_6 hN1_6
    clear hw
    obtain ⟨⟨z_pB00, z_pB01⟩, _⟩ := pB0_7.at2
    obtain ⟨⟨z_pB10, z_pB11, z_pB12⟩, _⟩ := pB1_7.at3
    obtain ⟨⟨z_pX00, z_pX01⟩, _⟩ := pX0_7.at2
    obtain ⟨⟨z_pX10, z_pX11, z_pX12⟩, _⟩ := pX1_7.at3
    go_wp2_with fail
    clear z_pB00 z_pB01 z_pB10 z_pB11 z_pB12 z_pX00 z_pX01 z_pX10 z_pX11 z_pX12
    have HS : Hid (∀ w', Below wq0.heap.size wq0 w' → (w'.cell? ⟨w.heap.size + 1, 0, none⟩ = some (.int .i64 t1) ∧ w'.cell? ⟨w.heap.size + 1, 1, none⟩ = some (.slice A1 l1.length c1) ∧ w'.cell? ⟨w.heap.size + 1, 2, none⟩ = some (.slice M1 ms1.length cm1) ∧ w'.cell? ⟨x1, 0, none⟩ = some (.int .i64 t1) ∧ w'.cell? ⟨x1, 1, none⟩ = some (.slice (some ⟨g1, 0, none⟩) l1.length cx1) ∧ w'.cell? ⟨x1, 2, none⟩ = some (.slice (some ⟨gm1, 0, none⟩) ms1.length ms1.length))) := Lib.hid (fun w' hb => by
      obtain ⟨⟨e00, e01, e02⟩, _⟩ := (pB1_7.below hb pB1_7.lt).at3
      obtain ⟨⟨e10, e11, e12⟩, _⟩ := (pX1_7.below hb pX1_7.lt).at3
      exact ⟨e00, e01, e02, e10, e11, e12⟩)
    have hw : Below wq0.heap.size wq0 wq0.drew := (Below.refl _ _).drew
    have hO := ((HO1.out.below hW_7).more hW_7.size)
    have hNk := hN1_7
    go_region_held3 (fun w' => w'.cell? ⟨w.heap.size + 1, 0, none⟩ = some (.int .i64 t1) ∧ w'.cell? ⟨w.heap.size + 1, 1, none⟩ = some (.slice A1 l1.length c1) ∧ w'.cell? ⟨w.heap.size + 1, 2, none⟩ = some (.slice M1 ms1.length cm1) ∧ w'.cell? ⟨x1, 0, none⟩ = some (.int .i64 t1) ∧ w'.cell? ⟨x1, 1, none⟩ = some (.slice (some ⟨g1, 0, none⟩) l1.length cx1) ∧ w'.cell? ⟨x1, 2, none⟩ = some (.slice (some ⟨gm1, 0, none⟩) ms1.length ms1.length))
      (exact HS.out _ hw)
      (first
        | (go_at_call 16; refine (toGameK_any _ _ _ _ _ _ _ _ ((hO.below hw).more hw.size) hl1).mono ?_; rintro e wa1 ⟨ga, gb, ca, rfl, hna, hba⟩; have hw := hw.trans (hba.mono hw.size))
        | (go_at_call 19; refine (eqGameK_same _ _ _ _ _ _ _ _ _ _ _ _ (hNk.below hw).is hna.is hl1).mono ?_; rintro e wq1 ⟨rfl, hbb⟩; have hw := hw.trans (hbb.mono hw.size)))
    clear HS hO hNk hna
    have pB0_8 := pB0_7.below hw pB0_7.lt
    have pB1_8 := pB1_7.below hw pB1_7.lt
    have hW_8 := hW_7.trans (hw.mono hW_7.size)
    have pX0_8 := pX0_7.below hw pX0_7.lt
    have hN0_8 := hN0_7.below hw
    have pX1_8 := pX1_7.below hw pX1_7.lt
    have hN1_8 := hN1_7.below hw
    clear pB0_7 pB1_7 hW_7 pX0_7 hN0_7 pX1_7 hN1_7
    clear hw
    go_wp2_with fail
    go_ret
    exact ⟨rfl, hW_8⟩
end Go.Proofs.YtnjhcjjeehccbaaGreatDoor.Laws
