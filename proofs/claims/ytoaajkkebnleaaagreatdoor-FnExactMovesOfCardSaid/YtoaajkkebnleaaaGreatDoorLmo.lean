/- The walk of the exact law FnExactMovesOf. -/
import Derived.Test.YtoaajkkebnleaaaGreatDoorOpp
import Derived.Test.YtoaajkkebnleaaaGreatDoorVi
import Derived.Deep.RegionHeld3
namespace Go.Proofs.YtoaajkkebnleaaaGreatDoor.Laws
open Go.ChangeShapes Go.WideShapes Go.ChangeAt Go.RowKit Base Sq Ko Opn
set_option linter.unusedVariables false
set_option maxRecDepth 20000

set_option maxHeartbeats 8000000 in
theorem fnExactMovesOf_walk {H : Type} {enc : TypeId × Value → H} {d d' : DataW H} {p p' : List MemPlace} {b0 : Nat} (w : World) (v : Value) (hv : Value.okWide Tryz.prog w .any b0 24 v) (h : DataW.Trod enc Tryz.prog w 0 (fun _ => true) true 24 v d p)
    (v' : Value) (hv' : Value.okWide Tryz.prog w .any b0 27 v') (h' : DataW.Trod enc Tryz.prog w 0 (fun _ => true) true 27 v' d' p') (hT : TabAt w) :
    Calls Tryz.prog 3 #[v, v'] w fun e w' => e = .returned (.bool true) ∧ Below w.heap.size w w' := by
  obtain ⟨side, A, c, ks, rfl, hl, hs⟩ := open_rules hv h
  obtain ⟨t, M, cm, l, rfl, hl', _, hm⟩ := open_pos hv' h'
  clear hv h hv' h'
  have HT := Lib.hid hT
  have hT0 := hT.lt
  clear hT
  unfold maxLen at hl'
  go_enter Tryz.func3, Tryz.ntmps3
  go_wp2_with fail
  have hw0 : Below w.heap.size w ((w.alloc (.cells #[.int .i64 side, .slice A ks.length c] 24)).alloc (.cells #[.int .i64 t, .slice M l.length cm] 27)) := (by repeat (first | exact Below.refl _ _ | assumption | (refine Below.alloc ?_ (by first | omega | (simp; done) | (simp; omega)) _) | (refine Below.setCell ?_ (by first | omega | (simp; done) | (simp; omega)) _) | refine Below.drew ?_))
  have pR0 := (Blk.new w #[.int .i64 side, .slice A ks.length c] 24).alloc (.cells #[.int .i64 t, .slice M l.length cm] 27)
  have pP0 := Blk.new (w.alloc (.cells #[.int .i64 side, .slice A ks.length c] 24)) #[.int .i64 t, .slice M l.length cm] 27
  simp only [World.size_alloc] at pP0
  generalize hW0 : (w.alloc _).alloc _ = W0 at *
  clear hW0
  refine (szRules_any _ _ _ _ _ _ ((hs.below hw0).more hw0.size) hl (by omega) (by omega)).mono ?_
  rintro e w1 ⟨v, rfl, hv1, hor, hb1⟩
  have pR1 := pR0.below hb1 pR0.lt
  have pP1 := pP0.below hb1 pP0.lt
  have hw1 := hw0.trans (hb1.mono hw0.size)
  clear hb1 hl pR0 pP0 hw0
  rcases hor with rfl | ⟨hv0, hsm⟩
  · go_wp2_with fail
    go_ret
    exact ⟨rfl, hw1⟩
  have HSM := Lib.hid hsm
  clear hsm
  obtain ⟨⟨a0, a1⟩, _⟩ := pR1.at2
  obtain ⟨⟨b0, b1⟩, _⟩ := pP1.at2
  by_cases hbig : v - (l.length : Int) < 0
  · have HN := Lib.hid hbig
    clear hbig
    go_wp2_with fail
    refine (szPos_any _ _ _ _ _ _ (by omega) hv0 (by omega)).mono ?_
    rw [if_pos (by have := HN.out; omega)]
    rintro e w2 ⟨rfl, hb2⟩
    go_wp2_with fail
    go_ret
    exact ⟨rfl, hw1.trans (hb2.mono hw1.size)⟩
  have hl2 : l.length ≤ 1048576 := by omega
  have HN := Lib.hid hbig
  clear hbig
  go_wp2_with fail
  refine (szPos_any _ _ _ _ _ _ (by omega) hv0 (by omega)).mono ?_
  rw [if_neg (by have := HN.out; omega)]
  rintro e w2 ⟨rfl, hb2⟩
  have hnn : 0 ≤ v - (l.length : Int) := by have := HN.out; omega
  have pR := pR1.below hb2 pR1.lt
  have pP := pP1.below hb2 pP1.lt
  have hW := hw1.trans (hb2.mono hw1.size)
  have hs2 := (hs.below hW).more hW.size
  have hm2 := (hm.below hW).more hW.size
  have HSS := Lib.hid hs
  have HMM := Lib.hid hm
  clear hb2 pR1 pP1 hw1 a0 a1 b0 b1 hs hm
  obtain ⟨⟨a0, a1⟩, _⟩ := pR.at2
  obtain ⟨⟨b0, b1⟩, _⟩ := pP.at2
  go_wp2_with fail
  have HS : Hid (∀ w', Below w2.heap.size w2 w' → (w'.cell? ⟨w.heap.size, 0, none⟩ = some (.int .i64 side) ∧ w'.cell? ⟨w.heap.size, 1, none⟩ = some (.slice A ks.length c) ∧ w'.cell? ⟨w.heap.size + 1, 0, none⟩ = some (.int .i64 t) ∧ w'.cell? ⟨w.heap.size + 1, 1, none⟩ = some (.slice M l.length cm))) := Lib.hid (fun w' hb => by
    obtain ⟨⟨a0, a1⟩, _⟩ := (pR.below hb pR.lt).at2
    obtain ⟨⟨b0, b1⟩, _⟩ := (pP.below hb pP.lt).at2
    exact ⟨a0, a1, b0, b1⟩)
  have hw : Below w2.heap.size w2 w2.drew := (Below.refl _ _).drew
  go_region_held3 (fun w' => w'.cell? ⟨w.heap.size, 0, none⟩ = some (.int .i64 side) ∧ w'.cell? ⟨w.heap.size, 1, none⟩ = some (.slice A ks.length c) ∧ w'.cell? ⟨w.heap.size + 1, 0, none⟩ = some (.int .i64 t) ∧ w'.cell? ⟨w.heap.size + 1, 1, none⟩ = some (.slice M l.length cm))
    (exact HS.out _ hw)
    (first
      | (go_at_call 10; refine (toRules_any _ _ _ _ _ ((hs2.below hw).more hw.size) HSM.out).mono ?_; rintro e wa ⟨ga, ca, rfl, hna, hba⟩; have hw := hw.trans (hba.mono hw.size); try (have hnb := hnb.below hba))
      | (go_at_call 11; refine (toPos_any _ _ _ _ _ ((hm2.below hw).more hw.size) hl2).mono ?_; rintro e wb ⟨gb, cb, rfl, hnb, hbb⟩; have hw := hw.trans (hbb.mono hw.size); try (have hna := hna.below hbb))
      | (go_at_call 9; refine (specMovesOf_any _ _ _ _ _ _ _ _ _ hna.is hnb.is HSM.out hl2).mono ?_; rintro e wc ⟨Aw, cw, rfl, hOw, hbc⟩; have hOw := hOw.more hw.size (Nat.le_refl _); have hw := hw.trans (hbc.mono hw.size)))
  all_goals
    have hlenL : (movesP side ks t l).length ≤ 1048576 := movesP_len _ _ _ _
    have hW3 := hW.trans (hw.mono hW.size)
    have pR3 := pR.below hw pR.lt
    have pP3 := pP.below hw pP.lt
    have hs3 := (hs2.below hw).more hw.size
    have hm3 := (hm2.below hw).more hw.size
    have hx3 := hW.size
    have Iw3 := hOw
    have hlow := pP.lt
    clear hw HS hna hnb a0 a1 b0 b1 hOw
    obtain ⟨L, hL⟩ : ∃ L, movesP side ks t l = L := ⟨_, rfl⟩
    have HL := Lib.hid hL
    rw [hL] at Iw3 hlenL
    rw [hL]
    obtain ⟨⟨a0, a1⟩, _⟩ := pR3.at2
    obtain ⟨⟨b0, b1⟩, _⟩ := pP3.at2
    clear hL
    go_wp2_with fail
    refine (toRules_any _ _ _ _ _ hs3 HSM.out).mono ?_
    rintro e w4 ⟨g4, c4, rfl, hn4, hb4⟩
    have KS4 := hn4.shape
    have hX := Blk.new w4 #[.int .i64 side, .slice (some ⟨g4, 0, none⟩) ks.length c4] 34
    have hA := below_of w4 (.cells #[.int .i64 side, .slice (some ⟨g4, 0, none⟩) ks.length c4] 34)
    have h45 := hb4.trans (hA.mono hb4.size)
    have hn5 := hn4.below hA
    have KS5 := KS4.below hA
    have Iw5 := Iw3.below h45
    have pP5 := pP3.below h45 pP3.lt
    have pR5 := pR3.below h45 pR3.lt
    have hW5 := hW3.trans (h45.mono hW3.size)
    have hs5 := (hs3.below h45).more h45.size
    have hm5 := (hm3.below h45).more h45.size
    have lp3 := pP3.lt
    obtain ⟨⟨b0, b1⟩, _⟩ := pP5.at2
    have hz4 := hb4.size
    have hz45 := hA.size
    have hs45 : (w4.alloc (.cells #[.int .i64 side, .slice (some ⟨g4, 0, none⟩) ks.length c4] 34)).heap.size = w4.heap.size + 1 := by simp
    clear a0 a1
    go_wp2_with fail
    generalize hZ5 : w4.alloc _ = W5 at *
    generalize hz5 : w4.heap.size = x0 at *
    clear hZ5 hz5 hb4 hn4 hA h45 KS4
    refine (toPos_any _ _ _ _ _ hm5 hl2).mono ?_
    rintro e w6 ⟨g6, c6, rfl, hn6, hb6⟩
    have MB6 := hn6.big
    have ml6 := hn6.lt
    have ml5 : W5.heap.size ≤ g6 := by obtain ⟨_, hh, _⟩ := hn6; exact hh
    have hY := Blk.new w6 #[.int .i64 t, .slice (some ⟨g6, 0, none⟩) l.length c6] 38
    have hB := below_of w6 (.cells #[.int .i64 t, .slice (some ⟨g6, 0, none⟩) l.length c6] 38)
    have hn7 := hn6.below hB
    have MB7 := MB6.below hB MB6.lt
    have h67 := hb6.trans (hB.mono hb6.size)
    have hX7 := hX.below h67 hX.lt
    have hk7 := hn5.below h67
    have KS7 := KS5.below (h67.mono (by omega))
    have Iw7 := Iw5.below (h67.mono (by omega))
    have pP7 := pP5.below h67 pP5.lt
    have pR7 := pR5.below h67 pR5.lt
    have hW7 := hW5.trans (h67.mono hW5.size)
    have hs7 := (hs5.below h67).more h67.size
    have hm7 := (hm5.below h67).more h67.size
    obtain ⟨⟨x0a, x1a⟩, _⟩ := hX7.at2
    obtain ⟨⟨y0a, y1a⟩, _⟩ := hY.at2
    have lX := (hX.below hb6 hX.lt).lt
    have hz6 := hb6.size
    have hs67 : (w6.alloc (.cells #[.int .i64 t, .slice (some ⟨g6, 0, none⟩) l.length c6] 38)).heap.size = w6.heap.size + 1 := by simp
    clear b0 b1
    obtain ⟨⟨xx0, xx1⟩, _⟩ := (hX.below hb6 hX.lt).at2
    go_wp2_with fail
    generalize hZ7 : w6.alloc _ = W7 at *
    generalize hz7 : w6.heap.size = x1 at *
    clear hZ7 hz7 hb6 hn6 hB h67 hX hn5 xx0 xx1 MB6
    refine (movesOf_any _ _ _ _ _ _ _ _ _ hk7.is hn7.is (HT.out.below hW7 hT0) HSM.out hl2).mono ?_
    rintro e w8 ⟨Ag, cg, rfl, Ig8, hb8⟩
    rw [HL.out] at Ig8
    rw [HL.out]
    have pR8 := pR7.below hb8 pR7.lt
    have pP8 := pP7.below hb8 pP7.lt
    have hX8 := hX7.below hb8 hX7.lt
    have hY8 := hY.below hb8 hY.lt
    have hk8 := hk7.below hb8
    have hn8 := hn7.below hb8
    have KS8 := KS7.below (hb8.mono (by omega))
    have MB8 := MB7.below hb8 MB7.lt
    have Iw8 := Iw7.below (hb8.mono (by omega))
    have hW8 := hW7.trans (hb8.mono hW7.size)
    have hs8 := (hs7.below hb8).more hb8.size
    have hm8 := (hm7.below hb8).more hb8.size
    have hz8 := hb8.size
    clear hb8 pR7 pP7 hX7 hY hk7 hn7 hW7 x0a x1a y0a y1a hs7 hm7 KS7 MB7 Iw7
    go_wp2_with fail
    refine (eqMoveS_same _ _ _ _ _ _ (Ig8.is.more (Nat.le_refl _)) (Iw8.is.more (by omega)) hlenL).mono ?_
    rintro e w9 ⟨rfl, hb9⟩
    have pR9 := pR8.below hb9 pR8.lt
    have pP9 := pP8.below hb9 pP8.lt
    have hX9 := hX8.below hb9 hX8.lt
    have hY9 := hY8.below hb9 hY8.lt
    have hk9 := hk8.below hb9
    have hn9 := hn8.below hb9
    have KS9 := KS8.below (hb9.mono (by omega))
    have MB9 := MB8.below hb9 MB8.lt
    have Iw9 := Iw8.below (hb9.mono (by omega))
    have Ig9 := Ig8.below (hb9.mono (Nat.le_refl _))
    have hW9 := hW8.trans (hb9.mono hW8.size)
    have hs9 := (hs8.below hb9).more hb9.size
    have hm9 := (hm8.below hb9).more hb9.size
    have hz9 := hb9.size
    clear hb9 pR8 pP8 hX8 hY8 hk8 hn8 hW8 hs8 hm8 KS8 MB8 Iw8 Ig8
    obtain ⟨⟨a0, a1⟩, _⟩ := pR9.at2
    obtain ⟨⟨b0, b1⟩, _⟩ := pP9.at2
    obtain ⟨⟨x0a, x1a⟩, _⟩ := hX9.at2
    obtain ⟨⟨y0a, y1a⟩, _⟩ := hY9.at2
    go_wp2_with fail
    have HS : Hid (∀ w', Below w9.heap.size w9 w' → (w'.cell? ⟨w.heap.size, 0, none⟩ = some (.int .i64 side) ∧ w'.cell? ⟨w.heap.size, 1, none⟩ = some (.slice A ks.length c) ∧ w'.cell? ⟨x0, 0, none⟩ = some (.int .i64 side) ∧ w'.cell? ⟨x0, 1, none⟩ = some (.slice (some ⟨g4, 0, none⟩) ks.length c4))) := Lib.hid (fun w' hb => by
      obtain ⟨⟨a0, a1⟩, _⟩ := (pR9.below hb pR9.lt).at2
      obtain ⟨⟨b0, b1⟩, _⟩ := (hX9.below hb hX9.lt).at2
      exact ⟨a0, a1, b0, b1⟩)
    have hw : Below w9.heap.size w9 w9.drew := (Below.refl _ _).drew
    go_region_held3 (fun w' => w'.cell? ⟨w.heap.size, 0, none⟩ = some (.int .i64 side) ∧ w'.cell? ⟨w.heap.size, 1, none⟩ = some (.slice A ks.length c) ∧ w'.cell? ⟨x0, 0, none⟩ = some (.int .i64 side) ∧ w'.cell? ⟨x0, 1, none⟩ = some (.slice (some ⟨g4, 0, none⟩) ks.length c4))
      (exact HS.out _ hw)
      (first
        | (go_at_call 10; refine (toRules_any _ _ _ _ _ ((hs9.below hw).more hw.size) HSM.out).mono ?_; rintro e wa2 ⟨ga2, ca2, rfl, hna, hba2⟩; have hw := hw.trans (hba2.mono hw.size))
        | (go_at_call 14; refine (eqRules_same _ _ _ _ _ _ _ (hk9.below hw).is hna.is HSM.out).mono ?_; rintro e wb2 ⟨rfl, hbb2⟩; have hw := hw.trans (hbb2.mono hw.size)))
    have pR10 := pR9.below hw pR9.lt
    have pP10 := pP9.below hw pP9.lt
    have hX10 := hX9.below hw hX9.lt
    have hY10 := hY9.below hw hY9.lt
    have hn10 := hn9.below hw
    have KS10 := KS9.below (hw.mono (by omega))
    have MB10 := MB9.below hw MB9.lt
    have Iw10 := Iw9.below (hw.mono (by omega))
    have Ig10 := Ig9.below (hw.mono (by omega))
    have hW10 := hW9.trans (hw.mono hW9.size)
    have hs10 := (hs9.below hw).more hw.size
    have hm10 := (hm9.below hw).more hw.size
    have hz10 := hw.size
    clear hw HS hna a0 a1 b0 b1 x0a x1a y0a y1a pR9 pP9 hX9 hY9 hn9 hk9 KS9 MB9 Iw9 Ig9 hW9 hs9 hm9
    obtain ⟨⟨b0, b1⟩, _⟩ := pP10.at2
    obtain ⟨⟨y0a, y1a⟩, _⟩ := hY10.at2
    go_wp2_with fail
    have HS : Hid (∀ w', Below wb2.heap.size wb2 w' → (w'.cell? ⟨w.heap.size + 1, 0, none⟩ = some (.int .i64 t) ∧ w'.cell? ⟨w.heap.size + 1, 1, none⟩ = some (.slice M l.length cm) ∧ w'.cell? ⟨x1, 0, none⟩ = some (.int .i64 t) ∧ w'.cell? ⟨x1, 1, none⟩ = some (.slice (some ⟨g6, 0, none⟩) l.length c6))) := Lib.hid (fun w' hb => by
      obtain ⟨⟨a0, a1⟩, _⟩ := (pP10.below hb pP10.lt).at2
      obtain ⟨⟨b0, b1⟩, _⟩ := (hY10.below hb hY10.lt).at2
      exact ⟨a0, a1, b0, b1⟩)
    have hw : Below wb2.heap.size wb2 wb2.drew := (Below.refl _ _).drew
    go_region_held3 (fun w' => w'.cell? ⟨w.heap.size + 1, 0, none⟩ = some (.int .i64 t) ∧ w'.cell? ⟨w.heap.size + 1, 1, none⟩ = some (.slice M l.length cm) ∧ w'.cell? ⟨x1, 0, none⟩ = some (.int .i64 t) ∧ w'.cell? ⟨x1, 1, none⟩ = some (.slice (some ⟨g6, 0, none⟩) l.length c6))
      (exact HS.out _ hw)
      (first
        | (go_at_call 11; refine (toPos_any _ _ _ _ _ ((hm10.below hw).more hw.size) hl2).mono ?_; rintro e wd ⟨gd, cd, rfl, hnd, hbd⟩; have hw := hw.trans (hbd.mono hw.size))
        | (go_at_call 15; refine (eqPos_same _ _ _ _ _ _ _ (hn10.below hw).is hnd.is hl2).mono ?_; rintro e we ⟨rfl, hbe⟩; have hw := hw.trans (hbe.mono hw.size)))
    have pR11 := pR10.below hw pR10.lt
    have pP11 := pP10.below hw pP10.lt
    have hX11 := hX10.below hw hX10.lt
    have hY11 := hY10.below hw hY10.lt
    have KS11 := KS10.below (hw.mono (by omega))
    have MB11 := MB10.below hw MB10.lt
    have Iw11 := Iw10.below (hw.mono (by omega))
    have Ig11 := Ig10.below (hw.mono (by omega))
    have hW11 := hW10.trans (hw.mono hW10.size)
    have hs11 := (hs10.below hw).more hw.size
    have hm11 := (hm10.below hw).more hw.size
    have hz11 := hw.size
    clear hw HS hnd b0 b1 y0a y1a pR10 pP10 hX10 hY10 hn10 KS10 MB10 Iw10 Ig10 hW10 hs10 hm10
    obtain ⟨⟨x0a, x1a⟩, _⟩ := hX11.at2
    go_wp2_with fail
    have lX11 := hX11.lt
    have lY11 := hY11.lt
    refine (markRules_any _ _ _ _ _ _ _ _ KS11 HSM.out (by omega) (by omega) (by omega)).mono ?_
    rintro e w12 ⟨k1, rfl, hk11, hk12, sp12⟩
    have pR12 := sp12.blk pR11 (by omega)
    have pP12 := sp12.blk pP11 (by omega)
    have hY12 := sp12.blk hY11 (by omega)
    have MB12 := sp12.shape _ _ _ MB11
    have Iw12 := Iw11.span sp12 (by omega)
    have Ig12 := Ig11.span sp12 (by omega)
    have hW12 := hW11.trans (sp12.toBelow (B := w.heap.size) (by omega) (by omega))
    have hz12 := sp12.size
    clear sp12 x0a x1a pR11 pP11 hX11 hY11 KS11 MB11 Iw11 Ig11 hW11 hs11 hm11
    obtain ⟨⟨y0a, y1a⟩, _⟩ := hY12.at2
    go_wp2_with fail
    refine (markPos_any W5.heap.size x1 _ _ _ _ _ _ MB12 (by omega) (by omega) hl2 (by omega) (by omega)).mono ?_
    rintro e w13 ⟨k2, rfl, hk21, hk22, sp13⟩
    have pR13 := sp13.blk pR12 (by omega)
    have pP13 := sp13.blk pP12 (by omega)
    have Iw13 := Iw12.span sp13 (by omega)
    have Ig13 := Ig12.span sp13 (by omega)
    have hW13 := hW12.trans (sp13.toBelow (B := w.heap.size) (by omega) (by omega))
    have hz13 := sp13.size
    have hkn : decide (k2 < 0) = false := decide_eq_false (by omega)
    clear sp13 y0a y1a pR12 pP12 hY12 MB12 Iw12 Ig12 hW12
    go_wp2_with fail
    refine (eqMoveS_same _ _ _ _ _ _ (Ig13.is.more (by omega)) (Iw13.is.more (by omega)) hlenL).mono ?_
    rintro e w14 ⟨rfl, hb14⟩
    have pR14 := pR13.below hb14 pR13.lt
    have pP14 := pP13.below hb14 pP13.lt
    have Iw14 := Iw13.below (hb14.mono (by omega))
    have Ig14 := Ig13.below (hb14.mono (by omega))
    have hW14 := hW13.trans (hb14.mono hW13.size)
    have hz14 := hb14.size
    clear hb14 pR13 pP13 Iw13 Ig13 hW13 hkn
    go_wp2_with fail
    refine (markMoveS_any _ _ _ _ _ _ _ Ig14 hlenL (by omega) (by omega)).mono ?_
    rintro e w15 ⟨rfl, Ig15, sp15⟩
    have pR15 := sp15.blk pR14 (by omega)
    have pP15 := sp15.blk pP14 (by omega)
    have Iw15 := Iw14.span sp15 (by omega)
    have hW15 := hW14.trans (sp15.toBelow (B := w.heap.size) (by omega) (by omega))
    have hz15 := sp15.size
    clear sp15 pR14 pP14 Iw14 Ig14 hW14
    go_wp2_with fail
    refine (heldMoveS_any _ _ _ _ _ _ Ig15.is hlenL (by omega) (by omega)).mono ?_
    rintro e w' ⟨rfl, rfl⟩
    have hln : decide (1 + 2 * (L.length : Int) < 0) = false := decide_eq_false (by omega)
    obtain ⟨⟨a0, a1⟩, _⟩ := pR15.at2
    obtain ⟨⟨b0, b1⟩, _⟩ := pP15.at2
    go_wp2_with fail
    have HS : Hid (∀ w', Below w15.heap.size w15 w' → (w'.cell? ⟨w.heap.size, 0, none⟩ = some (.int .i64 side) ∧ w'.cell? ⟨w.heap.size, 1, none⟩ = some (.slice A ks.length c) ∧ w'.cell? ⟨w.heap.size + 1, 0, none⟩ = some (.int .i64 t) ∧ w'.cell? ⟨w.heap.size + 1, 1, none⟩ = some (.slice M l.length cm))) := Lib.hid (fun w' hb => by
      obtain ⟨⟨a0, a1⟩, _⟩ := (pR15.below hb pR15.lt).at2
      obtain ⟨⟨b0, b1⟩, _⟩ := (pP15.below hb pP15.lt).at2
      exact ⟨a0, a1, b0, b1⟩)
    have hs15 := (HSS.out.below hW15).more hW15.size
    have hm15 := (HMM.out.below hW15).more hW15.size
    have hw : Below w15.heap.size w15 w15.drew := (Below.refl _ _).drew
    go_region_held3 (fun w' => w'.cell? ⟨w.heap.size, 0, none⟩ = some (.int .i64 side) ∧ w'.cell? ⟨w.heap.size, 1, none⟩ = some (.slice A ks.length c) ∧ w'.cell? ⟨w.heap.size + 1, 0, none⟩ = some (.int .i64 t) ∧ w'.cell? ⟨w.heap.size + 1, 1, none⟩ = some (.slice M l.length cm))
      (exact HS.out _ hw)
      (first
        | (go_at_call 10; refine (toRules_any _ _ _ _ _ ((hs15.below hw).more hw.size) HSM.out).mono ?_; rintro e wa3 ⟨ga3, ca3, rfl, hna3, hba3⟩; have hw := hw.trans (hba3.mono hw.size); try (have hnb3 := hnb3.below hba3))
        | (go_at_call 11; refine (toPos_any _ _ _ _ _ ((hm15.below hw).more hw.size) hl2).mono ?_; rintro e wb3 ⟨gb3, cb3, rfl, hnb3, hbb3⟩; have hw := hw.trans (hbb3.mono hw.size); try (have hna3 := hna3.below hbb3))
        | (go_at_call 12; refine (movesOf_any _ _ _ _ _ _ _ _ _ hna3.is hnb3.is (HT.out.below (hW15.trans (hw.mono hW15.size)) hT0) HSM.out hl2).mono ?_; rintro e wc3 ⟨Ah, ch, rfl, Ih, hbc3⟩; have hw := hw.trans (hbc3.mono hw.size)))
    all_goals
      rw [HL.out] at Ih
      rw [HL.out]
      have Iw16 := Iw15.below (hw.mono (by omega))
      have Ig16 := Ig15.below (hw.mono (by omega))
      have hW16 := hW15.trans (hw.mono hW15.size)
      have hz16 := hw.size
      clear hw HS hna3 hnb3 a0 a1 b0 b1 Iw15 Ig15 hW15 hs15 hm15
      go_wp2_with fail
      refine (eqMoveS_same _ _ _ _ _ _ Ih.is (Iw16.is.more (by omega)) hlenL).mono ?_
      rintro e w17 ⟨rfl, hb17⟩
      have Ig17 := Ig16.below (hb17.mono (by omega))
      have hW17 := hW16.trans (hb17.mono hW16.size)
      go_wp2_with fail
      refine (heldMoveS_any _ _ _ _ _ _ Ig17.is hlenL (by omega) (by omega)).mono ?_
      rintro e w' ⟨rfl, rfl⟩
      go_wp2_with fail
      go_ret
      exact ⟨rfl, hW17⟩
end Go.Proofs.YtoaajkkebnleaaaGreatDoor.Laws
