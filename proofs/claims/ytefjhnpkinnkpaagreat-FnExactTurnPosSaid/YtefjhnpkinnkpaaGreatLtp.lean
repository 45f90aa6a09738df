/- The walk of the exact law FnExactTurnPos. -/
import Derived.Test.YtefjhnpkinnkpaaGreatOpp
import Derived.Test.YtefjhnpkinnkpaaGreatTq
import Derived.Test.YtefjhnpkinnkpaaGreatTm
import Derived.Test.YtefjhnpkinnkpaaGreatMm
import Derived.Deep.RegionHeld3
import Derived.Deep.Cut
namespace Go.Proofs.YtefjhnpkinnkpaaGreat.Laws
open Go.ChangeShapes Go.WideShapes Go.ChangeAt Go.RowKit Base Sq Ko Opn
set_option linter.unusedVariables false
set_option maxRecDepth 20000

theorem _root_.Go.Proofs.YtefjhnpkinnkpaaGreat.Ko.MenA.other {lo hi : Nat} {w : World} {A : Option Addr} {l : List St} (h : MenA lo hi w A l) (a : Addr) (u : Value) (ha : a.block < lo) : MenA lo hi (w.setCell a u) A l := fun hn => by
  obtain ⟨b, cs, rfl, h1, h2, h3, h4, h5⟩ := h hn
  exact ⟨b, cs, rfl, h1, h2, h3.other a u (by omega), h4, h5⟩

set_option maxHeartbeats 16000000 in
theorem fnExactTurnPos_walk {H : Type} {enc : TypeId × Value → H} {d d' : DataW H} {p p' : List MemPlace} {b0 : Nat} (w : World) (v : Value) (hv : Value.okWide Tryz.prog w .any b0 24 v) (h : DataW.Trod enc Tryz.prog w 0 (fun _ => true) true 24 v d p) (k : Int) (hk0 : (Lit.int .i64 k).wf = true)
    (v' : Value) (hv' : Value.okWide Tryz.prog w .any b0 27 v') (h' : DataW.Trod enc Tryz.prog w 0 (fun _ => true) true 27 v' d' p') :
    Calls Tryz.prog 3 #[v, .int .i64 k, v'] w fun e w' => e = .returned (.bool true) ∧ Below w.heap.size w w' := by
  obtain ⟨side, A, c, ks, rfl, hl, hs⟩ := open_rules hv h
  obtain ⟨t, M, cm, l, rfl, hl', _, hm⟩ := open_pos hv' h'
  clear hv h hv' h' hk0
  unfold maxLen at hl'
  go_enter Tryz.func3, Tryz.ntmps3
  go_wp2_with fail
  have hw0 : Below w.heap.size w ((w.alloc (.cells #[.int .i64 side, .slice A ks.length c] 24)).alloc (.cells #[.int .i64 t, .slice M l.length cm] 27)) := (by repeat (first | exact Below.refl _ _ | assumption | (refine Below.alloc ?_ (by first | omega | (simp; done) | (simp; omega)) _) | (refine Below.setCell ?_ (by first | omega | (simp; done) | (simp; omega)) _) | refine Below.drew ?_))
  have pR0 := (Blk.new w #[.int .i64 side, .slice A ks.length c] 24).alloc (.cells #[.int .i64 t, .slice M l.length cm] 27)
  have pP0 := Blk.new (w.alloc (.cells #[.int .i64 side, .slice A ks.length c] 24)) #[.int .i64 t, .slice M l.length cm] 27
  simp only [World.size_alloc] at pP0
  generalize hW0 : (w.alloc _).alloc _ = W0 at *
  clear hW0
  refine (szRules_any _ _ _ _ _ _ ((hs.below hw0).more hw0.size) hl (by omega) (by omega)).mono ?_
  rintro e w1 ⟨v, rfl, hv1, hor, hb1⟩
  have pR1 := pR0.below hb1 pR0.lt
  have pP1 := pP0.below hb1 pP0.lt
  have hw1 := hw0.trans (hb1.mono hw0.size)
  clear hb1 hl pR0 pP0 hw0
  rcases hor with rfl | ⟨hv0, hsm⟩
  · go_wp2_with fail
    go_ret
    exact ⟨rfl, hw1⟩
  have HSM := Lib.hid hsm
  clear hsm
  obtain ⟨⟨a0, a1⟩, _⟩ := pR1.at2
  obtain ⟨⟨b0, b1⟩, _⟩ := pP1.at2
  by_cases hbig : v - (l.length : Int) < 0
  · have HN := Lib.hid hbig
    clear hbig
    go_wp2_with fail
    refine (szPos_any _ _ _ _ _ _ (by omega) hv0 (by omega)).mono ?_
    rw [if_pos (by have := HN.out; omega)]
    rintro e w2 ⟨rfl, hb2⟩
    go_wp2_with fail
    go_ret
    exact ⟨rfl, hw1.trans (hb2.mono hw1.size)⟩
  have hl2 : l.length ≤ 1048576 := by omega
  have HN := Lib.hid hbig
  clear hbig
  go_wp2_with fail
  refine (szPos_any _ _ _ _ _ _ (by omega) hv0 (by omega)).mono ?_
  rw [if_neg (by have := HN.out; omega)]
  rintro e w2 ⟨rfl, hb2⟩
  have hnn : 0 ≤ v - (l.length : Int) := by have := HN.out; omega
  have pR := pR1.below hb2 pR1.lt
  have pP := pP1.below hb2 pP1.lt
  have hW := hw1.trans (hb2.mono hw1.size)
  have HSS := Lib.hid hs
  have HMM := Lib.hid hm
  have hs2 := (hs.below hW).more hW.size
  have hm2 := (hm.below hW).more hW.size
  clear hb2 pR1 pP1 hw1 a0 a1 b0 b1 hs hm
  obtain ⟨⟨a0, a1⟩, _⟩ := pR.at2
  obtain ⟨⟨b0, b1⟩, _⟩ := pP.at2
  go_wp2_with fail
  have hlow0 := pP.lt
  go_cut [8, 9] from 29 (fun sa sb wx => ∃ (bw : Nat) (Aw : Option Addr) (cw lo hi : Nat), sa = .pointer (some ⟨bw, 0, none⟩) ∧ sb = .bool (tpB side ks k t l) ∧ w2.heap.size ≤ bw ∧ w2.heap.size ≤ lo ∧ hi ≤ wx.heap.size ∧ (bw < lo ∨ hi ≤ bw) ∧ Blk wx bw #[.int .i64 (tpT side ks k t l), .slice Aw (tpL side ks k t l).length cw] 32 ∧ MenA lo hi wx Aw (tpL side ks k t l) ∧ Below w2.heap.size w2 wx)
  case first =>
    have HS : Hid (∀ w', Below w2.heap.size w2 w' → (w'.cell? ⟨w.heap.size, 0, none⟩ = some (.int .i64 side) ∧ w'.cell? ⟨w.heap.size, 1, none⟩ = some (.slice A ks.length c) ∧ w'.cell? ⟨w.heap.size + 1, 0, none⟩ = some (.int .i64 t) ∧ w'.cell? ⟨w.heap.size + 1, 1, none⟩ = some (.slice M l.length cm))) := Lib.hid (fun w' hb => by
      obtain ⟨⟨a0, a1⟩, _⟩ := (pR.below hb pR.lt).at2
      obtain ⟨⟨b0, b1⟩, _⟩ := (pP.below hb pP.lt).at2
      exact ⟨a0, a1, b0, b1⟩)
    have hw : Below w2.heap.size w2 w2.drew := (Below.refl _ _).drew
    go_region_held3 (fun w' => w'.cell? ⟨w.heap.size, 0, none⟩ = some (.int .i64 side) ∧ w'.cell? ⟨w.heap.size, 1, none⟩ = some (.slice A ks.length c) ∧ w'.cell? ⟨w.heap.size + 1, 0, none⟩ = some (.int .i64 t) ∧ w'.cell? ⟨w.heap.size + 1, 1, none⟩ = some (.slice M l.length cm))
      (exact HS.out _ (by first | exact hw | exact hw.alloc (by first | omega | (simp; done) | (have := hw.size; simp; omega)) _ | exact (hw.setCell (by first | omega | (simp; done) | (simp; omega)) _).setCell (by first | omega | (simp; done) | (simp; omega)) _))
      (first
        | (go_at_call 7; refine (toRules_any _ _ _ _ _ ((hs2.below (by first | exact hw | exact hw.alloc (by first | omega | (simp; done) | (have := hw.size; simp; omega)) _)).more (by first | exact hw.size | (have := hw.size; simp; done) | (have := hw.size; simp; omega))) HSM.out).mono ?_; rintro e wa ⟨ga, ca, rfl, hna, hba⟩; have hw : Below w2.heap.size w2 wa := Below.trans (by first | exact hw | exact hw.alloc (by first | omega | (simp; done) | (have := hw.size; simp; omega)) _) (hba.mono (by first | exact hw.size | (have := hw.size; simp; done) | (have := hw.size; simp; omega))); have hws := hw.size; (first | (have hx := hx.below hba hx.lt; have hxl := hx.lt) | (have hx : Blk wa w2.heap.size #[.int .i64 0, .slice none 0 0] 32 := (Blk.new w2.drew _ _).below hba (by simp); have hxl := hx.lt) | (have hx : Blk wa _ #[.int .i64 0, .slice none 0 0] 32 := (Blk.new _ _ _).below hba (by simp); have hxl := hx.lt) | skip); try (have hnb : NewMen _ wa _ _ := hnb.below (by first | exact hba | exact (below_of _ _).trans (hba.mono (by simp)))))
        | (go_at_call 8; refine (toPos_any _ _ _ _ _ ((hm2.below (by first | exact hw | exact hw.alloc (by first | omega | (simp; done) | (have := hw.size; simp; omega)) _)).more (by first | exact hw.size | (have := hw.size; simp; done) | (have := hw.size; simp; omega))) hl2).mono ?_; rintro e wb ⟨gb, cb, rfl, hnb, hbb⟩; have hw : Below w2.heap.size w2 wb := Below.trans (by first | exact hw | exact hw.alloc (by first | omega | (simp; done) | (have := hw.size; simp; omega)) _) (hbb.mono (by first | exact hw.size | (have := hw.size; simp; done) | (have := hw.size; simp; omega))); have hws := hw.size; (first | (have hx := hx.below hbb hx.lt; have hxl := hx.lt) | (have hx : Blk wb w2.heap.size #[.int .i64 0, .slice none 0 0] 32 := (Blk.new w2.drew _ _).below hbb (by simp); have hxl := hx.lt) | (have hx : Blk wb _ #[.int .i64 0, .slice none 0 0] 32 := (Blk.new _ _ _).below hbb (by simp); have hxl := hx.lt) | skip); try (have hna : NewKinds _ wb _ _ := hna.below (by first | exact hbb | exact (below_of _ _).trans (hbb.mono (by simp)))))
        | (go_at_call 6; refine (specTurnPos_any _ _ _ _ _ _ _ _ _ _ (by first | exact hna.is | exact (hna.below (below_of _ _)).is) (by first | exact hnb.is | exact (hnb.below (below_of _ _)).is) HSM.out hl2).mono ?_; rintro e wg ⟨Aw, cw, rfl, hIw, hbg⟩; have hw : Below w2.heap.size w2 wg := Below.trans (by first | exact hw | exact hw.alloc (by first | omega | (simp; done) | (have := hw.size; simp; omega)) _) (hbg.mono (by first | exact hw.size | (have := hw.size; simp; done) | (have := hw.size; simp; omega))); have hws := hw.size; (first | (have hx := hx.below hbg hx.lt; have hxl := hx.lt) | (have hx : Blk wg w2.heap.size #[.int .i64 0, .slice none 0 0] 32 := (Blk.new w2.drew _ _).below hbg (by simp); have hxl := hx.lt) | (have hx : Blk wg _ #[.int .i64 0, .slice none 0 0] 32 := (Blk.new _ _ _).below hbg (by simp); have hxl := hx.lt) | skip); try (obtain ⟨⟨hx0, hx1⟩, ⟨hx2, hx3⟩⟩ := hx.at2)))
    all_goals
      have hws2 : w2.heap.size ≤ wg.heap.size := hw.size
      go_wp2_with fail
      go_meet
      first
        | exact ⟨_, _, _, _, _, rfl, rfl, hws2, (by first | omega | (simp; omega)), (by simp), .inr (Nat.le_refl _), Blk.new wg _ _, hIw.below (below_of wg _), hw.alloc hws2 _⟩
        | exact ⟨_, _, _, _, _, rfl, rfl, by first | exact Nat.le_refl _ | omega, (by first | omega | (simp; omega)), (by simp), .inl (by first | omega | (simp; done) | (simp; omega)), hx.set2 _ _, (hIw.other ⟨_, 0, none⟩ _ (by (try dsimp only); first | omega | (simp; done) | (simp; omega))).other ⟨_, 1, none⟩ _ (by (try dsimp only); first | omega | (simp; done) | (simp; omega)), (hw.setCell (by (try dsimp only); first | exact Nat.le_refl _ | omega) _).setCell (by (try dsimp only); first | exact Nat.le_refl _ | omega) _⟩
  obtain ⟨bw, Aw, cw, lo1, hi1, rfl, rfl, hbw, hlo1, hhi1, hdis1, pw0, iw0, hb0⟩ := hcut
  have lw0 := pw0.lt
  have hlenL : (tpL side ks k t l).length ≤ 1048576 := tpL_len side ks k t l
  have pR1 := pR.below hb0 pR.lt
  have pP1 := pP.below hb0 pP.lt
  have hW1 := hW.trans (hb0.mono hW.size)
  have hz0 := hW.size
  have hz1 := hb0.size
  clear hb0 pR pP hW hs2 hm2 a0 a1 b0 b1
  have pW1 := pw0
  have Iw1 := iw0
  clear pw0 iw0
  obtain ⟨⟨a0, a1⟩, _⟩ := pR1.at2
  obtain ⟨⟨b0, b1⟩, _⟩ := pP1.at2
  go_wp2_with fail
  refine (toRules_any _ _ _ _ _ ((HSS.out.below hW1).more hW1.size) HSM.out).mono ?_
  rintro e w4 ⟨g4, c4, rfl, hn4, hb4⟩
  have KS4 := hn4.shape
  have hX := Blk.new w4 #[.int .i64 side, .slice (some ⟨g4, 0, none⟩) ks.length c4] 37
  have hA := below_of w4 (.cells #[.int .i64 side, .slice (some ⟨g4, 0, none⟩) ks.length c4] 37)
  have h45 := hb4.trans (hA.mono hb4.size)
  have hn5 := hn4.below hA
  have KS5 := KS4.below hA
  have hz4 := hb4.size
  have hz45 := hA.size
  clear a0 a1 b0 b1
  have pR2 := pR1.below h45 pR1.lt
  have pP2 := pP1.below h45 pP1.lt
  have hW2 := hW1.trans (h45.mono hW1.size)
  have pW2 := pW1.below h45 pW1.lt
  have Iw2 := Iw1.below (h45.mono (by omega))
  have hz2 := h45.size
  clear h45 pR1 pP1 hW1 pW1 Iw1
  have pX2 := hX
  have hk2 := hn5
  have KS2 := KS5
  clear hX hn5 KS5 KS4
  have hs45 : (w4.alloc (.cells #[.int .i64 side, .slice (some ⟨g4, 0, none⟩) ks.length c4] 37)).heap.size = w4.heap.size + 1 := by simp
  obtain ⟨⟨b0, b1⟩, _⟩ := pP2.at2
  go_wp2_with fail
  generalize hZ5 : w4.alloc _ = W5 at *
  generalize hz5 : w4.heap.size = x0 at *
  clear hZ5 hz5 hb4 hn4 hA b0 b1
  refine (toPos_any _ _ _ _ _ ((HMM.out.below hW2).more hW2.size) hl2).mono ?_
  rintro e w6 ⟨g6, c6, rfl, hn6, hb6⟩
  have MB6 := hn6.big
  have ml6 := hn6.lt
  have ml5 : W5.heap.size ≤ g6 := by obtain ⟨_, hh, _⟩ := hn6; exact hh
  have hY := Blk.new w6 #[.int .i64 t, .slice (some ⟨g6, 0, none⟩) l.length c6] 32
  have hB := below_of w6 (.cells #[.int .i64 t, .slice (some ⟨g6, 0, none⟩) l.length c6] 32)
  have hn7 := hn6.below hB
  have MB7 := MB6.below hB MB6.lt
  have h67 := hb6.trans (hB.mono hb6.size)
  have hz6 := hb6.size
  have hs67 : (w6.alloc (.cells #[.int .i64 t, .slice (some ⟨g6, 0, none⟩) l.length c6] 32)).heap.size = w6.heap.size + 1 := by simp
  have lX := (pX2.below hb6 pX2.lt).lt
  obtain ⟨⟨xx0, xx1⟩, _⟩ := (pX2.below hb6 pX2.lt).at2
  have pR3 := pR2.below h67 pR2.lt
  have pP3 := pP2.below h67 pP2.lt
  have hW3 := hW2.trans (h67.mono hW2.size)
  have pW3 := pW2.below h67 pW2.lt
  have Iw3 := Iw2.below (h67.mono (by omega))
  have pX3 := pX2.below h67 pX2.lt
  have hk3 := hk2.below h67
  have KS3 := KS2.below (h67.mono (by omega))
  have hz3 := h67.size
  clear h67 pR2 pP2 hW2 pW2 Iw2 pX2 hk2 KS2
  have pY3 := hY
  have hnx3 := hn7
  have MB3 := MB7
  clear hY MB6
  obtain ⟨⟨xc0, xc1⟩, _⟩ := pX3.at2
  obtain ⟨⟨yc0, yc1⟩, _⟩ := pY3.at2
  go_wp2_with fail
  generalize hZ7 : w6.alloc _ = W7 at *
  generalize hz7 : w6.heap.size = x1 at *
  clear hZ7 hz7 hb6 hn6 hB hn7 xx0 xx1
  refine (turnPos_any _ _ _ _ _ _ _ _ _ _ hk3.is hnx3.is HSM.out hl2).mono ?_
  rintro e w8 ⟨Ag, cg, rfl, hOg, hb8⟩
  have hG := Blk.new w8 #[.int .i64 (tpT side ks k t l), .slice Ag (tpL side ks k t l).length cg] 32
  have hC := below_of w8 (.cells #[.int .i64 (tpT side ks k t l), .slice Ag (tpL side ks k t l).length cg] 32)
  have h89 := hb8.trans (hC.mono hb8.size)
  have Ig8 := hOg.below hC
  have hz8a := hb8.size
  have hs89 : (w8.alloc (.cells #[.int .i64 (tpT side ks k t l), .slice Ag (tpL side ks k t l).length cg] 32)).heap.size = w8.heap.size + 1 := by simp
  clear xc0 xc1 yc0 yc1
  have hny := hnx3.below h89
  obtain ⟨⟨vw0, vw1⟩, _⟩ := (pW3.below hb8 pW3.lt).at2
  have pR4 := pR3.below h89 pR3.lt
  have pP4 := pP3.below h89 pP3.lt
  have hW4 := hW3.trans (h89.mono hW3.size)
  have pW4 := pW3.below h89 pW3.lt
  have Iw4 := Iw3.below (h89.mono (by omega))
  have pX4 := pX3.below h89 pX3.lt
  have hk4 := hk3.below h89
  have KS4 := KS3.below (h89.mono (by omega))
  have pY4 := pY3.below h89 pY3.lt
  have MB4 := MB3.below h89 MB3.lt
  have hz4 := h89.size
  clear h89 pR3 pP3 hW3 pW3 Iw3 pX3 hk3 KS3 pY3 MB3
  have pG4 := hG
  have Ig4 := hOg.below hC
  clear hG Ig8 hOg hnx3
  obtain ⟨⟨v0, v1⟩, _⟩ := pW4.at2
  obtain ⟨⟨g0, g1⟩, _⟩ := pG4.at2
  go_wp2_with fail
  generalize hZ9 : w8.alloc _ = W9 at *
  generalize hz9 : w8.heap.size = x2 at *
  clear hZ9 hz9 hb8 hC v0 v1 vw0 vw1 g0 g1
  refine (eqPos_same _ _ _ _ _ _ _ (Ig4.is.more (by omega)) (Iw4.is.more (by omega)) hlenL).mono ?_
  rintro e w10 ⟨rfl, hb10⟩
  have hny2 := hny.below hb10
  clear hny
  have pR5 := pR4.below hb10 pR4.lt
  have pP5 := pP4.below hb10 pP4.lt
  have hW5 := hW4.trans (hb10.mono hW4.size)
  have pW5 := pW4.below hb10 pW4.lt
  have Iw5 := Iw4.below (hb10.mono (by omega))
  have pX5 := pX4.below hb10 pX4.lt
  have hk5 := hk4.below hb10
  have KS5 := KS4.below (hb10.mono (by omega))
  have pY5 := pY4.below hb10 pY4.lt
  have MB5 := MB4.below hb10 MB4.lt
  have pG5 := pG4.below hb10 pG4.lt
  have Ig5 := Ig4.below (hb10.mono (by omega))
  have hz5 := hb10.size
  clear hb10 pR4 pP4 hW4 pW4 Iw4 pX4 hk4 KS4 pY4 MB4 pG4 Ig4
  obtain ⟨⟨a0, a1⟩, _⟩ := pR5.at2
  obtain ⟨⟨xa0, xa1⟩, _⟩ := pX5.at2
  go_wp2_with fail
  have hsq := ((HSS.out.below hW5).more hW5.size)
  have HS : Hid (∀ w', Below w10.heap.size w10 w' → (w'.cell? ⟨w.heap.size, 0, none⟩ = some (.int .i64 side) ∧ w'.cell? ⟨w.heap.size, 1, none⟩ = some (.slice A ks.length c) ∧ w'.cell? ⟨x0, 0, none⟩ = some (.int .i64 side) ∧ w'.cell? ⟨x0, 1, none⟩ = some (.slice (some ⟨g4, 0, none⟩) ks.length c4))) := Lib.hid (fun w' hb => by
    obtain ⟨⟨a0, a1⟩, _⟩ := (pR5.below hb pR5.lt).at2
    obtain ⟨⟨b0, b1⟩, _⟩ := (pX5.below hb pX5.lt).at2
    exact ⟨a0, a1, b0, b1⟩)
  have hw : Below w10.heap.size w10 w10.drew := (Below.refl _ _).drew
  go_region_held3 (fun w' => w'.cell? ⟨w.heap.size, 0, none⟩ = some (.int .i64 side) ∧ w'.cell? ⟨w.heap.size, 1, none⟩ = some (.slice A ks.length c) ∧ w'.cell? ⟨x0, 0, none⟩ = some (.int .i64 side) ∧ w'.cell? ⟨x0, 1, none⟩ = some (.slice (some ⟨g4, 0, none⟩) ks.length c4))
    (exact HS.out _ hw)
    (first
      | (go_at_call 7; refine (toRules_any _ _ _ _ _ ((hsq.below hw).more hw.size) HSM.out).mono ?_; rintro e wa2 ⟨ga2, ca2, rfl, hna, hba2⟩; have hw := hw.trans (hba2.mono hw.size))
      | (go_at_call 11; refine (eqRules_same _ _ _ _ _ _ _ (hk5.below hw).is hna.is HSM.out).mono ?_; rintro e wb2 ⟨rfl, hbb2⟩; have hw := hw.trans (hbb2.mono hw.size)))
  have hny3 := hny2.below hw
  clear HS hna a0 a1 xa0 xa1 hsq hny2
  have pR6 := pR5.below hw pR5.lt
  have pP6 := pP5.below hw pP5.lt
  have hW6 := hW5.trans (hw.mono hW5.size)
  have pW6 := pW5.below hw pW5.lt
  have Iw6 := Iw5.below (hw.mono (by omega))
  have pX6 := pX5.below hw pX5.lt
  have KS6 := KS5.below (hw.mono (by omega))
  have pY6 := pY5.below hw pY5.lt
  have MB6 := MB5.below hw MB5.lt
  have pG6 := pG5.below hw pG5.lt
  have Ig6 := Ig5.below (hw.mono (by omega))
  have hz6 := hw.size
  clear hw pR5 pP5 hW5 pW5 Iw5 pX5 hk5 KS5 pY5 MB5 pG5 Ig5
  obtain ⟨⟨b0, b1⟩, _⟩ := pP6.at2
  obtain ⟨⟨ya0, ya1⟩, _⟩ := pY6.at2
  go_wp2_with fail
  have hmq := ((HMM.out.below hW6).more hW6.size)
  have HS : Hid (∀ w', Below wb2.heap.size wb2 w' → (w'.cell? ⟨w.heap.size + 1, 0, none⟩ = some (.int .i64 t) ∧ w'.cell? ⟨w.heap.size + 1, 1, none⟩ = some (.slice M l.length cm) ∧ w'.cell? ⟨x1, 0, none⟩ = some (.int .i64 t) ∧ w'.cell? ⟨x1, 1, none⟩ = some (.slice (some ⟨g6, 0, none⟩) l.length c6))) := Lib.hid (fun w' hb => by
    obtain ⟨⟨a0, a1⟩, _⟩ := (pP6.below hb pP6.lt).at2
    obtain ⟨⟨b0, b1⟩, _⟩ := (pY6.below hb pY6.lt).at2
    exact ⟨a0, a1, b0, b1⟩)
  have hw : Below wb2.heap.size wb2 wb2.drew := (Below.refl _ _).drew
  go_region_held3 (fun w' => w'.cell? ⟨w.heap.size + 1, 0, none⟩ = some (.int .i64 t) ∧ w'.cell? ⟨w.heap.size + 1, 1, none⟩ = some (.slice M l.length cm) ∧ w'.cell? ⟨x1, 0, none⟩ = some (.int .i64 t) ∧ w'.cell? ⟨x1, 1, none⟩ = some (.slice (some ⟨g6, 0, none⟩) l.length c6))
    (exact HS.out _ hw)
    (first
      | (go_at_call 8; refine (toPos_any _ _ _ _ _ ((hmq.below hw).more hw.size) hl2).mono ?_; rintro e wd ⟨gd, cd, rfl, hnd, hbd⟩; have hw := hw.trans (hbd.mono hw.size))
      | (go_at_call 10; refine (eqPos_same _ _ _ _ _ _ _ (hny3.below hw).is hnd.is hl2).mono ?_; rintro e we ⟨rfl, hbe⟩; have hw := hw.trans (hbe.mono hw.size)))
  clear HS hnd b0 b1 ya0 ya1 hmq hny3
  have pR7 := pR6.below hw pR6.lt
  have pP7 := pP6.below hw pP6.lt
  have hW7 := hW6.trans (hw.mono hW6.size)
  have pW7 := pW6.below hw pW6.lt
  have Iw7 := Iw6.below (hw.mono (by omega))
  have pX7 := pX6.below hw pX6.lt
  have KS7 := KS6.below (hw.mono (by omega))
  have pY7 := pY6.below hw pY6.lt
  have MB7 := MB6.below hw MB6.lt
  have pG7 := pG6.below hw pG6.lt
  have Ig7 := Ig6.below (hw.mono (by omega))
  have hz7 := hw.size
  clear hw pR6 pP6 hW6 pW6 Iw6 pX6 KS6 pY6 MB6 pG6 Ig6
  obtain ⟨⟨xd0, xd1⟩, _⟩ := pX7.at2
  go_wp2_with fail
  have lX11 := pX7.lt
  have lY11 := pY7.lt
  have lG11 := pG7.lt
  refine (markRules_any _ _ _ _ _ _ _ _ KS7 HSM.out (by omega) (by omega) (by omega)).mono ?_
  rintro e w12 ⟨k1, rfl, hk11, hk12, sp12⟩
  clear KS7
  have pR8 := sp12.blk pR7 (by omega)
  have pP8 := sp12.blk pP7 (by omega)
  have hW8 := hW7.trans (sp12.toBelow (B := w.heap.size) (by omega) (by omega))
  have pW8 := sp12.blk pW7 (by omega)
  have Iw8 := Iw7.span sp12 (by omega)
  have pY8 := sp12.blk pY7 (by omega)
  have MB8 := sp12.shape _ _ _ MB7
  have pG8 := sp12.blk pG7 (by omega)
  have Ig8 := Ig7.span sp12 (by omega)
  have hz8 := sp12.size
  clear sp12 pR7 pP7 hW7 pW7 Iw7 pX7 pY7 MB7 pG7 Ig7
  obtain ⟨⟨yd0, yd1⟩, _⟩ := pY8.at2
  go_wp2_with fail
  refine (markPos_any W5.heap.size x1 _ _ _ _ _ _ MB8 (by omega) (by omega) hl2 (by omega) (by omega)).mono ?_
  rintro e w13 ⟨k2, rfl, hk21, hk22, sp13⟩
  have pR9 := sp13.blk pR8 (by omega)
  have pP9 := sp13.blk pP8 (by omega)
  have hW9 := hW8.trans (sp13.toBelow (B := w.heap.size) (by omega) (by omega))
  have pW9 := sp13.blk pW8 (by omega)
  have Iw9 := Iw8.span sp13 (by omega)
  have pG9 := sp13.blk pG8 (by omega)
  have Ig9 := Ig8.span sp13 (by omega)
  have hz9 := sp13.size
  clear sp13 pR8 pP8 hW8 pW8 Iw8 pY8 MB8 pG8 Ig8
  have hkn : decide (k2 < 0) = false := decide_eq_false (by omega)
  obtain ⟨⟨v0, v1⟩, _⟩ := pW9.at2
  obtain ⟨⟨g0, g1⟩, _⟩ := pG9.at2
  go_wp2_with fail
  refine (eqPos_same _ _ _ _ _ _ _ (Ig9.is.more (by omega)) (Iw9.is.more (by omega)) hlenL).mono ?_
  rintro e w14 ⟨rfl, hb14⟩
  clear hkn v0 v1 g0 g1
  have pR10 := pR9.below hb14 pR9.lt
  have pP10 := pP9.below hb14 pP9.lt
  have hW10 := hW9.trans (hb14.mono hW9.size)
  have pW10 := pW9.below hb14 pW9.lt
  have Iw10 := Iw9.below (hb14.mono (by omega))
  have pG10 := pG9.below hb14 pG9.lt
  have Ig10 := Ig9.below (hb14.mono (by omega))
  have hz10 := hb14.size
  clear hb14 pR9 pP9 hW9 pW9 Iw9 pG9 Ig9
  obtain ⟨⟨g0, g1⟩, _⟩ := pG10.at2
  go_wp2_with fail
  refine (markPosA_any _ _ _ _ _ _ _ _ Ig10 (by omega) hlenL (by omega) (by omega)).mono ?_
  rintro e w15 ⟨rfl, Igm, sp15⟩
  clear g0 g1
  have pR11 := sp15.blk pR10 (by omega)
  have pP11 := sp15.blk pP10 (by omega)
  have hW11 := hW10.trans (sp15.toBelow (B := w.heap.size) (by omega) (by omega))
  have pW11 := sp15.blk pW10 (by omega)
  have Iw11 := Iw10.span sp15 (by omega)
  have pG11 := sp15.blk pG10 (by omega)
  have hz11 := sp15.size
  clear sp15 pR10 pP10 hW10 pW10 Iw10 pG10 Ig10
  have Ig11 := Igm
  clear Igm
  obtain ⟨⟨g0, g1⟩, _⟩ := pG11.at2
  go_wp2_with fail
  refine (heldPosA_any _ _ _ _ _ _ (Ig11.is.more (by omega)) hlenL (by omega) (by omega)).mono ?_
  rintro e w16 ⟨rfl, hb16⟩
  clear g0 g1
  have hln : decide (1 + 3 * ((tpL side ks k t l).length : Int) < 0) = false := decide_eq_false (by omega)
  have pR12 := pR11.below hb16 pR11.lt
  have pP12 := pP11.below hb16 pP11.lt
  have hW12 := hW11.trans (hb16.mono hW11.size)
  have pW12 := pW11.below hb16 pW11.lt
  have Iw12 := Iw11.below (hb16.mono (by omega))
  have pG12 := pG11.below hb16 pG11.lt
  have Ig12 := Ig11.below (hb16.mono (by omega))
  have hz12 := hb16.size
  clear hb16 pR11 pP11 hW11 pW11 Iw11 pG11 Ig11
  obtain ⟨⟨a0, a1⟩, _⟩ := pR12.at2
  obtain ⟨⟨b0, b1⟩, _⟩ := pP12.at2
  go_wp2_with fail
  have hs16 := ((HSS.out.below hW12).more hW12.size)
  have hm16 := ((HMM.out.below hW12).more hW12.size)
  go_cut [17, 18] from 98 (fun sa sb wx => ∃ (bw : Nat) (Aw : Option Addr) (cw lo hi : Nat), sa = .pointer (some ⟨bw, 0, none⟩) ∧ sb = .bool (tpB side ks k t l) ∧ w16.heap.size ≤ bw ∧ w16.heap.size ≤ lo ∧ hi ≤ wx.heap.size ∧ (bw < lo ∨ hi ≤ bw) ∧ Blk wx bw #[.int .i64 (tpT side ks k t l), .slice Aw (tpL side ks k t l).length cw] 32 ∧ MenA lo hi wx Aw (tpL side ks k t l) ∧ Below w16.heap.size w16 wx)
  case first =>
    have HS : Hid (∀ w', Below w16.heap.size w16 w' → (w'.cell? ⟨w.heap.size, 0, none⟩ = some (.int .i64 side) ∧ w'.cell? ⟨w.heap.size, 1, none⟩ = some (.slice A ks.length c) ∧ w'.cell? ⟨w.heap.size + 1, 0, none⟩ = some (.int .i64 t) ∧ w'.cell? ⟨w.heap.size + 1, 1, none⟩ = some (.slice M l.length cm))) := Lib.hid (fun w' hb => by
      obtain ⟨⟨a0, a1⟩, _⟩ := (pR12.below hb pR12.lt).at2
      obtain ⟨⟨b0, b1⟩, _⟩ := (pP12.below hb pP12.lt).at2
      exact ⟨a0, a1, b0, b1⟩)
    have hw : Below w16.heap.size w16 w16.drew := (Below.refl _ _).drew
    go_region_held3 (fun w' => w'.cell? ⟨w.heap.size, 0, none⟩ = some (.int .i64 side) ∧ w'.cell? ⟨w.heap.size, 1, none⟩ = some (.slice A ks.length c) ∧ w'.cell? ⟨w.heap.size + 1, 0, none⟩ = some (.int .i64 t) ∧ w'.cell? ⟨w.heap.size + 1, 1, none⟩ = some (.slice M l.length cm))
      (exact HS.out _ (by first | exact hw | exact hw.alloc (by first | omega | (simp; done) | (have := hw.size; simp; omega)) _ | exact (hw.setCell (by first | omega | (simp; done) | (simp; omega)) _).setCell (by first | omega | (simp; done) | (simp; omega)) _))
      (first
        | (go_at_call 7; refine (toRules_any _ _ _ _ _ ((hs16.below (by first | exact hw | exact hw.alloc (by first | omega | (simp; done) | (have := hw.size; simp; omega)) _)).more (by first | exact hw.size | (have := hw.size; simp; done) | (have := hw.size; simp; omega))) HSM.out).mono ?_; rintro e wa ⟨ga, ca, rfl, hna, hba⟩; have hw : Below w16.heap.size w16 wa := Below.trans (by first | exact hw | exact hw.alloc (by first | omega | (simp; done) | (have := hw.size; simp; omega)) _) (hba.mono (by first | exact hw.size | (have := hw.size; simp; done) | (have := hw.size; simp; omega))); have hws := hw.size; (first | (have hx := hx.below hba hx.lt; have hxl := hx.lt) | (have hx : Blk wa w16.heap.size #[.int .i64 0, .slice none 0 0] 32 := (Blk.new w16.drew _ _).below hba (by simp); have hxl := hx.lt) | (have hx : Blk wa _ #[.int .i64 0, .slice none 0 0] 32 := (Blk.new _ _ _).below hba (by simp); have hxl := hx.lt) | skip); try (have hnb : NewMen _ wa _ _ := hnb.below (by first | exact hba | exact (below_of _ _).trans (hba.mono (by simp)))))
        | (go_at_call 8; refine (toPos_any _ _ _ _ _ ((hm16.below (by first | exact hw | exact hw.alloc (by first | omega | (simp; done) | (have := hw.size; simp; omega)) _)).more (by first | exact hw.size | (have := hw.size; simp; done) | (have := hw.size; simp; omega))) hl2).mono ?_; rintro e wb ⟨gb, cb, rfl, hnb, hbb⟩; have hw : Below w16.heap.size w16 wb := Below.trans (by first | exact hw | exact hw.alloc (by first | omega | (simp; done) | (have := hw.size; simp; omega)) _) (hbb.mono (by first | exact hw.size | (have := hw.size; simp; done) | (have := hw.size; simp; omega))); have hws := hw.size; (first | (have hx := hx.below hbb hx.lt; have hxl := hx.lt) | (have hx : Blk wb w16.heap.size #[.int .i64 0, .slice none 0 0] 32 := (Blk.new w16.drew _ _).below hbb (by simp); have hxl := hx.lt) | (have hx : Blk wb _ #[.int .i64 0, .slice none 0 0] 32 := (Blk.new _ _ _).below hbb (by simp); have hxl := hx.lt) | skip); try (have hna : NewKinds _ wb _ _ := hna.below (by first | exact hbb | exact (below_of _ _).trans (hbb.mono (by simp)))))
        | (go_at_call 9; refine (turnPos_any _ _ _ _ _ _ _ _ _ _ (by first | exact hna.is | exact (hna.below (below_of _ _)).is) (by first | exact hnb.is | exact (hnb.below (below_of _ _)).is) HSM.out hl2).mono ?_; rintro e wg ⟨Aw, cw, rfl, hIw, hbg⟩; have hw : Below w16.heap.size w16 wg := Below.trans (by first | exact hw | exact hw.alloc (by first | omega | (simp; done) | (have := hw.size; simp; omega)) _) (hbg.mono (by first | exact hw.size | (have := hw.size; simp; done) | (have := hw.size; simp; omega))); have hws := hw.size; (first | (have hx := hx.below hbg hx.lt; have hxl := hx.lt) | (have hx : Blk wg w16.heap.size #[.int .i64 0, .slice none 0 0] 32 := (Blk.new w16.drew _ _).below hbg (by simp); have hxl := hx.lt) | (have hx : Blk wg _ #[.int .i64 0, .slice none 0 0] 32 := (Blk.new _ _ _).below hbg (by simp); have hxl := hx.lt) | skip); try (obtain ⟨⟨hx0, hx1⟩, ⟨hx2, hx3⟩⟩ := hx.at2)))
    all_goals
      have hws2 : w16.heap.size ≤ wg.heap.size := hw.size
      go_wp2_with fail
      go_meet
      first
        | exact ⟨_, _, _, _, _, rfl, rfl, hws2, (by first | omega | (simp; omega)), (by simp), .inr (Nat.le_refl _), Blk.new wg _ _, hIw.below (below_of wg _), hw.alloc hws2 _⟩
        | exact ⟨_, _, _, _, _, rfl, rfl, by first | exact Nat.le_refl _ | omega, (by first | omega | (simp; omega)), (by simp), .inl (by first | omega | (simp; done) | (simp; omega)), hx.set2 _ _, (hIw.other ⟨_, 0, none⟩ _ (by (try dsimp only); first | omega | (simp; done) | (simp; omega))).other ⟨_, 1, none⟩ _ (by (try dsimp only); first | omega | (simp; done) | (simp; omega)), (hw.setCell (by (try dsimp only); first | exact Nat.le_refl _ | omega) _).setCell (by (try dsimp only); first | exact Nat.le_refl _ | omega) _⟩
  obtain ⟨bw3, Aw3, cw3, lo3, hi3, rfl, rfl, hbw3, hlo3, hhi3, hdis3, pw0, iw0, hb0⟩ := hcut
  clear a0 a1 b0 b1 hs16 hm16
  have hW13 := hW12.trans (hb0.mono hW12.size)
  have pW13 := pW12.below hb0 pW12.lt
  have Iw13 := Iw12.below (hb0.mono (by omega))
  have pG13 := pG12.below hb0 pG12.lt
  have Ig13 := Ig12.below (hb0.mono (by omega))
  have hz13 := hb0.size
  clear hb0 pR12 pP12 hW12 pW12 Iw12 pG12 Ig12
  have pH13 := pw0
  have Ih13 := iw0
  obtain ⟨⟨v0, v1⟩, _⟩ := pW13.at2
  obtain ⟨⟨h0, h1⟩, _⟩ := pw0.at2
  go_wp2_with fail
  refine (eqPos_same _ _ _ _ _ _ _ (iw0.is.more (by omega)) (Iw13.is.more (by omega)) hlenL).mono ?_
  rintro e w18 ⟨rfl, hb18⟩
  clear v0 v1 h0 h1 pw0 iw0 pH13 Ih13
  have hW14 := hW13.trans (hb18.mono hW13.size)
  have pG14 := pG13.below hb18 pG13.lt
  have Ig14 := Ig13.below (hb18.mono (by omega))
  have hz14 := hb18.size
  clear hb18 hW13 pW13 Iw13 pG13 Ig13
  obtain ⟨⟨g0, g1⟩, _⟩ := pG14.at2
  go_wp2_with fail
  refine (heldPosA_any _ _ _ _ _ _ (Ig14.is.more (by omega)) hlenL (by omega) (by omega)).mono ?_
  rintro e w19 ⟨rfl, hb19⟩
  have hWz := hW14.trans (hb19.mono hW14.size)
  go_wp2_with fail
  go_ret
  exact ⟨rfl, hWz⟩
end Go.Proofs.YtefjhnpkinnkpaaGreat.Laws
