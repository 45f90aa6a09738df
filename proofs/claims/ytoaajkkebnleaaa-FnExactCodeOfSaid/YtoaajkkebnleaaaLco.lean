/- The walk of the exact law FnExactCodeOf. -/
import Derived.Test.YtoaajkkebnleaaaOpm
import Derived.Test.YtoaajkkebnleaaaOpp
import Derived.Test.YtoaajkkebnleaaaQf
import Derived.Deep.RegionHeld3
namespace Go.Proofs.Ytoaajkkebnleaaa.Laws
open Go.ChangeShapes Go.WideShapes Go.ChangeAt Go.RowKit Base Sq Ko Opn
set_option linter.unusedVariables false
set_option maxRecDepth 20000

set_option maxHeartbeats 16000000 in
theorem fnExactCodeOf_walk {H : Type} {enc : TypeId × Value → H} {d d' d'' : DataW H} {p p' p'' : List MemPlace} {b0 : Nat} (w : World) (v : Value) (hv : Value.okWide Try.prog w .any b0 24 v) (h : DataW.Trod enc Try.prog w 0 (fun _ => true) true 24 v d p)
    (v' : Value) (hv' : Value.okWide Try.prog w .any b0 25 v') (h' : DataW.Trod enc Try.prog w 0 (fun _ => true) true 25 v' d' p')
    (v'' : Value) (hv'' : Value.okWide Try.prog w .any b0 41 v'') (h'' : DataW.Trod enc Try.prog w 0 (fun _ => true) true 41 v'' d'' p'') :
    Calls Try.prog 5 #[v, v', v''] w fun e w' => e = .returned (.bool true) ∧ Below w.heap.size w w' := by
  obtain ⟨side, A, c, ks, rfl, hl, hs⟩ := open_rules hv h
  obtain ⟨M, cm, m, rfl, hl', hm⟩ := open_pieces hv' h'
  obtain ⟨t, N, cn, l, rfl, hl'', _, hn⟩ := open_pos hv'' h''
  clear hv h hv' h' hv'' h''
  unfold maxLen at hl' hl''
  go_enter Try.func5, Try.ntmps5
  go_wp2_with fail
  have hw0 : Below w.heap.size w ((w.alloc (.cells #[.int .i64 side, .slice A ks.length c] 24)).alloc (.cells #[.int .i64 t, .slice N l.length cn] 41)) := (by repeat (first | exact Below.refl _ _ | assumption | (refine Below.alloc ?_ (by first | omega | (simp; done) | (simp; omega)) _) | (refine Below.setCell ?_ (by first | omega | (simp; done) | (simp; omega)) _) | refine Below.drew ?_))
  have pR0 := (Blk.new w #[.int .i64 side, .slice A ks.length c] 24).alloc (.cells #[.int .i64 t, .slice N l.length cn] 41)
  have pP0 := Blk.new (w.alloc (.cells #[.int .i64 side, .slice A ks.length c] 24)) #[.int .i64 t, .slice N l.length cn] 41
  simp only [World.size_alloc] at pP0
  generalize hW0 : (w.alloc _).alloc _ = W0 at *
  clear hW0
  refine (szRules_any _ _ _ _ _ _ ((hs.below hw0).more hw0.size) hl (by omega) (by omega)).mono ?_
  rintro e w1 ⟨v, rfl, hv1, hor, hb1⟩
  have pR1 := pR0.below hb1 pR0.lt
  have pP1 := pP0.below hb1 pP0.lt
  have hw1 := hw0.trans (hb1.mono hw0.size)
  clear hb1 hl pR0 pP0 hw0
  rcases hor with rfl | ⟨hv0, hsm⟩
  · go_wp2_with fail
    go_ret
    exact ⟨rfl, hw1⟩
  have HSM := Lib.hid hsm
  clear hsm
  obtain ⟨⟨a0, a1⟩, _⟩ := pR1.at2
  obtain ⟨⟨b0, b1⟩, _⟩ := pP1.at2
  by_cases hbig : v - (m.length : Int) < 0
  · have HN := Lib.hid hbig
    clear hbig
    go_wp2_with fail
    refine (szPieceS_any _ _ _ _ _ (by omega) hv0 (by omega)).mono ?_
    rw [if_pos (by have := HN.out; omega)]
    rintro e w2 ⟨rfl, rfl⟩
    go_wp2_with fail
    go_ret
    exact ⟨rfl, hw1⟩
  have hlm : m.length ≤ 1048576 := by omega
  have HN := Lib.hid hbig
  clear hbig
  go_wp2_with fail
  refine (szPieceS_any _ _ _ _ _ (by omega) hv0 (by omega)).mono ?_
  rw [if_neg (by have := HN.out; omega)]
  rintro e w2 ⟨rfl, rfl⟩
  have hnn : 0 ≤ v - (m.length : Int) := by have := HN.out; omega
  have hnm : v - (m.length : Int) ≤ 1048576 := by omega
  generalize hvm : v - (m.length : Int) = vm at *
  clear hvm HN
  by_cases hbig : vm - (l.length : Int) < 0
  · have HN := Lib.hid hbig
    clear hbig
    go_wp2_with fail
    refine (szPos_any _ _ _ _ _ _ (by omega) hnn (by omega)).mono ?_
    rw [if_pos (by have := HN.out; omega)]
    rintro e w2 ⟨rfl, hb2⟩
    go_wp2_with fail
    go_ret
    exact ⟨rfl, hw1.trans (hb2.mono hw1.size)⟩
  have hl2 : l.length ≤ 1048576 := by omega
  have HN := Lib.hid hbig
  clear hbig
  go_wp2_with fail
  refine (szPos_any _ _ _ _ _ _ (by omega) hnn (by omega)).mono ?_
  rw [if_neg (by have := HN.out; omega)]
  rintro e w2 ⟨rfl, hb2⟩
  have hnl : 0 ≤ vm - (l.length : Int) := by have := HN.out; omega
  have pR := pR1.below hb2 pR1.lt
  have pP := pP1.below hb2 pP1.lt
  have hW := hw1.trans (hb2.mono hw1.size)
  have hs2 := (hs.below hW).more hW.size
  have hm2 := (hm.below hW).more hW.size
  have hn2 := (hn.below hW).more hW.size
  clear hb2 pR1 pP1 hw1 a0 a1 b0 b1 hs hm hn
  obtain ⟨⟨a0, a1⟩, _⟩ := pR.at2
  obtain ⟨⟨b0, b1⟩, _⟩ := pP.at2
  go_wp2_with fail
  have HS : Hid (∀ w', Below w2.heap.size w2 w' → (w'.cell? ⟨w.heap.size, 0, none⟩ = some (.int .i64 side) ∧ w'.cell? ⟨w.heap.size, 1, none⟩ = some (.slice A ks.length c) ∧ w'.cell? ⟨w.heap.size + 1, 0, none⟩ = some (.int .i64 t) ∧ w'.cell? ⟨w.heap.size + 1, 1, none⟩ = some (.slice N l.length cn))) := Lib.hid (fun w' hb => by
    obtain ⟨⟨a0, a1⟩, _⟩ := (pR.below hb pR.lt).at2
    obtain ⟨⟨b0, b1⟩, _⟩ := (pP.below hb pP.lt).at2
    exact ⟨a0, a1, b0, b1⟩)
  have hw : Below w2.heap.size w2 w2.drew := (Below.refl _ _).drew
  go_region_held3 (fun w' => w'.cell? ⟨w.heap.size, 0, none⟩ = some (.int .i64 side) ∧ w'.cell? ⟨w.heap.size, 1, none⟩ = some (.slice A ks.length c) ∧ w'.cell? ⟨w.heap.size + 1, 0, none⟩ = some (.int .i64 t) ∧ w'.cell? ⟨w.heap.size + 1, 1, none⟩ = some (.slice N l.length cn))
    (exact HS.out _ hw)
    (first
      | (go_at_call 10; refine (toRules_any _ _ _ _ _ ((hs2.below hw).more hw.size) HSM.out).mono ?_; rintro e wa ⟨ga, ca, rfl, hna, hba⟩; have hw := hw.trans (hba.mono hw.size); try (have hnb := hnb.below hba); try (have hnp := hnp.below hba))
      | (go_at_call 11; refine (toPieceS_any _ _ _ _ ((hm2.below hw).more hw.size) hlm).mono ?_; rintro e wp ⟨gp, cp, rfl, hnp, hbp⟩; have hw := hw.trans (hbp.mono hw.size); try (have hna := hna.below hbp); try (have hnb := hnb.below hbp))
      | (go_at_call 19; refine (toPos_any _ _ _ _ _ ((hn2.below hw).more hw.size) hl2).mono ?_; rintro e wb ⟨gb, cb, rfl, hnb, hbb⟩; have hw := hw.trans (hbb.mono hw.size); try (have hna := hna.below hbb); try (have hnp := hnp.below hbb))
      | (go_at_call 18; refine (specCodeOf_any _ _ _ _ _ _ _ _ _ _ _ _ hna.is hnp.is hnb.is HSM.out hlm hl2).mono ?_; rintro e wc ⟨rfl, hbc⟩; have hw := hw.trans (hbc.mono hw.size)))
  all_goals
    have hW3 := hW.trans (hw.mono hW.size)
    have pR3 := pR.below hw pR.lt
    have pP3 := pP.below hw pP.lt
    have hs3 := (hs2.below hw).more hw.size
    have hm3 := (hm2.below hw).more hw.size
    have hn3 := (hn2.below hw).more hw.size
    clear hw HS hna hnb hnp a0 a1 b0 b1 pR pP hs2 hm2 hn2 hW
    obtain ⟨⟨a0, a1⟩, _⟩ := pR3.at2
    obtain ⟨⟨b0, b1⟩, _⟩ := pP3.at2
    go_wp2_with fail
    refine (toRules_any _ _ _ _ _ hs3 HSM.out).mono ?_
    rintro e w4 ⟨g4, c4, rfl, hn4, hb4⟩
    have hX := Blk.new w4 #[.int .i64 side, .slice (some ⟨g4, 0, none⟩) ks.length c4] 31
    have hA := below_of w4 (.cells #[.int .i64 side, .slice (some ⟨g4, 0, none⟩) ks.length c4] 31)
    have hn5 := hn4.below hA
    have pP5 := (pP3.below hb4 pP3.lt).below hA (pP3.below hb4 pP3.lt).lt
    have pR5 := (pR3.below hb4 pR3.lt).below hA (pR3.below hb4 pR3.lt).lt
    have h45 := hb4.trans (hA.mono hb4.size)
    have hW5 := hW3.trans (h45.mono hW3.size)
    have hs5 := (hs3.below h45).more h45.size
    have hm5 := (hm3.below h45).more h45.size
    have hn5' := (hn3.below h45).more h45.size
    clear a0 a1 b0 b1
    go_wp2_with fail
    generalize hZ5 : w4.alloc _ = W5 at *
    generalize hz5 : w4.heap.size = x0 at *
    clear hZ5 hz5 hb4 hn4 hA h45 pR3 pP3 hs3 hm3 hn3 hW3
    refine (toPieceS_any _ _ _ _ hm5 hlm).mono ?_
    rintro e wq ⟨gq, cq, rfl, hnq, hbq⟩
    have hX5 := hX.below hbq hX.lt
    have hk5 := hn5.below hbq
    have pP6 := pP5.below hbq pP5.lt
    have pR6 := pR5.below hbq pR5.lt
    have hW6 := hW5.trans (hbq.mono hW5.size)
    have hs6 := (hs5.below hbq).more hbq.size
    have hm6 := (hm5.below hbq).more hbq.size
    have hn6' := (hn5'.below hbq).more hbq.size
    clear hbq hX hn5 pP5 pR5 hW5 hs5 hm5 hn5'
    obtain ⟨⟨b0, b1⟩, _⟩ := pP6.at2
    go_wp2_with fail
    refine (toPos_any _ _ _ _ _ hn6' hl2).mono ?_
    rintro e w6 ⟨g6, c6, rfl, hn6, hb6⟩
    have hY := Blk.new w6 #[.int .i64 t, .slice (some ⟨g6, 0, none⟩) l.length c6] 46
    have hB := below_of w6 (.cells #[.int .i64 t, .slice (some ⟨g6, 0, none⟩) l.length c6] 46)
    have hn7 := hn6.below hB
    have h67 := hb6.trans (hB.mono hb6.size)
    have hX7 := hX5.below h67 hX5.lt
    have hk7 := hk5.below h67
    have hq7 := hnq.below h67
    have pP7 := pP6.below h67 pP6.lt
    have pR7 := pR6.below h67 pR6.lt
    have hW7 := hW6.trans (h67.mono hW6.size)
    have hs7 := (hs6.below h67).more h67.size
    have hm7 := (hm6.below h67).more h67.size
    have hn7' := (hn6'.below h67).more h67.size
    obtain ⟨⟨x0a, x1a⟩, _⟩ := hX7.at2
    obtain ⟨⟨y0a, y1a⟩, _⟩ := hY.at2
    have lX := (hX5.below hb6 hX5.lt).lt
    obtain ⟨⟨xx0, xx1⟩, _⟩ := (hX5.below hb6 hX5.lt).at2
    clear b0 b1
    go_wp2_with fail
    generalize hZ7 : w6.alloc _ = W7 at *
    generalize hz7 : w6.heap.size = x1 at *
    clear hZ7 hz7 hb6 hn6 hB h67 hX5 hk5 hnq pP6 pR6 hW6 hs6 hm6 hn6' xx0 xx1 lX
    refine (codeOf_any _ _ _ _ _ _ _ _ _ _ _ _ hk7.is hq7.is hn7.is HSM.out hlm hl2).mono ?_
    rintro e w8 ⟨rfl, hb8⟩
    have pR8 := pR7.below hb8 pR7.lt
    have pP8 := pP7.below hb8 pP7.lt
    have hX8 := hX7.below hb8 hX7.lt
    have hY8 := hY.below hb8 hY.lt
    have hk8 := hk7.below hb8
    have hq8 := hq7.below hb8
    have hn8 := hn7.below hb8
    have hW8 := hW7.trans (hb8.mono hW7.size)
    have hs8 := (hs7.below hb8).more hb8.size
    have hm8 := (hm7.below hb8).more hb8.size
    have hn8' := (hn7'.below hb8).more hb8.size
    clear hb8 pR7 pP7 hX7 hY hk7 hq7 hn7 hW7 x0a x1a y0a y1a hs7 hm7 hn7'
    obtain ⟨⟨a0, a1⟩, _⟩ := pR8.at2
    obtain ⟨⟨b0, b1⟩, _⟩ := pP8.at2
    obtain ⟨⟨x0a, x1a⟩, _⟩ := hX8.at2
    obtain ⟨⟨y0a, y1a⟩, _⟩ := hY8.at2
    go_wp2_with fail
    have HS : Hid (∀ w', Below w8.heap.size w8 w' → (w'.cell? ⟨w.heap.size, 0, none⟩ = some (.int .i64 side) ∧ w'.cell? ⟨w.heap.size, 1, none⟩ = some (.slice A ks.length c) ∧ w'.cell? ⟨x0, 0, none⟩ = some (.int .i64 side) ∧ w'.cell? ⟨x0, 1, none⟩ = some (.slice (some ⟨g4, 0, none⟩) ks.length c4))) := Lib.hid (fun w' hb => by
      obtain ⟨⟨a0, a1⟩, _⟩ := (pR8.below hb pR8.lt).at2
      obtain ⟨⟨b0, b1⟩, _⟩ := (hX8.below hb hX8.lt).at2
      exact ⟨a0, a1, b0, b1⟩)
    have hw : Below w8.heap.size w8 w8.drew := (Below.refl _ _).drew
    go_region_held3 (fun w' => w'.cell? ⟨w.heap.size, 0, none⟩ = some (.int .i64 side) ∧ w'.cell? ⟨w.heap.size, 1, none⟩ = some (.slice A ks.length c) ∧ w'.cell? ⟨x0, 0, none⟩ = some (.int .i64 side) ∧ w'.cell? ⟨x0, 1, none⟩ = some (.slice (some ⟨g4, 0, none⟩) ks.length c4))
      (exact HS.out _ hw)
      (first
        | (go_at_call 10; refine (toRules_any _ _ _ _ _ ((hs8.below hw).more hw.size) HSM.out).mono ?_; rintro e wa ⟨ga, ca, rfl, hna, hba⟩; have hw := hw.trans (hba.mono hw.size))
        | (go_at_call 13; refine (eqRules_same _ _ _ _ _ _ _ (hk8.below hw).is hna.is HSM.out).mono ?_; rintro e wb ⟨rfl, hbb⟩; have hw := hw.trans (hbb.mono hw.size)))
    have hW9 := hW8.trans (hw.mono hW8.size)
    have pP9 := pP8.below hw pP8.lt
    have hY9 := hY8.below hw hY8.lt
    have hn9 := hn8.below hw
    have hq9 := hq8.below hw
    have hm9 := (hm8.below hw).more hw.size
    have hn9' := (hn8'.below hw).more hw.size
    clear hw HS hna a0 a1 b0 b1 x0a x1a y0a y1a
    go_wp2_with fail
    refine (toPieceS_any _ _ _ _ hm9 hlm).mono ?_
    rintro e wd ⟨gd, cd, rfl, hnd, hbd⟩
    have hq10 := hq9.below hbd
    go_wp2_with fail
    refine (eqPieceS_same _ _ _ _ _ _ hq10.is hnd.is hlm).mono ?_
    rintro e we ⟨rfl, hbe⟩
    have hde := hbd.trans (hbe.mono hbd.size)
    have hW10 := hW9.trans (hde.mono hW9.size)
    have pP10 := pP9.below hde pP9.lt
    have hY10 := hY9.below hde hY9.lt
    have hn10 := hn9.below hde
    have hn10' := (hn9'.below hde).more hde.size
    clear hbd hbe hde hq10 hnd
    obtain ⟨⟨b0, b1⟩, _⟩ := pP10.at2
    obtain ⟨⟨y0a, y1a⟩, _⟩ := hY10.at2
    go_wp2_with fail
    have HS : Hid (∀ w', Below we.heap.size we w' → (w'.cell? ⟨w.heap.size + 1, 0, none⟩ = some (.int .i64 t) ∧ w'.cell? ⟨w.heap.size + 1, 1, none⟩ = some (.slice N l.length cn) ∧ w'.cell? ⟨x1, 0, none⟩ = some (.int .i64 t) ∧ w'.cell? ⟨x1, 1, none⟩ = some (.slice (some ⟨g6, 0, none⟩) l.length c6))) := Lib.hid (fun w' hb => by
      obtain ⟨⟨a0, a1⟩, _⟩ := (pP10.below hb pP10.lt).at2
      obtain ⟨⟨b0, b1⟩, _⟩ := (hY10.below hb hY10.lt).at2
      exact ⟨a0, a1, b0, b1⟩)
    have hw : Below we.heap.size we we.drew := (Below.refl _ _).drew
    go_region_held3 (fun w' => w'.cell? ⟨w.heap.size + 1, 0, none⟩ = some (.int .i64 t) ∧ w'.cell? ⟨w.heap.size + 1, 1, none⟩ = some (.slice N l.length cn) ∧ w'.cell? ⟨x1, 0, none⟩ = some (.int .i64 t) ∧ w'.cell? ⟨x1, 1, none⟩ = some (.slice (some ⟨g6, 0, none⟩) l.length c6))
      (exact HS.out _ hw)
      (first
        | (go_at_call 19; refine (toPos_any _ _ _ _ _ ((hn10'.below hw).more hw.size) hl2).mono ?_; rintro e wd ⟨gd, cd, rfl, hnd, hbd⟩; have hw := hw.trans (hbd.mono hw.size))
        | (go_at_call 21; refine (eqPos_same _ _ _ _ _ _ _ (hn10.below hw).is hnd.is hl2).mono ?_; rintro e wf ⟨rfl, hbe⟩; have hw := hw.trans (hbe.mono hw.size)))
    go_wp2_with fail
    go_ret
    exact ⟨rfl, hW10.trans (hw.mono hW10.size)⟩
end Go.Proofs.Ytoaajkkebnleaaa.Laws
