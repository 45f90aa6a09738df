/- The walk of the exact law FnExactMatOk. -/
import Derived.Test.YtoaajkkebnleaaaOpm
import Derived.Test.YtoaajkkebnleaaaPy
import Derived.Deep.RegionHeld3
namespace Go.Proofs.Ytoaajkkebnleaaa.Laws
open Go.ChangeShapes Go.WideShapes Go.ChangeAt Go.RowKit Base Sq Ko Opn
set_option linter.unusedVariables false
set_option maxRecDepth 20000

set_option maxHeartbeats 8000000 in
theorem fnExactMatOk_walk {H : Type} {enc : TypeId × Value → H} {d d' : DataW H} {p p' : List MemPlace} {b0 : Nat} (w : World) (v : Value) (hv : Value.okWide Try.prog w .any b0 24 v) (h : DataW.Trod enc Try.prog w 0 (fun _ => true) true 24 v d p)
    (v' : Value) (hv' : Value.okWide Try.prog w .any b0 25 v') (h' : DataW.Trod enc Try.prog w 0 (fun _ => true) true 25 v' d' p') :
    Calls Try.prog 3 #[v, v'] w fun e w' => e = .returned (.bool true) ∧ Below w.heap.size w w' := by
  obtain ⟨side, A, c, ks, rfl, hl, hs⟩ := open_rules hv h
  obtain ⟨M, cm, l, rfl, hl', hm⟩ := open_pieces hv' h'
  clear hv h hv' h'
  unfold maxLen at hl'
  go_enter Try.func3, Try.ntmps3
  go_wp2_with fail
  have hw0 := below_of w (.cells #[.int .i64 side, .slice A ks.length c] 24)
  have pR0 := Blk.new w #[.int .i64 side, .slice A ks.length c] 24
  generalize hW0 : w.alloc _ = W0 at *
  clear hW0
  refine (szRules_any _ _ _ _ _ _ ((hs.below hw0).more hw0.size) hl (by omega) (by omega)).mono ?_
  rintro e w1 ⟨v, rfl, hv1, hor, hb1⟩
  have pR1 := pR0.below hb1 pR0.lt
  have hw1 := hw0.trans (hb1.mono hw0.size)
  clear hb1 hl pR0 hw0
  rcases hor with rfl | ⟨hv0, hsm⟩
  · go_wp2_with fail
    go_ret
    exact ⟨rfl, hw1⟩
  have HSM := Lib.hid hsm
  clear hsm
  obtain ⟨⟨a0, a1⟩, _⟩ := pR1.at2
  by_cases hbig : v - (l.length : Int) < 0
  · have HN := Lib.hid hbig
    clear hbig
    go_wp2_with fail
    refine (szPieceS_any _ _ _ _ _ (by omega) hv0 (by omega)).mono ?_
    rw [if_pos (by have := HN.out; omega)]
    rintro e w2 ⟨rfl, rfl⟩
    go_wp2_with fail
    go_ret
    exact ⟨rfl, hw1⟩
  have hl2 : l.length ≤ 1048576 := by omega
  have HN := Lib.hid hbig
  clear hbig
  go_wp2_with fail
  refine (szPieceS_any _ _ _ _ _ (by omega) hv0 (by omega)).mono ?_
  rw [if_neg (by have := HN.out; omega)]
  rintro e w2 ⟨rfl, rfl⟩
  have hnn : 0 ≤ v - (l.length : Int) := by have := HN.out; omega
  have hs2 := (hs.below hw1).more hw1.size
  have hm2 := (hm.below hw1).more hw1.size
  clear hs hm
  go_wp2_with fail
  refine (toRules_any _ _ _ _ _ hs2 HSM.out).mono ?_
  rintro e wa ⟨ga, ca, rfl, hna, hba⟩
  have hm3 := (hm2.below hba).more hba.size
  clear a0 a1
  go_wp2_with fail
  refine (toPieceS_any _ _ _ _ hm3 hl2).mono ?_
  rintro e wb ⟨gb, cb, rfl, hnb, hbb⟩
  have hna2 := hna.below hbb
  go_wp2_with fail
  refine (specMatOk_any _ _ _ _ _ _ _ _ hna2.is hnb.is HSM.out hl2).mono ?_
  rintro e wc ⟨rfl, hbc⟩
  have h1c := (hba.trans (hbb.mono hba.size)).trans (hbc.mono (hba.trans (hbb.mono hba.size)).size)
  have hW3 := hw1.trans (h1c.mono hw1.size)
  have pR3 := pR1.below h1c pR1.lt
  have hs3 := (hs2.below h1c).more h1c.size
  have hm4 := (hm2.below h1c).more h1c.size
  clear hm3 hna hna2 hnb hba hbb hbc h1c pR1 hs2 hm2 hw1
  obtain ⟨⟨a0, a1⟩, _⟩ := pR3.at2
  go_wp2_with fail
  refine (toRules_any _ _ _ _ _ hs3 HSM.out).mono ?_
  rintro e w4 ⟨g4, c4, rfl, hn4, hb4⟩
  have hX := Blk.new w4 #[.int .i64 side, .slice (some ⟨g4, 0, none⟩) ks.length c4] 31
  have hA := below_of w4 (.cells #[.int .i64 side, .slice (some ⟨g4, 0, none⟩) ks.length c4] 31)
  have hn5 := hn4.below hA
  have pR5 := (pR3.below hb4 pR3.lt).below hA (pR3.below hb4 pR3.lt).lt
  have h45 := hb4.trans (hA.mono hb4.size)
  have hW5 := hW3.trans (h45.mono hW3.size)
  have hs5 := (hs3.below h45).more h45.size
  have hm5 := (hm4.below h45).more h45.size
  clear a0 a1
  go_wp2_with fail
  generalize hZ5 : w4.alloc _ = W5 at *
  generalize hz5 : w4.heap.size = x0 at *
  clear hZ5 hz5 hb4 hn4 hA h45
  refine (toPieceS_any _ _ _ _ hm5 hl2).mono ?_
  rintro e w6 ⟨g6, c6, rfl, hn6, hb6⟩
  have hX7 := hX.below hb6 hX.lt
  have hk7 := hn5.below hb6
  have pR7 := pR5.below hb6 pR5.lt
  have hW7 := hW5.trans (hb6.mono hW5.size)
  have hs7 := (hs5.below hb6).more hb6.size
  have hm7 := (hm5.below hb6).more hb6.size
  obtain ⟨⟨x0a, x1a⟩, _⟩ := hX7.at2
  clear hb6 hX hn5
  go_wp2_with fail
  refine (matOk_any _ _ _ _ _ _ _ _ hk7.is hn6.is HSM.out hl2).mono ?_
  rintro e w8 ⟨rfl, hb8⟩
  have pR8 := pR7.below hb8 pR7.lt
  have hX8 := hX7.below hb8 hX7.lt
  have hk8 := hk7.below hb8
  have hn8 := hn6.below hb8
  have hW8 := hW7.trans (hb8.mono hW7.size)
  have hs8 := (hs7.below hb8).more hb8.size
  have hm8 := (hm7.below hb8).more hb8.size
  clear hb8 pR7 hX7 hk7 hn6 hW7 x0a x1a hs7 hm7
  go_wp2_with fail
  have HS : Hid (∀ w', Below w8.heap.size w8 w' → (w'.cell? ⟨w.heap.size, 0, none⟩ = some (.int .i64 side) ∧ w'.cell? ⟨w.heap.size, 1, none⟩ = some (.slice A ks.length c) ∧ w'.cell? ⟨x0, 0, none⟩ = some (.int .i64 side) ∧ w'.cell? ⟨x0, 1, none⟩ = some (.slice (some ⟨g4, 0, none⟩) ks.length c4))) := Lib.hid (fun w' hb => by
    obtain ⟨⟨a0, a1⟩, _⟩ := (pR8.below hb pR8.lt).at2
    obtain ⟨⟨b0, b1⟩, _⟩ := (hX8.below hb hX8.lt).at2
    exact ⟨a0, a1, b0, b1⟩)
  have hw : Below w8.heap.size w8 w8.drew := (Below.refl _ _).drew
  go_region_held3 (fun w' => w'.cell? ⟨w.heap.size, 0, none⟩ = some (.int .i64 side) ∧ w'.cell? ⟨w.heap.size, 1, none⟩ = some (.slice A ks.length c) ∧ w'.cell? ⟨x0, 0, none⟩ = some (.int .i64 side) ∧ w'.cell? ⟨x0, 1, none⟩ = some (.slice (some ⟨g4, 0, none⟩) ks.length c4))
    (exact HS.out _ hw)
    (first
      | (go_at_call 10; refine (toRules_any _ _ _ _ _ ((hs8.below hw).more hw.size) HSM.out).mono ?_; rintro e wa ⟨ga, ca, rfl, hna, hba⟩; have hw := hw.trans (hba.mono hw.size))
      | (go_at_call 13; refine (eqRules_same _ _ _ _ _ _ _ (hk8.below hw).is hna.is HSM.out).mono ?_; rintro e wb ⟨rfl, hbb⟩; have hw := hw.trans (hbb.mono hw.size)))
  have hW9 := hW8.trans (hw.mono hW8.size)
  have hn9 := hn8.below hw
  have hm9 := (hm8.below hw).more hw.size
  clear hw HS hna
  go_wp2_with fail
  refine (toPieceS_any _ _ _ _ hm9 hl2).mono ?_
  rintro e wd ⟨gd, cd, rfl, hnd, hbd⟩
  have hn10 := hn9.below hbd
  go_wp2_with fail
  refine (eqPieceS_same _ _ _ _ _ _ hn10.is hnd.is hl2).mono ?_
  rintro e we ⟨rfl, hbe⟩
  go_wp2_with fail
  go_ret
  exact ⟨rfl, hW9.trans ((hbd.trans (hbe.mono hbd.size)).mono hW9.size)⟩
end Go.Proofs.Ytoaajkkebnleaaa.Laws
