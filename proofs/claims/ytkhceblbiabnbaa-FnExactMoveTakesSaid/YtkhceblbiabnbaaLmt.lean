/- The walk of the exact law FnExactMoveTakes. -/
import Derived.Test.YtkhceblbiabnbaaOpp
import Derived.Test.YtkhceblbiabnbaaMt
import Derived.Deep.Cut
import Derived.Deep.RegionHeld3
namespace Go.Proofs.Ytkhceblbiabnbaa.Laws
open Go.ChangeShapes Go.WideShapes Go.ChangeAt Go.RowKit Base Sq Ko Opn
set_option linter.unusedVariables false
set_option maxRecDepth 20000

theorem toMove_any (f q : Int) (w : World) :
    Calls Try.prog 30 #[.agg #[.int .i64 f, .int .i64 q]] w fun e w' => e = .returned (.agg #[.int .i64 f, .int .i64 q]) ∧ Below w.heap.size w w' := by
  go_enter Try.func30, Try.ntmps30
  go_wp2
  refine bodyPost_ret (v := .agg #[.int .i64 f, .int .i64 q]) (by simp [results, Try.results30, go_sem]) rfl ⟨rfl, ?_⟩
  exact (by repeat (first | exact Below.refl _ _ | assumption | (refine Below.alloc ?_ (by first | omega | (simp; done) | (simp; omega)) _) | (refine Below.setCell ?_ (by first | omega | (simp; done) | (simp; omega)) _) | refine Below.drew ?_))
theorem cMove : Try.prog.cellsOf 56 = 2 := by kernel_rfl
/-- an argument of the type laws.Move -/
theorem open_move {H : Type} {enc : TypeId × Value → H} {w : World} {v : Value} {d : DataW H} {p : List MemPlace} {b0 : Nat} (hv : Value.okWide Try.prog w .any b0 56 v) (h : DataW.Trod enc Try.prog w 0 (fun _ => true) true 56 v d p) :
    ∃ f q, v = .agg #[.int .i64 f, .int .i64 q] := by
  obtain ⟨cs, rfl, hsz⟩ := okWide_struct Try.underlying56 hv
  obtain ⟨fuel, hf⟩ := h
  obtain ⟨c0, c1, y0, y1, m, hcs, h0, h1⟩ := rd2 (cs := cs.toList) Try.underlying56 (by kernel_rfl) cMove (by simpa [Value.cells] using hf)
  obtain ⟨a, rfl, _⟩ := rd_int Try.underlying3 h0
  obtain ⟨b, rfl, _⟩ := rd_int Try.underlying3 h1
  exact ⟨a, b, by rw [← Array.toArray_toList (xs := cs), hcs]⟩

set_option maxHeartbeats 8000000 in
theorem fnExactMoveTakes_walk {H : Type} {enc : TypeId × Value → H} {d d' d'' : DataW H} {p p' p'' : List MemPlace} {b0 : Nat} (w : World) (v : Value) (hv : Value.okWide Try.prog w .any b0 29 v) (h : DataW.Trod enc Try.prog w 0 (fun _ => true) true 29 v d p)
    (v' : Value) (hv' : Value.okWide Try.prog w .any b0 46 v') (h' : DataW.Trod enc Try.prog w 0 (fun _ => true) true 46 v' d' p')
    (v'' : Value) (hv'' : Value.okWide Try.prog w .any b0 56 v'') (h'' : DataW.Trod enc Try.prog w 0 (fun _ => true) true 56 v'' d'' p'') :
    Calls Try.prog 8 #[v, v', v''] w fun e w' => e = .returned (.bool true) ∧ Below w.heap.size w w' := by
  obtain ⟨side, A, c, ks, rfl, hl, hs⟩ := open_rules hv h
  obtain ⟨t, M, cm, l, rfl, hl', _, hm⟩ := open_pos hv' h'
  obtain ⟨f, q, rfl⟩ := open_move hv'' h''
  clear hv h hv' h' hv'' h''
  unfold maxLen at hl'
  go_enter Try.func8, Try.ntmps8
  go_wp2_with fail
  have hw0 : Below w.heap.size w (((w.alloc (.cells #[.int .i64 side, .slice A ks.length c] 29)).alloc (.cells #[.int .i64 t, .slice M l.length cm] 46)).alloc (.cells #[.int .i64 f, .int .i64 q] 56)) := (by repeat (first | exact Below.refl _ _ | assumption | (refine Below.alloc ?_ (by first | omega | (simp; done) | (simp; omega)) _) | (refine Below.setCell ?_ (by first | omega | (simp; done) | (simp; omega)) _) | refine Below.drew ?_))
  have pR0 := ((Blk.new w #[.int .i64 side, .slice A ks.length c] 29).alloc (.cells #[.int .i64 t, .slice M l.length cm] 46)).alloc (.cells #[.int .i64 f, .int .i64 q] 56)
  have pP0 := (Blk.new (w.alloc (.cells #[.int .i64 side, .slice A ks.length c] 29)) #[.int .i64 t, .slice M l.length cm] 46).alloc (.cells #[.int .i64 f, .int .i64 q] 56)
  have pM0 := Blk.new ((w.alloc (.cells #[.int .i64 side, .slice A ks.length c] 29)).alloc (.cells #[.int .i64 t, .slice M l.length cm] 46)) #[.int .i64 f, .int .i64 q] 56
  simp only [World.size_alloc] at pP0 pM0
  generalize hW0 : ((w.alloc _).alloc _).alloc _ = W0 at *
  clear hW0
  refine (szRules_any _ _ _ _ _ _ ((hs.below hw0).more hw0.size) hl (by omega) (by omega)).mono ?_
  rintro e w1 ⟨v, rfl, hv1, hor, hb1⟩
  have pR1 := pR0.below hb1 pR0.lt
  have pP1 := pP0.below hb1 pP0.lt
  have pM1 := pM0.below hb1 pM0.lt
  have hw1 := hw0.trans (hb1.mono hw0.size)
  clear hb1 hl pR0 pP0 pM0 hw0
  rcases hor with rfl | ⟨hv0, hsm⟩
  · go_wp2_with fail
    go_ret
    exact ⟨rfl, hw1⟩
  have HSM := Lib.hid hsm
  clear hsm
  obtain ⟨⟨a0, a1⟩, _⟩ := pR1.at2
  obtain ⟨⟨b0, b1⟩, _⟩ := pP1.at2
  by_cases hbig : v - (l.length : Int) < 0
  · have HN := Lib.hid hbig
    clear hbig
    go_wp2_with fail
    refine (szPos_any _ _ _ _ _ _ (by omega) hv0 (by omega)).mono ?_
    rw [if_pos (by have := HN.out; omega)]
    rintro e w2 ⟨rfl, hb2⟩
    go_wp2_with fail
    go_ret
    exact ⟨rfl, hw1.trans (hb2.mono hw1.size)⟩
  have hl2 : l.length ≤ 1048576 := by omega
  have HN := Lib.hid hbig
  clear hbig
  go_wp2_with fail
  refine (szPos_any _ _ _ _ _ _ (by omega) hv0 (by omega)).mono ?_
  rw [if_neg (by have := HN.out; omega)]
  rintro e w2 ⟨rfl, hb2⟩
  have hnn : 0 ≤ v - (l.length : Int) := by have := HN.out; omega
  have pR := pR1.below hb2 pR1.lt
  have pP := pP1.below hb2 pP1.lt
  have pM := pM1.below hb2 pM1.lt
  have hW := hw1.trans (hb2.mono hw1.size)
  have hs2 := (hs.below hW).more hW.size
  have hm2 := (hm.below hW).more hW.size
  clear hb2 pR1 pP1 pM1 hw1 a0 a1 b0 b1 hs hm
  obtain ⟨⟨a0, a1⟩, _⟩ := pR.at2
  obtain ⟨⟨b0, b1⟩, _⟩ := pP.at2
  obtain ⟨⟨c0, c1⟩, _⟩ := pM.at2
  go_wp2_with fail
  go_cut [8] from 22 (fun s8 wx => s8 = .bool (takesB side ks t l f q) ∧ Below w2.heap.size w2 wx)
  case first =>
    have HS : Hid (∀ w', Below w2.heap.size w2 w' → (w'.cell? ⟨w.heap.size, 0, none⟩ = some (.int .i64 side) ∧ w'.cell? ⟨w.heap.size, 1, none⟩ = some (.slice A ks.length c) ∧ w'.cell? ⟨w.heap.size + 1, 0, none⟩ = some (.int .i64 t) ∧ w'.cell? ⟨w.heap.size + 1, 1, none⟩ = some (.slice M l.length cm) ∧ w'.cell? ⟨w.heap.size + 1 + 1, 0, none⟩ = some (.int .i64 f) ∧ w'.cell? ⟨w.heap.size + 1 + 1, 1, none⟩ = some (.int .i64 q))) := Lib.hid (fun w' hb => by
      obtain ⟨⟨a0, a1⟩, _⟩ := (pR.below hb pR.lt).at2
      obtain ⟨⟨b0, b1⟩, _⟩ := (pP.below hb pP.lt).at2
      obtain ⟨⟨c0, c1⟩, _⟩ := (pM.below hb pM.lt).at2
      exact ⟨a0, a1, b0, b1, c0, c1⟩)
    have hw : Below w2.heap.size w2 w2.drew := (Below.refl _ _).drew
    go_region_held3 (fun w' => w'.cell? ⟨w.heap.size, 0, none⟩ = some (.int .i64 side) ∧ w'.cell? ⟨w.heap.size, 1, none⟩ = some (.slice A ks.length c) ∧ w'.cell? ⟨w.heap.size + 1, 0, none⟩ = some (.int .i64 t) ∧ w'.cell? ⟨w.heap.size + 1, 1, none⟩ = some (.slice M l.length cm) ∧ w'.cell? ⟨w.heap.size + 1 + 1, 0, none⟩ = some (.int .i64 f) ∧ w'.cell? ⟨w.heap.size + 1 + 1, 1, none⟩ = some (.int .i64 q))
      (exact HS.out _ hw)
      (first
        | (go_at_call 17; refine (toRules_any _ _ _ _ _ ((hs2.below hw).more hw.size) HSM.out).mono ?_; rintro e wa ⟨ga, ca, rfl, hna, hba⟩; have hw := hw.trans (hba.mono hw.size); try (have hnb := hnb.below hba))
        | (go_at_call 26; refine (toPos_any _ _ _ _ _ ((hm2.below hw).more hw.size) hl2).mono ?_; rintro e wb ⟨gb, cb, rfl, hnb, hbb⟩; have hw := hw.trans (hbb.mono hw.size); try (have hna := hna.below hbb))
        | (go_at_call 30; refine (toMove_any _ _ _).mono ?_; rintro e wm ⟨rfl, hbm⟩; have hw := hw.trans (hbm.mono hw.size); try (have hna := hna.below hbm); try (have hnb := hnb.below hbm))
        | (go_at_call 29; refine (specMoveTakes_any _ _ _ _ _ _ _ _ _ _ _ hna.is hnb.is HSM.out hl2).mono ?_; rintro e wc ⟨rfl, hbc⟩; have hw := hw.trans (hbc.mono hw.size)))
    all_goals
      go_wp2_with fail
      go_meet
      exact ⟨rfl, hw⟩
  obtain ⟨rfl, hw⟩ := hcut
  rename_i wx
  have hW3 := hW.trans (hw.mono hW.size)
  have pR3 := pR.below hw pR.lt
  have pP3 := pP.below hw pP.lt
  have pM3 := pM.below hw pM.lt
  have hs3 := (hs2.below hw).more hw.size
  have hm3 := (hm2.below hw).more hw.size
  clear hw a0 a1 b0 b1 c0 c1 hs2 hm2 pR pP pM hW
  obtain ⟨⟨a0, a1⟩, _⟩ := pR3.at2
  obtain ⟨⟨b0, b1⟩, _⟩ := pP3.at2
  obtain ⟨⟨c0, c1⟩, _⟩ := pM3.at2
  generalize hVV : (takesB side ks t l f q) = VV at *
  have HVV := Lib.hid hVV
  clear hVV
  go_wp2_with fail
  refine (toRules_any _ _ _ _ _ hs3 HSM.out).mono ?_
  rintro e w4 ⟨g4, c4, rfl, hn4, hb4⟩
  have hX := Blk.new w4 #[.int .i64 side, .slice (some ⟨g4, 0, none⟩) ks.length c4] 36
  have hA := below_of w4 (.cells #[.int .i64 side, .slice (some ⟨g4, 0, none⟩) ks.length c4] 36)
  have hn5 := hn4.below hA
  have pP5 := (pP3.below hb4 pP3.lt).below hA (pP3.below hb4 pP3.lt).lt
  have pR5 := (pR3.below hb4 pR3.lt).below hA (pR3.below hb4 pR3.lt).lt
  have pM5 := (pM3.below hb4 pM3.lt).below hA (pM3.below hb4 pM3.lt).lt
  have h45 := hb4.trans (hA.mono hb4.size)
  have hW5 := hW3.trans (h45.mono hW3.size)
  have hs5 := (hs3.below h45).more h45.size
  have hm5 := (hm3.below h45).more h45.size
  obtain ⟨⟨b0, b1⟩, _⟩ := pP5.at2
  clear a0 a1
  go_wp2_with fail
  generalize hZ5 : w4.alloc _ = W5 at *
  generalize hz5 : w4.heap.size = x0 at *
  clear hZ5 hz5 hb4 hn4 hA h45
  refine (toPos_any _ _ _ _ _ hm5 hl2).mono ?_
  rintro e w6 ⟨g6, c6, rfl, hn6, hb6⟩
  have hY := Blk.new w6 #[.int .i64 t, .slice (some ⟨g6, 0, none⟩) l.length c6] 51
  have hB := below_of w6 (.cells #[.int .i64 t, .slice (some ⟨g6, 0, none⟩) l.length c6] 51)
  have hn7 := hn6.below hB
  have h67 := hb6.trans (hB.mono hb6.size)
  have hX7 := hX.below h67 hX.lt
  have hk7 := hn5.below h67
  have pP7 := pP5.below h67 pP5.lt
  have pR7 := pR5.below h67 pR5.lt
  have pM7 := pM5.below h67 pM5.lt
  have hW7 := hW5.trans (h67.mono hW5.size)
  have hs7 := (hs5.below h67).more h67.size
  have hm7 := (hm5.below h67).more h67.size
  obtain ⟨⟨x0a, x1a⟩, _⟩ := hX7.at2
  obtain ⟨⟨y0a, y1a⟩, _⟩ := hY.at2
  have lX := (hX.below hb6 hX.lt).lt
  clear b0 b1
  obtain ⟨⟨xx0, xx1⟩, _⟩ := (hX.below hb6 hX.lt).at2
  go_wp2_with fail
  generalize hZ7 : w6.alloc _ = W7 at *
  generalize hz7 : w6.heap.size = x1 at *
  clear hZ7 hz7 hb6 hn6 hB h67 hX hn5 xx0 xx1 lX
  have HS : Hid (∀ w', Below W7.heap.size W7 w' → (w'.cell? ⟨x0, 0, none⟩ = some (.int .i64 side) ∧ w'.cell? ⟨x0, 1, none⟩ = some (.slice (some ⟨g4, 0, none⟩) ks.length c4) ∧ w'.cell? ⟨x1, 0, none⟩ = some (.int .i64 t) ∧ w'.cell? ⟨x1, 1, none⟩ = some (.slice (some ⟨g6, 0, none⟩) l.length c6) ∧ w'.cell? ⟨w.heap.size + 1 + 1, 0, none⟩ = some (.int .i64 f) ∧ w'.cell? ⟨w.heap.size + 1 + 1, 1, none⟩ = some (.int .i64 q))) := Lib.hid (fun w' hb => by
    obtain ⟨⟨a0, a1⟩, _⟩ := (hX7.below hb hX7.lt).at2
    obtain ⟨⟨b0, b1⟩, _⟩ := (hY.below hb hY.lt).at2
    obtain ⟨⟨c0, c1⟩, _⟩ := (pM7.below hb pM7.lt).at2
    exact ⟨a0, a1, b0, b1, c0, c1⟩)
  clear x0a x1a y0a y1a
  have hw : Below W7.heap.size W7 W7.drew := (Below.refl _ _).drew
  go_region_held3 (fun w' => w'.cell? ⟨x0, 0, none⟩ = some (.int .i64 side) ∧ w'.cell? ⟨x0, 1, none⟩ = some (.slice (some ⟨g4, 0, none⟩) ks.length c4) ∧ w'.cell? ⟨x1, 0, none⟩ = some (.int .i64 t) ∧ w'.cell? ⟨x1, 1, none⟩ = some (.slice (some ⟨g6, 0, none⟩) l.length c6) ∧ w'.cell? ⟨w.heap.size + 1 + 1, 0, none⟩ = some (.int .i64 f) ∧ w'.cell? ⟨w.heap.size + 1 + 1, 1, none⟩ = some (.int .i64 q))
    (exact HS.out _ hw)
    (first
      | (go_at_call 30; refine (toMove_any _ _ _).mono ?_; rintro e wm ⟨rfl, hbm⟩; have hw := hw.trans (hbm.mono hw.size))
      | (go_at_call 31; refine (moveTakes_any _ _ _ _ _ _ _ _ _ _ _ (hk7.below hw).is (hn7.below hw).is HSM.out hl2).mono ?_; rw [HVV.out]; rintro e w8 ⟨rfl, hbc⟩; have hw := hw.trans (hbc.mono hw.size)))
  have hb8 := hw
  have pR8 := pR7.below hb8 pR7.lt
  have pP8 := pP7.below hb8 pP7.lt
  have hX8 := hX7.below hb8 hX7.lt
  have hY8 := hY.below hb8 hY.lt
  have hk8 := hk7.below hb8
  have hn8 := hn7.below hb8
  have hW8 := hW7.trans (hb8.mono hW7.size)
  have hs8 := (hs7.below hb8).more hb8.size
  have hm8 := (hm7.below hb8).more hb8.size
  clear hb8 hw HS pR7 pP7 pM7 hX7 hY hk7 hn7 hW7 hs7 hm7
  obtain ⟨⟨a0, a1⟩, _⟩ := pR8.at2
  obtain ⟨⟨b0, b1⟩, _⟩ := pP8.at2
  obtain ⟨⟨x0a, x1a⟩, _⟩ := hX8.at2
  obtain ⟨⟨y0a, y1a⟩, _⟩ := hY8.at2
  go_wp2_with fail
  have HS : Hid (∀ w', Below w8.heap.size w8 w' → (w'.cell? ⟨w.heap.size, 0, none⟩ = some (.int .i64 side) ∧ w'.cell? ⟨w.heap.size, 1, none⟩ = some (.slice A ks.length c) ∧ w'.cell? ⟨x0, 0, none⟩ = some (.int .i64 side) ∧ w'.cell? ⟨x0, 1, none⟩ = some (.slice (some ⟨g4, 0, none⟩) ks.length c4))) := Lib.hid (fun w' hb => by
    obtain ⟨⟨a0, a1⟩, _⟩ := (pR8.below hb pR8.lt).at2
    obtain ⟨⟨b0, b1⟩, _⟩ := (hX8.below hb hX8.lt).at2
    exact ⟨a0, a1, b0, b1⟩)
  have hw : Below w8.heap.size w8 w8.drew := (Below.refl _ _).drew
  go_region_held3 (fun w' => w'.cell? ⟨w.heap.size, 0, none⟩ = some (.int .i64 side) ∧ w'.cell? ⟨w.heap.size, 1, none⟩ = some (.slice A ks.length c) ∧ w'.cell? ⟨x0, 0, none⟩ = some (.int .i64 side) ∧ w'.cell? ⟨x0, 1, none⟩ = some (.slice (some ⟨g4, 0, none⟩) ks.length c4))
    (exact HS.out _ hw)
    (first
      | (go_at_call 17; refine (toRules_any _ _ _ _ _ ((hs8.below hw).more hw.size) HSM.out).mono ?_; rintro e wa ⟨ga, ca, rfl, hna, hba⟩; have hw := hw.trans (hba.mono hw.size))
      | (go_at_call 20; refine (eqRules_same _ _ _ _ _ _ _ (hk8.below hw).is hna.is HSM.out).mono ?_; rintro e wb ⟨rfl, hbb⟩; have hw := hw.trans (hbb.mono hw.size)))
  have hW9 := hW8.trans (hw.mono hW8.size)
  have pP9 := pP8.below hw pP8.lt
  have hY9 := hY8.below hw hY8.lt
  have hn9 := hn8.below hw
  have hm9 := (hm8.below hw).more hw.size
  clear hw HS hna a0 a1 b0 b1 x0a x1a y0a y1a
  rename_i w9
  obtain ⟨⟨b0, b1⟩, _⟩ := pP9.at2
  obtain ⟨⟨y0a, y1a⟩, _⟩ := hY9.at2
  go_wp2_with fail
  have HS : Hid (∀ w', Below wb.heap.size wb w' → (w'.cell? ⟨w.heap.size + 1, 0, none⟩ = some (.int .i64 t) ∧ w'.cell? ⟨w.heap.size + 1, 1, none⟩ = some (.slice M l.length cm) ∧ w'.cell? ⟨x1, 0, none⟩ = some (.int .i64 t) ∧ w'.cell? ⟨x1, 1, none⟩ = some (.slice (some ⟨g6, 0, none⟩) l.length c6))) := Lib.hid (fun w' hb => by
    obtain ⟨⟨a0, a1⟩, _⟩ := (pP9.below hb pP9.lt).at2
    obtain ⟨⟨b0, b1⟩, _⟩ := (hY9.below hb hY9.lt).at2
    exact ⟨a0, a1, b0, b1⟩)
  have hw : Below wb.heap.size wb wb.drew := (Below.refl _ _).drew
  go_region_held3 (fun w' => w'.cell? ⟨w.heap.size + 1, 0, none⟩ = some (.int .i64 t) ∧ w'.cell? ⟨w.heap.size + 1, 1, none⟩ = some (.slice M l.length cm) ∧ w'.cell? ⟨x1, 0, none⟩ = some (.int .i64 t) ∧ w'.cell? ⟨x1, 1, none⟩ = some (.slice (some ⟨g6, 0, none⟩) l.length c6))
    (exact HS.out _ hw)
    (first
      | (go_at_call 26; refine (toPos_any _ _ _ _ _ ((hm9.below hw).more hw.size) hl2).mono ?_; rintro e wd ⟨gd, cd, rfl, hnd, hbd⟩; have hw := hw.trans (hbd.mono hw.size))
      | (go_at_call 28; refine (eqPos_same _ _ _ _ _ _ _ (hn9.below hw).is hnd.is hl2).mono ?_; rintro e we ⟨rfl, hbe⟩; have hw := hw.trans (hbe.mono hw.size)))
  go_wp2_with fail
  go_ret
  exact ⟨rfl, hW9.trans (hw.mono hW9.size)⟩
end Go.Proofs.Ytkhceblbiabnbaa.Laws
