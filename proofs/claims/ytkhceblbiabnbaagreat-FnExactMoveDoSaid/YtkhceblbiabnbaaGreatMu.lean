/- The program's MoveDo. -/
import Derived.Test.YtkhceblbiabnbaaGreatMt
namespace Go.Proofs.YtkhceblbiabnbaaGreat.Ko
open Go.ChangeShapes Go.WideShapes Go.ChangeAt Go.RowKit Base Sq
set_option linter.unusedVariables false
set_option maxRecDepth 20000
attribute [local irreducible] wpQuiet

theorem mdL_len (side : Int) (ks : List Kd) (t : Int) (l : List St) (f q : Int) : (mdL side ks t l f q).length ≤ 1048576 := by
  unfold mdL
  by_cases h : moveB side ks t l f q = true
  · rw [if_pos h]
    unfold moveB at h
    simp only [Bool.and_eq_true] at h
    obtain ⟨hok, hsh, _⟩ := posB_facts h.1
    obtain ⟨n, hn, hn1, _⟩ := canB_facts (rulesOk_facts hok).1 hsh h.2
    rw [hn, Int.toNat_natCast]
    have h1 := doL_len (q := q) hn1
    have h2 := (shapeB_facts hsh).2.1
    omega
  · rw [if_neg h]; exact Nat.zero_le _

set_option maxHeartbeats 2000000 in
theorem moved_any (t : Int) (M : Option Addr) (cm : Nat) (l : List St) (f q : Int) (n : Nat) (w : World) (hM : IsSteps w w.heap.size M l) (ht : 0 ≤ t ∧ t ≤ 1) (hl : l.length ≤ 4) (hn : manV l f = (n : Int)) (hi : n < l.length) (hu : Up l) :
    Calls Tryz.prog 26 #[.agg #[.int .i64 t, .slice M l.length cm], .agg #[.int .i64 f, .int .i64 q]] w fun e w' => DoPost w w' t l n q e := by
  have HT := Lib.hid ht
  have HNN := Lib.hid hn
  have HU := Lib.hid hu
  clear ht hn hu
  go_enter Tryz.func26, Tryz.ntmps26
  go_wp2_with fail
  have hb0 : Below w.heap.size w (((w.alloc (.cells #[.int .i64 t, .slice M l.length cm] 34)).alloc (.cells #[.int .i64 f, .int .i64 q] 42)).alloc (.cells #[.int .i64 0, .slice none 0 0] 34)) := (by repeat (first | exact Below.refl _ _ | assumption | (refine Below.alloc ?_ (by first | omega | (simp; done) | (simp; omega)) _) | (refine Below.setCell ?_ (by first | omega | (simp; done) | (simp; omega)) _) | refine Below.drew ?_))
  have p1 := ((Blk.new w #[.int .i64 t, .slice M l.length cm] 34).alloc (.cells #[.int .i64 f, .int .i64 q] 42)).alloc (.cells #[.int .i64 0, .slice none 0 0] 34)
  have p2 := (Blk.new (w.alloc (.cells #[.int .i64 t, .slice M l.length cm] 34)) #[.int .i64 f, .int .i64 q] 42).alloc (.cells #[.int .i64 0, .slice none 0 0] 34)
  have p3 := Blk.new ((w.alloc (.cells #[.int .i64 t, .slice M l.length cm] 34)).alloc (.cells #[.int .i64 f, .int .i64 q] 42)) #[.int .i64 0, .slice none 0 0] 34
  simp only [World.size_alloc] at p2 p3
  generalize hW3 : ((w.alloc _).alloc _).alloc _ = W3 at *
  clear hW3
  have HP1 := Lib.hid p1
  have HP2 := Lib.hid p2
  have HP3 := Lib.hid p3
  have HBE := Lib.hid hb0
  have z1 := p1.lt
  have z2 := p2.lt
  have z3 := p3.lt
  have hz := hb0.size
  have HM := Lib.hid ((hM.below hb0).more hb0.size)
  clear p1 p2 p3 hb0 hM
  have HS : Hid (∀ w', Blk w' w.heap.size #[.int .i64 t, .slice M l.length cm] 34 → Blk w' (w.heap.size + 1) #[.int .i64 f, .int .i64 q] 42 → (w'.cell? ⟨w.heap.size, 0, none⟩ = some (.int .i64 t) ∧ w'.cell? ⟨w.heap.size, 1, none⟩ = some (.slice M l.length cm) ∧ w'.cell? ⟨w.heap.size + 1, 0, none⟩ = some (.int .i64 f) ∧ w'.cell? ⟨w.heap.size + 1, 1, none⟩ = some (.int .i64 q))) := Lib.hid (fun w' h1 h5 => by
    obtain ⟨⟨a0, a1⟩, _⟩ := h1.at2
    obtain ⟨⟨b0, b1⟩, _⟩ := h5.at2
    exact ⟨a0, a1, b0, b1⟩)
  have hw : Below W3.heap.size W3 W3.drew := (Below.refl _ _).drew
  obtain ⟨⟨c0, c1⟩, ⟨c2, c3⟩⟩ := (HP3.out.below hw z3).at2
  go_region_held3 (fun w' => w'.cell? ⟨w.heap.size, 0, none⟩ = some (.int .i64 t) ∧ w'.cell? ⟨w.heap.size, 1, none⟩ = some (.slice M l.length cm) ∧ w'.cell? ⟨w.heap.size + 1, 0, none⟩ = some (.int .i64 f) ∧ w'.cell? ⟨w.heap.size + 1, 1, none⟩ = some (.int .i64 q))
    (first
      | exact HS.out _ (HP1.out.below hw z1) (HP2.out.below hw z2)
      | exact HS.out _ (((HP1.out.below hw z1).other _ _ (by show w.heap.size ≠ w.heap.size + 1 + 1; omega)).other _ _ (by show w.heap.size ≠ w.heap.size + 1 + 1; omega)) (((HP2.out.below hw z2).other _ _ (by show w.heap.size + 1 ≠ w.heap.size + 1 + 1; omega)).other _ _ (by show w.heap.size + 1 ≠ w.heap.size + 1 + 1; omega)))
    (first
      | (go_at_call 48; refine (manAt_any _ _ _ _ _ ((HM.out.below hw).more hw.size) (by omega)).mono ?_; rw [HNN.out]; rintro e wm ⟨rfl, hbm⟩; have hw := hw.trans (hbm.mono hw.size))
      | (go_at_call 51; refine (after_any _ _ _ _ _ _ _ ((HM.out.below hw).more hw.size) HT.out hl hi HU.out).mono ?_; rintro e wa ⟨Aa, ca, rfl, hna, hba⟩; have hzx := hw.size; have hw := hw.trans (hba.mono hw.size); obtain ⟨⟨c0, c1⟩, ⟨c2, c3⟩⟩ := (HP3.out.below hw z3).at2))
  all_goals
    go_wp2_with fail
    have p3q := HP3.out.below hw z3
    have hbq := HBE.out.trans (hw.mono hz)
    refine bodyPost_ret (v := .agg #[.int .i64 (1 - t), .slice Aa (doL l n q).length ca]) ?_ rfl ⟨Aa, ca, ?_, ?_, ?_⟩
    · obtain ⟨⟨d0, d1⟩, _⟩ := (p3q.set2 (.int .i64 (1 - t)) (.slice Aa (doL l n q).length ca)).at2
      simp [results, Tryz.results26, go_sem, d0, d1]
    · rfl
    · exact fun hn => by
        obtain ⟨gg, cc', rfl, g1, g2, g3, g4, g5⟩ := hna hn
        exact ⟨gg, cc', rfl, by omega, by simpa [size_set] using g2, (g3.other _ _ (by show gg ≠ w.heap.size + 1 + 1; omega)).other _ _ (by show gg ≠ w.heap.size + 1 + 1; omega), g4, g5⟩
    · exact (hbq.setCell (by show w.heap.size ≤ w.heap.size + 1 + 1; omega) _).setCell (by show w.heap.size ≤ w.heap.size + 1 + 1; omega) _

set_option maxHeartbeats 2000000 in
theorem moveDo_any (side : Int) (A : Option Addr) (c : Nat) (ks : List Kd) (t : Int) (M : Option Addr) (cm : Nat) (l : List St) (f q : Int) (w : World) (hR : IsKinds w w.heap.size A ks) (hM : IsSteps w w.heap.size M l)
    (hsm : Small ks) (hl : l.length ≤ 1048576) :
    Calls Tryz.prog 10 #[.agg #[.int .i64 side, .slice A ks.length c], .agg #[.int .i64 t, .slice M l.length cm], .agg #[.int .i64 f, .int .i64 q]] w fun e w' => MoveDoPost w w' side ks t l f q e := by
  go_enter Tryz.func10, Tryz.ntmps10
  go_wp2_with fail
  have hb0 : Below w.heap.size w ((((w.alloc (.cells #[.int .i64 side, .slice A ks.length c] 39)).alloc (.cells #[.int .i64 t, .slice M l.length cm] 34)).alloc (.cells #[.int .i64 f, .int .i64 q] 42)).alloc (.cells #[.int .i64 0, .slice none 0 0] 34)) := (by repeat (first | exact Below.refl _ _ | assumption | (refine Below.alloc ?_ (by first | omega | (simp; done) | (simp; omega)) _) | (refine Below.setCell ?_ (by first | omega | (simp; done) | (simp; omega)) _) | refine Below.drew ?_))
  have p1 := (((Blk.new w #[.int .i64 side, .slice A ks.length c] 39).alloc (.cells #[.int .i64 t, .slice M l.length cm] 34)).alloc (.cells #[.int .i64 f, .int .i64 q] 42)).alloc (.cells #[.int .i64 0, .slice none 0 0] 34)
  have p2 := ((Blk.new (w.alloc (.cells #[.int .i64 side, .slice A ks.length c] 39)) #[.int .i64 t, .slice M l.length cm] 34).alloc (.cells #[.int .i64 f, .int .i64 q] 42)).alloc (.cells #[.int .i64 0, .slice none 0 0] 34)
  have p3 := (Blk.new ((w.alloc (.cells #[.int .i64 side, .slice A ks.length c] 39)).alloc (.cells #[.int .i64 t, .slice M l.length cm] 34)) #[.int .i64 f, .int .i64 q] 42).alloc (.cells #[.int .i64 0, .slice none 0 0] 34)
  have p4 := Blk.new (((w.alloc (.cells #[.int .i64 side, .slice A ks.length c] 39)).alloc (.cells #[.int .i64 t, .slice M l.length cm] 34)).alloc (.cells #[.int .i64 f, .int .i64 q] 42)) #[.int .i64 0, .slice none 0 0] 34
  simp only [World.size_alloc] at p2 p3 p4
  generalize hW0 : (((w.alloc _).alloc _).alloc _).alloc _ = W0 at *
  clear hW0
  refine (posOk_any _ _ _ _ _ _ _ _ _ ((hR.below hb0).more hb0.size) ((hM.below hb0).more hb0.size) hsm hl).mono ?_
  rintro e w2 ⟨rfl, hb2⟩
  have p1' := p1.below hb2 p1.lt
  have p2' := p2.below hb2 p2.lt
  have p3' := p3.below hb2 p3.lt
  have p4' := p4.below hb2 p4.lt
  have hb0' := hb0.trans (hb2.mono hb0.size)
  obtain ⟨⟨r0, r1⟩, _⟩ := p1'.at2
  obtain ⟨⟨o0, o1⟩, _⟩ := p2'.at2
  obtain ⟨⟨m0, m1⟩, _⟩ := p3'.at2
  obtain ⟨⟨u0, u1⟩, ⟨u2, u3⟩⟩ := p4'.at2
  clear p1 p2 p3 p4 hb0 hb2
  have hfin : ∀ w' : World, Blk w' (w.heap.size + 1 + 1 + 1) #[.int .i64 0, .slice none 0 0] 34 → Below w.heap.size w w' →
      moveB side ks t l f q = false → MoveDoPost w ((w'.setCell ⟨w.heap.size + 1 + 1 + 1, 0, none⟩ (.int .i64 0)).setCell ⟨w.heap.size + 1 + 1 + 1, 1, none⟩ (.slice none 0 0)) side ks t l f q (.returned (.tuple #[.agg #[.int .i64 0, .slice none 0 0], .bool false])) := fun w' hk hb hn => by
    obtain ⟨e1, e2⟩ := md_no hn
    refine ⟨none, 0, by rw [e1, e2, hn]; rfl, by rw [e2]; exact MenA.nil _ _ _ _, (hb.setCell (by show w.heap.size ≤ w.heap.size + 1 + 1 + 1; omega) _).setCell (by show w.heap.size ≤ w.heap.size + 1 + 1 + 1; omega) _⟩
  have HFIN := Lib.hid hfin
  clear hfin
  cases hp : posB side ks t l
  · have HP := Lib.hid (moveB_bad (f := f) (q := q) hp)
    clear hp
    go_wp2_with fail
    refine bodyPost_ret (v := .tuple #[.agg #[.int .i64 0, .slice none 0 0], .bool false]) ?_ rfl (HFIN.out _ p4' hb0' HP.out)
    obtain ⟨⟨d0, d1⟩, _⟩ := (p4'.set2 (.int .i64 0) (.slice none 0 0)).at2
    simp [results, Tryz.results10, go_sem, d0, d1]
  · obtain ⟨hok, hsh, _⟩ := posB_facts hp
    have hs := (rulesOk_facts hok).1
    have HP := Lib.hid hp
    have HO := Lib.hid hok
    have HS := Lib.hid hsh
    have HSS := Lib.hid hs
    clear hp hok hsh hs
    go_wp2_with fail
    refine (isMove_any _ _ _ _ _ _ _ _ _ _ _ ((hR.below hb0').more hb0'.size) ((hM.below hb0').more hb0'.size) HO.out HS.out).mono ?_
    rintro e w3 ⟨rfl, hb3⟩
    have p1 := p1'.below hb3 p1'.lt
    have p2 := p2'.below hb3 p2'.lt
    have p3 := p3'.below hb3 p3'.lt
    have p4 := p4'.below hb3 p4'.lt
    have hb0 := hb0'.trans (hb3.mono hb0'.size)
    clear p1' p2' p3' p4' hb0' hb3 r0 r1 o0 o1 m0 m1 u0 u1 u2 u3
    obtain ⟨⟨r0, r1⟩, _⟩ := p1.at2
    obtain ⟨⟨o0, o1⟩, _⟩ := p2.at2
    obtain ⟨⟨m0, m1⟩, _⟩ := p3.at2
    obtain ⟨⟨u0, u1⟩, ⟨u2, u3⟩⟩ := p4.at2
    cases hcn : canB side ks t l f q
    · have HN := Lib.hid ((moveB_ok HP.out).trans hcn)
      clear hcn
      go_wp2_with fail
      refine bodyPost_ret (v := .tuple #[.agg #[.int .i64 0, .slice none 0 0], .bool false]) ?_ rfl (HFIN.out _ p4 hb0 HN.out)
      obtain ⟨⟨d0, d1⟩, _⟩ := (p4.set2 (.int .i64 0) (.slice none 0 0)).at2
      simp [results, Tryz.results10, go_sem, d0, d1]
    · have HN := Lib.hid ((moveB_ok HP.out).trans hcn)
      obtain ⟨n, hn, hn1, hn2, _, _, hfr⟩ := canB_facts HSS.out HS.out hcn
      have HNN := Lib.hid hn
      clear hcn hfr hn hn2
      go_wp2_with fail
      refine (moved_any _ _ _ _ _ _ _ _ ((hM.below hb0).more hb0.size) (shapeB_facts HS.out).1 (shapeB_facts HS.out).2.1 HNN.out hn1 (shapeB_up HS.out)).mono ?_
      rintro e w4 ⟨Aa, ca, rfl, hna, hb4⟩
      have p4' := p4.below hb4 p4.lt
      have hb5 := hb0.trans (hb4.mono hb0.size)
      have hz0 := hb0.size
      have zp := p4.lt
      obtain ⟨⟨v0, v1⟩, ⟨v2, v3⟩⟩ := p4'.at2
      clear p1 p2 p3 p4 hb0 hb4 r0 r1 o0 o1 m0 m1 u0 u1 u2 u3
      go_wp2_with fail
      obtain ⟨e1, e2⟩ := md_yes HN.out HNN.out
      refine bodyPost_ret (v := .tuple #[.agg #[.int .i64 (1 - t), .slice Aa (doL l n q).length ca], .bool true]) ?_ rfl ⟨Aa, ca, ?_, ?_, ?_⟩
      · obtain ⟨⟨d0, d1⟩, _⟩ := (p4'.set2 (.int .i64 (1 - t)) (.slice Aa (doL l n q).length ca)).at2
        simp [results, Tryz.results10, go_sem, d0, d1]
      · rw [e1, e2, HN.out]
      · rw [e2]
        exact fun hn => by
          obtain ⟨gg, cc', rfl, g1, g2, g3, g4, g5⟩ := hna hn
          exact ⟨gg, cc', rfl, by omega, by simpa [size_set] using g2, (g3.other _ _ (by show gg ≠ w.heap.size + 1 + 1 + 1; omega)).other _ _ (by show gg ≠ w.heap.size + 1 + 1 + 1; omega), g4, g5⟩
      · exact (hb5.setCell (by show w.heap.size ≤ w.heap.size + 1 + 1 + 1; omega) _).setCell (by show w.heap.size ≤ w.heap.size + 1 + 1 + 1; omega) _
end Go.Proofs.YtkhceblbiabnbaaGreat.Ko
