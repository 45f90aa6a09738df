/- PassPos by the program. -/
import Derived.Test.YtcgfklljbblhlaaPpa
import Derived.Test.YtcgfklljbblhlaaGop
import Derived.Test.YtcgfklljbblhlaaPk
namespace Go.Proofs.Ytcgfklljbblhlaa.Ko
open Go.ChangeShapes Go.WideShapes Go.ChangeAt Go.RowKit Base Sq
set_option linter.unusedVariables false
set_option maxRecDepth 20000
attribute [local irreducible] wpQuiet

theorem shape_turned {side t : Int} {ks : List Kd} {l : List St} (h : shapeB side ks t l = true) : shapeB side ks (1 - t) l = true := by
  obtain ⟨h1, _⟩ := shapeB_facts h
  have e : inB t 0 1 = inB (1 - t) 0 1 := by
    unfold inB
    rw [decide_eq_true (by omega), decide_eq_true (by omega)]
  unfold shapeB at *
  rw [← e]; exact h
set_option maxHeartbeats 2000000 in
theorem passed_any (side : Int) (A : Option Addr) (c : Nat) (ks : List Kd) (t : Int) (M : Option Addr) (cm : Nat) (l : List St) (w : World) (hR : IsKinds w w.heap.size A ks) (hM : IsSteps w w.heap.size M l)
    (hsm : Small ks) (hl : l.length ≤ 1048576) (hp : posB side ks t l = true) :
    Calls Try.prog 45 #[.agg #[.int .i64 side, .slice A ks.length c], .agg #[.int .i64 t, .slice M l.length cm]] w fun e w' => ResQ w w' (paT side ks t l) (paL side ks t l) (paB side ks t l) e := by
  have hb0 : Below w.heap.size w (((w.alloc (.cells #[.int .i64 side, .slice A ks.length c] 50)).alloc (.cells #[.int .i64 t, .slice M l.length cm] 45)).alloc (.cells #[.int .i64 0, .slice none 0 0] 45)) := (by repeat (first | exact Below.refl _ _ | assumption | (refine Below.alloc ?_ (by first | omega | (simp; done) | (simp; omega)) _) | (refine Below.setCell ?_ (by first | omega | (simp; done) | (simp; omega)) _) | refine Below.drew ?_))
  have p1 := ((Blk.new w #[.int .i64 side, .slice A ks.length c] 50).alloc (.cells #[.int .i64 t, .slice M l.length cm] 45)).alloc (.cells #[.int .i64 0, .slice none 0 0] 45)
  have p2 := (Blk.new (w.alloc (.cells #[.int .i64 side, .slice A ks.length c] 50)) #[.int .i64 t, .slice M l.length cm] 45).alloc (.cells #[.int .i64 0, .slice none 0 0] 45)
  have p3 := Blk.new ((w.alloc (.cells #[.int .i64 side, .slice A ks.length c] 50)).alloc (.cells #[.int .i64 t, .slice M l.length cm] 45)) #[.int .i64 0, .slice none 0 0] 45
  simp only [World.size_alloc] at p2 p3
  have hok : rulesOk side ks = true := by unfold posB at hp; simp at hp; exact hp.1
  have hpk : posOk side ks t l = true := by unfold posB at hp; simp at hp; exact hp.2
  have hlp := men_pos' hpk
  have ht := turn_of hpk
  have hsh := shape_of hpk
  have hsh2 := shape_turned hsh
  have HPB : Hid (paB side ks t l = !checkB side ks l t) := Lib.hid (by unfold paB; rw [hp]; unfold posOk; rw [hsh2, show 1 - (1 - t) = t by omega]; simp)
  have WT : IntKind.i64.wrap (1 - t) = 1 - t := IntWalk.i64_in _ (by omega)
  clear hp hpk hsh2
  go_enter Try.func45, Try.ntmps45
  go_wp2_with fail
  generalize hW0 : ((w.alloc _).alloc _).alloc _ = W0 at *
  clear hW0
  obtain ⟨⟨a0, a1⟩, _⟩ := p1.at2
  obtain ⟨⟨b0, b1⟩, _⟩ := p2.at2
  refine (inCheck_any _ _ _ _ _ _ _ t _ _ ((hR.below hb0).more hb0.size) ((hM.below hb0).more hb0.size) hok hsh (by omega)).mono ?_
  rintro e w2 ⟨rfl, hb2⟩
  have q2 := p2.below hb2 p2.lt
  have q3 := p3.below hb2 p3.lt
  have hl2 := p2.lt
  have hl3 := p3.lt
  have hbe := hb0.trans (hb2.mono hb0.size)
  have hs2 := hb2.size
  clear p1 p2 p3 hb0 hb2 a0 a1 b0 b1
  obtain ⟨⟨b0, b1⟩, _⟩ := q2.at2
  obtain ⟨⟨d0, d1⟩, ⟨d2, d3⟩⟩ := q3.at2
  cases hc : checkB side ks l t
  · have HN : Hid (paB side ks t l = true) := Lib.hid (by rw [HPB.out, hc]; rfl)
    clear hc
    go_wp2_with fail
    refine (copied_any t M cm l w2 ((hM.below hbe).more hbe.size) hl hlp).mono ?_
    rintro e w4 ⟨A4, c4, rfl, hm4, hb4⟩
    have r2 := q2.below hb4 q2.lt
    have r3 := q3.below hb4 q3.lt
    have hbf := hbe.trans (hb4.mono hbe.size)
    have hs4 := hb4.size
    clear q2 q3 b0 b1 d0 d1 d2 d3
    obtain ⟨⟨b0, b1⟩, _⟩ := r2.at2
    obtain ⟨⟨d0, d1⟩, ⟨d2, d3⟩⟩ := r3.at2
    have y2 := r2.lt
    have y3 := r3.lt
    have HX3 := Lib.hid r3
    have HM5 := Lib.hid hm4
    have HB5 := Lib.hid hbf
    clear r2 r3 hm4 hbf hb4
    go_wp2_with fail
    refine bodyPost_ret (v := .tuple #[.agg #[.int .i64 (1 - t), .slice A4 l.length c4], .bool true]) ?_ rfl ?_
    · obtain ⟨⟨e0, e1⟩, _⟩ := ((HX3.out.set2 (.int .i64 (1 - t)) (.slice A4 l.length c4)).alloc (.cells #[.int .i64 (1 - t), .slice A4 l.length c4] 45)).at2
      simp [results, Try.results45, go_sem, e0, e1]
    · obtain ⟨e1, e2⟩ := pa_yes HN.out
      rw [e1, e2, HN.out]
      have hlo : w.heap.size + 1 + 1 < w2.heap.size := by omega
      have hsz := HB5.out.size
      refine ⟨A4, c4, rfl, ?_, ((HB5.out.setCell (by show w.heap.size ≤ w.heap.size + 1 + 1; omega) _).setCell (by show w.heap.size ≤ w.heap.size + 1 + 1; omega) _).alloc (by rw [size_set, size_set]; omega) _⟩
      exact (((HM5.out.off _ _ hlo).off _ _ hlo).below ((below_of _ _).mono (by rw [size_set, size_set]; exact Nat.le_refl _))).more (by omega) (by rw [World.size_alloc, size_set, size_set]; omega)
  · have HN : Hid (paB side ks t l = false) := Lib.hid (by rw [HPB.out, hc]; rfl)
    clear hc
    go_wp2_with fail
    refine bodyPost_ret (v := .tuple #[.agg #[.int .i64 0, .slice none 0 0], .bool false]) ?_ rfl ?_
    · obtain ⟨⟨e0, e1⟩, _⟩ := (q3.set2 (.int .i64 0) (.slice none 0 0)).at2
      simp [results, Try.results45, go_sem, e0, e1]
    · obtain ⟨e1, e2⟩ := pa_no HN.out
      rw [e1, e2, HN.out]
      exact ⟨none, 0, rfl, MenA.nil _ _ _ _, (hbe.setCell (by show w.heap.size ≤ w.heap.size + 1 + 1; omega) _).setCell (by show w.heap.size ≤ w.heap.size + 1 + 1; omega) _⟩
set_option maxHeartbeats 1000000 in
theorem passPos_any (side : Int) (A : Option Addr) (c : Nat) (ks : List Kd) (t : Int) (M : Option Addr) (cm : Nat) (l : List St) (w : World) (hR : IsKinds w w.heap.size A ks) (hM : IsSteps w w.heap.size M l)
    (hsm : Small ks) (hl : l.length ≤ 1048576) :
    Calls Try.prog 26 #[.agg #[.int .i64 side, .slice A ks.length c], .agg #[.int .i64 t, .slice M l.length cm]] w fun e w' => ResQ w w' (paT side ks t l) (paL side ks t l) (paB side ks t l) e := by
  have hb0 : Below w.heap.size w (((w.alloc (.cells #[.int .i64 side, .slice A ks.length c] 50)).alloc (.cells #[.int .i64 t, .slice M l.length cm] 45)).alloc (.cells #[.int .i64 0, .slice none 0 0] 45)) := (by repeat (first | exact Below.refl _ _ | assumption | (refine Below.alloc ?_ (by first | omega | (simp; done) | (simp; omega)) _) | (refine Below.setCell ?_ (by first | omega | (simp; done) | (simp; omega)) _) | refine Below.drew ?_))
  have p1 := ((Blk.new w #[.int .i64 side, .slice A ks.length c] 50).alloc (.cells #[.int .i64 t, .slice M l.length cm] 45)).alloc (.cells #[.int .i64 0, .slice none 0 0] 45)
  have p2 := (Blk.new (w.alloc (.cells #[.int .i64 side, .slice A ks.length c] 50)) #[.int .i64 t, .slice M l.length cm] 45).alloc (.cells #[.int .i64 0, .slice none 0 0] 45)
  have p3 := Blk.new ((w.alloc (.cells #[.int .i64 side, .slice A ks.length c] 50)).alloc (.cells #[.int .i64 t, .slice M l.length cm] 45)) #[.int .i64 0, .slice none 0 0] 45
  simp only [World.size_alloc] at p2 p3
  go_enter Try.func26, Try.ntmps26
  go_wp2_with fail
  generalize hW0 : ((w.alloc _).alloc _).alloc _ = W0 at *
  clear hW0
  refine (posOk_any _ _ _ _ _ _ _ _ _ ((hR.below hb0).more hb0.size) ((hM.below hb0).more hb0.size) hsm hl).mono ?_
  rintro e w2 ⟨rfl, hb2⟩
  have q1 := p1.below hb2 p1.lt
  have q2 := p2.below hb2 p2.lt
  have q3 := p3.below hb2 p3.lt
  have hl3 := p3.lt
  have hbe := hb0.trans (hb2.mono hb0.size)
  have hs2 := hb2.size
  clear p1 p2 p3 hb0
  obtain ⟨⟨a0, a1⟩, _⟩ := q1.at2
  obtain ⟨⟨b0, b1⟩, _⟩ := q2.at2
  obtain ⟨⟨d0, d1⟩, ⟨d2, d3⟩⟩ := q3.at2
  cases hp : posB side ks t l
  · have HN : Hid (paB side ks t l = false) := Lib.hid (by unfold paB; rw [hp]; rfl)
    clear hp
    go_wp2_with fail
    refine bodyPost_ret (v := .tuple #[.agg #[.int .i64 0, .slice none 0 0], .bool false]) ?_ rfl ?_
    · obtain ⟨⟨e0, e1⟩, _⟩ := (q3.set2 (.int .i64 0) (.slice none 0 0)).at2
      simp [results, Try.results26, go_sem, e0, e1]
    · obtain ⟨e1, e2⟩ := pa_no HN.out
      rw [e1, e2, HN.out]
      exact ⟨none, 0, rfl, MenA.nil _ _ _ _, (hbe.setCell (by show w.heap.size ≤ w.heap.size + 1 + 1; omega) _).setCell (by show w.heap.size ≤ w.heap.size + 1 + 1; omega) _⟩
  · have HP := Lib.hid hp
    clear hp
    go_wp2_with fail
    refine (passed_any _ _ _ _ _ _ _ _ _ ((hR.below hbe).more hbe.size) ((hM.below hbe).more hbe.size) hsm hl HP.out).mono ?_
    obtain ⟨T, hT⟩ : ∃ T, T = paT side ks t l := ⟨_, rfl⟩
    obtain ⟨L, hL⟩ : ∃ L, L = paL side ks t l := ⟨_, rfl⟩
    obtain ⟨B, hBB⟩ : ∃ B, B = paB side ks t l := ⟨_, rfl⟩
    rw [← hT, ← hL, ← hBB]
    have HT := Lib.hid hT
    have HLq := Lib.hid hL
    have HBq := Lib.hid hBB
    clear hT hL hBB
    rintro e w4 ⟨A4, c4, rfl, hm4, hb4⟩
    have r3 := q3.below hb4 q3.lt
    have hbf := hbe.trans (hb4.mono hbe.size)
    clear q1 q2 q3 a0 a1 b0 b1 d0 d1 d2 d3
    obtain ⟨⟨d0, d1⟩, ⟨d2, d3⟩⟩ := r3.at2
    go_wp2_with fail
    refine bodyPost_ret (v := .tuple #[.agg #[.int .i64 T, .slice A4 L.length c4], .bool B]) ?_ rfl ?_
    · obtain ⟨⟨e0, e1⟩, _⟩ := (r3.set2 (.int .i64 T) (.slice A4 L.length c4)).at2
      simp [results, Try.results26, go_sem, e0, e1]
    · have hlo : w.heap.size + 1 + 1 < w2.heap.size := by omega
      rw [← HT.out, ← HLq.out, ← HBq.out]
      refine ⟨A4, c4, rfl, ?_, (hbf.setCell (by show w.heap.size ≤ w.heap.size + 1 + 1; omega) _).setCell (by show w.heap.size ≤ w.heap.size + 1 + 1; omega) _⟩
      exact ((hm4.off _ _ hlo).off _ _ hlo).more (by omega) (by rw [size_set, size_set]; exact Nat.le_refl _)
end Go.Proofs.Ytcgfklljbblhlaa.Ko
