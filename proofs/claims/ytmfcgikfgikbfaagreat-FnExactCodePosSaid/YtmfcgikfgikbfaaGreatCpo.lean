/- CodePos of the model and of the program. -/
import Derived.Test.YtmfcgikfgikbfaaGreatWc
import Derived.Test.YtmfcgikfgikbfaaGreatWb
import Derived.Test.YtmfcgikfgikbfaaGreatPq
namespace Go.Proofs.YtmfcgikfgikbfaaGreat.Ko
open Go.ChangeShapes Go.WideShapes Go.ChangeAt Go.RowKit Base Sq In
set_option linter.unusedVariables false
set_option maxRecDepth 20000
attribute [local irreducible] wpQuiet

/-- the values of CodePos -/
def cpB (side : Int) (ks : List Kd) (m : List Pc) (code : Int) : Bool := matV side ks m && posCB side ks m code
def cpT (side : Int) (ks : List Kd) (m : List Pc) (code : Int) : Int := if matV side ks m = true then posCT side ks m code else 0
def cpL (side : Int) (ks : List Kd) (m : List Pc) (code : Int) : List St := if matV side ks m = true then posCL side ks m code else []
theorem cp_no {side : Int} {ks : List Kd} {m : List Pc} (code : Int) (h : matV side ks m = false) : cpB side ks m code = false ∧ cpT side ks m code = 0 ∧ cpL side ks m code = [] := by
  unfold cpB cpT cpL; rw [h]; exact ⟨rfl, rfl, rfl⟩
theorem cp_yes {side : Int} {ks : List Kd} {m : List Pc} (code : Int) (h : matV side ks m = true) : cpB side ks m code = posCB side ks m code ∧ cpT side ks m code = posCT side ks m code ∧ cpL side ks m code = posCL side ks m code := by
  unfold cpB cpT cpL; rw [h]; exact ⟨rfl, rfl, rfl⟩
theorem cpRes_nil {B : Bool} {T : Int} {L : List St} {w w' : World} (h1 : B = false) (h2 : T = 0) (h3 : L = []) (hb : Below w.heap.size w w') : PosRes B T L w w' (.returned (.tuple #[.agg #[.int .i64 0, .slice none 0 0], .bool false])) := by
  subst h1 h2 h3
  exact ⟨none, 0, w.heap.size, w'.heap.size, rfl, Nat.le_refl _, Nat.le_refl _, MenA.nil _ _ _ _, hb⟩
theorem posRes_men2 {B : Bool} {T : Int} {L : List St} {w w' : World} {e : Ending} (h : PosRes B T L w w' e) : ∃ A c, e = .returned (.tuple #[.agg #[.int .i64 T, .slice A L.length c], .bool B]) ∧ MenA w.heap.size w'.heap.size w' A L ∧ Below w.heap.size w w' := by
  obtain ⟨A, c, lo, hi, he, h1, h2, h3, h4⟩ := h
  exact ⟨A, c, he, h3.more h1 h2, h4⟩
theorem cpL_len (side : Int) (ks : List Kd) (m : List Pc) (code : Int) : (cpL side ks m code).length ≤ 1048576 := by
  unfold cpL
  split
  · rename_i hok
    obtain ⟨_, hm4⟩ := matV_facts hok
    unfold posCL
    split
    · have := putC_len side code m m.length; omega
    · simp
  · simp
theorem MenA.off2 {lo hi : Nat} {w : World} {A : Option Addr} {l : List St} (h : MenA lo hi w A l) {b : Nat} (x y : Value) (ha : b < lo) : MenA lo hi ((w.setCell ⟨b, 0, none⟩ x).setCell ⟨b, 1, none⟩ y) A l :=
  (h.off _ _ ha).off _ _ ha
theorem below_set2 {B : Nat} {w w' : World} (h : Below B w w') {b : Nat} (hb : B ≤ b) (x y : Value) : Below B w ((w'.setCell ⟨b, 0, none⟩ x).setCell ⟨b, 1, none⟩ y) :=
  (h.setCell (p := ⟨b, 0, none⟩) hb _).setCell (p := ⟨b, 1, none⟩) hb _

set_option maxHeartbeats 4000000 in
theorem specCodePos_any (side : Int) (A : Option Addr) (c : Nat) (ks : List Kd) (M : Option Addr) (cm : Nat) (m : List Pc) (code : Int) (w : World) (hR : IsKinds w w.heap.size A ks) (hM : IsPcs w w.heap.size M m)
    (hsm : Small ks) (hm : m.length ≤ 1048576) :
    Calls Tryz.prog 7 #[.agg #[.int .i64 side, .slice A ks.length c], .slice M m.length cm, .int .i64 code] w fun e w' => PosRes (cpB side ks m code) (cpT side ks m code) (cpL side ks m code) w w' e := by
  have hb0 : Below w.heap.size w ((w.alloc (.cells #[.int .i64 side, .slice A ks.length c] 35)).alloc (.cells #[.int .i64 0, .slice none 0 0] 30)) := (by repeat (first | exact Below.refl _ _ | assumption | (refine Below.alloc ?_ (by first | omega | (simp; done) | (simp; omega)) _) | (refine Below.setCell ?_ (by first | omega | (simp; done) | (simp; omega)) _) | refine Below.drew ?_))
  have p1 := (Blk.new w #[.int .i64 side, .slice A ks.length c] 35).alloc (.cells #[.int .i64 0, .slice none 0 0] 30)
  have p2 := Blk.new (w.alloc (.cells #[.int .i64 side, .slice A ks.length c] 35)) #[.int .i64 0, .slice none 0 0] 30
  simp only [World.size_alloc] at p2
  go_enter Tryz.func7, Tryz.ntmps7
  go_wp2_with fail
  generalize hW0 : (w.alloc _).alloc _ = W0 at *
  clear hW0
  refine (specMatOk_any _ _ _ _ _ _ _ _ ((hR.below hb0).more hb0.size) ((hM.below hb0).more hb0.size) hsm hm).mono ?_
  rintro e w2 ⟨rfl, hb2⟩
  have q1 := p1.below hb2 p1.lt
  have q2 := p2.below hb2 p2.lt
  have hbe := hb0.trans (hb2.mono hb0.size)
  have y1 := q1.lt
  have y2 := q2.lt
  obtain ⟨⟨r0, r1⟩, _⟩ := q1.at2
  obtain ⟨⟨u0, u1⟩, ⟨v0, v1⟩⟩ := q2.at2
  clear p1 p2 hb0 hb2
  cases hok : matV side ks m
  · have HG := Lib.hid (cp_no (side := side) (ks := ks) (m := m) code hok)
    have hx := (Blk.set2 q2 (.int .i64 0) (.slice none 0 0)).at2
    have hB := below_set2 hbe (b := w.heap.size + 1) (by omega) (.int .i64 0) (.slice none 0 0)
    clear hok hbe
    go_wp2_with fail
    refine bodyPost_ret (v := .tuple #[.agg #[.int .i64 0, .slice none 0 0], .bool false]) ?_ rfl (cpRes_nil HG.out.1 HG.out.2.1 HG.out.2.2 hB)
    obtain ⟨⟨x0, x1⟩, _⟩ := hx
    simp [results, Tryz.results7, go_sem, x0, x1]
  · obtain ⟨hro, hm4⟩ := matV_facts hok
    obtain ⟨hs, _⟩ := rulesOk_facts hro
    have hnb := (numV_bd hs (k := m.length) hm4)
    have HG := Lib.hid (cp_yes (side := side) (ks := ks) (m := m) code hok)
    have HOK := Lib.hid hok
    have HS := Lib.hid hs
    clear hro hok hs
    go_wp2_with fail
    refine (l7Many_any side A c ks.length M cm m.length _ HS.out hm4).mono ?_
    rintro e w3 ⟨rfl, hb3⟩
    obtain ⟨N, hN⟩ : ∃ N, N = numV side m.length := ⟨_, rfl⟩
    have HN := Lib.hid hN
    rw [← hN] at hnb ⊢
    clear hN
    have q1 := q1.below hb3 y1
    have q2 := q2.below hb3 y2
    have hbe := hbe.trans (hb3.mono hbe.size)
    have y1 := q1.lt
    have y2 := q2.lt
    clear hb3 r0 r1 u0 u1 v0 v1
    obtain ⟨⟨r0, r1⟩, _⟩ := q1.at2
    obtain ⟨⟨u0, u1⟩, ⟨v0, v1⟩⟩ := q2.at2
    by_cases hin : 0 ≤ code ∧ code < N
    · have HIN : Hid (inB code 0 (N - 1) = true) := Lib.hid (by unfold inB; simp; omega)
      have HI := Lib.hid hin
      clear hin
      go_wp2_with (go_at_call 24; refine (in_any _ _ _ _).mono ?_; rw [HIN.out]; rintro e w' ⟨rfl, rfl⟩)
      refine (l7Pos_any side A c ks M cm m code _ ((hR.below hbe).more hbe.size) ((hM.below hbe).more hbe.size) HOK.out HI.out.1 (by rw [← HN.out]; exact HI.out.2)).mono ?_
      rintro e w5 hpr
      rw [← HG.out.1, ← HG.out.2.1, ← HG.out.2.2] at hpr
      obtain ⟨A5, c5, lo5, hi5, rfl, hlo, hhi, hMA, hb5⟩ := hpr
      have q2 := q2.below hb5 y2
      have hbe5 := hbe.trans (hb5.mono hbe.size)
      have y2 := q2.lt
      clear r0 r1 u0 u1 v0 v1 hb5 q1 HG
      obtain ⟨⟨u0, u1⟩, ⟨v0, v1⟩⟩ := q2.at2
      have hx := (Blk.set2 q2 (.int .i64 (cpT side ks m code)) (.slice A5 (cpL side ks m code).length c5)).at2
      have hB := below_set2 hbe5 (b := w.heap.size + 1) (by omega) (.int .i64 (cpT side ks m code)) (.slice A5 (cpL side ks m code).length c5)
      have HM := Lib.hid (hMA.off2 (b := w.heap.size + 1) (.int .i64 (cpT side ks m code)) (.slice A5 (cpL side ks m code).length c5) (by omega))
      have hz1 := hbe.size
      have hhi' : hi5 ≤ ((w5.setCell ⟨w.heap.size + 1, 0, none⟩ (.int .i64 (cpT side ks m code))).setCell ⟨w.heap.size + 1, 1, none⟩ (.slice A5 (cpL side ks m code).length c5)).heap.size := by simp [World.setCell]; omega
      clear hMA hbe5
      go_wp2_with fail
      refine bodyPost_ret (v := .tuple #[.agg #[.int .i64 (cpT side ks m code), .slice A5 (cpL side ks m code).length c5], .bool (cpB side ks m code)]) ?_ rfl ⟨A5, c5, lo5, hi5, rfl, by omega, hhi', HM.out, hB⟩
      obtain ⟨⟨x0, x1⟩, _⟩ := hx
      simp [results, Tryz.results7, go_sem, x0, x1]
    · have HIN : Hid (inB code 0 (N - 1) = false) := Lib.hid (by unfold inB; simp; omega)
      have HP := Lib.hid (posCB_out (s := side) (ks := ks) (m := m) (code := code) (by rw [← HN.out]; exact hin))
      have hx := (Blk.set2 q2 (.int .i64 0) (.slice none 0 0)).at2
      have hB := below_set2 hbe (b := w.heap.size + 1) (by omega) (.int .i64 0) (.slice none 0 0)
      clear hbe hin
      go_wp2_with (go_at_call 24; refine (in_any _ _ _ _).mono ?_; rw [HIN.out]; rintro e w' ⟨rfl, rfl⟩)
      refine bodyPost_ret (v := .tuple #[.agg #[.int .i64 0, .slice none 0 0], .bool false]) ?_ rfl (cpRes_nil (HG.out.1.trans HP.out) (HG.out.2.1.trans (posCT_no HP.out).1) (HG.out.2.2.trans (posCT_no HP.out).2) hB)
      obtain ⟨⟨x0, x1⟩, _⟩ := hx
      simp [results, Tryz.results7, go_sem, x0, x1]

set_option maxHeartbeats 4000000 in
theorem CodePos_any (side : Int) (A : Option Addr) (c : Nat) (ks : List Kd) (M : Option Addr) (cm : Nat) (m : List Pc) (code : Int) (w : World) (hR : IsKinds w w.heap.size A ks) (hM : IsPcs w w.heap.size M m)
    (hsm : Small ks) (hm : m.length ≤ 1048576) :
    Calls Tryz.prog 10 #[.agg #[.int .i64 side, .slice A ks.length c], .slice M m.length cm, .int .i64 code] w fun e w' => PosRes (cpB side ks m code) (cpT side ks m code) (cpL side ks m code) w w' e := by
  have hb0 : Below w.heap.size w ((w.alloc (.cells #[.int .i64 side, .slice A ks.length c] 35)).alloc (.cells #[.int .i64 0, .slice none 0 0] 30)) := (by repeat (first | exact Below.refl _ _ | assumption | (refine Below.alloc ?_ (by first | omega | (simp; done) | (simp; omega)) _) | (refine Below.setCell ?_ (by first | omega | (simp; done) | (simp; omega)) _) | refine Below.drew ?_))
  have p1 := (Blk.new w #[.int .i64 side, .slice A ks.length c] 35).alloc (.cells #[.int .i64 0, .slice none 0 0] 30)
  have p2 := Blk.new (w.alloc (.cells #[.int .i64 side, .slice A ks.length c] 35)) #[.int .i64 0, .slice none 0 0] 30
  simp only [World.size_alloc] at p2
  go_enter Tryz.func10, Tryz.ntmps10
  go_wp2_with fail
  generalize hW0 : (w.alloc _).alloc _ = W0 at *
  clear hW0
  refine (coderOf_any _ _ _ _ _ _ _ _ ((hR.below hb0).more hb0.size) ((hM.below hb0).more hb0.size) hsm hm).mono ?_
  rintro e w2 ⟨cv, rfl, hno, hyes, hb2⟩
  have q1 := p1.below hb2 p1.lt
  have q2 := p2.below hb2 p2.lt
  have hbe := hb0.trans (hb2.mono hb0.size)
  have y1 := q1.lt
  have y2 := q2.lt
  clear p1 p2 hb0 hb2
  cases hok : matV side ks m
  · have HG := Lib.hid (cp_no (side := side) (ks := ks) (m := m) code hok)
    obtain rfl := hno hok
    clear hno hyes
    unfold nilCoder
    obtain ⟨⟨u0, u1⟩, ⟨v0, v1⟩⟩ := q2.at2
    have hx := ((Blk.set2 q2 (.int .i64 0) (.slice none 0 0)).alloc (.cells #[.int .i64 0, .slice none 0 0, .slice none 0 0, .slice none 0 0] 64)).at2
    have hB0 := below_set2 hbe (b := w.heap.size + 1) (by omega) (.int .i64 0) (.slice none 0 0)
    have hB := hB0.alloc hB0.size (.cells #[.int .i64 0, .slice none 0 0, .slice none 0 0, .slice none 0 0] 64)
    clear hok hbe q1 q2 hB0
    go_wp2_with fail
    refine bodyPost_ret (v := .tuple #[.agg #[.int .i64 0, .slice none 0 0], .bool false]) ?_ rfl (cpRes_nil HG.out.1 HG.out.2.1 HG.out.2.2 hB)
    obtain ⟨⟨x0, x1⟩, _⟩ := hx
    simp [results, Tryz.results10, go_sem, x0, x1]
  · obtain ⟨D, cd, rfl, hD⟩ := hyes hok
    have HG := Lib.hid (cp_yes (side := side) (ks := ks) (m := m) code hok)
    have HOK := Lib.hid hok
    clear hno hyes hok
    have hbC := below_of w2 (.cells #[.int .i64 side, .slice A ks.length c, .slice M m.length cm, .slice D (m.length + 1) cd] 64)
    have q2 := q2.alloc (.cells #[.int .i64 side, .slice A ks.length c, .slice M m.length cm, .slice D (m.length + 1) cd] 64)
    have hbe := hbe.trans (hbC.mono hbe.size)
    have HD := Lib.hid ((hD.below hbC).more hbC.size)
    go_wp2_with fail
    generalize hWC : w2.alloc _ = WC at *
    clear hWC hD hbC
    refine (pos_any side A c ks M cm m D cd code _ ((hR.below hbe).more hbe.size) ((hM.below hbe).more hbe.size) HD.out HOK.out hsm).mono ?_
    rintro e w5 hpr
    rw [← HG.out.1, ← HG.out.2.1, ← HG.out.2.2] at hpr
    obtain ⟨A5, c5, lo5, hi5, rfl, hlo, hhi, hMA, hb5⟩ := hpr
    have y3 := q2.lt
    have q2 := q2.below hb5 y3
    have hbe5 := hbe.trans (hb5.mono hbe.size)
    have hz1 := hbe.size
    have y4 := q2.lt
    clear hb5 q1 HG
    obtain ⟨⟨u0, u1⟩, ⟨v0, v1⟩⟩ := q2.at2
    have hx := (Blk.set2 q2 (.int .i64 (cpT side ks m code)) (.slice A5 (cpL side ks m code).length c5)).at2
    have hB := below_set2 hbe5 (b := w.heap.size + 1) (by omega) (.int .i64 (cpT side ks m code)) (.slice A5 (cpL side ks m code).length c5)
    have HM := Lib.hid (hMA.off2 (b := w.heap.size + 1) (.int .i64 (cpT side ks m code)) (.slice A5 (cpL side ks m code).length c5) (by omega))
    have hhi' : hi5 ≤ ((w5.setCell ⟨w.heap.size + 1, 0, none⟩ (.int .i64 (cpT side ks m code))).setCell ⟨w.heap.size + 1, 1, none⟩ (.slice A5 (cpL side ks m code).length c5)).heap.size := by simp [World.setCell]; omega
    clear hMA hbe5
    go_wp2_with fail
    refine bodyPost_ret (v := .tuple #[.agg #[.int .i64 (cpT side ks m code), .slice A5 (cpL side ks m code).length c5], .bool (cpB side ks m code)]) ?_ rfl ⟨A5, c5, lo5, hi5, rfl, by omega, hhi', HM.out, hB⟩
    obtain ⟨⟨x0, x1⟩, _⟩ := hx
    simp [results, Tryz.results10, go_sem, x0, x1]
end Go.Proofs.YtmfcgikfgikbfaaGreat.Ko
