/- TurnPos of the model. -/
import Derived.Test.YtmfcgikfgikbfaaGreatTy
import Derived.Test.YtmfcgikfgikbfaaGreatMn
import Derived.Test.YtmfcgikfgikbfaaGreatPa
import Derived.Test.YtmfcgikfgikbfaaGreatLt
import Derived.Test.YtmfcgikfgikbfaaGreatPks
namespace Go.Proofs.YtmfcgikfgikbfaaGreat.Ko
open Go.ChangeShapes Go.WideShapes Go.ChangeAt Go.RowKit Base Sq
set_option linter.unusedVariables false
set_option maxRecDepth 20000
attribute [local irreducible] wpQuiet

theorem turn_sum {s k a : Int} (hs : s = 2 ∨ s = 3 ∨ s = 4) (hk : 0 ≤ k ∧ k ≤ 7) (ha : 0 ≤ a ∧ a < s * s) : (turnV s k (a % s) (a / s)).1 + s * (turnV s k (a % s) (a / s)).2 = turnAt s k a := by
  unfold turnAt; rw [if_pos ⟨decide_eq_true (by omega), hk⟩]

set_option maxHeartbeats 1000000 in
theorem l6Turn_any (side : Int) (A : Option Addr) (c : Nat) (n : Nat) (k t : Int) (M : Option Addr) (cm : Nat) (l : List St) (ks : List Kd) (w : World) (hM : IsSteps w w.heap.size M l) (hp : 0 < l.length) (hsh : shapeB side ks t l = true) (hs : side = 2 ∨ side = 3 ∨ side = 4) (hk : 0 ≤ k ∧ k ≤ 7) :
    Calls Tryz.prog 39 #[.agg #[.int .i64 side, .slice A n c], .int .i64 k, .agg #[.int .i64 t, .slice M l.length cm]] w fun e w' => ∃ A' c', e = .returned (.agg #[.int .i64 t, .slice A' (tsL side k l).length c']) ∧ MenA w.heap.size w'.heap.size w' A' (tsL side k l) ∧ Below w.heap.size w w' := by
  obtain ⟨_, hl4, _, _, hmen⟩ := shapeB_facts hsh
  have HMEN := Lib.hid hmen
  have HSS := Lib.hid hs
  have HK := Lib.hid hk
  clear hmen hsh hs hk
  go_enter Tryz.func39, Tryz.ntmps39
  go_wp2_with fail
  have hb0 : Below w.heap.size w ((((w.alloc (.cells #[.int .i64 side, .slice A n c] 35)).alloc (.cells #[.int .i64 t, .slice M l.length cm] 30)).alloc (.cells #[.int .i64 0, .slice none 0 0] 30)).alloc (.cells #[.int .i64 t, .slice none 0 0] 30)) := (by repeat (first | exact Below.refl _ _ | assumption | (refine Below.alloc ?_ (by first | omega | (simp; done) | (simp; omega)) _) | (refine Below.setCell ?_ (by first | omega | (simp; done) | (simp; omega)) _) | refine Below.drew ?_))
  have p1 := (((Blk.new w #[.int .i64 side, .slice A n c] 35).alloc (.cells #[.int .i64 t, .slice M l.length cm] 30)).alloc (.cells #[.int .i64 0, .slice none 0 0] 30)).alloc (.cells #[.int .i64 t, .slice none 0 0] 30)
  have p2 := ((Blk.new (w.alloc (.cells #[.int .i64 side, .slice A n c] 35)) #[.int .i64 t, .slice M l.length cm] 30).alloc (.cells #[.int .i64 0, .slice none 0 0] 30)).alloc (.cells #[.int .i64 t, .slice none 0 0] 30)
  have p3 := (Blk.new ((w.alloc (.cells #[.int .i64 side, .slice A n c] 35)).alloc (.cells #[.int .i64 t, .slice M l.length cm] 30)) #[.int .i64 0, .slice none 0 0] 30).alloc (.cells #[.int .i64 t, .slice none 0 0] 30)
  have p4 := Blk.new (((w.alloc (.cells #[.int .i64 side, .slice A n c] 35)).alloc (.cells #[.int .i64 t, .slice M l.length cm] 30)).alloc (.cells #[.int .i64 0, .slice none 0 0] 30)) #[.int .i64 t, .slice none 0 0] 30
  simp only [World.size_alloc] at p2 p3 p4
  generalize hW0 : (((w.alloc _).alloc _).alloc _).alloc _ = W0 at *
  clear hW0
  go_loopw [8] (fun iv wr => ∃ (j : Nat) (v : Value), j ≤ l.length ∧ iv = .int .i64 j ∧ Blk wr w.heap.size #[.int .i64 side, .slice A n c] 35 ∧ Blk wr (w.heap.size + 1) #[.int .i64 t, .slice M l.length cm] 30 ∧ Blk wr (w.heap.size + 1 + 1) #[.int .i64 0, .slice none 0 0] 30 ∧ Blk wr (w.heap.size + 1 + 1 + 1) #[.int .i64 t, v] 30 ∧ PutA (w.heap.size + 1 + 1 + 1 + 1) wr v (tsK side k l j) ∧ Below w.heap.size w wr) (fun iv _ => l.length - (intOf iv).toNat)
  case atStart => exact ⟨0, .slice none 0 0, by omega, rfl, p1, p2, p3, p4, .inl ⟨rfl, rfl⟩, hb0⟩
  case round =>
    clear p1 p2 p3 p4 hb0
    obtain ⟨j, v, hj, rfl, p1, p2, p3, p4, hput, hbe⟩ := hrel
    have hz := hbe.size
    have z1 := p1.lt
    have z2 := p2.lt
    have z3 := p3.lt
    have z4 := p4.lt
    obtain ⟨⟨r0, r1⟩, _⟩ := p1.at2
    obtain ⟨⟨o0, o1⟩, _⟩ := p2.at2
    have HLL := Lib.hid (tsK_len side k l j)
    by_cases hlt : j < l.length
    · obtain ⟨b, off, rfl, hB, hc⟩ := hM.below hbe (by omega)
      obtain ⟨s0, s1, s2⟩ := hc j hlt
      have zb : b < wr.heap.size := by omega
      obtain ⟨_, _, ⟨m5, m6⟩, _⟩ := HMEN.out j hlt
      have m7 : (stAt l j).far ≤ 15 := by rcases HSS.out with h | h | h <;> subst h <;> omega
      have HTA := Lib.hid (turn_sum HSS.out HK.out ⟨m5, m6⟩)
      have hbn := below_of wr (.cells #[.int .i64 (stAt l j).dx, .int .i64 (stAt l j).dy, .int .i64 (turnAt side k (stAt l j).far)] 84)
      have HP1 := Lib.hid (p1.below hbn z1)
      have HP2 := Lib.hid (p2.below hbn z2)
      have HP3 := Lib.hid (p3.below hbn z3)
      have HP4 := Lib.hid (p4.below hbn z4)
      have HPUT := Lib.hid (hput.below hbn)
      have HBE := Lib.hid (hbe.trans (hbn.mono hz))
      have HZN : Hid (wr.heap.size < (wr.alloc (.cells #[.int .i64 (stAt l j).dx, .int .i64 (stAt l j).dy, .int .i64 (turnAt side k (stAt l j).far)] 84)).heap.size) := Lib.hid (by simp)
      clear hc hbn p1 p2 p3 hput hbe
      rcases HPUT.out with ⟨hL0, hv⟩ | ⟨hLp, A', c', hv, hmA, hcc, hcm⟩
      · subst hv
        obtain ⟨⟨u0, u1⟩, _⟩ := p4.at2
        clear p4
        go_wp2_with (go_at_call 65; refine (l1Turn_any _ _ _ _ HSS.out m5 m7 m6 HK.out).mono ?_; rw [HTA.out]; rintro e w' ⟨rfl, rfl⟩)
        refine (l4Put_nil _ _ _ _).mono ?_
        rintro e w6 ⟨A6, c6, rfl, hm6, hb6, hc6, hcm6⟩
        have q1 := HP1.out.below hb6 HP1.out.lt
        have q2 := HP2.out.below hb6 HP2.out.lt
        have q3 := HP3.out.below hb6 HP3.out.lt
        have q4 := HP4.out.below hb6 HP4.out.lt
        have hbe6 := HBE.out.trans (hb6.mono HBE.out.size)
        have hzn := HZN.out
        have hz6 := hb6.size
        have y4 := q4.lt
        obtain ⟨⟨u0, u1⟩, ⟨u2, u3⟩⟩ := q4.at2
        have HE : Hid (tsK side k l (j + 1) = [⟨(stAt l j).dx, (stAt l j).dy, turnAt side k (stAt l j).far⟩]) := Lib.hid (by simp only [tsK]; rw [hL0]; rfl)
        clear hb6
        go_wp2_with fail
        go_roundw
        case rel => exact ⟨j + 1, .slice A6 1 c6, by omega, by go_num, q1.other _ _ (by show w.heap.size ≠ w.heap.size + 1 + 1 + 1; omega), q2.other _ _ (by show w.heap.size + 1 ≠ w.heap.size + 1 + 1 + 1; omega), q3.other _ _ (by show w.heap.size + 1 + 1 ≠ w.heap.size + 1 + 1 + 1; omega), q4.set 1 _, .inr ⟨by rw [HE.out]; exact Nat.one_pos, A6, c6, by rw [HE.out]; rfl, by rw [HE.out]; exact (hm6.off _ _ (by show w.heap.size + 1 + 1 + 1 < _; omega)).more (by omega) (by simp), by rw [HE.out]; exact hc6, hcm6⟩, hbe6.setCell (by show w.heap.size ≤ w.heap.size + 1 + 1 + 1; omega) _⟩
        case measure => simp [intOf]; omega
      · subst hv
        obtain ⟨g, cs, hA, hg1, hg2, hg3, hg4, hg5⟩ := hmA hLp
        subst hA
        obtain ⟨⟨u0, u1⟩, _⟩ := p4.at2
        have HMA := Lib.hid hmA
        have HE : Hid (tsK side k l (j + 1) = putL (tsK side k l j) ⟨(stAt l j).dx, (stAt l j).dy, turnAt side k (stAt l j).far⟩) := Lib.hid rfl
        clear p4 hmA hg3 hg4 hg5
        generalize hL : tsK side k l j = L at *
        go_wp2_with (go_at_call 65; refine (l1Turn_any _ _ _ _ HSS.out m5 m7 m6 HK.out).mono ?_; rw [HTA.out]; rintro e w' ⟨rfl, rfl⟩)
        refine (l4Put_any _ _ _ _ _ _ _ _ HMA.out.is (by have := HLL.out; omega) (by omega) hcc hcm).mono ?_
        rintro e w6 ⟨A6, c6, rfl, hm6, hb6, hc6, hcm6⟩
        have q1 := HP1.out.below hb6 HP1.out.lt
        have q2 := HP2.out.below hb6 HP2.out.lt
        have q3 := HP3.out.below hb6 HP3.out.lt
        have q4 := HP4.out.below hb6 HP4.out.lt
        have hbe6 := HBE.out.trans (hb6.mono HBE.out.size)
        have hzn := HZN.out
        have hz6 := hb6.size
        have y4 := q4.lt
        obtain ⟨⟨u0, u1⟩, ⟨u2, u3⟩⟩ := q4.at2
        clear hb6
        go_wp2_with fail
        go_roundw
        case rel => exact ⟨j + 1, .slice A6 (putL L ⟨(stAt l j).dx, (stAt l j).dy, turnAt side k (stAt l j).far⟩).length c6, by omega, by go_num, q1.other _ _ (by show w.heap.size ≠ w.heap.size + 1 + 1 + 1; omega), q2.other _ _ (by show w.heap.size + 1 ≠ w.heap.size + 1 + 1 + 1; omega), q3.other _ _ (by show w.heap.size + 1 + 1 ≠ w.heap.size + 1 + 1 + 1; omega), q4.set 1 _, .inr ⟨by rw [HE.out, putL_len]; omega, A6, c6, by rw [HE.out], by rw [HE.out]; exact (hm6.off _ _ (by show w.heap.size + 1 + 1 + 1 < _; omega)).more (by omega) (by simp), by rw [HE.out]; exact hc6, hcm6⟩, hbe6.setCell (by show w.heap.size ≤ w.heap.size + 1 + 1 + 1; omega) _⟩
        case measure => simp [intOf]; omega
    · obtain rfl : j = l.length := by omega
      rcases hput with ⟨hL0, _⟩ | ⟨hLp, A', c', hv, hmA, hcc, hcm⟩
      · have hLlen := HLL.out
        rw [hL0] at hLlen; simp at hLlen; omega
      · subst hv
        obtain ⟨⟨u0, u1⟩, ⟨u2, u3⟩⟩ := p4.at2
        obtain ⟨⟨v0, v1⟩, ⟨v2, v3⟩⟩ := p3.at2
        have HT : Hid (tsL side k l = tsK side k l l.length) := Lib.hid rfl
        generalize hL : tsK side k l l.length = L at *
        go_wp2_with fail
        refine bodyPost_ret (v := .agg #[.int .i64 t, .slice A' L.length c']) ?_ rfl ⟨A', c', ?_, ?_, ?_⟩
        · obtain ⟨⟨d0, d1⟩, _⟩ := (p3.set2 (.int .i64 t) (.slice A' L.length c')).at2
          simp [results, Tryz.results39, go_sem, d0, d1]
        · rw [HT.out]
        · rw [HT.out]
          exact ((hmA.off _ _ (by show w.heap.size + 1 + 1 < _; omega)).off _ _ (by show w.heap.size + 1 + 1 < _; omega)).more (by omega) (by simp)
        · exact (hbe.setCell (by show w.heap.size ≤ w.heap.size + 1 + 1; omega) _).setCell (by show w.heap.size ≤ w.heap.size + 1 + 1; omega) _

end Go.Proofs.YtmfcgikfgikbfaaGreat.Ko
