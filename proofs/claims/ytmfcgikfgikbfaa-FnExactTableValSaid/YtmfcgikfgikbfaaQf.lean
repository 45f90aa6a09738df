/- CodeOf of the program. -/
import Derived.Test.YtmfcgikfgikbfaaQe
namespace Go.Proofs.Ytmfcgikfgikbfaa.Ko
open Go.ChangeShapes Go.WideShapes Go.ChangeAt Go.RowKit Base Sq
set_option linter.unusedVariables false
set_option maxRecDepth 20000
attribute [local irreducible] wpQuiet

set_option maxHeartbeats 4000000 in
theorem codeOf_any (side : Int) (A : Option Addr) (c : Nat) (ks : List Kd) (M : Option Addr) (cm : Nat) (m : List Pc) (t : Int) (N : Option Addr) (cn : Nat) (l : List St) (w : World) (hR : IsKinds w w.heap.size A ks) (hM : IsPcs w w.heap.size M m)
    (hN : IsSteps w w.heap.size N l) (hsm : Small ks) (hm : m.length ≤ 1048576) (hl : l.length ≤ 1048576) :
    Calls Try.prog 35 #[.agg #[.int .i64 side, .slice A ks.length c], .slice M m.length cm, .agg #[.int .i64 t, .slice N l.length cn]] w fun e w' => e = .returned (.int .i64 (codeOfV side ks m t l)) ∧ Below w.heap.size w w' := by
  have hb0 : Below w.heap.size w ((w.alloc (.cells #[.int .i64 side, .slice A ks.length c] 36)).alloc (.cells #[.int .i64 t, .slice N l.length cn] 43)) := (by repeat (first | exact Below.refl _ _ | assumption | (refine Below.alloc ?_ (by first | omega | (simp; done) | (simp; omega)) _) | (refine Below.setCell ?_ (by first | omega | (simp; done) | (simp; omega)) _) | refine Below.drew ?_))
  have p1 := (Blk.new w #[.int .i64 side, .slice A ks.length c] 36).alloc (.cells #[.int .i64 t, .slice N l.length cn] 43)
  have p2 := Blk.new (w.alloc (.cells #[.int .i64 side, .slice A ks.length c] 36)) #[.int .i64 t, .slice N l.length cn] 43
  simp only [World.size_alloc] at p2
  go_enter Try.func35, Try.ntmps35
  go_wp2_with fail
  generalize hW0 : (w.alloc _).alloc _ = W0 at *
  clear hW0
  refine (coderOf_any _ _ _ _ _ _ _ _ ((hR.below hb0).more hb0.size) ((hM.below hb0).more hb0.size) hsm hm).mono ?_
  unfold CoderPost
  cases hok : matV side ks m
  · have HV := Lib.hid (show codeOfV side ks m t l = -1 by unfold codeOfV; rw [hok]; rfl)
    clear hok
    rintro e w2 ⟨cv, rfl, hn, _, hb2⟩
    obtain rfl := hn rfl
    unfold nilCoder
    have hbe := hb0.trans (hb2.mono hb0.size)
    clear p1 p2 hb0 hb2 hn
    go_wp2_with fail
    go_ret
    exact ⟨by rw [HV.out]; rfl, hbe.alloc hbe.size _⟩
  · have HK := Lib.hid hok
    obtain ⟨hro, hm4⟩ := matV_facts hok
    have HU := Lib.hid (matV_uniq hok)
    obtain ⟨hs, _⟩ := rulesOk_facts hro
    have HRO := Lib.hid hro
    have HSD := Lib.hid hs
    clear hok hro hs
    rintro e w2 ⟨cv, rfl, _, hy, hb2⟩
    obtain ⟨D, cd, rfl, hI⟩ := hy rfl
    have hbA := below_of w2 (.cells #[.int .i64 side, .slice A ks.length c, .slice M m.length cm, .slice D (m.length + 1) cd] 78)
    have q1 := (p1.below hb2 p1.lt).alloc (.cells #[.int .i64 side, .slice A ks.length c, .slice M m.length cm, .slice D (m.length + 1) cd] 78)
    have q2 := (p2.below hb2 p2.lt).alloc (.cells #[.int .i64 side, .slice A ks.length c, .slice M m.length cm, .slice D (m.length + 1) cd] 78)
    have q3 := Blk.new w2 #[.int .i64 side, .slice A ks.length c, .slice M m.length cm, .slice D (m.length + 1) cd] 78
    have hbe := (hb0.trans (hb2.mono hb0.size)).alloc (hb0.trans (hb2.mono hb0.size)).size (.cells #[.int .i64 side, .slice A ks.length c, .slice M m.length cm, .slice D (m.length + 1) cd] 78)
    have hI3 := (hI.below hbA).more hbA.size
    have y0 := (p1.below hb2 p1.lt).lt
    have y0' := (p2.below hb2 p2.lt).lt
    obtain ⟨⟨s0, s1⟩, _⟩ := (p1.below hb2 p1.lt).at2
    obtain ⟨⟨u0, u1⟩, _⟩ := (p2.below hb2 p2.lt).at2
    have y1 := q1.lt
    have y2 := q2.lt
    have y3 := q3.lt
    clear p1 p2 hb0 hb2 hI hbA hy
    go_wp2_with fail
    clear s0 s1 u0 u1 y0 y0'
    generalize hW3 : w2.alloc _ = W3 at *
    generalize hbk : w2.heap.size = bk at *
    clear hW3 hbk
    refine (posOk_any _ _ _ _ _ _ _ _ _ ((hR.below hbe).more hbe.size) ((hN.below hbe).more hbe.size) hsm hl).mono ?_
    rw [show posB side ks t l = posOk side ks t l from by unfold posB; rw [HRO.out]; rfl]
    rintro e w4 ⟨rfl, hb4⟩
    have q2 := q2.below hb4 y2
    have q3 := Blk.below q3 hb4 y3
    have hI4 := (hI3.below hb4).more hb4.size
    have hbe4 := hbe.trans (hb4.mono hbe.size)
    obtain ⟨⟨o0, o1⟩, _⟩ := q2.at2
    obtain ⟨c0, c1, c2, c3⟩ := Blk.at4 q3
    clear hb4 hbe q1 hI3
    cases hpo : posOk side ks t l
    · have HV := Lib.hid (show codeOfV side ks m t l = -1 by unfold codeOfV; rw [hpo]; simp)
      clear hpo
      go_wp2_with fail
      go_ret
      exact ⟨by rw [HV.out]; rfl, hbe4⟩
    · obtain ⟨ht, hl4, hf⟩ := posOk_facts hpo
      have HV := Lib.hid (show codeOfV side ks m t l = codeQ side t l m from if_pos ⟨HK.out, hpo⟩)
      have HFR := Lib.hid hf
      clear hpo hf
      go_wp2_with fail
      refine (code_any side A c ks.length M cm m D cd t N cn l _ ((hM.below hbe4).more hbe4.size) hI4 ((hN.below hbe4).more hbe4.size) HU.out HSD.out hm4 hl4 ht HFR.out).mono ?_
      rintro e w5 ⟨rfl, hb5⟩
      go_wp2_with fail
      go_ret
      exact ⟨by rw [HV.out]; rfl, hbe4.trans (hb5.mono hbe4.size)⟩
end Go.Proofs.Ytmfcgikfgikbfaa.Ko
