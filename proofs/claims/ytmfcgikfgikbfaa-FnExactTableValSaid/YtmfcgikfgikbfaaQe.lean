/- CodeOf of the model and of the program. -/
import Derived.Test.YtmfcgikfgikbfaaQd
import Derived.Test.YtmfcgikfgikbfaaPk
namespace Go.Proofs.Ytmfcgikfgikbfaa.Ko
open Go.ChangeShapes Go.WideShapes Go.ChangeAt Go.RowKit Base Sq
set_option linter.unusedVariables false
set_option maxRecDepth 20000
attribute [local irreducible] wpQuiet

def codeOfV (side : Int) (ks : List Kd) (m : List Pc) (t : Int) (l : List St) : Int := if matV side ks m = true ∧ posOk side ks t l = true then codeQ side t l m else -1
theorem posOk_facts {side t : Int} {ks : List Kd} {l : List St} (h : posOk side ks t l = true) : (0 ≤ t ∧ t ≤ 1) ∧ l.length ≤ 4 ∧ (∀ i, i < l.length → 0 ≤ (stAt l i).far ∧ (stAt l i).far < side * side) := by
  unfold posOk at h
  simp only [Bool.and_eq_true] at h
  obtain ⟨h1, h2, _, _, h3⟩ := shapeB_facts h.1
  exact ⟨h1, h2, fun i hi => (h3 i hi).2.2.1⟩

set_option maxHeartbeats 4000000 in
theorem specCodeOf_any (side : Int) (A : Option Addr) (c : Nat) (ks : List Kd) (M : Option Addr) (cm : Nat) (m : List Pc) (t : Int) (N : Option Addr) (cn : Nat) (l : List St) (w : World) (hR : IsKinds w w.heap.size A ks) (hM : IsPcs w w.heap.size M m)
    (hN : IsSteps w w.heap.size N l) (hsm : Small ks) (hm : m.length ≤ 1048576) (hl : l.length ≤ 1048576) :
    Calls Try.prog 30 #[.agg #[.int .i64 side, .slice A ks.length c], .slice M m.length cm, .agg #[.int .i64 t, .slice N l.length cn]] w fun e w' => e = .returned (.int .i64 (codeOfV side ks m t l)) ∧ Below w.heap.size w w' := by
  have hb0 : Below w.heap.size w ((w.alloc (.cells #[.int .i64 side, .slice A ks.length c] 36)).alloc (.cells #[.int .i64 t, .slice N l.length cn] 43)) := (by repeat (first | exact Below.refl _ _ | assumption | (refine Below.alloc ?_ (by first | omega | (simp; done) | (simp; omega)) _) | (refine Below.setCell ?_ (by first | omega | (simp; done) | (simp; omega)) _) | refine Below.drew ?_))
  have p1 := (Blk.new w #[.int .i64 side, .slice A ks.length c] 36).alloc (.cells #[.int .i64 t, .slice N l.length cn] 43)
  have p2 := Blk.new (w.alloc (.cells #[.int .i64 side, .slice A ks.length c] 36)) #[.int .i64 t, .slice N l.length cn] 43
  simp only [World.size_alloc] at p2
  go_enter Try.func30, Try.ntmps30
  go_wp2_with fail
  generalize hW0 : (w.alloc _).alloc _ = W0 at *
  clear hW0
  refine (specMatOk_any _ _ _ _ _ _ _ _ ((hR.below hb0).more hb0.size) ((hM.below hb0).more hb0.size) hsm hm).mono ?_
  rintro e w2 ⟨rfl, hb2⟩
  have q1 := p1.below hb2 p1.lt
  have q2 := p2.below hb2 p2.lt
  have hbe := hb0.trans (hb2.mono hb0.size)
  have y1 := q1.lt
  have y2 := q2.lt
  obtain ⟨⟨r0, r1⟩, _⟩ := q1.at2
  obtain ⟨⟨o0, o1⟩, _⟩ := q2.at2
  clear p1 p2 hb0 hb2
  cases hok : matV side ks m
  · have HV := Lib.hid (show codeOfV side ks m t l = -1 by unfold codeOfV; rw [hok]; rfl)
    clear hok
    go_wp2_with fail
    go_ret
    exact ⟨by rw [HV.out]; rfl, hbe⟩
  · have HK := Lib.hid hok
    obtain ⟨hro, hm4⟩ := matV_facts hok
    obtain ⟨hs, _⟩ := rulesOk_facts hro
    have HRO := Lib.hid hro
    have HSD := Lib.hid hs
    clear hok hro hs
    go_wp2_with fail
    refine (l3Ok_any _ _ _ _ _ _ _ _ _ ((hR.below hbe).more hbe.size) ((hN.below hbe).more hbe.size) HRO.out hl).mono ?_
    rintro e w3 ⟨rfl, hb3⟩
    have q1 := q1.below hb3 y1
    have q2 := q2.below hb3 y2
    have hbe3 := hbe.trans (hb3.mono hbe.size)
    have y1 := q1.lt
    have y2 := q2.lt
    clear r0 r1 o0 o1 hbe hb3
    obtain ⟨⟨r0, r1⟩, _⟩ := q1.at2
    obtain ⟨⟨o0, o1⟩, _⟩ := q2.at2
    cases hpo : posOk side ks t l
    · have HV := Lib.hid (show codeOfV side ks m t l = -1 by unfold codeOfV; rw [hpo]; simp)
      clear hpo
      go_wp2_with fail
      go_ret
      exact ⟨by rw [HV.out]; rfl, hbe3⟩
    · obtain ⟨ht, hl4, hf⟩ := posOk_facts hpo
      have hv : codeOfV side ks m t l = codeQ side t l m := if_pos ⟨HK.out, hpo⟩
      have HFR := Lib.hid hf
      clear hpo hf
      go_wp2_with fail
      refine (l7Twice_any _ _ _ _ _ ((hN.below hbe3).more hbe3.size) hl).mono ?_
      rintro e w4 ⟨rfl, hb4⟩
      have q1 := q1.below hb4 y1
      have q2 := q2.below hb4 y2
      have hbe4 := hbe3.trans (hb4.mono hbe3.size)
      clear r0 r1 o0 o1 hbe3 hb4
      obtain ⟨⟨r0, r1⟩, _⟩ := q1.at2
      obtain ⟨⟨o0, o1⟩, _⟩ := q2.at2
      cases htw : twiceB l
      · have HV := Lib.hid (show codeOfV side ks m t l = codeV side t l m by rw [hv]; unfold codeQ; rw [htw]; rfl)
        clear htw hv
        go_wp2_with fail
        refine (l7Code_any side A c ks.length M cm m t N cn l _ ((hM.below hbe4).more hbe4.size) ((hN.below hbe4).more hbe4.size) HSD.out hm4 hl4 ht HFR.out).mono ?_
        rintro e w5 ⟨rfl, hb5⟩
        go_wp2_with fail
        go_ret
        exact ⟨by rw [HV.out]; rfl, hbe4.trans (hb5.mono hbe4.size)⟩
      · have HV := Lib.hid (show codeOfV side ks m t l = -1 by rw [hv]; unfold codeQ; rw [htw]; rfl)
        clear htw hv
        go_wp2_with fail
        go_ret
        exact ⟨by rw [HV.out]; rfl, hbe4⟩
end Go.Proofs.Ytmfcgikfgikbfaa.Ko
