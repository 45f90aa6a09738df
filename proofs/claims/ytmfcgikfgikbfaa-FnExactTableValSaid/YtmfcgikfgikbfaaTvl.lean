/- TableVal of the model and of the program. -/
import Derived.Test.YtmfcgikfgikbfaaQf
import Derived.Test.YtmfcgikfgikbfaaPy
import Derived.Test.YtmfcgikfgikbfaaIv
namespace Go.Proofs.Ytmfcgikfgikbfaa.Ko
open Go.ChangeShapes Go.WideShapes Go.ChangeAt Go.RowKit Base Sq
set_option linter.unusedVariables false
set_option maxRecDepth 20000
attribute [local irreducible] wpQuiet

theorem codeOfV_bd (side : Int) (ks : List Kd) (m : List Pc) (t : Int) (l : List St) : codeOfV side ks m t l = -1 ∨ (matV side ks m = true ∧ 0 ≤ codeOfV side ks m t l ∧ codeOfV side ks m t l + 1 ≤ numV side m.length) := by
  by_cases h : matV side ks m = true ∧ posOk side ks t l = true
  · have hv : codeOfV side ks m t l = codeQ side t l m := if_pos h
    obtain ⟨hro, hm4⟩ := matV_facts h.1
    obtain ⟨hs, _⟩ := rulesOk_facts hro
    obtain ⟨ht, hl4, hf⟩ := posOk_facts h.2
    rw [hv]
    unfold codeQ codeV
    split
    · exact .inl rfl
    · split
      · exact .inr ⟨h.1, codK_bd m hs ht hf m.length⟩
      · exact .inl rfl
  · exact .inl (if_neg h)
/-- TableVal -/
def valV (side : Int) (ks : List Kd) (m : List Pc) (z : List Int) (t : Int) (l : List St) : Int :=
  if codeOfV side ks m t l = -1 ∨ ¬ (z.length : Int) = numV side m.length then 0 else In.iAt z (codeOfV side ks m t l).toNat

set_option maxHeartbeats 4000000 in
theorem specTableVal_any (side : Int) (A : Option Addr) (c : Nat) (ks : List Kd) (M : Option Addr) (cm : Nat) (m : List Pc) (V : Option Addr) (cv : Nat) (z : List Int) (t : Int) (N : Option Addr) (cn : Nat) (l : List St) (w : World) (hR : IsKinds w w.heap.size A ks) (hM : IsPcs w w.heap.size M m)
    (hV : In.IsInts w w.heap.size V z) (hN : IsSteps w w.heap.size N l) (hsm : Small ks) (hm : m.length ≤ 1048576) (hz : z.length ≤ 1048576) (hl : l.length ≤ 1048576) :
    Calls Try.prog 10 #[.agg #[.int .i64 side, .slice A ks.length c], .slice M m.length cm, .slice V z.length cv, .agg #[.int .i64 t, .slice N l.length cn]] w fun e w' => e = .returned (.int .i64 (valV side ks m z t l)) ∧ Below w.heap.size w w' := by
  have hb0 : Below w.heap.size w ((w.alloc (.cells #[.int .i64 side, .slice A ks.length c] 36)).alloc (.cells #[.int .i64 t, .slice N l.length cn] 43)) := (by repeat (first | exact Below.refl _ _ | assumption | (refine Below.alloc ?_ (by first | omega | (simp; done) | (simp; omega)) _) | (refine Below.setCell ?_ (by first | omega | (simp; done) | (simp; omega)) _) | refine Below.drew ?_))
  have p1 := (Blk.new w #[.int .i64 side, .slice A ks.length c] 36).alloc (.cells #[.int .i64 t, .slice N l.length cn] 43)
  go_enter Try.func10, Try.ntmps10
  go_wp2_with fail
  generalize hW0 : (w.alloc _).alloc _ = W0 at *
  clear hW0
  refine (specCodeOf_any _ _ _ _ _ _ _ _ _ _ _ _ ((hR.below hb0).more hb0.size) ((hM.below hb0).more hb0.size) ((hN.below hb0).more hb0.size) hsm hm hl).mono ?_
  rintro e w2 ⟨rfl, hb2⟩
  have q1 := p1.below hb2 p1.lt
  have hbe := hb0.trans (hb2.mono hb0.size)
  have y1 := q1.lt
  obtain ⟨⟨r0, r1⟩, _⟩ := q1.at2
  have hv := codeOfV_bd side ks m t l
  have HW := Lib.hid (show valV side ks m z t l = if codeOfV side ks m t l = -1 ∨ ¬ (z.length : Int) = numV side m.length then 0 else In.iAt z (codeOfV side ks m t l).toNat from rfl)
  generalize codeOfV side ks m t l = cd at *
  clear p1 hb0 hb2
  rcases hv with rfl | ⟨hmat, h0, h1⟩
  · have HZ := Lib.hid (HW.out.trans (if_pos (.inl rfl)))
    go_wp2_with fail
    go_ret
    exact ⟨by rw [HZ.out]; rfl, hbe⟩
  · obtain ⟨hro, hm4⟩ := matV_facts hmat
    obtain ⟨hs, _⟩ := rulesOk_facts hro
    have HS := Lib.hid hs
    have hnn : decide (cd < 0) = false := decide_eq_false (by omega)
    clear hmat hro hs
    by_cases he : (z.length : Int) = numV side m.length
    · have hcz : cd.toNat < z.length := by omega
      have HZ := Lib.hid (HW.out.trans (if_neg (by rintro (h | h); exact absurd h (by omega); exact h he)))
      obtain ⟨b, rfl, hB, hc⟩ := hV.below hbe (by omega)
      have c0 := hc cd.toNat hcz
      have hd : ((z.length : Int) == numV side m.length) = true := by simp [he]
      have hd2 : ((z.length : Int) != numV side m.length) = false := by simp [he]
      have h1' : cd < (z.length : Int) := by omega
      clear hc he HW
      go_wp2_with fail
      refine (l7Many_any _ _ _ _ _ _ _ _ HS.out hm4).mono ?_
      rintro e w3 ⟨rfl, hb3⟩
      have c1 := (hb3.cell (p := ⟨b, cd.toNat, none⟩) (by have := hbe.size; show b < _; omega)).trans c0
      clear c0
      go_wp2_with fail
      go_ret
      exact ⟨by rw [HZ.out]; rfl, hbe.trans (hb3.mono hbe.size)⟩
    · have HZ := Lib.hid (HW.out.trans (if_pos (.inr he)))
      have hd : ((z.length : Int) == numV side m.length) = false := by simp [he]
      have hd2 : ((z.length : Int) != numV side m.length) = true := by simp [he]
      clear he HW
      go_wp2_with fail
      refine (l7Many_any _ _ _ _ _ _ _ _ HS.out hm4).mono ?_
      rintro e w3 ⟨rfl, hb3⟩
      go_wp2_with fail
      go_ret
      exact ⟨by rw [HZ.out]; rfl, hbe.trans (hb3.mono hbe.size)⟩
set_option maxHeartbeats 4000000 in
theorem tableVal_any (side : Int) (A : Option Addr) (c : Nat) (ks : List Kd) (M : Option Addr) (cm : Nat) (m : List Pc) (V : Option Addr) (cv : Nat) (z : List Int) (t : Int) (N : Option Addr) (cn : Nat) (l : List St) (w : World) (hR : IsKinds w w.heap.size A ks) (hM : IsPcs w w.heap.size M m)
    (hV : In.IsInts w w.heap.size V z) (hN : IsSteps w w.heap.size N l) (hsm : Small ks) (hm : m.length ≤ 1048576) (hz : z.length ≤ 1048576) (hl : l.length ≤ 1048576) :
    Calls Try.prog 15 #[.agg #[.int .i64 side, .slice A ks.length c], .slice M m.length cm, .slice V z.length cv, .agg #[.int .i64 t, .slice N l.length cn]] w fun e w' => e = .returned (.int .i64 (valV side ks m z t l)) ∧ Below w.heap.size w w' := by
  have hb0 : Below w.heap.size w ((w.alloc (.cells #[.int .i64 side, .slice A ks.length c] 36)).alloc (.cells #[.int .i64 t, .slice N l.length cn] 43)) := (by repeat (first | exact Below.refl _ _ | assumption | (refine Below.alloc ?_ (by first | omega | (simp; done) | (simp; omega)) _) | (refine Below.setCell ?_ (by first | omega | (simp; done) | (simp; omega)) _) | refine Below.drew ?_))
  have p1 := (Blk.new w #[.int .i64 side, .slice A ks.length c] 36).alloc (.cells #[.int .i64 t, .slice N l.length cn] 43)
  go_enter Try.func15, Try.ntmps15
  go_wp2_with fail
  generalize hW0 : (w.alloc _).alloc _ = W0 at *
  clear hW0
  refine (codeOf_any _ _ _ _ _ _ _ _ _ _ _ _ ((hR.below hb0).more hb0.size) ((hM.below hb0).more hb0.size) ((hN.below hb0).more hb0.size) hsm hm hl).mono ?_
  rintro e w2 ⟨rfl, hb2⟩
  have q1 := p1.below hb2 p1.lt
  have hbe := hb0.trans (hb2.mono hb0.size)
  have y1 := q1.lt
  obtain ⟨⟨r0, r1⟩, _⟩ := q1.at2
  have hv := codeOfV_bd side ks m t l
  have HW := Lib.hid (show valV side ks m z t l = if codeOfV side ks m t l = -1 ∨ ¬ (z.length : Int) = numV side m.length then 0 else In.iAt z (codeOfV side ks m t l).toNat from rfl)
  generalize codeOfV side ks m t l = cd at *
  clear p1 hb0 hb2
  rcases hv with rfl | ⟨hmat, h0, h1⟩
  · have HZ := Lib.hid (HW.out.trans (if_pos (.inl rfl)))
    go_wp2_with fail
    go_ret
    exact ⟨by rw [HZ.out]; rfl, hbe⟩
  · obtain ⟨hro, hm4⟩ := matV_facts hmat
    obtain ⟨hs, _⟩ := rulesOk_facts hro
    have HS := Lib.hid hs
    have hnn : (cd == -1) = false := by simp; omega
    have HM := Lib.hid (show manyV side ks m = numV side m.length by unfold manyV; rw [hmat]; rfl)
    clear hmat hro hs
    by_cases he : (z.length : Int) = numV side m.length
    · have hcz : cd.toNat < z.length := by omega
      have HZ := Lib.hid (HW.out.trans (if_neg (by rintro (h | h); exact absurd h (by omega); exact h he)))
      obtain ⟨b, rfl, hB, hc⟩ := hV.below hbe (by omega)
      have c0 := hc cd.toNat hcz
      have hd : ((z.length : Int) == numV side m.length) = true := by simp [he]
      have hd2 : ((z.length : Int) != numV side m.length) = false := by simp [he]
      have h1' : cd < (z.length : Int) := by omega
      clear hc he HW
      go_wp2_with fail
      refine (codeMany_any _ _ _ _ _ _ _ _ ((hR.below hbe).more hbe.size) ((hM.below hbe).more hbe.size) hsm hm).mono ?_
      rw [HM.out]
      rintro e w3 ⟨rfl, hb3⟩
      have c1 := (hb3.cell (p := ⟨b, cd.toNat, none⟩) (by have := hbe.size; show b < _; omega)).trans c0
      clear c0
      go_wp2_with fail
      go_ret
      exact ⟨by rw [HZ.out]; rfl, hbe.trans (hb3.mono hbe.size)⟩
    · have HZ := Lib.hid (HW.out.trans (if_pos (.inr he)))
      have hd : ((z.length : Int) == numV side m.length) = false := by simp [he]
      have hd2 : ((z.length : Int) != numV side m.length) = true := by simp [he]
      clear he HW
      go_wp2_with fail
      refine (codeMany_any _ _ _ _ _ _ _ _ ((hR.below hbe).more hbe.size) ((hM.below hbe).more hbe.size) hsm hm).mono ?_
      rw [HM.out]
      rintro e w3 ⟨rfl, hb3⟩
      go_wp2_with fail
      go_ret
      exact ⟨by rw [HZ.out]; rfl, hbe.trans (hb3.mono hbe.size)⟩
end Go.Proofs.Ytmfcgikfgikbfaa.Ko
