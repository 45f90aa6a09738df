/- SearchMany of the program. -/
import Derived.Test.YtoaajkkebnleaaaGreatDoorLm
import Derived.Test.YtoaajkkebnleaaaGreatDoorPk
namespace Go.Proofs.YtoaajkkebnleaaaGreatDoor.Ko
open Go.ChangeShapes Go.WideShapes Go.ChangeAt Go.RowKit Base Sq
set_option linter.unusedVariables false
set_option maxRecDepth 20000
attribute [local irreducible] wpQuiet

def searchB (side : Int) (ks : List Kd) (t : Int) (l : List St) (n : Int) : Bool := decide (0 ≤ n ∧ n ≤ 3) && posB side ks t l
def manyS (side : Int) (ks : List Kd) (t : Int) (l : List St) (n : Int) : Int := if searchB side ks t l n = true then linesV side ks n.toNat t l else -1

set_option maxHeartbeats 4000000 in
theorem searchOk_any (side : Int) (A : Option Addr) (c : Nat) (ks : List Kd) (t : Int) (M : Option Addr) (cm : Nat) (l : List St) (n : Int) (w : World) (hR : IsKinds w w.heap.size A ks) (hM : IsSteps w w.heap.size M l)
    (hsm : Small ks) (hl : l.length ≤ 1048576) :
    Calls Tryz.prog 41 #[.agg #[.int .i64 side, .slice A ks.length c], .agg #[.int .i64 t, .slice M l.length cm], .int .i64 n] w fun e w' => e = .returned (.bool (searchB side ks t l n)) ∧ Below w.heap.size w w' := by
  have hb0 := (below_of w (.cells #[.int .i64 side, .slice A ks.length c] 34)).alloc (by first | (simp; done) | (simp; omega) | omega) (.cells #[.int .i64 t, .slice M l.length cm] 38)
  have hR1 := (hR.below hb0).more hb0.size
  have hM1 := (hM.below hb0).more hb0.size
  have hz := hb0.size
  by_cases h0 : 0 ≤ n
  · by_cases h3 : n ≤ 3
    · have hd0 : decide (0 ≤ n) = true := decide_eq_true h0
      have hd3 : decide (n ≤ 3) = true := decide_eq_true h3
      have HN := Lib.hid (show searchB side ks t l n = posB side ks t l by unfold searchB; rw [decide_eq_true (show 0 ≤ n ∧ n ≤ 3 from ⟨h0, h3⟩)]; rfl)
      clear h0 h3 hR hM
      go_enter Tryz.func41, Tryz.ntmps41
      go_wp2_with fail
      refine (posOk_any _ _ _ _ _ _ _ _ _ hR1 hM1 hsm hl).mono ?_
      rintro e w2 ⟨rfl, hb2⟩
      go_wp2_with fail
      go_ret
      exact ⟨rb HN.out.symm, hb0.trans (hb2.mono hz)⟩
    · have hd0 : decide (0 ≤ n) = true := decide_eq_true h0
      have hd3 : decide (n ≤ 3) = false := decide_eq_false h3
      have HN := Lib.hid (show searchB side ks t l n = false by unfold searchB; rw [decide_eq_false (fun h => h3 h.2)]; rfl)
      clear h0 h3 hR hM hR1 hM1
      go_enter Tryz.func41, Tryz.ntmps41
      go_wp2_with fail
      go_ret
      exact ⟨rb HN.out.symm, hb0⟩
  · have hd0 : decide (0 ≤ n) = false := decide_eq_false h0
    have HN := Lib.hid (show searchB side ks t l n = false by unfold searchB; rw [decide_eq_false (fun h => h0 h.1)]; rfl)
    clear h0 hR hM hR1 hM1
    go_enter Tryz.func41, Tryz.ntmps41
    go_wp2_with fail
    go_ret
    exact ⟨rb HN.out.symm, hb0⟩

set_option maxHeartbeats 4000000 in
theorem searchMany_any (side : Int) (A : Option Addr) (c : Nat) (ks : List Kd) (t : Int) (M : Option Addr) (cm : Nat) (l : List St) (n : Int) (w : World) (hR : IsKinds w w.heap.size A ks) (hM : IsSteps w w.heap.size M l) (hT : TabAt w)
    (hsm : Small ks) (hl : l.length ≤ 1048576) :
    Calls Tryz.prog 21 #[.agg #[.int .i64 side, .slice A ks.length c], .agg #[.int .i64 t, .slice M l.length cm], .int .i64 n] w fun e w' => e = .returned (.int .i64 (manyS side ks t l n)) ∧ Below w.heap.size w w' := by
  have hb0 := (below_of w (.cells #[.int .i64 side, .slice A ks.length c] 34)).alloc (by first | (simp; done) | (simp; omega) | omega) (.cells #[.int .i64 t, .slice M l.length cm] 38)
  have p1 := (Blk.new w #[.int .i64 side, .slice A ks.length c] 34).alloc (.cells #[.int .i64 t, .slice M l.length cm] 38)
  have p2 := Blk.new (w.alloc (.cells #[.int .i64 side, .slice A ks.length c] 34)) #[.int .i64 t, .slice M l.length cm] 38
  simp only [World.size_alloc] at p2
  have hR1 := (hR.below hb0).more hb0.size
  have hM1 := (hM.below hb0).more hb0.size
  have hT1 := hT.below hb0 hT.lt
  have hz := hb0.size
  clear hR hM hT
  go_enter Tryz.func21, Tryz.ntmps21
  go_wp2_with fail
  generalize hW0 : (w.alloc _).alloc _ = W0 at *
  clear hW0
  refine (searchOk_any _ _ _ _ _ _ _ _ _ _ hR1 hM1 hsm hl).mono ?_
  rintro e w2 ⟨rfl, hb2⟩
  have p1' := p1.below hb2 p1.lt
  have p2' := p2.below hb2 p2.lt
  have hR2 := (hR1.below hb2).more hb2.size
  have hM2 := (hM1.below hb2).more hb2.size
  have hT2 := hT1.keep hb2
  have hbe := hb0.trans (hb2.mono hz)
  obtain ⟨⟨r0, r1⟩, _⟩ := p1'.at2
  obtain ⟨⟨o0, o1⟩, _⟩ := p2'.at2
  have hz2 := hbe.size
  clear p1 p2 hb0 hb2 hR1 hM1 hT1
  cases hb : searchB side ks t l n
  · have HN := Lib.hid (show manyS side ks t l n = -1 by unfold manyS; rw [hb]; rfl)
    clear hb
    go_wp2_with fail
    go_ret
    exact ⟨ri HN.out.symm, hbe⟩
  · have HN := Lib.hid (show manyS side ks t l n = linesV side ks n.toNat t l by unfold manyS; rw [hb]; rfl)
    have hb' := hb
    unfold searchB at hb'
    obtain ⟨hn, hp⟩ := (Bool.and_eq_true_iff).1 hb'
    have hn := of_decide_eq_true hn
    obtain ⟨m, rfl⟩ : ∃ m : Nat, n = (m : Int) := ⟨n.toNat, by omega⟩
    obtain ⟨hok, hsh, _⟩ := posB_facts hp
    have HO := Lib.hid hok
    have HS := Lib.hid hsh
    have hm3 : m ≤ 3 := by omega
    rw [Int.toNat_natCast] at HN
    clear hb hb' hp hok hsh hn
    go_wp2_with fail
    refine (linesMany_any side A c ks HO.out m hm3 t M cm l _ hR2 hM2 hT2 HS.out).mono ?_
    rintro e w3 ⟨rfl, hb3⟩
    go_wp2_with fail
    go_ret
    exact ⟨ri HN.out.symm, hbe.trans (hb3.mono hz2)⟩
end Go.Proofs.YtoaajkkebnleaaaGreatDoor.Ko
