/- SearchMany of the model. -/
import Derived.Test.YtoaajkkebnleaaaGreatDoorLn
import Derived.Test.YtoaajkkebnleaaaGreatDoorSm
namespace Go.Proofs.YtoaajkkebnleaaaGreatDoor.Ko
open Go.ChangeShapes Go.WideShapes Go.ChangeAt Go.RowKit Base Sq
set_option linter.unusedVariables false
set_option maxRecDepth 20000
attribute [local irreducible] wpQuiet

set_option maxHeartbeats 4000000 in
theorem specSearchMany_any (side : Int) (A : Option Addr) (c : Nat) (ks : List Kd) (t : Int) (M : Option Addr) (cm : Nat) (l : List St) (n : Int) (w : World) (hR : IsKinds w w.heap.size A ks) (hM : IsSteps w w.heap.size M l)
    (hsm : Small ks) (hl : l.length ≤ 1048576) :
    Calls Tryz.prog 20 #[.agg #[.int .i64 side, .slice A ks.length c], .agg #[.int .i64 t, .slice M l.length cm], .int .i64 n] w fun e w' => e = .returned (.int .i64 (manyS side ks t l n)) ∧ Below w.heap.size w w' := by
  have hb0 := (below_of w (.cells #[.int .i64 side, .slice A ks.length c] 34)).alloc (by first | (simp; done) | (simp; omega) | omega) (.cells #[.int .i64 t, .slice M l.length cm] 38)
  have p1 := (Blk.new w #[.int .i64 side, .slice A ks.length c] 34).alloc (.cells #[.int .i64 t, .slice M l.length cm] 38)
  have p2 := Blk.new (w.alloc (.cells #[.int .i64 side, .slice A ks.length c] 34)) #[.int .i64 t, .slice M l.length cm] 38
  simp only [World.size_alloc] at p2
  have hR1 := (hR.below hb0).more hb0.size
  have hM1 := (hM.below hb0).more hb0.size
  have hz := hb0.size
  clear hR hM
  go_enter Tryz.func20, Tryz.ntmps20
  go_wp2_with fail
  generalize hW0 : (w.alloc _).alloc _ = W0 at *
  clear hW0
  refine (specPosOk_any _ _ _ _ _ _ _ _ _ hR1 hM1 hsm hl).mono ?_
  rintro e w2 ⟨rfl, hb2⟩
  have p1' := p1.below hb2 p1.lt
  have p2' := p2.below hb2 p2.lt
  have hR2 := (hR1.below hb2).more hb2.size
  have hM2 := (hM1.below hb2).more hb2.size
  have hbe := hb0.trans (hb2.mono hz)
  obtain ⟨⟨r0, r1⟩, _⟩ := p1'.at2
  obtain ⟨⟨o0, o1⟩, _⟩ := p2'.at2
  have hz2 := hbe.size
  clear p1 p2 hb0 hb2 hR1 hM1
  cases hp : posB side ks t l
  · have HN := Lib.hid (show manyS side ks t l n = -1 by unfold manyS searchB; rw [hp, Bool.and_false]; rfl)
    clear hp
    go_wp2_with fail
    go_ret
    exact ⟨ri HN.out.symm, hbe⟩
  · obtain ⟨hok, hsh, _⟩ := posB_facts hp
    have HO := Lib.hid hok
    have HS := Lib.hid hsh
    by_cases hn : 0 ≤ n ∧ n ≤ 3
    · have hi : inB n 0 3 = true := by unfold inB; exact decide_eq_true hn
      have HI := Lib.hid hi
      have HN := Lib.hid (show manyS side ks t l n = linesV side ks n.toNat t l by unfold manyS searchB; rw [hp, decide_eq_true hn]; rfl)
      obtain ⟨m, rfl⟩ : ∃ m : Nat, n = (m : Int) := ⟨n.toNat, by omega⟩
      have hm3 : m ≤ 3 := by omega
      rw [Int.toNat_natCast] at HN
      clear hp hok hsh hn hi
      go_wp2_with (go_at_call 39; refine (in_any _ _ _ _).mono ?_; rw [HI.out]; rintro e w' ⟨rfl, rfl⟩)
      refine (l10Many_any side A c ks HO.out m hm3 t M cm l _ hR2 hM2 HS.out).mono ?_
      rintro e w3 ⟨rfl, hb3⟩
      go_wp2_with fail
      go_ret
      exact ⟨ri HN.out.symm, hbe.trans (hb3.mono hz2)⟩
    · have hi : inB n 0 3 = false := by unfold inB; exact decide_eq_false hn
      have HI := Lib.hid hi
      have HN := Lib.hid (show manyS side ks t l n = -1 by unfold manyS searchB; rw [hp, decide_eq_false hn]; rfl)
      clear hp hok hsh hn hi
      go_wp2_with (go_at_call 39; refine (in_any _ _ _ _).mono ?_; rw [HI.out]; rintro e w' ⟨rfl, rfl⟩)
      go_ret
      exact ⟨ri HN.out.symm, hbe⟩
end Go.Proofs.YtoaajkkebnleaaaGreatDoor.Ko
