/- slices.Clone at men. -/
import Derived.Test.YtmfcgikfgikbfaaGreatMm
import Derived.Maps.AppendAt
import Derived.WalkSpells
namespace Go.Proofs.YtmfcgikfgikbfaaGreat.Ko
open Go.ChangeShapes Go.WideShapes Go.ChangeAt Go.RowKit Base Sq
set_option linter.unusedVariables false
set_option maxRecDepth 20000
attribute [local irreducible] wpQuiet

set_option maxHeartbeats 2000000 in
theorem clone_any (M : Option Addr) (c : Nat) (l : List St) (w : World) (h : IsSteps w w.heap.size M l) (hl : l.length ≤ 1048576) (hp : 0 < l.length) :
    Calls Tryz.prog 77 #[.slice M l.length c] w fun e w' => ∃ A c', e = .returned (.slice A l.length c') ∧ MenA w.heap.size w'.heap.size w' A l ∧ Below w.heap.size w w' := by
  obtain ⟨b, off, rfl, hB, _⟩ := h hp
  obtain ⟨i0, hi, hz0, hz1, hz2⟩ := info_parts manInfo
  have hmax : 0 + l.length ≤ maxLen := by unfold maxLen; omega
  have hN := fun w' (hb : Below w.heap.size w w') => (h.below hb).news
  have HN := Lib.hid hN
  clear h hN
  have heq := fun (w : World) (a : Option Addr) (n c n' c' : Nat) => Lib.run_eql_slice_nil (P := Tryz.prog) w 28 84 a n c n' c' Tryz.underlying28
  go_enter Tryz.func77, Tryz.ntmps77
  go_wp2_with (at_builtin; refine wpList_append_own _ rfl _ _ 28 rfl w.heap.size 84 i0 (.agg #[.int .i64 0, .int .i64 0, .int .i64 0]) 3 24 Tryz.underlying28 hi hz0 hz1 hz2 rfl (by decide) _ 0 [] rfl ⟨rfl, .inr ⟨w.heap.size, 0, #[], rfl, Nat.le_refl _, Blk.new w #[] 84, Nat.le_refl _, Nat.zero_le _, rfl, rfl⟩⟩ ⟨b, off, none⟩ l.length c (cellsM l) rfl (cellsM_len l) (HN.out _ (below_of w _)) (cellsM_one l) hmax (by omega) (by simp) ?_; intro v' w7 hown' hgrow7 hnil7)
  have hbe : Below w.heap.size w w7 := (below_of w (.cells #[] 84)).grown hgrow7 (by simp) (fun k hk => Nat.le_of_eq (Option.some.inj (show some w.heap.size = some k from hk)))
  have hown2 : w7.ownsRow w.heap.size 84 3 v' l.length (cellsM l) := by simpa using hown'
  obtain ⟨A, c', rfl, hm⟩ := MenA.of hown2
  clear hown' hgrow7 hnil7
  go_wp2_with fail
  go_ret
  exact ⟨A, c', rfl, hm, hbe⟩
end Go.Proofs.YtmfcgikfgikbfaaGreat.Ko
