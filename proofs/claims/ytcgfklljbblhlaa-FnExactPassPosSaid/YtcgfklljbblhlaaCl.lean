/- slices.Clone at men. -/
import Derived.Test.YtcgfklljbblhlaaMm
import Derived.Maps.AppendAt
import Derived.WalkSpells
namespace Go.Proofs.Ytcgfklljbblhlaa.Ko
open Go.ChangeShapes Go.WideShapes Go.ChangeAt Go.RowKit Base Sq
set_option linter.unusedVariables false
set_option maxRecDepth 20000
attribute [local irreducible] wpQuiet

set_option maxHeartbeats 2000000 in
theorem clone_any (M : Option Addr) (c : Nat) (l : List St) (w : World) (h : IsSteps w w.heap.size M l) (hl : l.length ≤ 1048576) (hp : 0 < l.length) :
    Calls Try.prog 83 #[.slice M l.length c] w fun e w' => ∃ A c', e = .returned (.slice A l.length c') ∧ MenA w.heap.size w'.heap.size w' A l ∧ Below w.heap.size w w' := by
  obtain ⟨b, off, rfl, hB, _⟩ := h hp
  obtain ⟨i0, hi, hz0, hz1, hz2⟩ := info_parts manInfo
  have hmax : 0 + l.length ≤ maxLen := by unfold maxLen; omega
  have hN := fun w' (hb : Below w.heap.size w w') => (h.below hb).news
  have HN := Lib.hid hN
  clear h hN
  have heq := fun (w : World) (a : Option Addr) (n c n' c' : Nat) => Lib.run_eql_slice_nil (P := Try.prog) w 43 86 a n c n' c' Try.underlying43
  go_enter Try.func83, Try.ntmps83
  go_wp2_with (at_builtin; refine wpList_append_own _ rfl _ _ 43 rfl w.heap.size 86 i0 (.agg #[.int .i64 0, .int .i64 0, .int .i64 0]) 3 24 Try.underlying43 hi hz0 hz1 hz2 rfl (by decide) _ 0 [] rfl ⟨rfl, .inr ⟨w.heap.size, 0, #[], rfl, Nat.le_refl _, Blk.new w #[] 86, Nat.le_refl _, Nat.zero_le _, rfl, rfl⟩⟩ ⟨b, off, none⟩ l.length c (cellsM l) rfl (cellsM_len l) (HN.out _ (below_of w _)) (cellsM_one l) hmax (by omega) (by simp) ?_; intro v' w7 hown' hgrow7 hnil7)
  have hbe : Below w.heap.size w w7 := (below_of w (.cells #[] 86)).grown hgrow7 (by simp) (fun k hk => Nat.le_of_eq (Option.some.inj (show some w.heap.size = some k from hk)))
  have hown2 : w7.ownsRow w.heap.size 86 3 v' l.length (cellsM l) := by simpa using hown'
  obtain ⟨A, c', rfl, hm⟩ := MenA.of hown2
  clear hown' hgrow7 hnil7
  go_wp2_with fail
  go_ret
  exact ⟨A, c', rfl, hm, hbe⟩
end Go.Proofs.Ytcgfklljbblhlaa.Ko
