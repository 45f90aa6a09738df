/- TurnSwap: its values; what is said of its result. -/
import Derived.Test.YtnchjpjlabeababPk
import Derived.Test.YtnchjpjlabeababCl
namespace Go.Proofs.Ytnchjpjlabeabab.Ko
open Go.ChangeShapes Go.WideShapes Go.ChangeAt Go.RowKit Base Sq
set_option linter.unusedVariables false
set_option maxRecDepth 20000

/-- each man the other player's -/
def swapM (s : St) : St := ⟨s.dx, 1 - s.dy, s.far⟩
def swapL (l : List St) : List St := l.map swapM
theorem swapL_len (l : List St) : (swapL l).length = l.length := by simp [swapL]
theorem swapL_at {l : List St} {i : Nat} (h : i < l.length) : stAt (swapL l) i = swapM (stAt l i) := by
  unfold stAt swapL; simp [List.getD_eq_getElem?_getD, h]
/-- the first k swapped, the others as they were -/
def swapK (l : List St) (k : Nat) : List St := swapL (l.take k) ++ l.drop k
theorem swapK_len (l : List St) (k : Nat) : (swapK l k).length = l.length := by simp [swapK, swapL]; omega
theorem swapK_all (l : List St) : swapK l l.length = swapL l := by simp [swapK]
theorem swapK_zero (l : List St) : swapK l 0 = l := by simp [swapK, swapL]
theorem swapK_at (l : List St) (k i : Nat) (h : i < l.length) : stAt (swapK l k) i = if i < k then swapM (stAt l i) else stAt l i := by
  unfold stAt swapK swapL
  simp only [List.getD_eq_getElem?_getD]
  split
  · rename_i h1
    rw [List.getElem?_append_left (by simp; omega)]
    simp [h, h1]
  · rename_i h1
    rw [List.getElem?_append_right (by simp; omega)]
    simp only [List.length_map, List.length_take, List.getElem?_drop]
    rw [show min k l.length = k from by omega, show k + (i - k) = i from by omega]
theorem take_snoc {l : List St} {k : Nat} (h : k < l.length) : l.take (k + 1) = l.take k ++ [stAt l k] := by
  rw [List.take_add_one, stAt_lt h]; simp [h]
theorem swapT_snoc {l : List St} {k : Nat} (h : k < l.length) : swapL (l.take (k + 1)) = swapL (l.take k) ++ [swapM (stAt l k)] := by
  rw [take_snoc h]; simp [swapL]
theorem StepsIn.swap {cs : Array Value} {l : List St} {k : Nat} (h : StepsIn cs (swapK l k) l.length) (hk : k < l.length) :
    StepsIn (cs.setIfInBounds (k * 3 + 1) (.int .i64 (1 - (stAt l k).dy))) (swapK l (k + 1)) l.length := by
  intro i hi
  obtain ⟨h1, h2, h3⟩ := h i hi
  rw [swapK_at l k i hi] at h1 h2 h3
  rw [swapK_at l (k + 1) i hi]
  by_cases e : i = k
  · subst e
    rw [if_neg (by omega)] at h1 h2 h3
    rw [if_pos (by omega)]
    exact ⟨set_get h1 (by omega), set_same (size_of_some h2), set_get h3 (by omega)⟩
  · have e2 : (i < k + 1) ↔ (i < k) := by omega
    simp only [e2]
    exact ⟨set_get h1 (by omega), set_get h2 (by omega), set_get h3 (by omega)⟩
def swT (side : Int) (ks : List Kd) (t : Int) (l : List St) : Int := if posB side ks t l = true then 1 - t else 0
def swL (side : Int) (ks : List Kd) (t : Int) (l : List St) : List St := if posB side ks t l = true then swapL l else []
theorem swL_len (side : Int) (ks : List Kd) (t : Int) (l : List St) : (swL side ks t l).length ≤ l.length := by
  unfold swL; split
  · exact Nat.le_of_eq (swapL_len l)
  · simp
theorem sw_no {side t : Int} {ks : List Kd} {l : List St} (h : posB side ks t l = false) : swT side ks t l = 0 ∧ swL side ks t l = [] := by
  unfold swT swL; rw [h]; exact ⟨rfl, rfl⟩
theorem sw_yes {side t : Int} {ks : List Kd} {l : List St} (h : posB side ks t l = true) : swT side ks t l = 1 - t ∧ swL side ks t l = swapL l := by
  unfold swT swL; rw [h]; exact ⟨rfl, rfl⟩
theorem posB_men {side t : Int} {ks : List Kd} {l : List St} (h : posB side ks t l = true) : (0 ≤ t ∧ t ≤ 1) ∧ 0 < l.length ∧ l.length ≤ 4 ∧ ∀ i, i < l.length → 0 ≤ (stAt l i).dy ∧ (stAt l i).dy ≤ 1 := by
  obtain ⟨_, hs, _⟩ := posB_facts h
  obtain ⟨h1, h2, h3, _, h4⟩ := shapeB_facts hs
  refine ⟨h1, ?_, h2, fun i hi => (h4 i hi).2.1⟩
  have := (cntK_bd ks l 0 l.length).2
  omega
def SwapPost (w w' : World) (side : Int) (ks : List Kd) (t : Int) (l : List St) (e : Ending) : Prop :=
  ∃ A c, e = .returned (.agg #[.int .i64 (swT side ks t l), .slice A (swL side ks t l).length c]) ∧ MenA w.heap.size w'.heap.size w' A (swL side ks t l) ∧ Below w.heap.size w w'
end Go.Proofs.Ytnchjpjlabeabab.Ko
