/- Slices of whole numbers in the exact laws: compared, marked, held. -/
import Derived.Test.YtjanalljaacnoaaJq
import Derived.Test.YtjanalljaacnoaaJa
namespace Go.Proofs.Ytjanalljaacnoaa.Ko
open Go.ChangeShapes Go.WideShapes Go.ChangeAt Go.RowKit Base Sq In
set_option linter.unusedVariables false
set_option maxRecDepth 20000
attribute [local irreducible] wpQuiet

/-- numbers in a block of the call's own, from lo below hi -/
def NewInts (lo hi : Nat) (w : World) (A : Option Addr) (l : List Int) : Prop :=
  0 < l.length → ∃ b cs, A = some ⟨b, 0, none⟩ ∧ lo ≤ b ∧ b < hi ∧ Blk w b cs 3 ∧ l.length ≤ cs.size ∧ ∀ i, i < l.length → cs[i]? = some (.int .i64 (iAt l i))
theorem NewInts.of {w : World} {base : Nat} {v : Value} {l : List Int} (h : Own w base v l) : ∃ A c, v = .slice A l.length c ∧ NewInts base w.heap.size w A l := by
  rcases h.2 with ⟨rfl, h0⟩ | ⟨g, cap, cur, rfl, hb, hg, hn, hm, hs, ht⟩
  · exact ⟨none, 0, by rw [h0], fun hp => by omega⟩
  · refine ⟨some ⟨g, 0, none⟩, cap, rfl, fun _ => ⟨g, cur, rfl, hb, lt_of_block hg, hg, by omega, fun i hi => ?_⟩⟩
    have h2 : (cur.toList.take (l.length * 1))[i]? = some (.int .i64 (iAt l i)) := by
      rw [ht]; unfold nums iAt; rw [List.getElem?_map, List.getElem?_eq_getElem hi]; simp [List.getD_eq_getElem?_getD, hi]
    rw [List.getElem?_take_of_lt (by omega)] at h2
    simpa using h2
theorem NewInts.is {lo hi : Nat} {w : World} {A : Option Addr} {l : List Int} (h : NewInts lo hi w A l) : IsInts w hi A l := fun hn => by
  obtain ⟨b, cs, rfl, h1, h2, h3, h4, h5⟩ := h hn
  exact ⟨b, rfl, h2, fun i hi' => (h3.cell i).trans (h5 i hi')⟩
theorem NewInts.below {lo hi : Nat} {w w' : World} {A : Option Addr} {l : List Int} (h : NewInts lo hi w A l) (hb : Below hi w w') : NewInts lo hi w' A l := fun hn => by
  obtain ⟨b, cs, rfl, h1, h2, h3, h4, h5⟩ := h hn
  exact ⟨b, cs, rfl, h1, h2, h3.below hb h2, h4, h5⟩
theorem NewInts.span {lo hi lo' hi' : Nat} {w w' : World} {A : Option Addr} {l : List Int} (h : NewInts lo hi w A l) (hs : Span lo' hi' w w') (ho : hi ≤ lo' ∨ hi' ≤ lo) : NewInts lo hi w' A l := fun hn => by
  obtain ⟨b, cs, rfl, h1, h2, h3, h4, h5⟩ := h hn
  exact ⟨b, cs, rfl, h1, h2, hs.blk h3 (by omega), h4, h5⟩
def marksL (k : Int) (n : Nat) : List Int := (List.range n).map fun i : Nat => k + i
theorem marksL_len (k : Int) (n : Nat) : (marksL k n).length = n := by simp [marksL]
theorem marksL_at {k : Int} {n i : Nat} (h : i < n) : iAt (marksL k n) i = k + i := by unfold iAt marksL; simp [List.getD_eq_getElem?_getD, h]
end Go.Proofs.Ytjanalljaacnoaa.Ko
