/- Men that have been put, one after the other. -/
import Derived.Test.YtcgfklljbblhlaaGreatDoorMc
namespace Go.Proofs.YtcgfklljbblhlaaGreatDoor.Ko
open Go.ChangeShapes Go.WideShapes Go.ChangeAt Go.RowKit Base Sq
set_option linter.unusedVariables false
set_option maxRecDepth 20000

/-- the men that have been put, in a block of the call's own -/
def PutA (lo : Nat) (w : World) (v : Value) (L : List St) : Prop := (L = [] ∧ v = .slice none 0 0) ∨ (0 < L.length ∧ ∃ A c, v = .slice A L.length c ∧ MenA lo w.heap.size w A L ∧ L.length ≤ c ∧ c ≤ maxLen)

theorem MenA.off {lo hi : Nat} {w : World} {A : Option Addr} {l : List St} (h : MenA lo hi w A l) (a : Addr) (u : Value) (ha : a.block < lo) : MenA lo hi (w.setCell a u) A l := fun hn => by
  obtain ⟨b, cs, rfl, h1, h2, h3, h4, h5⟩ := h hn
  exact ⟨b, cs, rfl, h1, h2, h3.other a u (by omega), h4, h5⟩
theorem PutA.below {lo : Nat} {w w' : World} {v : Value} {L : List St} (h : PutA lo w v L) (hb : Below w.heap.size w w') : PutA lo w' v L := by
  rcases h with h | ⟨h1, A, c, h2, h3, h4⟩
  · exact .inl h
  · exact .inr ⟨h1, A, c, h2, (h3.below hb).more (Nat.le_refl _) hb.size, h4⟩
end Go.Proofs.YtcgfklljbblhlaaGreatDoor.Ko
