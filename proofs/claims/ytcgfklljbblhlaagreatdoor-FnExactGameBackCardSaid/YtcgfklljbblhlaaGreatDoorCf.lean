/- Where a legal move begins and ends (no program is named). -/
import Derived.Test.YtcgfklljbblhlaaGreatDoorCb
import Derived.Test.YtcgfklljbblhlaaGreatDoorMg
namespace Go.Proofs.YtcgfklljbblhlaaGreatDoor.Ko
open Go.ChangeShapes Go.WideShapes Go.ChangeAt Go.RowKit Base Sq
set_option linter.unusedVariables false
set_option maxRecDepth 20000

/-- a legal move starts at a man of the player's and ends on the board -/
theorem canB_facts {side : Int} {ks : List Kd} {t : Int} {l : List St} {f q : Int} (hs : side = 2 ∨ side = 3 ∨ side = 4) (hsh : shapeB side ks t l = true) (h : canB side ks t l f q = true) :
    ∃ n : Nat, manV l f = (n : Int) ∧ n < l.length ∧ (stAt l n).far = f ∧ (0 ≤ f ∧ f < side * side) ∧ (0 ≤ q ∧ q < side * side) ∧ freeB ks t l q = true := by
  by_cases hm : manV l f = -1
  · rw [canB_none hm] at h; cases h
  · obtain ⟨h1, h2, h3⟩ := manV_far hm
    obtain ⟨n, hn⟩ : ∃ n : Nat, manV l f = (n : Int) := ⟨(manV l f).toNat, by omega⟩
    rw [hn] at h1 h2
    simp only [Int.toNat_natCast] at h1 h2
    have hmen := (shapeB_facts hsh).2.2.2.2 n h1
    rw [canB_some hn] at h
    simp only [Bool.and_eq_true] at h
    obtain ⟨⟨_, hh⟩, hmy⟩ := h
    have hq := hitsB_in hs hmen.2.2.1 hh
    have hf : freeB ks t l q = true := by
      cases hfb : freeB ks t l q
      · rw [mayB_no hfb] at hmy; cases hmy
      · rfl
    exact ⟨n, hn, h1, h2, by rw [← h2]; exact hmen.2.2.1, hq, hf⟩
end Go.Proofs.YtcgfklljbblhlaaGreatDoor.Ko
