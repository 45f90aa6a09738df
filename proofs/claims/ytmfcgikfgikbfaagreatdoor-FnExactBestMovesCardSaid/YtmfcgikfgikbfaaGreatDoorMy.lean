/- The next move of the mover. -/
import Derived.Test.YtmfcgikfgikbfaaGreatDoorMx
import Derived.Test.YtmfcgikfgikbfaaGreatDoorMg
import Derived.Test.YtmfcgikfgikbfaaGreatDoorZt
import Derived.StillTailTactics
namespace Go.Proofs.YtmfcgikfgikbfaaGreatDoor.Ko
open Go.ChangeShapes Go.WideShapes Go.ChangeAt Go.RowKit Base Sq
set_option linter.unusedVariables false
set_option maxRecDepth 20000
attribute [local irreducible] wpQuiet

/-- j moves have been given; what is left in the mover is the rest -/
def MoverAt (w : World) (b : Nat) (side : Int) (A : Option Addr) (c : Nat) (ks : List Kd) (t : Int) (M : Option Addr) (cm : Nat) (l : List St) (j : Nat) : Prop :=
  ∃ k L : Nat, k ≤ l.length ∧ L < 18446744073709551616 ∧ (∀ i, L.testBit i = true → i < (side * side).toNat) ∧ (k = 0 → L = 0) ∧ (movesL side ks t l).take j ++ leftL side ks t l (k - 1) L (side * side).toNat = movL side ks t l k ∧
    j ≤ (movesL side ks t l).length ∧ Blk w b (moverC side A ks.length c t M l.length cm ((k : Int) - 1) L) 151
theorem MoverAt.new {w : World} {b : Nat} {side : Int} {A : Option Addr} {c : Nat} {ks : List Kd} {t : Int} {M : Option Addr} {cm : Nat} {l : List St} (h : Blk w b (moverC side A ks.length c t M l.length cm (-1) 0) 151) : MoverAt w b side A c ks t M cm l 0 :=
  ⟨0, 0, by omega, by decide, fun i hi => by simp at hi, fun _ => rfl, by simp [leftL_zero, movL], by omega, h⟩
theorem MoverAt.lt {w : World} {b : Nat} {side : Int} {A : Option Addr} {c : Nat} {ks : List Kd} {t : Int} {M : Option Addr} {cm : Nat} {l : List St} {j : Nat} (h : MoverAt w b side A c ks t M cm l j) : b < w.heap.size := by
  obtain ⟨_, _, _, _, _, _, _, _, h⟩ := h; exact h.lt
theorem MoverAt.below {w w' : World} {b B : Nat} {side : Int} {A : Option Addr} {c : Nat} {ks : List Kd} {t : Int} {M : Option Addr} {cm : Nat} {l : List St} {j : Nat} (h : MoverAt w b side A c ks t M cm l j) (hb : Below B w w') (hB : b < B) : MoverAt w' b side A c ks t M cm l j := by
  obtain ⟨k, L, h1, h2, h3, h4, h5, h6, h⟩ := h; exact ⟨k, L, h1, h2, h3, h4, h5, h6, h.below hb hB⟩

/-- behind the last square of the last man -/
theorem mover_end {side : Int} {ks : List Kd} {t : Int} {l : List St} {j k : Nat} (h : (movesL side ks t l).take j ++ leftL side ks t l (k - 1) 0 (side * side).toNat = movL side ks t l k) (hk : k = l.length) (hj : j ≤ (movesL side ks t l).length) : j = (movesL side ks t l).length := by
  subst hk
  rw [leftL_zero, List.append_nil] at h
  have := congrArg List.length h
  rw [List.length_take] at this
  unfold movesL at *
  omega
/-- a square that the man may not go to -/
theorem mover_skip {side : Int} {ks : List Kd} {t : Int} {l : List St} {j k L q : Nat} (h : (movesL side ks t l).take j ++ leftL side ks t l (k - 1) L (side * side).toNat = movL side ks t l k)
    (hq : L.testBit q = true) (hlo : ∀ i, i < q → L.testBit i = false) (hM : ∀ i, (clr L q).testBit i = (L.testBit i && decide (i ≠ q))) (hqs : q < (side * side).toNat) (hm : mayB side ks t l (k - 1) q = false) :
    (movesL side ks t l).take j ++ leftL side ks t l (k - 1) (clr L q) (side * side).toNat = movL side ks t l k := by
  rw [leftL_low hq hlo hM _ hqs, hm] at h
  simpa using h
/-- a square that the man may go to: the next move -/
theorem mover_hit {side : Int} {ks : List Kd} {t : Int} {l : List St} {j k L q : Nat} (h : (movesL side ks t l).take j ++ leftL side ks t l (k - 1) L (side * side).toNat = movL side ks t l k) (hk : k ≤ l.length) (hj : j ≤ (movesL side ks t l).length)
    (hq : L.testBit q = true) (hlo : ∀ i, i < q → L.testBit i = false) (hM : ∀ i, (clr L q).testBit i = (L.testBit i && decide (i ≠ q))) (hqs : q < (side * side).toNat) (hm : mayB side ks t l (k - 1) q = true) :
    j < (movesL side ks t l).length ∧ mvAt (movesL side ks t l) j = ((stAt l (k - 1)).far, (q : Int)) ∧ (movesL side ks t l).take (j + 1) ++ leftL side ks t l (k - 1) (clr L q) (side * side).toNat = movL side ks t l k := by
  rw [leftL_low hq hlo hM _ hqs, hm, if_pos rfl] at h
  have hp : (movesL side ks t l).take j ++ [((stAt l (k - 1)).far, (q : Int))] <+: movesL side ks t l := by
    refine List.IsPrefix.trans ?_ (movL_pre hk)
    rw [← h]
    exact ⟨leftL side ks t l (k - 1) (clr L q) (side * side).toNat, by simp⟩
  have hlen := hp.length_le
  simp only [List.length_append, List.length_take, List.length_cons, List.length_nil] at hlen
  have hj' : j < (movesL side ks t l).length := by omega
  obtain ⟨tl, htl⟩ := hp
  have hat : (movesL side ks t l)[j]? = some ((stAt l (k - 1)).far, (q : Int)) := by
    rw [← htl, List.append_assoc, List.getElem?_append_right (by simp; omega)]
    simp [Nat.min_eq_left (Nat.le_of_lt hj')]
  have hget : (movesL side ks t l)[j] = ((stAt l (k - 1)).far, (q : Int)) := by rw [List.getElem?_eq_getElem hj'] at hat; exact Option.some.inj hat
  refine ⟨hj', by rw [mvAt_lt hj', hget], ?_⟩
  rw [List.take_succ_eq_append_getElem hj', hget, List.append_assoc]
  exact h
/-- the next man -/
theorem mover_next {side : Int} {ks : List Kd} {t : Int} {l : List St} {j k : Nat} (hs : side = 2 ∨ side = 3 ∨ side = 4) (hsh : shapeB side ks t l = true) (h : (movesL side ks t l).take j ++ leftL side ks t l (k - 1) 0 (side * side).toNat = movL side ks t l k) (hk : k < l.length) :
    (movesL side ks t l).take j ++ leftL side ks t l k (aimV side ks t l k) (side * side).toNat = movL side ks t l (k + 1) ∧ aimV side ks t l k < 18446744073709551616 ∧ ∀ i, (aimV side ks t l k).testBit i = true → i < (side * side).toNat := by
  rw [leftL_zero, List.append_nil] at h
  obtain ⟨_, _, _, _, hmen⟩ := shapeB_facts hsh
  obtain ⟨_, _, hf, _⟩ := hmen k hk
  have hin : ∀ q, q ∈ attL side l (kOf ks (stAt l k)).steps (stAt l k).far (kOf ks (stAt l k)).steps.length → 0 ≤ q ∧ q < side * side := fun q hq => hitsB_in hs hf (decide_eq_true hq)
  unfold aimV
  by_cases ho : (stAt l k).dy = t
  · rw [if_pos ho]
    have hbit : ∀ i, (orB 0 (attL side l (kOf ks (stAt l k)).steps (stAt l k).far (kOf ks (stAt l k)).steps.length)).testBit i = hitsB side l (kOf ks (stAt l k)).steps (stAt l k).far (i : Int) := fun i => by
      rw [orB_bit (fun q hq => (hin q hq).1)]; simp [hitsB]
    refine ⟨?_, orB_lt (n := 64) (fun q hq => by have := hin q hq; rcases hs with rfl | rfl | rfl <;> omega) 0 (by decide), fun i hi => ?_⟩
    · rw [leftL_hits (fun i _ => hbit i), h, movL, if_pos ho]
    · rw [hbit] at hi
      have := hitsB_in hs hf hi
      omega
  · rw [if_neg ho]
    exact ⟨by rw [leftL_zero, List.append_nil, h, movL, if_neg ho, List.append_nil], by decide, fun i hi => by simp at hi⟩
end Go.Proofs.YtmfcgikfgikbfaaGreatDoor.Ko
