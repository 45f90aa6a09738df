/- Values of tournaments: results, points, ranks. A result is three numbers, as a man is. -/
import Derived.Test.YtjanalljaacnoaaJa
namespace Go.Proofs.Ytjanalljaacnoaa.Ko
open Go.ChangeShapes Go.WideShapes Go.ChangeAt Go.RowKit Base Sq In
set_option linter.unusedVariables false
set_option maxRecDepth 20000

/-- result i is one of these players -/
def resAt (p : Int) (l : List St) (i : Nat) : Bool :=
  decide (0 ≤ (stAt l i).dx ∧ (stAt l i).dx ≤ p - 1) && decide (0 ≤ (stAt l i).dy ∧ (stAt l i).dy ≤ p - 1) && !decide ((stAt l i).dx = (stAt l i).dy) && decide (0 ≤ (stAt l i).far ∧ (stAt l i).far ≤ 2)
/-- the results are valid -/
def resB (p : Int) (l : List St) : Bool := (List.range l.length).all (resAt p l) && decide (2 ≤ p ∧ p ≤ 8) && decide (l.length ≤ 28)
theorem resB_bad {p : Int} {l : List St} {k : Nat} (hk : k < l.length) (h : resAt p l k = false) : resB p l = false := by
  have : (List.range l.length).all (resAt p l) = false := by rw [List.all_eq_false]; exact ⟨k, by simpa using hk, by rw [h]; decide⟩
  unfold resB; rw [this]; rfl
theorem resB_end {p : Int} {l : List St} (h : ∀ j, j < l.length → resAt p l j = true) : resB p l = (decide (2 ≤ p ∧ p ≤ 8) && decide (l.length ≤ 28)) := by
  have : (List.range l.length).all (resAt p l) = true := by rw [List.all_eq_true]; intro j hj; exact h j (by simpa using hj)
  unfold resB; rw [this]; rfl
theorem resB_at {p : Int} {l : List St} (h : resB p l = true) {k : Nat} (hk : k < l.length) : (0 ≤ (stAt l k).dx ∧ (stAt l k).dx < p) ∧ (0 ≤ (stAt l k).dy ∧ (stAt l k).dy < p) ∧ (stAt l k).dx ≠ (stAt l k).dy ∧ 0 ≤ (stAt l k).far ∧ (stAt l k).far ≤ 2 := by
  unfold resB at h
  simp only [Bool.and_eq_true, List.all_eq_true] at h
  have := h.1.1 k (by simpa using hk)
  unfold resAt at this
  simp only [Bool.and_eq_true, decide_eq_true_eq, Bool.not_eq_true', decide_eq_false_iff_not] at this
  omega
theorem resB_len {p : Int} {l : List St} (h : resB p l = true) : (2 ≤ p ∧ p ≤ 8) ∧ l.length ≤ 28 := by
  unfold resB at h
  simp only [Bool.and_eq_true, decide_eq_true_eq] at h
  exact ⟨h.1.2, h.2⟩
/-- the points of player a in the first k results -/
def ptK (l : List St) (a : Int) : Nat → Int
  | 0 => 0
  | k + 1 => ptK l a k + (if (stAt l k).dx = a then (stAt l k).far else 0) + (if (stAt l k).dy = a then 2 - (stAt l k).far else 0)
theorem ptK_bd {p : Int} {l : List St} (h : resB p l = true) (a : Int) : ∀ k, k ≤ l.length → 0 ≤ ptK l a k ∧ ptK l a k ≤ 2 * k := by
  intro k
  induction k with
  | zero => intro _; exact ⟨Int.le_refl _, Int.le_refl _⟩
  | succ k ih =>
    intro hk
    obtain ⟨h1, h2⟩ := ih (by omega)
    obtain ⟨_, _, h5, h6, h7⟩ := resB_at h (show k < l.length by omega)
    unfold ptK
    split <;> split <;> omega
/-- what PointsOf answers -/
def pointsV (p : Int) (l : List St) : List Int := if resB p l = true then (List.range p.toNat).map (fun a : Nat => ptK l a l.length) else []
/-- what the results of player a are worth, of the first k -/
def sumK (l : List St) (a : Int) : Nat → Int
  | 0 => 0
  | k + 1 => sumK l a k + (if (stAt l k).dx = a then (stAt l k).far * ptK l (stAt l k).dy l.length else 0) + (if (stAt l k).dy = a then (2 - (stAt l k).far) * ptK l (stAt l k).dx l.length else 0)
/-- a is ahead of b -/
def aheadB (l : List St) (a b : Int) : Bool :=
  if ptK l a l.length = ptK l b l.length then (if sumK l a l.length = sumK l b l.length then decide (a < b) else decide (sumK l b l.length < sumK l a l.length)) else decide (ptK l b l.length < ptK l a l.length)
/-- a put behind all at the beginning that are ahead of it -/
def insR (l : List St) (a : Int) : List Int → List Int
  | [] => [a]
  | x :: t => if aheadB l x a = true then x :: insR l a t else a :: x :: t
theorem insR_len (l : List St) (a : Int) (t : List Int) : (insR l a t).length = t.length + 1 := by
  induction t with
  | nil => rfl
  | cons x t ih => unfold insR; split <;> simp [ih]
/-- the first k players in their order -/
def rankK (l : List St) : Nat → List Int
  | 0 => []
  | k + 1 => insR l k (rankK l k)
theorem rankK_len (l : List St) (k : Nat) : (rankK l k).length = k := by
  induction k with
  | zero => rfl
  | succ k ih => unfold rankK; rw [insR_len, ih]
/-- what RankOf answers -/
def rankV (p : Int) (l : List St) : List Int := if resB p l = true then rankK l p.toNat else []
theorem rankV_len {p : Int} {l : List St} : (rankV p l).length ≤ 1048576 := by
  unfold rankV
  split
  · rename_i h; rw [rankK_len]; have := (resB_len h).1; omega
  · exact Nat.zero_le _
theorem pointsV_len {p : Int} {l : List St} : (pointsV p l).length ≤ 1048576 := by
  unfold pointsV
  split
  · rename_i h; rw [List.length_map, List.length_range]; have := (resB_len h).1; omega
  · exact Nat.zero_le _
end Go.Proofs.Ytjanalljaacnoaa.Ko
