/- Values of statistics: how many of each kind, the largest, where it stands. -/
import Derived.Test.YtcgfklljbblhlaaGv
import Derived.Test.YtcgfklljbblhlaaIv
import Derived.Test.YtcgfklljbblhlaaIi
import Derived.Test.YtcgfklljbblhlaaTsc
namespace Go.Proofs.Ytcgfklljbblhlaa.Ko
open Go.ChangeShapes Go.WideShapes Go.ChangeAt Go.RowKit Base Sq In Sc
set_option linter.unusedVariables false
set_option maxRecDepth 20000

/-- how many of the first k satisfy p -/
def cntP (p : Int → Bool) (z : List Int) : Nat → Int
  | 0 => 0
  | k + 1 => cntP p z k + (if p (iAt z k) = true then 1 else 0)
theorem cntP_nn (p : Int → Bool) (z : List Int) (k : Nat) : 0 ≤ cntP p z k ∧ cntP p z k ≤ k := by
  induction k with
  | zero => exact ⟨Int.le_refl _, Int.le_refl _⟩
  | succ k ih => unfold cntP; split <;> omega
theorem cntP_no {p : Int → Bool} {z : List Int} {k : Nat} (h : cntP p z k = 0) {j : Nat} (hj : j < k) : p (iAt z j) = false := by
  induction k with
  | zero => omega
  | succ k ih =>
    unfold cntP at h
    have h0 := (cntP_nn p z k).1
    rcases Nat.lt_succ_iff_lt_or_eq.mp hj with h1 | rfl
    · exact ih (by split at h <;> omega) h1
    · cases hp : p (iAt z j)
      · rfl
      · rw [if_pos hp] at h; omega
theorem cntP_all {p : Int → Bool} {z : List Int} {k : Nat} (h : ∀ j, j < k → p (iAt z j) = false) : cntP p z k = 0 := by
  induction k with
  | zero => rfl
  | succ k ih => unfold cntP; rw [ih (fun j hj => h j (by omega)), if_neg (by rw [h k (by omega)]; decide)]; rfl
def isN (v : Int) : Bool := decide (v = 0)
def isD (v : Int) : Bool := decide (v = 1)
/-- the largest of the first k, 2 at least -/
def topV (z : List Int) : Nat → Int
  | 0 => 2
  | k + 1 => max (topV z k) (iAt z k)
theorem topV_ge (z : List Int) (k : Nat) : 2 ≤ topV z k := by
  induction k with
  | zero => exact Int.le_refl _
  | succ k ih => unfold topV; omega
theorem topV_le {z : List Int} (h : rangeB z = true) {k : Nat} (hk : k ≤ z.length) : topV z k ≤ 100 := by
  induction k with
  | zero => unfold topV; omega
  | succ k ih => have := ih (by omega); have := rangeB_at h (show k < z.length by omega); unfold topV; omega
theorem topV_two {z : List Int} {k : Nat} (h : ∀ j, j < k → iAt z j < 2) : topV z k = 2 := by
  induction k with
  | zero => rfl
  | succ k ih => have := h k (by omega); unfold topV; rw [ih (fun j hj => h j (by omega))]; omega
/-- the indices below k of the value t -/
def atV (z : List Int) (t : Int) : Nat → List Int
  | 0 => []
  | k + 1 => if iAt z k = t then atV z t k ++ [(k : Int)] else atV z t k
theorem atV_len (z : List Int) (t : Int) (k : Nat) : (atV z t k).length ≤ k := by
  induction k with
  | zero => exact Nat.le_refl _
  | succ k ih =>
    unfold atV
    split
    · rw [List.length_append]; exact Nat.add_le_add ih (Nat.le_refl 1)
    · omega
theorem atV_none {z : List Int} {t : Int} {k : Nat} (h : ∀ j, j < k → iAt z j ≠ t) : atV z t k = [] := by
  induction k with
  | zero => rfl
  | succ k ih => unfold atV; rw [if_neg (h k (by omega)), ih (fun j hj => h j (by omega))]
/-- the list is valid -/
def listB (z : List Int) : Bool := decide (z.length ≤ 2000) && rangeB z
def stN (z : List Int) : Int := if listB z = true then cntP isN z z.length else 0
def stD (z : List Int) : Int := if listB z = true then cntP isD z z.length else 0
def stW (z : List Int) : Int := if listB z = true then cntP wonB z z.length else 0
def stL (z : List Int) : Int := if listB z = true then cntP lostB z z.length else 0
def stM (z : List Int) : Int := if listB z = true then topV z z.length - 2 else 0
def hardV (z : List Int) : List Int := if listB z = true then atV z (topV z z.length) z.length else []
theorem listB_len {z : List Int} (h : listB z = true) : z.length ≤ 2000 := by unfold listB at h; simp at h; exact h.1
theorem listB_range {z : List Int} (h : listB z = true) : rangeB z = true := by unfold listB at h; simp at h; exact h.2
theorem hardV_len {z : List Int} : (hardV z).length ≤ 1048576 := by
  unfold hardV
  split
  · rename_i h; have := atV_len z (topV z z.length) z.length; have := listB_len h; omega
  · simp
theorem one_of {v : Int} (h0 : 0 ≤ v) : (isN v = true ∧ isD v = false ∧ wonB v = false ∧ lostB v = false ∧ v = 0) ∨ (isN v = false ∧ isD v = true ∧ wonB v = false ∧ lostB v = false ∧ v = 1) ∨ (isN v = false ∧ isD v = false ∧ wonB v = true ∧ lostB v = false ∧ 2 ≤ v) ∨ (isN v = false ∧ isD v = false ∧ wonB v = false ∧ lostB v = true ∧ 2 ≤ v) := by
  unfold isN isD
  by_cases h1 : v = 0
  · left; subst h1; exact ⟨rfl, rfl, rfl, rfl, rfl⟩
  · by_cases h2 : v = 1
    · right; left; subst h2; exact ⟨rfl, rfl, rfl, rfl, rfl⟩
    · have hd : decide (2 ≤ v) = true := decide_eq_true (by omega)
      by_cases h3 : v % 2 = 0
      · right; right; right
        exact ⟨decide_eq_false h1, decide_eq_false h2, by unfold wonB; rw [decide_eq_true h3]; simp, by unfold lostB; rw [hd, decide_eq_true h3]; rfl, by omega⟩
      · right; right; left
        exact ⟨decide_eq_false h1, decide_eq_false h2, by unfold wonB; rw [hd, decide_eq_false h3]; rfl, by unfold lostB; rw [decide_eq_false h3]; simp, by omega⟩
/-- none won or lost: the list is empty all the same -/
theorem hardV_zero {z : List Int} (h : stW z + stL z = 0) : hardV z = [] := by
  unfold hardV
  split
  · rename_i hl
    unfold stW stL at h
    rw [if_pos hl, if_pos hl] at h
    have hw := (cntP_nn wonB z z.length).1
    have hq := (cntP_nn lostB z z.length).1
    have hlt : ∀ j, j < z.length → iAt z j < 2 := fun j hj => by
      have r := rangeB_at (listB_range hl) hj
      have a := cntP_no (show cntP wonB z z.length = 0 by omega) hj
      have b := cntP_no (show cntP lostB z z.length = 0 by omega) hj
      rcases one_of r.1 with ⟨_, _, _, _, e⟩ | ⟨_, _, _, _, e⟩ | ⟨_, _, c, _⟩ | ⟨_, _, _, c, _⟩
      · omega
      · omega
      · rw [a] at c; cases c
      · rw [b] at c; cases c
    rw [topV_two hlt]
    exact atV_none fun j hj => by have := hlt j hj; omega
  · rfl
theorem NewNums.ints {B : Nat} {w : World} {g : Nat} {l : List Int} (h : NewNums B w g l) : NewInts B w.heap.size w (some ⟨g, 0, none⟩) l := fun _ => by
  obtain ⟨cs, h1, hb, hs, hi⟩ := h
  exact ⟨g, cs, rfl, h1, hb.lt, hb, by omega, hi⟩
end Go.Proofs.Ytcgfklljbblhlaa.Ko
