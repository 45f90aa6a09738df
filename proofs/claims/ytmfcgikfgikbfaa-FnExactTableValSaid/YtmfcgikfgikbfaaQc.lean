/- Codes of positions: that what the program counts is what the model counts. -/
import Derived.Test.YtmfcgikfgikbfaaQb
namespace Go.Proofs.Ytmfcgikfgikbfaa.Ko
open Go.ChangeShapes Go.WideShapes Go.ChangeAt Go.RowKit Base Sq
set_option linter.unusedVariables false
set_option maxRecDepth 20000

/-- no man is of two pieces of the material -/
def Uniq (m : List Pc) : Prop := ∀ (a : St) i j, i < m.length → j < m.length → sameP a (pcAt m i) = true → sameP a (pcAt m j) = true → i = j
def hasN (a : St) (m : List Pc) : Nat → Int
  | 0 => 0
  | n + 1 => hasN a m n + if sameP a (pcAt m n) = true then 1 else 0
def sumL (l : List St) (m : List Pc) (n : Nat) : Nat → Int
  | 0 => 0
  | k + 1 => sumL l m n k + hasN (stAt l k) m n
theorem sumL_zero (l : List St) (m : List Pc) (k : Nat) : sumL l m 0 k = 0 := by
  induction k with
  | zero => rfl
  | succ k ih => simp only [sumL, hasN, ih]; rfl
theorem sumL_step (l : List St) (m : List Pc) (n k : Nat) : sumL l m (n + 1) k = sumL l m n k + fndK l (pcAt m n) k := by
  induction k with
  | zero => rfl
  | succ k ih => simp only [sumL, hasN, fndK, ih]; omega
theorem fndS_sum (l : List St) (m : List Pc) (n : Nat) : fndS l m n = sumL l m n l.length := by
  induction n with
  | zero => rw [sumL_zero]; rfl
  | succ n ih => rw [sumL_step, ← ih]; rfl
theorem hasN_nn (a : St) (m : List Pc) (n : Nat) : 0 ≤ hasN a m n := by
  induction n with
  | zero => exact Int.le_refl _
  | succ n ih => simp only [hasN]; split <;> omega
theorem hasN_none {a : St} {m : List Pc} {n : Nat} (h : ∀ i, i < n → sameP a (pcAt m i) = false) : hasN a m n = 0 := by
  induction n with
  | zero => rfl
  | succ n ih => simp only [hasN]; rw [ih fun i hi => h i (by omega), h n (by omega)]; rfl
theorem hasN_le {a : St} {m : List Pc} (hU : Uniq m) {n : Nat} (hn : n ≤ m.length) : hasN a m n ≤ 1 := by
  induction n with
  | zero => simp only [hasN]; omega
  | succ n ih =>
    simp only [hasN]
    have := ih (by omega)
    split
    · rename_i h
      rw [hasN_none fun i hi => by
        cases hq : sameP a (pcAt m i)
        · rfl
        · have := hU a i n (by omega) (by omega) hq h; omega]
      omega
    · omega
theorem hasN_pos {a : St} {m : List Pc} {n i : Nat} (hi : i < n) (h : sameP a (pcAt m i) = true) : 1 ≤ hasN a m n := by
  induction n with
  | zero => omega
  | succ n ih =>
    simp only [hasN]
    have h0 := hasN_nn a m n
    rcases Nat.lt_or_ge i n with hlt | hge
    · have := ih hlt; split <;> omega
    · obtain rfl : i = n := by omega
      rw [if_pos h]; omega
theorem sumL_le {l : List St} {m : List Pc} (hU : Uniq m) (k : Nat) : sumL l m m.length k ≤ k := by
  induction k with
  | zero => simp only [sumL]; omega
  | succ k ih => have := hasN_le (a := stAt l k) hU (Nat.le_refl _); simp only [sumL]; omega
theorem sumL_all {l : List St} {m : List Pc} (hU : Uniq m) {k : Nat} (h : ∀ j, j < k → ∃ i, i < m.length ∧ sameP (stAt l j) (pcAt m i) = true) : sumL l m m.length k = k := by
  induction k with
  | zero => rfl
  | succ k ih =>
    have h1 := ih fun j hj => h j (by omega)
    obtain ⟨i, hi, hs⟩ := h k (by omega)
    have h2 := hasN_pos hi hs
    have h3 := hasN_le (a := stAt l k) hU (Nat.le_refl _)
    simp only [sumL]; omega
theorem sumL_lt {l : List St} {m : List Pc} (hU : Uniq m) {j : Nat} (hn : ∀ i, i < m.length → sameP (stAt l j) (pcAt m i) = false) {k : Nat} (hj : j < k) : sumL l m m.length k + 1 ≤ k := by
  induction k with
  | zero => omega
  | succ k ih =>
    simp only [sumL]
    rcases Nat.lt_or_ge j k with hlt | hge
    · have h1 := ih hlt
      have h3 := hasN_le (a := stAt l k) hU (Nat.le_refl _)
      omega
    · obtain rfl : j = k := by omega
      rw [hasN_none hn]
      have := sumL_le (l := l) hU j
      omega

/-- a position's code: of rules, material and position that are ok -/
def codeQ (s t : Int) (l : List St) (m : List Pc) : Int := if twiceB l = true then -1 else codeV s t l m
theorem codeQ_none {s t : Int} {l : List St} {m : List Pc} (hU : Uniq m) {j : Nat} (hj : j < l.length) (hn : ∀ i, i < m.length → sameP (stAt l j) (pcAt m i) = false) : codeQ s t l m = -1 := by
  unfold codeQ codeV
  split
  · rfl
  · rw [if_neg]
    rw [fndS_sum]
    have := sumL_lt (l := l) hU hn hj
    omega
theorem atK_far {s : Int} {l : List St} {p : Pc} {k : Nat} (hf : ∀ i, i < l.length → 0 ≤ (stAt l i).far ∧ (stAt l i).far < s * s) (hk : k ≤ l.length) {j : Nat} (hj : j < k) (h : sameP (stAt l j) p = true) : atK s l p k < s * s := by
  induction k with
  | zero => omega
  | succ k ih =>
    simp only [atK]
    split
    · exact (hf k (by omega)).2
    · rename_i hne
      rcases Nat.lt_or_ge j k with hlt | hge
      · exact ih (by omega) hlt
      · obtain rfl : j = k := by omega
        exact absurd h hne
theorem atK_none {s : Int} {l : List St} {p : Pc} {k : Nat} (h : ∀ j, j < k → sameP (stAt l j) p = false) : atK s l p k = s * s := by
  induction k with
  | zero => rfl
  | succ k ih => rw [atK_no (h k (by omega))]; exact ih fun j hj => h j (by omega)
theorem sameB_of {a b : St} {p : Pc} (h1 : sameP a p = true) (h2 : sameP b p = true) : sameB a b = true := by
  unfold sameP at h1 h2; unfold sameB
  simp only [Bool.and_eq_true, decide_eq_true_eq] at *
  exact ⟨h1.1.trans h2.1.symm, h1.2.trans h2.2.symm⟩
theorem sameP_of {a b : St} {p : Pc} (h1 : sameB a b = true) (h2 : sameP a p = true) : sameP b p = true := by
  unfold sameB at h1; unfold sameP at *
  simp only [Bool.and_eq_true, decide_eq_true_eq] at *
  exact ⟨h1.1.symm.trans h2.1, h1.2.symm.trans h2.2⟩
theorem codeQ_twice {s t : Int} {l : List St} {m : List Pc} {p : Pc} {k : Nat} (hk : k < l.length) (hs : sameP (stAt l k) p = true) (h : atK s l p k ≠ s * s) : codeQ s t l m = -1 := by
  have hx : ∃ j, j < k ∧ sameP (stAt l j) p = true := Classical.byContradiction fun hn => h (atK_none fun j hj => by
    cases hq : sameP (stAt l j) p
    · rfl
    · exact absurd ⟨j, hj, hq⟩ hn)
  obtain ⟨j, hj, hq⟩ := hx
  unfold codeQ
  rw [if_pos (twiceB_hit hk hj (sameB_of hs hq))]
theorem no_twin {s : Int} {l : List St} {p : Pc} {k : Nat} (hf : ∀ i, i < l.length → 0 ≤ (stAt l i).far ∧ (stAt l i).far < s * s) (hk : k < l.length) (hs : sameP (stAt l k) p = true) (h : atK s l p k = s * s) : ∀ j, j < k → sameB (stAt l k) (stAt l j) = false := fun j hj => by
  cases hq : sameB (stAt l k) (stAt l j)
  · rfl
  · have := atK_far (p := p) hf (by omega) hj (sameP_of hq hs); omega
theorem codeQ_end {s t : Int} {l : List St} {m : List Pc} (hU : Uniq m) (hP : ∀ j, j < l.length → ∃ i, i < m.length ∧ sameP (stAt l j) (pcAt m i) = true) (hT : ∀ i, i < l.length → ∀ k, k < i → sameB (stAt l i) (stAt l k) = false) : codeQ s t l m = codK s t l m m.length := by
  unfold codeQ codeV
  rw [twiceB_no hT, if_neg (by decide), if_pos]
  rw [fndS_sum, sumL_all hU hP]
theorem digK_start (s t : Int) (l : List St) (m : List Pc) : digK s t l m 0 = t :: List.replicate m.length (s * s) := by
  unfold digK atK
  congr 1
  rw [List.eq_replicate_iff]; simp
theorem digK_next {s t : Int} {l : List St} {m : List Pc} (hU : Uniq m) {k i : Nat} (hi : i < m.length) (hs : sameP (stAt l k) (pcAt m i) = true) : digK s t l m (k + 1) = (digK s t l m k).set (i + 1) (stAt l k).far := by
  unfold digK
  rw [List.set_cons_succ]
  congr 1
  apply List.ext_getElem
  · simp
  · intro n h1 h2
    simp only [List.length_map, List.length_range] at h1
    simp only [List.getElem_map, List.getElem_range, List.getElem_set]
    by_cases hn : i = n
    · subst hn; rw [if_pos rfl, atK_hit hs]
    · rw [if_neg hn, atK_no]
      cases hq : sameP (stAt l k) (pcAt m n)
      · rfl
      · exact absurd (hU _ i n hi h1 hs hq) hn
theorem pc_lt {n : Nat} {m : List Pc} (h : ∀ j, j < m.length → goodP n m j = true) {i d : Nat} (hj : i + d + 1 < m.length) : pcLess (pcAt m i) (pcAt m (i + d + 1)) = true := by
  have hst : ∀ i, i + 1 < m.length → pcLess (pcAt m i) (pcAt m (i + 1)) = true := fun i hi => by
    have := h (i + 1) hi
    unfold goodP at this
    simp only [Bool.and_eq_true, Bool.or_eq_true, decide_eq_true_eq] at this
    rcases this.2 with h0 | h1
    · omega
    · simpa using h1
  induction d with
  | zero => exact hst i hj
  | succ d ih =>
    have h1 := ih (by omega)
    have h2 := hst (i + d + 1) (by omega)
    rw [pcLess_iff] at *
    rw [show i + (d + 1) + 1 = i + d + 1 + 1 from by omega]
    omega
theorem uniq_of {n : Nat} {m : List Pc} (h : ∀ j, j < m.length → goodP n m j = true) : Uniq m := fun a i j hi hj h1 h2 => by
  unfold sameP at h1 h2
  simp only [Bool.and_eq_true, decide_eq_true_eq] at h1 h2
  rcases Nat.lt_trichotomy i j with hlt | heq | hgt
  · have := pc_lt h (i := i) (d := j - i - 1) (by omega)
    rw [show i + (j - i - 1) + 1 = j from by omega, pcLess_iff] at this
    omega
  · exact heq
  · have := pc_lt h (i := j) (d := i - j - 1) (by omega)
    rw [show j + (i - j - 1) + 1 = i from by omega, pcLess_iff] at this
    omega
theorem matV_uniq {side : Int} {ks : List Kd} {m : List Pc} (h : matV side ks m = true) : Uniq m := by
  unfold matV matB knownB at h
  simp only [Bool.and_eq_true, List.all_eq_true, List.mem_range] at h
  exact uniq_of (n := ks.length) h.2.1.1.1
end Go.Proofs.Ytmfcgikfgikbfaa.Ko
