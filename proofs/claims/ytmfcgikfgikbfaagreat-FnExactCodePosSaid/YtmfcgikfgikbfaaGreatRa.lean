/- Positions of codes: values (no program is named). -/
import Derived.Test.YtmfcgikfgikbfaaGreatDoM
import Derived.Test.YtmfcgikfgikbfaaGreatPn
import Derived.Test.YtmfcgikfgikbfaaGreatPr
namespace Go.Proofs.YtmfcgikfgikbfaaGreat.Ko
open Go.ChangeShapes Go.WideShapes Go.ChangeAt Go.RowKit Base Sq
set_option linter.unusedVariables false
set_option maxRecDepth 20000

/-- a code without its last k digits -/
def remK (b code : Int) : Nat → Int
  | 0 => code
  | k + 1 => remK b code k / b
/-- where the piece i of n is -/
def digC (b code : Int) (n i : Nat) : Int := remK b code (n - 1 - i) % b
/-- the man of the piece i, if it is not gone -/
def manC (s code : Int) (m : List Pc) (i : Nat) : List St := if digC (s * s + 1) code m.length i = s * s then [] else [⟨(pcAt m i).kd, (pcAt m i).ow, digC (s * s + 1) code m.length i⟩]
/-- the men of the first i pieces -/
def menC (s code : Int) (m : List Pc) : Nat → List St
  | 0 => []
  | i + 1 => menC s code m i ++ manC s code m i
/-- the men of the last k pieces -/
def menD (s code : Int) (m : List Pc) : Nat → List St
  | 0 => []
  | k + 1 => manC s code m (m.length - 1 - k) ++ menD s code m k
/-- the same, each put where it belongs -/
def putC (s code : Int) (m : List Pc) : Nat → List St
  | 0 => []
  | k + 1 => if remK (s * s + 1) code k % (s * s + 1) = s * s then putC s code m k else putL (putC s code m k) ⟨(pcAt m (m.length - 1 - k)).kd, (pcAt m (m.length - 1 - k)).ow, remK (s * s + 1) code k % (s * s + 1)⟩
/-- no man stands already where the k-th from the end goes -/
def goodC (s code : Int) (m : List Pc) (k : Nat) : Bool := decide (remK (s * s + 1) code k % (s * s + 1) = s * s) || decide (manV (putC s code m k) (remK (s * s + 1) code k % (s * s + 1)) = -1)
def posIB (s : Int) (ks : List Kd) (m : List Pc) (code : Int) : Bool := (List.range m.length).all (goodC s code m) && posOk s ks (remK (s * s + 1) code m.length) (putC s code m m.length)
/-- the code is one of a position -/
def posCB (s : Int) (ks : List Kd) (m : List Pc) (code : Int) : Bool := decide (0 ≤ code ∧ code < numV s m.length) && posIB s ks m code
def posCT (s : Int) (ks : List Kd) (m : List Pc) (code : Int) : Int := if posCB s ks m code = true then remK (s * s + 1) code m.length else 0
def posCL (s : Int) (ks : List Kd) (m : List Pc) (code : Int) : List St := if posCB s ks m code = true then putC s code m m.length else []

theorem digC_rem {b code : Int} {n k : Nat} (hk : k < n) : digC b code n (n - 1 - k) = remK b code k % b := by unfold digC; rw [show n - 1 - (n - 1 - k) = k by omega]
theorem remK_bd {s code : Int} (hs : s = 2 ∨ s = 3 ∨ s = 4) {n : Nat} (h0 : 0 ≤ code) (h1 : code < numV s n) : ∀ k, k ≤ n → 0 ≤ remK (s * s + 1) code k ∧ remK (s * s + 1) code k < numV s (n - k) := by
  intro k
  induction k with
  | zero => intro _; exact ⟨h0, h1⟩
  | succ k ih =>
    intro hk
    obtain ⟨a, b⟩ := ih (by omega)
    simp only [remK]
    have e : numV s (n - k) = numV s (n - (k + 1)) * (s * s + 1) := by rw [show n - k = (n - (k + 1)) + 1 by omega]; rfl
    rw [e] at b
    generalize remK (s * s + 1) code k = x at *
    generalize numV s (n - (k + 1)) = y at *
    rcases hs with rfl | rfl | rfl <;> omega
theorem digC_bd {s code : Int} (hs : s = 2 ∨ s = 3 ∨ s = 4) (n i : Nat) : 0 ≤ digC (s * s + 1) code n i ∧ digC (s * s + 1) code n i ≤ s * s := by
  unfold digC
  rcases hs with rfl | rfl | rfl <;> omega
theorem menC_rest {s code : Int} {m : List Pc} : ∀ i, i ≤ m.length → menC s code m i ++ menD s code m (m.length - i) = menD s code m m.length := by
  intro i
  induction i with
  | zero => intro _; rfl
  | succ i ih =>
    intro hi
    rw [← ih (by omega), show m.length - i = (m.length - (i + 1)) + 1 by omega]
    simp only [menC, menD]
    rw [show m.length - 1 - (m.length - (i + 1)) = i by omega, List.append_assoc]
theorem menC_all (s code : Int) (m : List Pc) : menC s code m m.length = menD s code m m.length := by
  have := menC_rest (s := s) (code := code) (m := m) m.length (Nat.le_refl _)
  rw [Nat.sub_self] at this
  simpa [menD] using this
theorem manC_len (s code : Int) (m : List Pc) (i : Nat) : (manC s code m i).length ≤ 1 := by unfold manC; split <;> simp
theorem menC_len (s code : Int) (m : List Pc) : ∀ i, (menC s code m i).length ≤ i := by
  intro i
  induction i with
  | zero => exact Nat.le_refl _
  | succ i ih => have := manC_len s code m i; simp only [menC, List.length_append]; omega
theorem putC_len (s code : Int) (m : List Pc) : ∀ k, (putC s code m k).length ≤ k := by
  intro k
  induction k with
  | zero => exact Nat.le_refl _
  | succ k ih => simp only [putC]; split
                 · omega
                 · rw [putL_len]; omega
theorem putC_ok {s code : Int} {m : List Pc} : ∀ k, k ≤ m.length → (∀ j, j < k → goodC s code m j = true) → Asc (putC s code m k) ∧ (putC s code m k).Perm (menD s code m k) := by
  intro k
  induction k with
  | zero => intro _ _; exact ⟨List.Pairwise.nil, .refl _⟩
  | succ k ih =>
    intro hk hg
    obtain ⟨ha, hp⟩ := ih (by omega) (fun j hj => hg j (by omega))
    have hgk := hg k (by omega)
    unfold goodC at hgk
    simp only [Bool.or_eq_true, decide_eq_true_eq] at hgk
    simp only [putC, menD, manC, digC_rem (show k < m.length by omega)]
    by_cases hc : remK (s * s + 1) code k % (s * s + 1) = s * s
    · rw [if_pos hc, if_pos hc]; exact ⟨ha, hp⟩
    · rw [if_neg hc, if_neg hc]
      have hm := hgk.resolve_left hc
      refine ⟨putL_asc ha (fun x hx => ?_), (putL_perm _ _).trans (List.Perm.cons _ hp)⟩
      obtain ⟨i, hi, rfl⟩ := List.getElem_of_mem hx
      rw [← stAt_lt hi]
      exact manV_miss hm i hi
/-- where two men stand on one square, no order of them is a position -/
theorem putC_bad {s code : Int} {m : List Pc} {k : Nat} (hk : k < m.length) (hg : ∀ j, j < k → goodC s code m j = true) (hb : goodC s code m k = false) : ¬ (menD s code m m.length).Pairwise (fun a b => a.far ≠ b.far) := by
  obtain ⟨_, hp⟩ := putC_ok k (by omega) hg
  unfold goodC at hb
  simp only [Bool.or_eq_false_iff, decide_eq_false_iff_not] at hb
  obtain ⟨hc, hm⟩ := hb
  obtain ⟨h1, h2, _⟩ := manV_far hm
  have hmem : stAt (putC s code m k) (manV (putC s code m k) (remK (s * s + 1) code k % (s * s + 1))).toNat ∈ menD s code m k := hp.mem_iff.1 (stAt_mem h1)
  have hbad : ¬ (menD s code m (k + 1)).Pairwise (fun a b => a.far ≠ b.far) := by
    simp only [menD, manC, digC_rem hk]
    rw [if_neg hc]
    intro h
    obtain ⟨h3, _⟩ := List.pairwise_cons.1 h
    exact h3 _ hmem h2.symm
  have hsub : ∀ d, k + 1 + d ≤ m.length → ∃ L, menD s code m (k + 1 + d) = L ++ menD s code m (k + 1) := by
    intro d
    induction d with
    | zero => intro _; exact ⟨[], rfl⟩
    | succ d ih =>
      intro hd
      obtain ⟨L, hL⟩ := ih (by omega)
      refine ⟨manC s code m (m.length - 1 - (k + 1 + d)) ++ L, ?_⟩
      rw [show k + 1 + (d + 1) = (k + 1 + d) + 1 by omega]
      simp only [menD, hL, List.append_assoc]
  intro h
  obtain ⟨L, hL⟩ := hsub (m.length - (k + 1)) (by omega)
  rw [show k + 1 + (m.length - (k + 1)) = m.length by omega] at hL
  rw [hL] at h
  exact hbad (List.pairwise_append.1 h).2.1
theorem pairwise_ne_perm {a b : List St} (hp : a.Perm b) (h : a.Pairwise (fun x y => x.far ≠ y.far)) : b.Pairwise (fun x y => x.far ≠ y.far) :=
  hp.pairwise h (fun {x y} hxy e => hxy e.symm)
theorem up_asc {l : List St} (h : Up l) : Asc l := by
  unfold Asc
  refine List.pairwise_iff_getElem.2 fun i j hi hj hij => ?_
  have := h.lt hij hj
  rwa [stAt_lt hi, stAt_lt hj] at this
/-- what the program's sorted list says: the same as the model's -/
theorem posC_of {s : Int} {ks : List Kd} {m : List Pc} {code : Int} {l' : List St} (hp : l'.Perm (menC s code m m.length)) (ho : l'.Pairwise fun x y => x.far ≤ y.far) :
    (posOk s ks (remK (s * s + 1) code m.length) l' = posIB s ks m code) ∧ (posIB s ks m code = true → l' = putC s code m m.length) := by
  rw [menC_all] at hp
  cases hg : (List.range m.length).all (goodC s code m)
  · have hB : posIB s ks m code = false := by unfold posIB; rw [hg]; rfl
    rw [hB]
    refine ⟨?_, fun h => by cases h⟩
    cases hq : posOk s ks (remK (s * s + 1) code m.length) l'
    · rfl
    · exfalso
      rw [List.all_eq_false] at hg
      obtain ⟨k0, hk0, hb0⟩ := hg
      have hk0' : k0 < m.length := by simpa using hk0
      have hex : ∃ k, k < m.length ∧ (∀ j, j < k → goodC s code m j = true) ∧ goodC s code m k = false := by
        have : ∀ n, n ≤ m.length → (∀ j, j < n → goodC s code m j = true) ∨ ∃ k, k < n ∧ (∀ j, j < k → goodC s code m j = true) ∧ goodC s code m k = false := by
          intro n
          induction n with
          | zero => intro _; exact .inl fun j hj => absurd hj (by omega)
          | succ n ih =>
            intro hn
            rcases ih (by omega) with h | ⟨k, hk, h⟩
            · cases hgn : goodC s code m n
              · exact .inr ⟨n, by omega, h, hgn⟩
              · exact .inl (all_succ h hgn)
            · exact .inr ⟨k, by omega, h⟩
        rcases this m.length (Nat.le_refl _) with h | h
        · exact absurd (h k0 hk0') hb0
        · exact h
      obtain ⟨k, hk, h1, h2⟩ := hex
      refine putC_bad hk h1 h2 (pairwise_ne_perm hp ?_)
      unfold posOk at hq
      simp only [Bool.and_eq_true] at hq
      exact (up_asc (shapeB_up hq.1)).imp fun h => by omega
  · have hgo : ∀ j, j < m.length → goodC s code m j = true := fun j hj => by
      rw [List.all_eq_true] at hg; exact hg j (by simpa using hj)
    obtain ⟨ha, hpp⟩ := putC_ok m.length (Nat.le_refl _) hgo
    have he : l' = putC s code m m.length := asc_unique (hp.trans hpp.symm) ha ho
    refine ⟨?_, fun _ => he⟩
    unfold posIB
    rw [hg, he]; rfl
theorem posCB_in {s : Int} {ks : List Kd} {m : List Pc} {code : Int} (h0 : 0 ≤ code) (h1 : code < numV s m.length) : posCB s ks m code = posIB s ks m code := by unfold posCB; rw [decide_eq_true ⟨h0, h1⟩]; rfl
theorem posCB_out {s : Int} {ks : List Kd} {m : List Pc} {code : Int} (h : ¬ (0 ≤ code ∧ code < numV s m.length)) : posCB s ks m code = false := by unfold posCB; rw [decide_eq_false h]; rfl
theorem posIB_bad {s : Int} {ks : List Kd} {m : List Pc} {code : Int} {k : Nat} (hk : k < m.length) (h : goodC s code m k = false) : posIB s ks m code = false := by
  unfold posIB
  rw [show (List.range m.length).all (goodC s code m) = false from by rw [List.all_eq_false]; exact ⟨k, by simpa using hk, by simp [h]⟩]; rfl
theorem posIB_end {s : Int} {ks : List Kd} {m : List Pc} {code : Int} (h : ∀ j, j < m.length → goodC s code m j = true) : posIB s ks m code = posOk s ks (remK (s * s + 1) code m.length) (putC s code m m.length) := by
  unfold posIB
  rw [show (List.range m.length).all (goodC s code m) = true from by rw [List.all_eq_true]; intro j hj; exact h j (by simpa using hj)]; rfl
end Go.Proofs.YtmfcgikfgikbfaaGreat.Ko
