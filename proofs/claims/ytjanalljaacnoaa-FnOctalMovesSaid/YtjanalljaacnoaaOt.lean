/- Codes of digits 3 are subtraction games. -/
import Derived.Test.YtjanalljaacnoaaHo
import Derived.Test.YtjanalljaacnoaaJx
namespace Go.Proofs.Ytjanalljaacnoaa.Ot
open Go.ChangeShapes Go.WideShapes Go.ChangeAt Go.RowKit Base Sq In Ko
set_option linter.unusedVariables false
set_option maxRecDepth 20000

theorem set_up2 {s : List Int} (hs : setB s = true) : ∀ k j, j < k → k < s.length → iAt s j < iAt s k := by
  intro k
  induction k with
  | zero => intro j h; omega
  | succ k ih =>
    intro j hj hk
    have h1 := setB_at hs hk
    unfold setAt at h1
    rw [Bool.and_eq_true, Bool.or_eq_true] at h1
    have h2 : iAt s k < iAt s (k + 1) := by
      rcases h1.2 with h | h
      · exact absurd (of_decide_eq_true h) (by omega)
      · exact of_decide_eq_true h
    rcases Nat.eq_or_lt_of_le (show j ≤ k by omega) with rfl | h3
    · exact h2
    · have := ih j h3 (by omega); omega
/-- the code has a 3 where the first k numbers of the set say so, and 0 elsewhere -/
def Dig (s : List Int) (k : Nat) (l : List Int) : Prop := ∀ i : Nat, i < 4 → ((∃ j, j < k ∧ iAt s j = (i : Int) + 1) ∧ iAt l i = 3) ∨ ((∀ j, j < k → iAt s j ≠ (i : Int) + 1) ∧ iAt l i = 0)
theorem Dig.zero (s : List Int) : Dig s 0 [0, 0, 0, 0] := fun i hi => .inr ⟨fun j h => by omega, by
  obtain rfl | rfl | rfl | rfl : i = 0 ∨ i = 1 ∨ i = 2 ∨ i = 3 := by omega
  all_goals rfl⟩
theorem Dig.put {s l : List Int} {k t : Nat} (h : Dig s k l) (hl : l.length = 4) (ht : t < 4) (e : iAt s k = (t : Int) + 1) : Dig s (k + 1) (l.set t 3) := fun i hi => by
  by_cases hit : t = i
  · subst hit
    exact .inl ⟨⟨k, by omega, e⟩, iAt_set_same (by omega) 3⟩
  · rw [iAt_set_other hit]
    rcases h i hi with ⟨⟨j, a, b⟩, c⟩ | ⟨a, c⟩
    · exact .inl ⟨⟨j, by omega, b⟩, c⟩
    · refine .inr ⟨fun j hj => ?_, c⟩
      rcases Nat.eq_or_lt_of_le (show j ≤ k by omega) with rfl | h3
      · rw [e]; omega
      · exact a j h3
theorem optK_mem {s g : List Int} {n : Nat} {x : Int} : ∀ k, x ∈ optK s g n k ↔ ∃ j, j < k ∧ iAt s j ≤ (n : Int) ∧ x = iAt g ((n : Int) - iAt s j).toNat := by
  intro k
  induction k with
  | zero => exact ⟨fun h => absurd h (by simp [optK]), fun ⟨j, h, _⟩ => by omega⟩
  | succ k ih =>
    unfold optK
    split
    · rename_i hle
      rw [List.mem_append, ih]
      constructor
      · rintro (⟨j, a, b, c⟩ | h)
        · exact ⟨j, by omega, b, c⟩
        · exact ⟨k, by omega, hle, by simpa using h⟩
      · rintro ⟨j, a, b, c⟩
        rcases Nat.eq_or_lt_of_le (show j ≤ k by omega) with rfl | h3
        · exact .inr (by simpa using c)
        · exact .inl ⟨j, h3, b, c⟩
    · rename_i hle
      rw [ih]
      constructor
      · rintro ⟨j, a, b, c⟩; exact ⟨j, by omega, b, c⟩
      · rintro ⟨j, a, b, c⟩
        rcases Nat.eq_or_lt_of_le (show j ≤ k by omega) with rfl | h3
        · exact absurd b hle
        · exact ⟨j, h3, b, c⟩
theorem octK_mem {c : List Int} {h : Int} {p : Int × Int} : ∀ m, p ∈ octK c h m ↔ ∃ k, k < m ∧ p ∈ octAt c h k := by
  intro m
  induction m with
  | zero => exact ⟨fun h => absurd h (by simp [octK]), fun ⟨j, h, _⟩ => by omega⟩
  | succ m ih =>
    unfold octK
    rw [List.mem_append, ih]
    constructor
    · rintro (⟨k, a, b⟩ | h1)
      · exact ⟨k, by omega, b⟩
      · exact ⟨m, by omega, h1⟩
    · rintro ⟨k, a, b⟩
      rcases Nat.eq_or_lt_of_le (show k ≤ m by omega) with rfl | h3
      · exact .inr b
      · exact .inl ⟨k, h3, b⟩
theorem octAt_three {c : List Int} {h : Int} {k : Nat} (hk : 0 ≤ h - k - 1) (h3 : iAt c k = 3) : octAt c h k = [((0 : Int), h - k - 1)] := by
  unfold octAt
  rw [h3]
  by_cases h0 : h - k - 1 = 0
  · rw [if_pos ⟨by decide, h0⟩, if_neg (by omega), if_neg (by decide), h0]; rfl
  · rw [if_neg (by omega), if_pos ⟨by decide, by omega⟩, if_neg (by decide)]; rfl
theorem octAt_none {c : List Int} {h : Int} {k : Nat} (h3 : iAt c k = 0) : octAt c h k = [] := by
  unfold octAt
  rw [h3, if_neg (by omega), if_neg (by omega), if_neg (by decide)]; rfl
theorem xorV_zero {x : Int} (h : 0 ≤ x) : xorV 0 x = x := by
  unfold xorV
  rw [show (0 : Int).toNat = 0 from rfl, Nat.zero_xor]; omega
theorem mexV_same {l l' : List Int} (h : ∀ x, x ∈ l ↔ x ∈ l') : mexV l = mexV l' := by
  obtain ⟨n, hn⟩ : ∃ n : Nat, mexV l' = n := ⟨_, rfl⟩
  rw [hn]
  refine mexV_eq (fun j hj => (h _).2 (mexV_in (by rw [hn]; omega))) (fun hc => ?_)
  rw [← hn] at hc
  exact mexV_out l' ((h _).1 hc)
theorem gruV_nn (s : List Int) : ∀ n i, 0 ≤ iAt (gruV s n) i := by
  intro n
  induction n with
  | zero => intro i; simp [gruV, iAt]
  | succ n ih =>
    intro i
    rw [show gruV s (n + 1) = gruV s n ++ [mexV (optK s (gruV s n) n s.length)] from rfl]
    have hl := gruV_len s n
    by_cases h1 : i < (gruV s n).length
    · rw [iAt_append_left h1]; exact ih i
    · by_cases h2 : i = (gruV s n).length
      · subst h2
        have : iAt (gruV s n ++ [mexV (optK s (gruV s n) n s.length)]) (gruV s n).length = mexV (optK s (gruV s n) n s.length) := by unfold iAt; simp [List.getD_eq_getElem?_getD]
        rw [this]; exact (mexV_le _).1
      · unfold iAt
        rw [List.getD_eq_getElem?_getD, List.getElem?_eq_none (by rw [List.length_append]; simp; omega)]
        exact Int.le_refl 0
theorem gruV_zero {s : List Int} (hs : setB s = true) : ∀ n, iAt (gruV s n) 0 = 0 := by
  intro n
  rcases Nat.eq_zero_or_pos n with rfl | h
  · rfl
  · rw [gruV_at s (show 0 < 1 by omega) h]
    have : optK s (gruV s 0) 0 s.length = [] := by
      cases h0 : optK s (gruV s 0) 0 s.length with
      | nil => rfl
      | cons x t =>
        obtain ⟨j, a, b, _⟩ := (optK_mem (x := x) s.length).1 (by rw [h0]; simp)
        have := setB_in hs a
        omega
    show iAt (gruV s 0 ++ [mexV (optK s (gruV s 0) 0 s.length)]) 0 = 0
    rw [this]; rfl
theorem octal_take {s l : List Int} (hs : setB s = true) (hl : l.length = 4) (hd : Dig s s.length l) (h4 : ∀ j, j < s.length → iAt s j ≤ 4) : ∀ n, gruO l n = gruV s n := by
  intro n
  induction n with
  | zero => rfl
  | succ n ih =>
    show gruO l n ++ [mexV (octW (gruO l n) (octM l n))] = gruV s n ++ [mexV (optK s (gruV s n) n s.length)]
    rw [ih]
    have e : mexV (octW (gruV s n) (octM l n)) = mexV (optK s (gruV s n) n s.length) := by
      refine mexV_same fun x => ?_
      rw [optK_mem]
      unfold octW octM
      rw [List.mem_map, hl]
      have hx : ∀ k : Nat, (k : Int) < n → xorV (iAt (gruV s n) (0 : Int).toNat) (iAt (gruV s n) ((n : Int) - k - 1).toNat) = iAt (gruV s n) ((n : Int) - k - 1).toNat := fun k hk => by
        rw [show (0 : Int).toNat = 0 from rfl, gruV_zero hs, xorV_zero (gruV_nn _ _ _)]
      constructor
      · rintro ⟨p, hp, rfl⟩
        obtain ⟨k, hk, hpk⟩ := (octK_mem _).1 hp
        have hk1 : k < 4 := by omega
        have hk2 : k < n := by omega
        rcases hd k hk1 with ⟨⟨j, a, b⟩, c⟩ | ⟨a, c⟩
        · rw [octAt_three (by omega) c] at hpk
          obtain rfl : p = ((0 : Int), (n : Int) - k - 1) := by simpa using hpk
          refine ⟨j, a, by omega, ?_⟩
          show xorV (iAt (gruV s n) (0 : Int).toNat) (iAt (gruV s n) ((n : Int) - k - 1).toNat) = _
          rw [hx k (by omega), b]
          congr 1; omega
        · rw [octAt_none c] at hpk
          exact absurd hpk (by simp)
      · rintro ⟨j, a, b, rfl⟩
        obtain ⟨r1, r2⟩ := setB_in hs a
        have r3 := h4 j a
        obtain ⟨k, hk⟩ : ∃ k : Nat, iAt s j = (k : Int) + 1 := ⟨(iAt s j - 1).toNat, by omega⟩
        have hk1 : k < 4 := by omega
        refine ⟨((0 : Int), (n : Int) - k - 1), (octK_mem _).2 ⟨k, by omega, ?_⟩, ?_⟩
        · rcases hd k hk1 with ⟨_, c⟩ | ⟨c, _⟩
          · rw [octAt_three (by omega) c]; simp
          · exact absurd hk (c j a)
        · show xorV (iAt (gruV s n) (0 : Int).toNat) (iAt (gruV s n) ((n : Int) - k - 1).toNat) = _
          rw [hx k (by omega), hk]
          congr 1; omega
    rw [e]
theorem dig_ok {s l : List Int} {k : Nat} (hl : l.length = 4) (hd : Dig s k l) : octB l = true := by
  unfold octB
  rw [Bool.and_eq_true, List.all_eq_true, hl]
  refine ⟨fun i hi => ?_, by decide⟩
  rcases hd i (by simpa using hi) with ⟨_, c⟩ | ⟨_, c⟩ <;> rw [c] <;> decide
end Go.Proofs.Ytjanalljaacnoaa.Ot
