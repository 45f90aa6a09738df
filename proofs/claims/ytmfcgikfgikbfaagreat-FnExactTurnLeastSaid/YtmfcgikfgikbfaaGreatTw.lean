/- A position on a turned board: its values (no program is named). -/
import Derived.Test.YtmfcgikfgikbfaaGreatDoM
import Derived.Test.YtmfcgikfgikbfaaGreatTu
namespace Go.Proofs.YtmfcgikfgikbfaaGreat.Ko
open Go.ChangeShapes Go.WideShapes Go.ChangeAt Go.RowKit Base Sq
set_option linter.unusedVariables false
set_option maxRecDepth 20000

def trnM (side k : Int) (m : St) : St := ⟨m.dx, m.dy, turnAt side k m.far⟩
def trnL (side k : Int) (l : List St) : List St := l.map (trnM side k)
/-- the first n men, each put among those before it -/
def tsK (side k : Int) (l : List St) : Nat → List St
  | 0 => []
  | n + 1 => putL (tsK side k l n) (trnM side k (stAt l n))
def tsL (side k : Int) (l : List St) : List St := tsK side k l l.length
theorem trnL_len (side k : Int) (l : List St) : (trnL side k l).length = l.length := by simp [trnL]
theorem trnL_at {side k : Int} {l : List St} {i : Nat} (h : i < l.length) : stAt (trnL side k l) i = trnM side k (stAt l i) := by
  rw [stAt_lt (by rw [trnL_len]; exact h), stAt_lt h]; simp [trnL]
theorem tsK_len (side k : Int) (l : List St) (n : Nat) : (tsK side k l n).length = n := by
  induction n with
  | zero => rfl
  | succ n ih => simp only [tsK, putL_len, ih]
theorem tsL_len (side k : Int) (l : List St) : (tsL side k l).length = l.length := tsK_len side k l _
theorem mem_tsK {side k : Int} {l : List St} {n : Nat} {x : St} : x ∈ tsK side k l n ↔ ∃ i, i < n ∧ x = trnM side k (stAt l i) := by
  induction n with
  | zero => simp [tsK]
  | succ n ih =>
    simp only [tsK, mem_putL, ih]
    constructor
    · rintro (rfl | ⟨i, hi, rfl⟩)
      · exact ⟨n, by omega, rfl⟩
      · exact ⟨i, by omega, rfl⟩
    · rintro ⟨i, hi, rfl⟩
      rcases Nat.lt_succ_iff_lt_or_eq.1 hi with hi | rfl
      · exact .inr ⟨i, hi, rfl⟩
      · exact .inl rfl
theorem tsK_perm (side k : Int) (l : List St) : ∀ n, n ≤ l.length → (tsK side k l n).Perm (trnL side k (l.take n)) := by
  intro n hn
  induction n with
  | zero => exact .refl _
  | succ n ih =>
    have e : trnL side k (l.take (n + 1)) = trnL side k (l.take n) ++ [trnM side k (stAt l n)] := by
      rw [List.take_succ_eq_append_getElem (by omega), stAt_lt (by omega)]; unfold trnL; rw [List.map_append]; rfl
    rw [e]
    simp only [tsK]
    exact (putL_perm _ _).trans (((ih (by omega)).cons _).trans (List.perm_append_singleton _ _).symm)
theorem tsL_perm (side k : Int) (l : List St) : (trnL side k l).Perm (tsL side k l) := by
  have := tsK_perm side k l l.length (Nat.le_refl _)
  rw [List.take_length] at this
  exact this.symm
theorem turnAt_inj {side k a b : Int} (hs : side = 2 ∨ side = 3 ∨ side = 4) (hk : 0 ≤ k ∧ k ≤ 7) (ha : 0 ≤ a ∧ a < side * side) (hb : 0 ≤ b ∧ b < side * side) (h : turnAt side k a = turnAt side k b) : a = b :=
  (turn_facts hs hk ha).2.1 b hb.1 hb.2 h
theorem tsK_asc {side k t : Int} {ks : List Kd} {l : List St} (hs : side = 2 ∨ side = 3 ∨ side = 4) (hk : 0 ≤ k ∧ k ≤ 7) (hsh : shapeB side ks t l = true) : ∀ n, n ≤ l.length → Asc (tsK side k l n) := by
  have hu := shapeB_up hsh
  have hm := (shapeB_facts hsh).2.2.2.2
  intro n hn
  induction n with
  | zero => exact List.Pairwise.nil
  | succ n ih =>
    simp only [tsK]
    refine putL_asc (ih (by omega)) (fun x hx he => ?_)
    obtain ⟨i, hi, rfl⟩ := mem_tsK.1 hx
    have := turnAt_inj hs hk (hm i (by omega)).2.2.1 (hm n (by omega)).2.2.1 he
    have := hu.inj (by omega) (by omega) this
    omega
theorem tsL_unique {side k t : Int} {ks : List Kd} {l l' : List St} (hs : side = 2 ∨ side = 3 ∨ side = 4) (hk : 0 ≤ k ∧ k ≤ 7) (hsh : shapeB side ks t l = true) (hp : l'.Perm (trnL side k l)) (ho : l'.Pairwise fun x y => x.far ≤ y.far) : l' = tsL side k l :=
  asc_unique (hp.trans (tsL_perm side k l)) (tsK_asc hs hk hsh _ (Nat.le_refl _)) ho
/-- the first n men turned, the others as they were -/
def trnK (side k : Int) (l : List St) (n : Nat) : List St := trnL side k (l.take n) ++ l.drop n
theorem trnK_len (side k : Int) (l : List St) (n : Nat) : (trnK side k l n).length = l.length := by simp [trnK, trnL]; omega
theorem trnK_all (side k : Int) (l : List St) : trnK side k l l.length = trnL side k l := by simp [trnK]
theorem trnK_zero (side k : Int) (l : List St) : trnK side k l 0 = l := by simp [trnK, trnL]
theorem trnK_at (side k : Int) (l : List St) (n i : Nat) (h : i < l.length) : stAt (trnK side k l n) i = if i < n then trnM side k (stAt l i) else stAt l i := by
  unfold stAt trnK trnL
  simp only [List.getD_eq_getElem?_getD]
  split
  · rename_i h1
    rw [List.getElem?_append_left (by simp; omega)]
    simp [h, h1]
  · rename_i h1
    rw [List.getElem?_append_right (by simp; omega)]
    simp only [List.length_map, List.length_take, List.getElem?_drop]
    rw [show min n l.length = n from by omega, show n + (i - n) = i from by omega]
end Go.Proofs.YtmfcgikfgikbfaaGreat.Ko
