/- The heaps together: in any order. -/
import Derived.Test.YtjanalljaacnoaaKe
import Derived.Test.YtjanalljaacnoaaZj
namespace Go.Proofs.Ytjanalljaacnoaa.Hx
open Go.ChangeShapes Go.WideShapes Go.ChangeAt Go.RowKit Base Sq In Ko
set_option linter.unusedVariables false
set_option maxRecDepth 20000

def xl (s : List Int) : List Int → Nat
  | [] => 0
  | a :: l => (iAt (gruV s 61) a.toNat).toNat ^^^ xl s l
theorem xl_append (s : List Int) (a b : List Int) : xl s (a ++ b) = xl s a ^^^ xl s b := by
  induction a with
  | nil => simp [xl]
  | cons x a ih => simp only [List.cons_append, xl, ih, Nat.xor_assoc]
theorem xl_reverse (s : List Int) (l : List Int) : xl s l.reverse = xl s l := by
  induction l with
  | nil => rfl
  | cons x l ih => rw [List.reverse_cons, xl_append, ih]; simp only [xl, Nat.xor_zero]; exact Nat.xor_comm _ _
theorem heapsK_xl {s z : List Int} : ∀ k, k ≤ z.length → heapsK s z k = ((xl s (z.take k) : Nat) : Int) := by
  intro k
  induction k with
  | zero => intro _; rfl
  | succ k ih =>
    intro hk
    show xorV (heapsK s z k) _ = _
    have e : iAt z k = z[k] := by unfold iAt; simp [List.getD_eq_getElem?_getD, show k < z.length by omega]
    rw [ih (by omega), List.take_succ_eq_append_getElem (by omega), xl_append, e]
    simp only [xl, Nat.xor_zero]
    unfold xorV
    rw [Int.toNat_natCast]
theorem heapsV_xl {s z : List Int} (hs : setB s = true) (hz : heapsB z = true) : heapsV s z = ((xl s z : Nat) : Int) := by
  rw [heapsV_yes hs hz, heapsK_xl _ (Nat.le_refl _), List.take_length]
theorem heapsB_mem {z : List Int} (h : heapsB z = true) {x : Int} (hx : x ∈ z) : 0 ≤ x ∧ x ≤ 60 := by
  obtain ⟨i, hi, rfl⟩ := mem_iAt hx
  exact heapsB_in h hi
theorem heapsB_of {z : List Int} (h : ∀ x, x ∈ z → 0 ≤ x ∧ x ≤ 60) (hl : z.length ≤ 4) : heapsB z = true := by
  rw [heapsB_end (fun j hj => by unfold heapAt inB; exact decide_eq_true (h _ (iAt_mem hj))), decide_eq_true hl]
theorem rev_ok {s z : List Int} (hs : setB s = true) (hz : heapsB z = true) : heapsV s z.reverse = heapsV s z := by
  rw [heapsV_xl hs hz, heapsV_xl hs (heapsB_of (fun x hx => heapsB_mem hz (List.mem_reverse.1 hx)) (by rw [List.length_reverse]; exact heapsB_len hz)), xl_reverse]
theorem two_ok {s z : List Int} {x : Int} (hs : setB s = true) (hz : heapsB z = true) (h0 : 0 ≤ x) (h1 : x ≤ 60) (hl : z.length ≤ 2) : heapsV s (z ++ [x, x]) = heapsV s z := by
  rw [heapsV_xl hs hz, heapsV_xl hs (heapsB_of (fun y hy => by
    rcases List.mem_append.1 hy with h | h
    · exact heapsB_mem hz h
    · have : y = x := by simpa using h
      omega) (by rw [List.length_append]; simp; omega)), xl_append]
  simp only [xl, Nat.xor_zero, Nat.xor_self]
theorem one_ok {s : List Int} {x : Nat} (hs : setB s = true) (h1 : x ≤ 60) : heapsV s [(x : Int)] = iAt (gruV s (x + 1)) x := by
  rw [heapsV_xl hs (heapsB_of (fun y hy => by have : y = (x : Int) := by simpa using hy
                                              omega) (by simp))]
  simp only [xl, Nat.xor_zero, Int.toNat_natCast]
  have := gruV_bd (s := s) (n := 61) (i := x) (by omega)
  rw [gruV_at s (show x < x + 1 by omega) (show x + 1 ≤ 61 by omega)] at this ⊢
  omega
/-- the heaps from k on, the other way round -/
def bk (z : List Int) (k : Nat) : List Int := (z.drop k).reverse
theorem bk_len (z : List Int) (k : Nat) : (bk z k).length = z.length - k := by simp [bk]
theorem bk_next {z : List Int} {j : Nat} (h : j < z.length) : bk z j = bk z (j + 1) ++ [iAt z j] := by
  unfold bk
  have e : iAt z j = z[j] := by unfold iAt; simp [List.getD_eq_getElem?_getD, h]
  rw [List.drop_eq_getElem_cons h, List.reverse_cons, e]
theorem bk_all (z : List Int) : bk z 0 = z.reverse := rfl
theorem bk_none (z : List Int) : bk z z.length = [] := by unfold bk; rw [List.drop_length]; rfl
end Go.Proofs.Ytjanalljaacnoaa.Hx
