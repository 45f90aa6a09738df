/- The values of moves (no program is named): sets of squares as bits, what a man may still do, all moves in order. -/
import Derived.Test.YtcgfklljbblhlaaGreatDoorDoM
import Derived.Lib.TrailingZeros
namespace Go.Proofs.YtcgfklljbblhlaaGreatDoor.Ko
open Go.ChangeShapes Go.WideShapes Go.ChangeAt Go.RowKit Base Sq
set_option linter.unusedVariables false
set_option maxRecDepth 20000

theorem ctz_bits {L : Nat} (h0 : L ≠ 0) (h : L < 18446744073709551616) : L.testBit (Go.Lib.ctz 64 L) = true ∧ (∀ j, j < Go.Lib.ctz 64 L → L.testBit j = false) ∧ Go.Lib.ctz 64 L < 64 := by
  obtain ⟨m, hm, hk⟩ := Go.Lib.ctzFrom_spec 64 L (by omega) h
  have e : Go.Lib.ctz 64 L = Go.Lib.ctzFrom 64 L := by simp [Go.Lib.ctz, h0]
  rw [e]
  generalize Go.Lib.ctzFrom 64 L = k at *
  rw [hm]
  refine ⟨?_, fun j hj => ?_, hk⟩
  · rw [Nat.mul_comm, Nat.testBit_mul_two_pow]; simp
  · rw [Nat.mul_comm, Nat.testBit_mul_two_pow]; simp; omega
def clr (L k : Nat) : Nat := L &&& (18446744073709551615 - 2 ^ k)
theorem clr_bit {L k : Nat} (hk : k < 64) (hL : L < 18446744073709551616) (j : Nat) : (clr L k).testBit j = (L.testBit j && decide (j ≠ k)) := by
  unfold clr
  have hp : 2 ^ k < 2 ^ 64 := Nat.pow_lt_pow_right (by decide) hk
  rw [Nat.testBit_and, show 18446744073709551615 - 2 ^ k = 2 ^ 64 - (2 ^ k + 1) from by omega, Nat.testBit_two_pow_sub_succ hp, Nat.testBit_two_pow]
  by_cases hj : j < 64
  · by_cases he : j = k
    · subst he; simp
    · simp [hj, he]; omega
  · have : L.testBit j = false := Nat.testBit_lt_two_pow (Nat.lt_of_lt_of_le (show L < 2 ^ 64 from hL) (Nat.pow_le_pow_right (by decide) (by omega)))
    simp [this]
theorem clr_le (L k : Nat) : clr L k ≤ L := Nat.and_le_left
theorem clr_lt {L k : Nat} (hk : k < 64) (hL : L < 18446744073709551616) (h : L.testBit k = true) : clr L k < L := by
  refine Nat.lt_of_le_of_ne (clr_le L k) (fun he => ?_)
  have := clr_bit hk hL k
  rw [he, h] at this
  simp at this
def orB (L : Nat) : List Int → Nat
  | [] => L
  | q :: l => orB (L ||| 2 ^ q.toNat) l
theorem orB_snoc (l : List Int) (q : Int) : ∀ L, orB L (l ++ [q]) = orB L l ||| 2 ^ q.toNat := by
  induction l with
  | nil => intro L; rfl
  | cons a l ih => intro L; simp only [List.cons_append, orB]; exact ih _
theorem orB_bit {l : List Int} (h : ∀ q ∈ l, 0 ≤ q) : ∀ L j, (orB L l).testBit j = (L.testBit j || decide ((j : Int) ∈ l)) := by
  induction l with
  | nil => intro L j; simp [orB]
  | cons a l ih =>
    intro L j
    have ha := h a (by simp)
    rw [orB, ih (fun q hq => h q (by simp [hq])), Nat.testBit_or, Nat.testBit_two_pow]
    by_cases he : (j : Int) = a
    · have : a.toNat = j := by omega
      simp [he, this]
    · have : ¬ a.toNat = j := by omega
      simp [he, this]
theorem orB_lt {l : List Int} {n : Nat} (h : ∀ q ∈ l, 0 ≤ q ∧ q < n) : ∀ L, L < 2 ^ n → orB L l < 2 ^ n := by
  induction l with
  | nil => intro L hL; exact hL
  | cons a l ih =>
    intro L hL
    have ha := h a (by simp)
    exact ih (fun q hq => h q (by simp [hq])) _ (Nat.or_lt_two_pow hL (Nat.pow_lt_pow_right (by decide) (by omega)))

/-- from, to -/
abbrev Mv := Int × Int
def mvAt (l : List Mv) (i : Nat) : Mv := l.getD i (0, 0)
theorem mvAt_lt {l : List Mv} {i : Nat} (h : i < l.length) : mvAt l i = l[i] := by simp [mvAt, List.getD_eq_getElem?_getD, h]
/-- what a man may do on the squares below n -/
def manL (side : Int) (ks : List Kd) (t : Int) (l : List St) (i : Nat) : Nat → List Mv
  | 0 => []
  | n + 1 => manL side ks t l i n ++ (if hitsB side l (kOf ks (stAt l i)).steps (stAt l i).far (n : Int) && mayB side ks t l i n then [((stAt l i).far, (n : Int))] else [])
/-- what is left to do of the squares of a set, below n -/
def leftL (side : Int) (ks : List Kd) (t : Int) (l : List St) (i : Nat) (L : Nat) : Nat → List Mv
  | 0 => []
  | n + 1 => leftL side ks t l i L n ++ (if L.testBit n && mayB side ks t l i n then [((stAt l i).far, (n : Int))] else [])
/-- the moves of the first k men -/
def movL (side : Int) (ks : List Kd) (t : Int) (l : List St) : Nat → List Mv
  | 0 => []
  | k + 1 => movL side ks t l k ++ (if (stAt l k).dy = t then manL side ks t l k (side * side).toNat else [])
def movesL (side : Int) (ks : List Kd) (t : Int) (l : List St) : List Mv := movL side ks t l l.length

theorem leftL_zero (side : Int) (ks : List Kd) (t : Int) (l : List St) (i n : Nat) : leftL side ks t l i 0 n = [] := by
  induction n with
  | zero => rfl
  | succ n ih => simp [leftL, ih]
theorem leftL_low {side : Int} {ks : List Kd} {t : Int} {l : List St} {i L M k : Nat} (hk : L.testBit k = true) (hlo : ∀ j, j < k → L.testBit j = false) (hM : ∀ j, M.testBit j = (L.testBit j && decide (j ≠ k))) :
    ∀ n, k < n → leftL side ks t l i L n = (if mayB side ks t l i k then [((stAt l i).far, (k : Int))] else []) ++ leftL side ks t l i M n := by
  have hz : ∀ n, n ≤ k → leftL side ks t l i L n = [] ∧ leftL side ks t l i M n = [] := by
    intro n
    induction n with
    | zero => exact fun _ => ⟨rfl, rfl⟩
    | succ n ih =>
      intro h
      obtain ⟨h1, h2⟩ := ih (by omega)
      simp [leftL, h1, h2, hM, hlo n (by omega)]
  intro n
  induction n with
  | zero => intro h; omega
  | succ n ih =>
    intro h
    by_cases he : n = k
    · subst he
      obtain ⟨h1, h2⟩ := hz n (Nat.le_refl _)
      simp [leftL, h1, h2, hM, hk]
    · simp only [leftL]
      rw [ih (by omega), hM n, decide_eq_true (p := n ≠ k) he, Bool.and_true, List.append_assoc]
theorem leftL_hits {side : Int} {ks : List Kd} {t : Int} {l : List St} {i L n : Nat} (h : ∀ j, j < n → L.testBit j = hitsB side l (kOf ks (stAt l i)).steps (stAt l i).far (j : Int)) : leftL side ks t l i L n = manL side ks t l i n := by
  induction n with
  | zero => rfl
  | succ n ih => simp only [leftL, manL]; rw [ih (fun j hj => h j (by omega)), h n (by omega)]
theorem manL_len (side : Int) (ks : List Kd) (t : Int) (l : List St) (i n : Nat) : (manL side ks t l i n).length ≤ n := by
  induction n with
  | zero => simp [manL]
  | succ n ih => simp only [manL, List.length_append]; split <;> simp <;> omega
theorem movL_len {side : Int} (ks : List Kd) (t : Int) (l : List St) (k : Nat) : (movL side ks t l k).length ≤ k * (side * side).toNat := by
  induction k with
  | zero => simp [movL]
  | succ k ih =>
    have := manL_len side ks t l k (side * side).toNat
    simp only [movL, List.length_append, Nat.succ_mul]
    split
    · omega
    · simp; omega
theorem movesL_len {side : Int} {ks : List Kd} {t : Int} {l : List St} (hs : side = 2 ∨ side = 3 ∨ side = 4) (hl : l.length ≤ 4) : (movesL side ks t l).length ≤ 64 := by
  have h := movL_len (side := side) ks t l l.length
  unfold movesL
  have h1 : (side * side).toNat ≤ 16 := by rcases hs with rfl | rfl | rfl <;> decide
  have := Nat.mul_le_mul hl h1
  omega
theorem movL_pre {side : Int} {ks : List Kd} {t : Int} {l : List St} {a b : Nat} (h : a ≤ b) : movL side ks t l a <+: movL side ks t l b := by
  induction b with
  | zero => have : a = 0 := by omega
            subst this; exact List.prefix_refl _
  | succ b ih =>
    by_cases h2 : a = b + 1
    · subst h2; exact List.prefix_refl _
    · exact (ih (by omega)).trans (List.prefix_append _ _)
theorem mem_manL {side : Int} {ks : List Kd} {t : Int} {l : List St} {i : Nat} {n : Nat} {m : Mv} : m ∈ manL side ks t l i n ↔ ∃ q : Nat, q < n ∧ m = ((stAt l i).far, (q : Int)) ∧ hitsB side l (kOf ks (stAt l i)).steps (stAt l i).far (q : Int) = true ∧ mayB side ks t l i q = true := by
  induction n with
  | zero => simp [manL]
  | succ n ih =>
    simp only [manL, List.mem_append, ih]
    constructor
    · rintro (⟨q, hq, h⟩ | h)
      · exact ⟨q, by omega, h⟩
      · split at h
        · rename_i hb
          obtain ⟨h1, h2⟩ := (Bool.and_eq_true_iff).1 hb
          exact ⟨n, by omega, by simpa using h, h1, h2⟩
        · simp at h
    · rintro ⟨q, hq, h⟩
      rcases Nat.lt_succ_iff_lt_or_eq.1 hq with hq | rfl
      · exact .inl ⟨q, hq, h⟩
      · refine .inr ?_
        rw [if_pos (by rw [h.2.1, h.2.2]; rfl)]
        simpa using h.1
theorem mem_movL {side : Int} {ks : List Kd} {t : Int} {l : List St} {k : Nat} {m : Mv} : m ∈ movL side ks t l k ↔ ∃ i, i < k ∧ (stAt l i).dy = t ∧ m ∈ manL side ks t l i (side * side).toNat := by
  induction k with
  | zero => simp [movL]
  | succ k ih =>
    simp only [movL, List.mem_append, ih]
    constructor
    · rintro (⟨i, hi, h⟩ | h)
      · exact ⟨i, by omega, h⟩
      · split at h
        · rename_i ht
          exact ⟨k, by omega, ht, h⟩
        · simp at h
    · rintro ⟨i, hi, h⟩
      rcases Nat.lt_succ_iff_lt_or_eq.1 hi with hi | rfl
      · exact .inl ⟨i, hi, h⟩
      · exact .inr (by rw [if_pos h.1]; exact h.2)
theorem manV_up {l : List St} (hu : Up l) {i : Nat} (hi : i < l.length) : manV l (stAt l i).far = (i : Int) :=
  manV_hit hi (fun j hj he => by have := hu.inj (by omega) hi he; omega) rfl
/-- on its own man's square, a move is legal just where the man attacks its end and may go there -/
theorem canB_at {side : Int} {ks : List Kd} {t : Int} {l : List St} (hu : Up l) {i : Nat} (hi : i < l.length) (ho : (stAt l i).dy = t) (q : Int) :
    canB side ks t l (stAt l i).far q = (hitsB side l (kOf ks (stAt l i)).steps (stAt l i).far q && mayB side ks t l i q) := by
  unfold canB
  rw [manV_up hu hi, decide_eq_true (p := ((i : Int) ≠ -1)) (by omega), Int.toNat_natCast, ho]
  simp
/-- every one of the moves is legal, goes to a square of the board and begins on one -/
theorem movesL_can {side : Int} {ks : List Kd} {t : Int} {l : List St} (hu : Up l) {m : Mv} (h : m ∈ movesL side ks t l) : canB side ks t l m.1 m.2 = true ∧ (0 ≤ m.2 ∧ m.2 < side * side) ∧ ∃ i, i < l.length ∧ (stAt l i).dy = t ∧ m.1 = (stAt l i).far ∧ mayB side ks t l i m.2 = true := by
  obtain ⟨i, hi, ho, hm⟩ := mem_movL.1 h
  obtain ⟨q, hq, rfl, h1, h2⟩ := mem_manL.1 hm
  refine ⟨by rw [canB_at hu hi ho, h1, h2]; rfl, ⟨by show (0 : Int) ≤ (q : Int); omega, by show (q : Int) < side * side; omega⟩, i, hi, ho, rfl, h2⟩
end Go.Proofs.YtcgfklljbblhlaaGreatDoor.Ko
