/- Values of octal games; heaps together, bit by bit. -/
import Derived.Test.YtjanalljaacnoaaHt
import Derived.Laws.Bits64
namespace Go.Proofs.Ytjanalljaacnoaa.Ko
open Go.ChangeShapes Go.WideShapes Go.ChangeAt Go.RowKit Base Sq In
set_option linter.unusedVariables false
set_option maxRecDepth 20000

/-- two values together, bit by bit -/
def xorV (a b : Int) : Int := ((a.toNat ^^^ b.toNat : Nat) : Int)
theorem xorV_lt {a b : Int} {n : Nat} (h : 0 ≤ a ∧ a < 2 ^ n) (k : 0 ≤ b ∧ b < 2 ^ n) : 0 ≤ xorV a b ∧ xorV a b < 2 ^ n := by
  have e : ((2 ^ n : Nat) : Int) = 2 ^ n := by simp
  have := Nat.xor_lt_two_pow (x := a.toNat) (y := b.toNat) (n := n) (by omega) (by omega)
  unfold xorV
  omega
/-- the model's and the program's '^' at whole numbers that are not below 0 -/
theorem bits_xor {a b : Int} (h : 0 ≤ a ∧ a < 4611686018427387904) (k : 0 ≤ b ∧ b < 4611686018427387904) : bits .xor .i64 a b = xorV a b := by
  obtain ⟨x, rfl⟩ := Int.eq_ofNat_of_zero_le h.1
  obtain ⟨y, rfl⟩ := Int.eq_ofNat_of_zero_le k.1
  have hx : x ^^^ y < 2 ^ 62 := Nat.xor_lt_two_pow (by omega) (by omega)
  have e1 : (BitVec.ofInt 64 (x : Int)).toNat = x := by rw [BitVec.ofInt_natCast, BitVec.toNat_ofNat]; exact Nat.mod_eq_of_lt (by omega)
  have e2 : (BitVec.ofInt 64 (y : Int)).toNat = y := by rw [BitVec.ofInt_natCast, BitVec.toNat_ofNat]; exact Nat.mod_eq_of_lt (by omega)
  show IntKind.i64.wrap ((BitVec.ofInt 64 (x : Int) ^^^ BitVec.ofInt 64 (y : Int)).toNat : Int) = _
  rw [BitVec.toNat_xor, e1, e2]
  exact IntWalk.i64_in _ (by omega)
/-- the first k heaps together -/
def heapsK (s hs : List Int) : Nat → Int
  | 0 => 0
  | k + 1 => xorV (heapsK s hs k) (iAt (gruV s 61) (iAt hs k).toNat)
/-- heaps are valid -/
def heapsB (hs : List Int) : Bool := (List.range hs.length).all (fun i => decide (0 ≤ iAt hs i ∧ iAt hs i ≤ 60)) && decide (hs.length ≤ 4)
/-- what HeapsVal answers -/
def heapsV (s hs : List Int) : Int := if setB s = true ∧ heapsB hs = true then heapsK s hs hs.length else -1
/-- an octal code is valid -/
def octB (c : List Int) : Bool := (List.range c.length).all (fun i => decide (0 ≤ iAt c i ∧ iAt c i ≤ 7)) && decide (1 ≤ c.length ∧ c.length ≤ 4)
/-- the ways to part rest with the lesser heap from 1 to k -/
def splitK (rest : Int) : Nat → List (Int × Int)
  | 0 => []
  | k + 1 => splitK rest k ++ [((k : Int) + 1, rest - ((k : Int) + 1))]
theorem splitK_len (rest : Int) (k : Nat) : (splitK rest k).length = k := by
  induction k with
  | zero => rfl
  | succ k ih => unfold splitK; rw [List.length_append, ih]; rfl
/-- what may be left when k + 1 are taken -/
def octAt (c : List Int) (heap : Int) (k : Nat) : List (Int × Int) :=
  ((if iAt c k % 2 = 1 ∧ heap - k - 1 = 0 then [((0 : Int), (0 : Int))] else []) ++ (if iAt c k / 2 % 2 = 1 ∧ 0 < heap - k - 1 then [((0 : Int), heap - k - 1)] else [])) ++ (if iAt c k / 4 = 1 then splitK (heap - k - 1) ((heap - k - 1) / 2).toNat else [])
/-- what may be left when at most k are taken -/
def octK (c : List Int) (heap : Int) : Nat → List (Int × Int)
  | 0 => []
  | k + 1 => octK c heap k ++ octAt c heap k
def octM (c : List Int) (heap : Int) : List (Int × Int) := octK c heap (min c.length heap.toNat)
theorem octAt_len {c : List Int} {heap : Int} (k : Nat) (h : heap ≤ 60) : (octAt c heap k).length ≤ 32 := by
  unfold octAt
  rw [List.length_append, List.length_append]
  have a1 : (if iAt c k % 2 = 1 ∧ heap - k - 1 = 0 then [((0 : Int), (0 : Int))] else []).length ≤ 1 := by split <;> simp
  have a2 : (if iAt c k / 2 % 2 = 1 ∧ 0 < heap - k - 1 then [((0 : Int), heap - k - 1)] else []).length ≤ 1 := by split <;> simp
  have a3 : (if iAt c k / 4 = 1 then splitK (heap - k - 1) ((heap - k - 1) / 2).toNat else []).length ≤ 30 := by
    split
    · rw [splitK_len]; omega
    · exact Nat.zero_le _
  omega
theorem octK_len {c : List Int} {heap : Int} (h : heap ≤ 60) (k : Nat) : (octK c heap k).length ≤ 32 * k := by
  induction k with
  | zero => exact Nat.le_refl _
  | succ k ih => unfold octK; rw [List.length_append]; have := octAt_len (c := c) k h; omega
/-- the values of what may be left -/
def octW (g : List Int) (ms : List (Int × Int)) : List Int := ms.map fun p => xorV (iAt g p.1.toNat) (iAt g p.2.toNat)
/-- the values of the first n heaps -/
def gruO (c : List Int) : Nat → List Int
  | 0 => []
  | n + 1 => gruO c n ++ [mexV (octW (gruO c n) (octM c n))]
theorem gruO_len (c : List Int) (n : Nat) : (gruO c n).length = n := by
  induction n with
  | zero => rfl
  | succ n ih => unfold gruO; rw [List.length_append, ih]; rfl
/-- what OctalAll answers -/
def octalV (c : List Int) (most : Int) : List Int := if octB c = true ∧ 0 ≤ most ∧ most ≤ 60 then gruO c (most.toNat + 1) else []
theorem octalV_len {c : List Int} {most : Int} : (octalV c most).length ≤ 1048576 := by
  unfold octalV
  split
  · rw [gruO_len]; omega
  · exact Nat.zero_le _
end Go.Proofs.Ytjanalljaacnoaa.Ko
