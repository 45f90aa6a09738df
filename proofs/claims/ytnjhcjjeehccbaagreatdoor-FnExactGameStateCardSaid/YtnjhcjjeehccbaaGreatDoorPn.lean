/- How many codes there are: the model's l7Many, the program's numbersMany and many. -/
import Derived.Test.YtnjhcjjeehccbaaGreatDoorPm
import Derived.Test.YtnjhcjjeehccbaaGreatDoorIn
namespace Go.Proofs.YtnjhcjjeehccbaaGreatDoor.Ko
open Go.ChangeShapes Go.WideShapes Go.ChangeAt Go.RowKit Base Sq
set_option linter.unusedVariables false
set_option maxRecDepth 20000
attribute [local irreducible] wpQuiet

def numV (side : Int) : Nat → Int
  | 0 => 2
  | k + 1 => numV side k * (side * side + 1)
theorem numV_bd {side : Int} (hs : side = 2 ∨ side = 3 ∨ side = 4) {k : Nat} (hk : k ≤ 4) : 2 ≤ numV side k ∧ numV side k ≤ 167042 := by
  obtain rfl | rfl | rfl | rfl | rfl : k = 0 ∨ k = 1 ∨ k = 2 ∨ k = 3 ∨ k = 4 := by omega
  all_goals rcases hs with rfl | rfl | rfl <;> simp [numV]

set_option maxHeartbeats 1000000 in
theorem l7Many_any (side : Int) (A : Option Addr) (c n : Nat) (M : Option Addr) (cm m : Nat) (w : World) (hs : side = 2 ∨ side = 3 ∨ side = 4) (hm : m ≤ 4) :
    Calls Tryz.prog 137 #[.agg #[.int .i64 side, .slice A n c], .slice M m cm] w fun e w' => e = .returned (.int .i64 (numV side m)) ∧ Below w.heap.size w w' := by
  have hss : 4 ≤ side * side ∧ side * side ≤ 16 := by rcases hs with rfl | rfl | rfl <;> omega
  obtain ⟨hss1, hss2⟩ := hss
  have hw1 : IntKind.i64.wrap (side * side) = side * side := IntWalk.i64_in _ (by omega)
  have hw2 : IntKind.i64.wrap (side * side + 1) = side * side + 1 := IntWalk.i64_in _ (by omega)
  have HBD := Lib.hid (fun k => numV_bd hs (k := k))
  clear hs
  go_enter Tryz.func137, Tryz.ntmps137
  go_wp2_with fail
  have p1 := Blk.new w #[.int .i64 side, .slice A n c] 36
  go_loopw [5, 6] (fun v i wr => ∃ k : Nat, k ≤ m ∧ i = .int .i64 k ∧ v = .int .i64 (numV side k) ∧ Blk wr w.heap.size #[.int .i64 side, .slice A n c] 36 ∧ Below w.heap.size w wr) (fun v i _ => m - (intOf i).toNat)
  case atStart => exact ⟨0, by omega, rfl, rfl, p1, (by repeat (first | exact Below.refl _ _ | assumption | (refine Below.alloc ?_ (by first | omega | (simp; done) | (simp; omega)) _) | (refine Below.setCell ?_ (by first | omega | (simp; done) | (simp; omega)) _) | refine Below.drew ?_))⟩
  case round =>
    clear p1
    obtain ⟨k, hk, rfl, rfl, p1, hbe⟩ := hrel
    obtain ⟨⟨r0, r1⟩, _⟩ := p1.at2
    by_cases hlt : k < m
    · have hw3 : IntKind.i64.wrap (numV side k * (side * side + 1)) = numV side (k + 1) := IntWalk.i64_in _ (by have h := HBD.out (k + 1) (by omega); unfold numV at h; omega)
      have hlt' : (k : Int) < (m : Int) := by omega
      go_wp2_with fail
      go_roundw
      case rel => exact ⟨k + 1, by omega, by go_num, by rfl, p1, hbe⟩
      case measure => simp [intOf]; omega
    · obtain rfl : k = m := by omega
      go_wp2_with fail
      go_ret
      exact ⟨rfl, hbe⟩

/-- the bases of a material's codes -/
def basesV (side : Int) (k : Nat) : List Int := 2 :: List.replicate k (side * side + 1)
theorem bases_len (side : Int) (k : Nat) : (basesV side k).length = k + 1 := by simp [basesV]
theorem bases_zero (side : Int) (k : Nat) : In.iAt (basesV side k) 0 = 2 := rfl
theorem bases_succ {side : Int} {k i : Nat} (h : i < k) : In.iAt (basesV side k) (i + 1) = side * side + 1 := by
  unfold In.iAt basesV; simp [List.getD_eq_getElem?_getD, h]
theorem bases_snoc (side : Int) (k : Nat) : basesV side (k + 1) = basesV side k ++ [side * side + 1] := by
  unfold basesV; rw [List.replicate_succ']; rfl
/-- the product of the first k bases -/
def prodV (side : Int) : Nat → Int
  | 0 => 1
  | k + 1 => numV side k

set_option maxHeartbeats 1000000 in
theorem numbersMany_any (side : Int) (A : Option Addr) (c m : Nat) (w : World) (h : In.IsInts w w.heap.size A (basesV side m)) (hs : side = 2 ∨ side = 3 ∨ side = 4) (hm : m ≤ 4) :
    Calls Tryz.prog 178 #[.slice A (m + 1) c] w fun e w' => e = .returned (.int .i64 (numV side m)) ∧ w = w' := by
  have HBD := Lib.hid (fun k => numV_bd hs (k := k))
  clear hs
  obtain ⟨b, rfl, hB, hc⟩ := h (by simp [basesV])
  have HC := Lib.hid hc
  clear hc
  go_enter Tryz.func178, Tryz.ntmps178
  go_wp2_with fail
  go_loopw [3, 9] (fun v i wr => ∃ k : Nat, k ≤ m + 1 ∧ i = .int .i64 k ∧ v = .int .i64 (prodV side k) ∧ wr = w) (fun v i _ => m + 1 - (intOf i).toNat)
  case atStart => exact ⟨0, by omega, rfl, rfl, rfl⟩
  case round =>
    obtain ⟨k, hk, rfl, rfl, rfl⟩ := hrel
    by_cases hlt : k < m + 1
    · have hc0 := HC.out k (by rw [bases_len]; exact hlt)
      have hlt' : (k : Int) < ((m + 1 : Nat) : Int) := by omega
      have hw3 : IntKind.i64.wrap (prodV side k * In.iAt (basesV side m) k) = prodV side (k + 1) := by
        cases k with
        | zero => rw [bases_zero]; rfl
        | succ k =>
          rw [bases_succ (by omega)]
          exact IntWalk.i64_in _ (by have h := HBD.out (k + 1) (by omega); unfold numV at h; show _ ≤ numV side k * (side * side + 1) ∧ numV side k * (side * side + 1) ≤ _; omega)
      go_wp2_with fail
      go_roundw
      case rel => exact ⟨k + 1, by omega, by go_num, by rfl, by first | trivial | rfl⟩
      case measure => simp [intOf]; omega
    · obtain rfl : k = m + 1 := by omega
      go_wp2_with fail
      go_ret
      exact ⟨rfl, rfl⟩
end Go.Proofs.YtnjhcjjeehccbaaGreatDoor.Ko
