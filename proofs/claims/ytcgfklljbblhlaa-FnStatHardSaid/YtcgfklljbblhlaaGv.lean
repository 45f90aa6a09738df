/- Values that are in their range: of the program and of the model. -/
import Derived.Test.YtcgfklljbblhlaaSq
import Derived.Test.YtcgfklljbblhlaaIn
namespace Go.Proofs.Ytcgfklljbblhlaa.Ko
open Go.ChangeShapes Go.WideShapes Go.ChangeAt Go.RowKit Base Sq In
set_option linter.unusedVariables false
set_option maxRecDepth 20000
attribute [local irreducible] wpQuiet

/-- no value is out of range -/
def rangeB (z : List Int) : Bool := (List.range z.length).all fun i => inB (iAt z i) 0 100
theorem rangeB_bad {z : List Int} {k : Nat} (hk : k < z.length) (h : inB (iAt z k) 0 100 = false) : rangeB z = false := by
  unfold rangeB; rw [List.all_eq_false]; exact ⟨k, by simpa using hk, by simp [h]⟩
theorem rangeB_end {z : List Int} (h : ∀ j, j < z.length → inB (iAt z j) 0 100 = true) : rangeB z = true := by
  unfold rangeB; rw [List.all_eq_true]; intro j hj; exact h j (by simpa using hj)
theorem rangeB_at {z : List Int} (h : rangeB z = true) {k : Nat} (hk : k < z.length) : 0 ≤ iAt z k ∧ iAt z k ≤ 100 := by
  unfold rangeB at h; rw [List.all_eq_true] at h
  exact of_decide_eq_true (h k (by simpa using hk))

set_option maxHeartbeats 1000000 in
theorem l9Range_any (V : Option Addr) (cv : Nat) (z : List Int) (w : World) (hV : IsInts w w.heap.size V z) (hz : z.length ≤ 1048576) :
    Calls Try.prog 32 #[.slice V z.length cv] w fun e w' => e = .returned (.bool (rangeB z)) ∧ w = w' := by
  go_enter Try.func32, Try.ntmps32
  go_wp2_with fail
  go_loop [3] (fun i => ∃ k : Nat, k ≤ z.length ∧ i = .int .i64 k ∧ Hid (∀ j, j < k → inB (iAt z j) 0 100 = true)) (fun i => z.length - (intOf i).toNat)
  case atStart => exact ⟨0, by omega, rfl, Lib.hid (fun j hj => absurd hj (by omega))⟩
  case round =>
    obtain ⟨k, hk, rfl, hg⟩ := hrel
    by_cases hlt : k < z.length
    · obtain ⟨b, rfl, hB, hc⟩ := hV (by omega)
      have c0 := hc k hlt
      have hlt' : (k : Int) < (z.length : Int) := by omega
      clear hc
      cases hb : inB (iAt z k) 0 100
      · have HB := Lib.hid hb
        clear hb
        go_wp2_with (go_at_call 51; refine (in_any _ _ _ _).mono ?_; rw [HB.out]; rintro e w' ⟨rfl, rfl⟩)
        go_ret
        exact ⟨rb (rangeB_bad hlt HB.out).symm, rfl⟩
      · have HB := Lib.hid hb
        clear hb
        go_wp2_with (go_at_call 51; refine (in_any _ _ _ _).mono ?_; rw [HB.out]; rintro e w' ⟨rfl, rfl⟩)
        go_round
        case rel => exact ⟨k + 1, by omega, by go_num, Lib.hid (all_succ hg.out HB.out)⟩
        case measure => simp [intOf]; omega
    · obtain rfl : k = z.length := by omega
      go_wp2_with fail
      go_ret
      exact ⟨rb (rangeB_end hg.out).symm, rfl⟩

/-- the program's test -/
theorem valsOk1_any (x : Int) (w : World) :
    Calls Try.prog 72 #[.int .i64 x] w fun e w' => e = .returned (.bool (!inB x 0 100)) ∧ w = w' := by
  by_cases h1 : x < 0
  · have HB := Lib.hid (show inB x 0 100 = false from decide_eq_false (by omega))
    go_enter Try.func72, Try.ntmps72
    go_wp2_with fail
    go_ret
    exact ⟨by rw [HB.out]; rfl, rfl⟩
  · have hd : decide (x < 0) = false := decide_eq_false h1
    by_cases h2 : 100 < x
    · have HB := Lib.hid (show inB x 0 100 = false from decide_eq_false (by omega))
      clear h1
      go_enter Try.func72, Try.ntmps72
      go_wp2_with fail
      go_ret
      exact ⟨by rw [HB.out]; first | rfl | simp, rfl⟩
    · have HB := Lib.hid (show inB x 0 100 = true from decide_eq_true (by omega))
      have hd2 : decide (100 < x) = false := decide_eq_false h2
      clear h1 h2
      go_enter Try.func72, Try.ntmps72
      go_wp2_with fail
      go_ret
      exact ⟨by rw [HB.out]; first | rfl | simp, rfl⟩
set_option maxHeartbeats 1000000 in
theorem indexFunc_any (V : Option Addr) (cv : Nat) (z : List Int) (w : World) (hV : IsInts w w.heap.size V z) (hz : z.length ≤ 1048576) :
    Calls Try.prog 85 #[.slice V z.length cv, .func (.func 72) #[] #[]] w fun e w' => (∃ i : Int, e = .returned (.int .i64 i) ∧ -1 ≤ i ∧ i ≤ 1048576 ∧ rangeB z = decide (i < 0)) ∧ w = w' := by
  go_enter Try.func85, Try.ntmps85
  go_wp2_with fail
  go_loop [8] (fun i => ∃ k : Nat, k ≤ z.length ∧ i = .int .i64 k ∧ Hid (∀ j, j < k → inB (iAt z j) 0 100 = true)) (fun i => z.length - (intOf i).toNat)
  case atStart => exact ⟨0, by omega, rfl, Lib.hid (fun j hj => absurd hj (by omega))⟩
  case round =>
    obtain ⟨k, hk, rfl, hg⟩ := hrel
    by_cases hlt : k < z.length
    · obtain ⟨b, rfl, hB, hc⟩ := hV (by omega)
      have c0 := hc k hlt
      have hlt' : (k : Int) < (z.length : Int) := by omega
      clear hc
      cases hb : inB (iAt z k) 0 100
      · have HB := Lib.hid hb
        clear hb
        go_wp2_with fail
        refine (valsOk1_any _ _).mono ?_
        rw [HB.out]
        rintro e w' ⟨rfl, rfl⟩
        go_wp2_with fail
        go_ret
        exact ⟨⟨k, rfl, by omega, by omega, by rw [rangeB_bad hlt HB.out]; exact (decide_eq_false (by omega)).symm⟩, rfl⟩
      · have HB := Lib.hid hb
        clear hb
        go_wp2_with fail
        refine (valsOk1_any _ _).mono ?_
        rw [HB.out]
        rintro e w' ⟨rfl, rfl⟩
        go_wp2_with fail
        go_round
        case rel => exact ⟨k + 1, by omega, by go_num, Lib.hid (all_succ hg.out HB.out)⟩
        case measure => simp [intOf]; omega
    · obtain rfl : k = z.length := by omega
      go_wp2_with fail
      go_ret
      exact ⟨⟨-1, rfl, by omega, by omega, by rw [rangeB_end hg.out]; rfl⟩, rfl⟩
theorem containsFunc_any (V : Option Addr) (cv : Nat) (z : List Int) (w : World) (hV : IsInts w w.heap.size V z) (hz : z.length ≤ 1048576) :
    Calls Try.prog 71 #[.slice V z.length cv, .func (.func 72) #[] #[]] w fun e w' => e = .returned (.bool (!rangeB z)) ∧ w = w' := by
  go_enter Try.func71, Try.ntmps71
  go_wp2_with fail
  refine (indexFunc_any _ _ _ _ hV hz).mono ?_
  rintro e w' ⟨⟨i, rfl, h1, h2, hr⟩, rfl⟩
  have HR := Lib.hid hr
  clear hr
  go_wp2_with fail
  go_ret
  exact ⟨by rw [HR.out]; apply rb; rw [Bool.eq_iff_iff]; simp, rfl⟩
theorem valsOk_any (V : Option Addr) (cv : Nat) (z : List Int) (w : World) (hV : IsInts w w.heap.size V z) (hz : z.length ≤ 1048576) :
    Calls Try.prog 52 #[.slice V z.length cv] w fun e w' => e = .returned (.bool (rangeB z)) ∧ w = w' := by
  go_enter Try.func52, Try.ntmps52
  go_wp2_with fail
  refine (containsFunc_any _ _ _ _ hV hz).mono ?_
  rintro e w' ⟨rfl, rfl⟩
  go_wp2_with fail
  go_ret
  exact ⟨rb (by simp), rfl⟩
end Go.Proofs.Ytcgfklljbblhlaa.Ko
