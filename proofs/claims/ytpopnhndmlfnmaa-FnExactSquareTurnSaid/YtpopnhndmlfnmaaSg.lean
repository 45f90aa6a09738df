/- SquareGet of the program and of the model. -/
import Derived.Test.YtpopnhndmlfnmaaSv
namespace Go.Proofs.Ytpopnhndmlfnmaa.Sq
open Go.ChangeShapes Go.WideShapes Go.ChangeAt Go.RowKit Base
set_option linter.unusedVariables false

theorem byte_bd (b : UInt8) : 0 ≤ (b.toNat : Int) ∧ (b.toNat : Int) ≤ 255 := by have := b.toNat_lt; omega
theorem impl_get2 (s : Int) (t : ByteArray) (w : World) (hs : s = 2 ∨ s = 3 ∨ s = 4) (h0 : 0 < t.size) (h1 : 1 < t.size) (h2 : ((t.size : Int) != 2) = false) (h3 : (0 : Int) < t.size) (h4 : (1 : Int) < t.size) :
    Calls Try.prog 21 #[.int .i64 s, .string t] w fun e w' => e = .returned (.int .i64 (numV s (t[0].toNat - 97) (t[1].toNat - 49))) ∧ Below w.heap.size w w' := by
  have hb : sideB s = true := by unfold sideB; exact decide_eq_true (by omega)
  have HB := Lib.hid hb
  clear hb
  have ea := byte_bd t[0]
  have eb := byte_bd t[1]
  have w1 : IntKind.i64.wrap (t[0].toNat : Int) = t[0].toNat := IntWalk.i64_in _ (by omega)
  have w2 : IntKind.i64.wrap ((t[0].toNat : Int) - 97) = t[0].toNat - 97 := IntWalk.i64_in _ (by omega)
  have w3 : IntKind.i64.wrap (t[1].toNat : Int) = t[1].toNat := IntWalk.i64_in _ (by omega)
  have w4 : IntKind.i64.wrap ((t[1].toNat : Int) - 49) = t[1].toNat - 49 := IntWalk.i64_in _ (by omega)
  clear ea eb
  go_enter Try.func21, Try.ntmps21
  go_wp2_with (go_at_call 41; refine (sideOk_any _ _).mono ?_; rw [HB.out]; rintro e w' ⟨rfl, rfl⟩)
  go_still_tail 10, (by kernel_rfl)
  change wpList _ _ _ _ _ w.drew
  generalize hw2 : w.drew = w2
  have hb2 : Below w.heap.size w w2 := by rw [← hw2]; exact (Below.refl _ _).drew
  have hz2 : w2.heap.size = w.heap.size := by rw [← hw2]; rfl
  have HZ := Lib.hid hz2
  clear hw2 hz2
  go_wp2_with fail
  refine (number_any _ _ _ _ hs).mono ?_
  rintro e w3 ⟨rfl, hb3⟩
  go_wp2_with fail
  go_ret
  exact ⟨rfl, hb2.trans (hb3.mono (by rw [HZ.out]; exact Nat.le_refl _))⟩
theorem spec_get2 (s : Int) (t : ByteArray) (w : World) (hs : s = 2 ∨ s = 3 ∨ s = 4) (h0 : 0 < t.size) (h1 : 1 < t.size) (h2 : ((t.size : Int) != 2) = false) (h3 : (0 : Int) < t.size) (h4 : (1 : Int) < t.size) :
    Calls Try.prog 20 #[.int .i64 s, .string t] w fun e w' => e = .returned (.int .i64 (numV s (t[0].toNat - 97) (t[1].toNat - 49))) ∧ Below w.heap.size w w' := by
  have hb : sideB s = true := by unfold sideB; exact decide_eq_true (by omega)
  have HB := Lib.hid hb
  clear hb
  have ea := byte_bd t[0]
  have eb := byte_bd t[1]
  have w1 : wrap64 (t[0].toNat : Int) = t[0].toNat := IntWalk.wrap64_in _ (by omega)
  have w3 : wrap64 (t[1].toNat : Int) = t[1].toNat := IntWalk.wrap64_in _ (by omega)
  have v1 : IntKind.i64.wrap (t[0].toNat : Int) = t[0].toNat := IntWalk.i64_in _ (by omega)
  have v2 : IntKind.i64.wrap ((t[0].toNat : Int) - 97) = t[0].toNat - 97 := IntWalk.i64_in _ (by omega)
  have v3 : IntKind.i64.wrap (t[1].toNat : Int) = t[1].toNat := IntWalk.i64_in _ (by omega)
  have v4 : IntKind.i64.wrap ((t[1].toNat : Int) - 49) = t[1].toNat - 49 := IntWalk.i64_in _ (by omega)
  have hc : (∀ n, IntKind.i64.wrap (t[0].toNat - 97 + n) = t[0].toNat - 97 + n) ∨ True := Or.inr trivial
  clear hc
  by_cases c1 : (97 : Int) ≤ (t[0].toNat : Int) ∧ (t[0].toNat : Int) ≤ 97 + s - 1
  · have H1 := Lib.hid (inB_yes c1)
    by_cases c2 : (49 : Int) ≤ (t[1].toNat : Int) ∧ (t[1].toNat : Int) ≤ 49 + s - 1
    · have H2 := Lib.hid (inB_yes c2)
      rw [numV_in (by omega)]
      have v5 : IntKind.i64.wrap (s * ((t[1].toNat : Int) - 49)) = s * (t[1].toNat - 49) := IntWalk.i64_in _ (by rcases hs with rfl | rfl | rfl <;> omega)
      have V6 : Hid (wrap64 ((t[0].toNat : Int) - (97 : Int) + s * ((t[1].toNat : Int) - (49 : Int))) = (t[0].toNat : Int) - (97 : Int) + s * ((t[1].toNat : Int) - (49 : Int))) := Lib.hid <| IntWalk.wrap64_in _ (by rcases hs with rfl | rfl | rfl <;> omega)
      have hs2 : 2 ≤ s := by omega
      have hs4 : s ≤ 4 := by omega
      clear c1 c2 hs
      go_enter Try.func20, Try.ntmps20
      go_wp2_with (first | (go_at_call 45; refine (l1Side_any _ _).mono ?_; rw [HB.out]; rintro e w' ⟨rfl, rfl⟩) | (go_at_call 39; refine (in_any _ _ _ _).mono ?_; (first | rw [H1.out] | rw [H2.out]); rintro e w' ⟨rfl, rfl⟩))
      go_quiet (fail)
      go_wp2
      go_ret
      exact ⟨ri V6.out, below_drewN (Below.refl _ _) _⟩
    · have H2 := Lib.hid (inB_no c2)
      rw [numV_out (by omega)]
      have hs2 : 2 ≤ s := by omega
      have hs4 : s ≤ 4 := by omega
      clear c1 c2 hs
      go_enter Try.func20, Try.ntmps20
      go_wp2_with (first | (go_at_call 45; refine (l1Side_any _ _).mono ?_; rw [HB.out]; rintro e w' ⟨rfl, rfl⟩) | (go_at_call 39; refine (in_any _ _ _ _).mono ?_; (first | rw [H1.out] | rw [H2.out]); rintro e w' ⟨rfl, rfl⟩))
      go_ret
      exact ⟨rfl, Below.refl _ _⟩
  · have H1 := Lib.hid (inB_no c1)
    rw [numV_out (by omega)]
    have hs2 : 2 ≤ s := by omega
    have hs4 : s ≤ 4 := by omega
    clear c1 hs
    go_enter Try.func20, Try.ntmps20
    go_wp2_with (first | (go_at_call 45; refine (l1Side_any _ _).mono ?_; rw [HB.out]; rintro e w' ⟨rfl, rfl⟩) | (go_at_call 39; refine (in_any _ _ _ _).mono ?_; rw [H1.out]; rintro e w' ⟨rfl, rfl⟩))
    go_ret
    exact ⟨rfl, Below.refl _ _⟩
/-- the square that a text names -/
def getV (s : Int) (t : ByteArray) : Int := if sideB s = true ∧ t.size = 2 then numV s ((t.data.toList.getD 0 0).toNat - 97) ((t.data.toList.getD 1 0).toNat - 49) else -1
theorem getD_byte (t : ByteArray) (i : Nat) (h : i < t.size) : t.data.toList.getD i 0 = t[i] := by
  have h' : i < t.data.size := h
  rw [List.getD_eq_getElem?_getD, Array.getElem?_toList, Array.getElem?_eq_getElem h']; rfl
theorem impl_get (s : Int) (t : ByteArray) (w : World) (hl : t.size ≤ 4611686018427387903) :
    Calls Try.prog 21 #[.int .i64 s, .string t] w fun e w' => e = .returned (.int .i64 (getV s t)) ∧ Below w.heap.size w w' := by
  by_cases hb : sideB s = true
  · have hs : s = 2 ∨ s = 3 ∨ s = 4 := by unfold sideB at hb; have := of_decide_eq_true hb; omega
    by_cases h2 : t.size = 2
    · rw [show getV s t = _ from if_pos ⟨hb, h2⟩, getD_byte t 0 (by omega), getD_byte t 1 (by omega)]
      exact impl_get2 s t w hs (by omega) (by omega) (by rw [bne_eq_false_iff_eq]; omega) (by omega) (by omega)
    · rw [show getV s t = _ from if_neg (fun h => h2 h.2)]
      have h2' : ((t.size : Int) != 2) = true := by rw [bne_iff_ne]; omega
      have HB := Lib.hid hb
      clear hb h2 hs
      go_enter Try.func21, Try.ntmps21
      go_wp2_with (go_at_call 41; refine (sideOk_any _ _).mono ?_; rw [HB.out]; rintro e w' ⟨rfl, rfl⟩)
      go_ret
      exact ⟨rfl, Below.refl _ _⟩
  · rw [show getV s t = _ from if_neg (fun h => hb h.1)]
    have HB : Hid (sideB s = false) := Lib.hid (by simpa using hb)
    clear hb
    go_enter Try.func21, Try.ntmps21
    go_wp2_with (go_at_call 41; refine (sideOk_any _ _).mono ?_; rw [HB.out]; rintro e w' ⟨rfl, rfl⟩)
    go_ret
    exact ⟨rfl, Below.refl _ _⟩
theorem spec_get (s : Int) (t : ByteArray) (w : World) (hl : t.size ≤ 4611686018427387903) :
    Calls Try.prog 20 #[.int .i64 s, .string t] w fun e w' => e = .returned (.int .i64 (getV s t)) ∧ Below w.heap.size w w' := by
  by_cases hb : sideB s = true
  · have hs : s = 2 ∨ s = 3 ∨ s = 4 := by unfold sideB at hb; have := of_decide_eq_true hb; omega
    by_cases h2 : t.size = 2
    · rw [show getV s t = _ from if_pos ⟨hb, h2⟩, getD_byte t 0 (by omega), getD_byte t 1 (by omega)]
      exact spec_get2 s t w hs (by omega) (by omega) (by rw [bne_eq_false_iff_eq]; omega) (by omega) (by omega)
    · rw [show getV s t = _ from if_neg (fun h => h2 h.2)]
      have h2' : ((t.size : Int) != 2) = true := by rw [bne_iff_ne]; omega
      have HB := Lib.hid hb
      clear hb h2 hs
      go_enter Try.func20, Try.ntmps20
      go_wp2_with (go_at_call 45; refine (l1Side_any _ _).mono ?_; rw [HB.out]; rintro e w' ⟨rfl, rfl⟩)
      go_ret
      exact ⟨rfl, Below.refl _ _⟩
  · rw [show getV s t = _ from if_neg (fun h => hb h.1)]
    have HB : Hid (sideB s = false) := Lib.hid (by simpa using hb)
    clear hb
    go_enter Try.func20, Try.ntmps20
    go_wp2_with (go_at_call 45; refine (l1Side_any _ _).mono ?_; rw [HB.out]; rintro e w' ⟨rfl, rfl⟩)
    go_ret
    exact ⟨rfl, Below.refl _ _⟩
end Go.Proofs.Ytpopnhndmlfnmaa.Sq
