/- SquareGet of the model; the notation of squares is canonical. -/
import Derived.Test.YtebbcndfdjhioaaDoorSk
namespace Go.Proofs.YtebbcndfdjhioaaDoor.Sq
open Go.ChangeShapes Go.WideShapes Go.ChangeAt Go.RowKit Base
set_option linter.unusedVariables false
set_option maxRecDepth 20000

theorem numV_in {s x y : Int} (h : 0 ≤ x ∧ x < s ∧ 0 ≤ y ∧ y < s) : numV s x y = x + s * y := if_pos h
theorem numV_out {s x y : Int} (h : ¬ (0 ≤ x ∧ x < s ∧ 0 ≤ y ∧ y < s)) : numV s x y = -1 := if_neg h
theorem inB_yes {n lo hi : Int} (h : lo ≤ n ∧ n ≤ hi) : inB n lo hi = true := decide_eq_true h
theorem inB_no {n lo hi : Int} (h : ¬ (lo ≤ n ∧ n ≤ hi)) : inB n lo hi = false := decide_eq_false h
theorem spec_get2 (s : Int) (t : ByteArray) (w : World) (hs : s = 2 ∨ s = 3 ∨ s = 4) (h0 : 0 < t.size) (h1 : 1 < t.size) (h2 : ((t.size : Int) != 2) = false) (h3 : (0 : Int) < t.size) (h4 : (1 : Int) < t.size) :
    Calls Tryd.prog 9 #[.int .i64 s, .string t] w fun e w' => e = .returned (.int .i64 (numV s (t[0].toNat - 97) (t[1].toNat - 49))) ∧ Below w.heap.size w w' := by
  have hb : sideB s = true := by unfold sideB; exact decide_eq_true (by omega)
  have HB := Lib.hid hb
  clear hb
  have ea := byte_bd t[0]
  have eb := byte_bd t[1]
  have w1 : wrap64 (t[0].toNat : Int) = t[0].toNat := IntWalk.wrap64_in _ (by omega)
  have w3 : wrap64 (t[1].toNat : Int) = t[1].toNat := IntWalk.wrap64_in _ (by omega)
  have v1 : IntKind.i64.wrap (t[0].toNat : Int) = t[0].toNat := IntWalk.i64_in _ (by omega)
  have v2 : IntKind.i64.wrap ((t[0].toNat : Int) - 97) = t[0].toNat - 97 := IntWalk.i64_in _ (by omega)
  have v3 : IntKind.i64.wrap (t[1].toNat : Int) = t[1].toNat := IntWalk.i64_in _ (by omega)
  have v4 : IntKind.i64.wrap ((t[1].toNat : Int) - 49) = t[1].toNat - 49 := IntWalk.i64_in _ (by omega)
  have hc : (∀ n, IntKind.i64.wrap (t[0].toNat - 97 + n) = t[0].toNat - 97 + n) ∨ True := Or.inr trivial
  clear hc
  by_cases c1 : (97 : Int) ≤ (t[0].toNat : Int) ∧ (t[0].toNat : Int) ≤ 97 + s - 1
  · have H1 := Lib.hid (inB_yes c1)
    by_cases c2 : (49 : Int) ≤ (t[1].toNat : Int) ∧ (t[1].toNat : Int) ≤ 49 + s - 1
    · have H2 := Lib.hid (inB_yes c2)
      rw [numV_in (by omega)]
      have v5 : IntKind.i64.wrap (s * ((t[1].toNat : Int) - 49)) = s * (t[1].toNat - 49) := IntWalk.i64_in _ (by rcases hs with rfl | rfl | rfl <;> omega)
      have V6 : Hid (wrap64 ((t[0].toNat : Int) - (97 : Int) + s * ((t[1].toNat : Int) - (49 : Int))) = (t[0].toNat : Int) - (97 : Int) + s * ((t[1].toNat : Int) - (49 : Int))) := Lib.hid <| IntWalk.wrap64_in _ (by rcases hs with rfl | rfl | rfl <;> omega)
      have hs2 : 2 ≤ s := by omega
      have hs4 : s ≤ 4 := by omega
      clear c1 c2 hs
      go_enter Tryd.func9, Tryd.ntmps9
      go_wp2_with (first | (go_at_call 33; refine (l1Side_any _ _).mono ?_; rw [HB.out]; rintro e w' ⟨rfl, rfl⟩) | (go_at_call 34; refine (in_any _ _ _ _).mono ?_; (first | rw [H1.out] | rw [H2.out]); rintro e w' ⟨rfl, rfl⟩))
      go_quiet (fail)
      go_wp2
      go_ret
      exact ⟨ri V6.out, below_drewN (Below.refl _ _) _⟩
    · have H2 := Lib.hid (inB_no c2)
      rw [numV_out (by omega)]
      have hs2 : 2 ≤ s := by omega
      have hs4 : s ≤ 4 := by omega
      clear c1 c2 hs
      go_enter Tryd.func9, Tryd.ntmps9
      go_wp2_with (first | (go_at_call 33; refine (l1Side_any _ _).mono ?_; rw [HB.out]; rintro e w' ⟨rfl, rfl⟩) | (go_at_call 34; refine (in_any _ _ _ _).mono ?_; (first | rw [H1.out] | rw [H2.out]); rintro e w' ⟨rfl, rfl⟩))
      go_ret
      exact ⟨rfl, Below.refl _ _⟩
  · have H1 := Lib.hid (inB_no c1)
    rw [numV_out (by omega)]
    have hs2 : 2 ≤ s := by omega
    have hs4 : s ≤ 4 := by omega
    clear c1 hs
    go_enter Tryd.func9, Tryd.ntmps9
    go_wp2_with (first | (go_at_call 33; refine (l1Side_any _ _).mono ?_; rw [HB.out]; rintro e w' ⟨rfl, rfl⟩) | (go_at_call 34; refine (in_any _ _ _ _).mono ?_; rw [H1.out]; rintro e w' ⟨rfl, rfl⟩))
    go_ret
    exact ⟨rfl, Below.refl _ _⟩
theorem spec_get (s : Int) (t : ByteArray) (w : World) (hl : t.size ≤ 4611686018427387903) :
    Calls Tryd.prog 9 #[.int .i64 s, .string t] w fun e w' => e = .returned (.int .i64 (getV s t)) ∧ Below w.heap.size w w' := by
  by_cases hb : sideB s = true
  · have hs : s = 2 ∨ s = 3 ∨ s = 4 := by unfold sideB at hb; have := of_decide_eq_true hb; omega
    by_cases h2 : t.size = 2
    · rw [show getV s t = _ from if_pos ⟨hb, h2⟩, getD_byte t 0 (by omega), getD_byte t 1 (by omega)]
      exact spec_get2 s t w hs (by omega) (by omega) (by rw [bne_eq_false_iff_eq]; omega) (by omega) (by omega)
    · rw [show getV s t = _ from if_neg (fun h => h2 h.2)]
      have h2' : ((t.size : Int) != 2) = true := by rw [bne_iff_ne]; omega
      have HB := Lib.hid hb
      clear hb h2 hs
      go_enter Tryd.func9, Tryd.ntmps9
      go_wp2_with (go_at_call 33; refine (l1Side_any _ _).mono ?_; rw [HB.out]; rintro e w' ⟨rfl, rfl⟩)
      go_ret
      exact ⟨rfl, Below.refl _ _⟩
  · rw [show getV s t = _ from if_neg (fun h => hb h.1)]
    have HB : Hid (sideB s = false) := Lib.hid (by simpa using hb)
    clear hb
    go_enter Tryd.func9, Tryd.ntmps9
    go_wp2_with (go_at_call 33; refine (l1Side_any _ _).mono ?_; rw [HB.out]; rintro e w' ⟨rfl, rfl⟩)
    go_ret
    exact ⟨rfl, Below.refl _ _⟩
theorem ofNat_eq (b : UInt8) (x : Int) (h : (b.toNat : Int) = x) : UInt8.ofNat x.toNat = b := by
  subst h
  rw [show ((b.toNat : Int)).toNat = b.toNat by omega]
  exact UInt8.ofNat_toNat
/-- a text that names a square is what the square is written as -/
theorem put_get {s : Int} {t : ByteArray} (h : 0 ≤ getV s t) : okB s (getV s t) = true ∧ putV s (getV s t) = t := by
  by_cases hc : sideB s = true ∧ t.size = 2
  · have hs : s = 2 ∨ s = 3 ∨ s = 4 := by have hb := hc.1; unfold sideB at hb; have := of_decide_eq_true hb; omega
    have h2 := hc.2
    rw [show getV s t = _ from if_pos hc, getD_byte t 0 (by omega), getD_byte t 1 (by omega)] at h ⊢
    by_cases hi : 0 ≤ (t[0].toNat : Int) - 97 ∧ (t[0].toNat : Int) - 97 < s ∧ 0 ≤ (t[1].toNat : Int) - 49 ∧ (t[1].toNat : Int) - 49 < s
    · rw [numV_in hi]
      obtain ⟨x, hx⟩ : ∃ x : Int, (t[0].toNat : Int) - 97 = x := ⟨_, rfl⟩
      obtain ⟨y, hy⟩ : ∃ y : Int, (t[1].toNat : Int) - 49 = y := ⟨_, rfl⟩
      rw [hx, hy] at hi ⊢
      have ho : okB s (x + s * y) = true := by
        unfold okB
        refine decide_eq_true ?_
        rcases hs with rfl | rfl | rfl <;> omega
      have e1 : (x + s * y) % s = x := by rcases hs with rfl | rfl | rfl <;> omega
      have e2 : (x + s * y) / s = y := by rcases hs with rfl | rfl | rfl <;> omega
      refine ⟨ho, ?_⟩
      unfold putV
      rw [if_pos ho, e1, e2]
      unfold putS
      have ea : UInt8.ofNat (97 + x.toNat) = t[0] := by
        have := ofNat_eq t[0] (97 + x) (by omega)
        rwa [show (97 + x).toNat = 97 + x.toNat by omega] at this
      have eb : UInt8.ofNat (49 + y.toNat) = t[1] := by
        have := ofNat_eq t[1] (49 + y) (by omega)
        rwa [show (49 + y).toNat = 49 + y.toNat by omega] at this
      rw [ea, eb]
      refine ByteArray.ext (Array.ext (by show 2 = t.data.size; exact h2.symm) fun i h1 h3 => ?_)
      rcases (show i = 0 ∨ i = 1 by have : i < 2 := h1; omega) with rfl | rfl <;> rfl
    · rw [numV_out hi] at h
      omega
  · rw [show getV s t = _ from if_neg hc] at h
    omega
end Go.Proofs.YtebbcndfdjhioaaDoor.Sq
