/- SquareGet of the program (where the model's is not at hand). -/
import Derived.Test.YtebbcndfdjhioaaDoorPu
import Derived.StillTailTactics
namespace Go.Proofs.YtebbcndfdjhioaaDoor.Sq
open Go.ChangeShapes Go.WideShapes Go.ChangeAt Go.RowKit Base
set_option linter.unusedVariables false
set_option maxRecDepth 20000

theorem byte_bd (b : UInt8) : 0 ≤ (b.toNat : Int) ∧ (b.toNat : Int) ≤ 255 := by have := b.toNat_lt; omega
theorem impl_get2 (s : Int) (t : ByteArray) (w : World) (hs : s = 2 ∨ s = 3 ∨ s = 4) (h0 : 0 < t.size) (h1 : 1 < t.size) (h2 : ((t.size : Int) != 2) = false) (h3 : (0 : Int) < t.size) (h4 : (1 : Int) < t.size) :
    Calls Tryd.prog 8 #[.int .i64 s, .string t] w fun e w' => e = .returned (.int .i64 (numV s (t[0].toNat - 97) (t[1].toNat - 49))) ∧ Below w.heap.size w w' := by
  have hb : sideB s = true := by unfold sideB; exact decide_eq_true (by omega)
  have HB := Lib.hid hb
  clear hb
  have ea := byte_bd t[0]
  have eb := byte_bd t[1]
  have w1 : IntKind.i64.wrap (t[0].toNat : Int) = t[0].toNat := IntWalk.i64_in _ (by omega)
  have w2 : IntKind.i64.wrap ((t[0].toNat : Int) - 97) = t[0].toNat - 97 := IntWalk.i64_in _ (by omega)
  have w3 : IntKind.i64.wrap (t[1].toNat : Int) = t[1].toNat := IntWalk.i64_in _ (by omega)
  have w4 : IntKind.i64.wrap ((t[1].toNat : Int) - 49) = t[1].toNat - 49 := IntWalk.i64_in _ (by omega)
  clear ea eb
  go_enter Tryd.func8, Tryd.ntmps8
  go_wp2_with (go_at_call 31; refine (sideOk_any _ _).mono ?_; rw [HB.out]; rintro e w' ⟨rfl, rfl⟩)
  go_still_tail 10, (by kernel_rfl)
  change wpList _ _ _ _ _ w.drew
  generalize hw2 : w.drew = w2
  have hb2 : Below w.heap.size w w2 := by rw [← hw2]; exact (Below.refl _ _).drew
  have hz2 : w2.heap.size = w.heap.size := by rw [← hw2]; rfl
  have HZ := Lib.hid hz2
  clear hw2 hz2
  go_wp2_with fail
  refine (number_any _ _ _ _ hs).mono ?_
  rintro e w3 ⟨rfl, hb3⟩
  go_wp2_with fail
  go_ret
  exact ⟨rfl, hb2.trans (hb3.mono (by rw [HZ.out]; exact Nat.le_refl _))⟩
/-- the square that a text names -/
def getV (s : Int) (t : ByteArray) : Int := if sideB s = true ∧ t.size = 2 then numV s ((t.data.toList.getD 0 0).toNat - 97) ((t.data.toList.getD 1 0).toNat - 49) else -1
theorem getD_byte (t : ByteArray) (i : Nat) (h : i < t.size) : t.data.toList.getD i 0 = t[i] := by
  have h' : i < t.data.size := h
  rw [List.getD_eq_getElem?_getD, Array.getElem?_toList, Array.getElem?_eq_getElem h']; rfl
theorem impl_get (s : Int) (t : ByteArray) (w : World) (hl : t.size ≤ 4611686018427387903) :
    Calls Tryd.prog 8 #[.int .i64 s, .string t] w fun e w' => e = .returned (.int .i64 (getV s t)) ∧ Below w.heap.size w w' := by
  by_cases hb : sideB s = true
  · have hs : s = 2 ∨ s = 3 ∨ s = 4 := by unfold sideB at hb; have := of_decide_eq_true hb; omega
    by_cases h2 : t.size = 2
    · rw [show getV s t = _ from if_pos ⟨hb, h2⟩, getD_byte t 0 (by omega), getD_byte t 1 (by omega)]
      exact impl_get2 s t w hs (by omega) (by omega) (by rw [bne_eq_false_iff_eq]; omega) (by omega) (by omega)
    · rw [show getV s t = _ from if_neg (fun h => h2 h.2)]
      have h2' : ((t.size : Int) != 2) = true := by rw [bne_iff_ne]; omega
      have HB := Lib.hid hb
      clear hb h2 hs
      go_enter Tryd.func8, Tryd.ntmps8
      go_wp2_with (go_at_call 31; refine (sideOk_any _ _).mono ?_; rw [HB.out]; rintro e w' ⟨rfl, rfl⟩)
      go_ret
      exact ⟨rfl, Below.refl _ _⟩
  · rw [show getV s t = _ from if_neg (fun h => hb h.1)]
    have HB : Hid (sideB s = false) := Lib.hid (by simpa using hb)
    clear hb
    go_enter Tryd.func8, Tryd.ntmps8
    go_wp2_with (go_at_call 31; refine (sideOk_any _ _).mono ?_; rw [HB.out]; rintro e w' ⟨rfl, rfl⟩)
    go_ret
    exact ⟨rfl, Below.refl _ _⟩
theorem get_put {s a : Int} (h : okB s a = true) : getV s (putS (a % s) (a / s)) = a := by
  have hk := okB_all h
  clear h
  rcases hk with ⟨rfl, h⟩ | ⟨rfl, h⟩ | ⟨rfl, h⟩
  · rcases h with rfl | rfl | rfl | rfl <;> rfl
  · rcases h with rfl | rfl | rfl | rfl | rfl | rfl | rfl | rfl | rfl <;> rfl
  · rcases h with rfl | rfl | rfl | rfl | rfl | rfl | rfl | rfl | rfl | rfl | rfl | rfl | rfl | rfl | rfl | rfl <;> rfl
theorem put_ne (c r : Int) : (putS c r == (⟨#[]⟩ : ByteArray)) = false ∧ putS c r ≠ ⟨#[]⟩ := by
  have h : putS c r ≠ ⟨#[]⟩ := fun h => by
    have := congrArg (fun b : ByteArray => b.data.size) h
    simp [putS] at this
  exact ⟨by first | exact beq_eq_false_iff_ne.2 h | exact decide_eq_false h | rfl, h⟩
theorem put_em (c r : Int) : (putS c r).toList.isEmpty = false := by
  have h2 : (putS c r).size = 2 := rfl
  unfold ByteArray.toList
  repeat (rw [ByteArray.toList.loop]; rw [h2]; simp)
end Go.Proofs.YtebbcndfdjhioaaDoor.Sq
