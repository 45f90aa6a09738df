/- StatHard by the program. -/
import Derived.Test.YtcgfklljbblhlaaHd
namespace Go.Proofs.Ytcgfklljbblhlaa.Ko
open Go.ChangeShapes Go.WideShapes Go.ChangeAt Go.RowKit Base Sq In Sc
set_option linter.unusedVariables false
set_option maxRecDepth 20000
attribute [local irreducible] wpQuiet

theorem listOk_any (V : Option Addr) (cv : Nat) (z : List Int) (w : World) (hV : IsInts w w.heap.size V z) (hz : z.length ≤ 1048576) :
    Calls Try.prog 34 #[.slice V z.length cv] w fun e w' => e = .returned (.bool (listB z)) ∧ w = w' := by
  by_cases hbig : (z.length : Int) ≤ 2000
  · have HN := Lib.hid (show listB z = rangeB z by unfold listB; rw [decide_eq_true (by omega)]; rfl)
    go_enter Try.func34, Try.ntmps34
    go_wp2_with fail
    refine (valsOk_any _ _ _ _ hV hz).mono ?_
    rintro e w' ⟨rfl, rfl⟩
    go_wp2_with fail
    go_ret
    exact ⟨rb (by rw [HN.out]), rfl⟩
  · have HN := Lib.hid (show listB z = false by unfold listB; rw [decide_eq_false (by omega)]; rfl)
    go_enter Try.func34, Try.ntmps34
    go_wp2_with fail
    go_ret
    exact ⟨rb (by rw [HN.out]), rfl⟩
set_option maxHeartbeats 8000000 in
theorem statHard_any (V : Option Addr) (cv : Nat) (z : List Int) (w : World) (hV : IsInts w w.heap.size V z) (hz : z.length ≤ 1048576) :
    Calls Try.prog 14 #[.slice V z.length cv] w fun e w' => LenNew w w' (hardV z) e := by
  go_enter Try.func14, Try.ntmps14
  go_wp2_with fail
  refine (listOk_any _ _ _ _ hV hz).mono ?_
  rintro e w' ⟨rfl, rfl⟩
  cases hl : listB z
  · have HN : Hid (hardV z = []) := Lib.hid (if_neg (by rw [hl]; decide))
    clear hl
    go_wp2_with fail
    go_ret
    rw [HN.out]
    exact lenNew_of (l := []) (own_nil' _ _) (Below.refl _ _)
  · have HLL := Lib.hid hl
    have HLV : Hid (hardV z = atV z (topV z z.length) z.length) := Lib.hid (if_pos hl)
    clear hl
    go_wp2_with fail
    go_loopw [3, 14] (fun m i wr => ∃ k : Nat, k ≤ z.length ∧ i = .int .i64 k ∧ m = .int .i64 (topV z k) ∧ w = wr) (fun _ i _ => z.length - (intOf i).toNat)
    case atStart => exact ⟨0, by omega, rfl, rfl, rfl⟩
    case round =>
      obtain ⟨k, hk, rfl, rfl, rfl⟩ := hrel
      by_cases hlt : k < z.length
      · obtain ⟨b, rfl⟩ := hV.some (by omega)
        have hlt' : (k : Int) < (z.length : Int) := by omega
        obtain ⟨hBb, c0⟩ := hV.at hlt
        have ET : Hid (topV z (k + 1) = if topV z k < iAt z k then iAt z k else topV z k) := Lib.hid (by show max (topV z k) (iAt z k) = _; split <;> omega)
        go_wp2_with fail
        go_roundw
        case rel => exact ⟨k + 1, by omega, by go_num, by rw [ET.out], by first | rfl | trivial⟩
        case measure => simp [intOf]; omega
      · obtain rfl : k = z.length := by omega
        go_wp2_with fail
        go_loopw [6, 24] (fun v i wr => ∃ (k : Nat) (A : Option Addr) (c : Nat), k ≤ z.length ∧ i = .int .i64 k ∧ v = .slice A (atV z (topV z z.length) k).length c ∧ In.Own wr w.heap.size v (atV z (topV z z.length) k) ∧ Below w.heap.size w wr) (fun _ i _ => z.length - (intOf i).toNat)
        case atStart => exact ⟨0, none, 0, by omega, rfl, rfl, own_nil' _ _, Below.refl _ _⟩
        case round =>
          obtain ⟨k, A, c, hk, rfl, rfl, hO, hbe⟩ := hrel
          by_cases hlt : k < z.length
          · obtain ⟨b, rfl⟩ := hV.some (by omega)
            have hlt' : (k : Int) < (z.length : Int) := by omega
            obtain ⟨hBb, c0⟩ := (hV.below hbe).at hlt
            have hsz := hbe.size
            have zb : b < wr.heap.size := by omega
            have hlen := atV_len z (topV z z.length) k
            by_cases he : iAt z k = topV z z.length
            · have HE : Hid (atV z (topV z z.length) (k + 1) = atV z (topV z z.length) k ++ [(k : Int)]) := Lib.hid (if_pos he)
              have heq : (iAt z k == topV z z.length) = true := by simp; omega
              obtain ⟨i0, hi, hz0, hz1, hz2⟩ := info_parts infoInt
              have hmax : (atV z (topV z z.length) k).length + 1 ≤ maxLen := by unfold maxLen; omega
              have HO := Lib.hid hO
              have HB := Lib.hid hbe
              clear he hO hbe
              go_wp2_with (at_builtin; refine wpList_append_own _ rfl _ _ 22 rfl w.heap.size 3 i0 (.int .i64 0) 1 8 Try.underlying22 hi hz0 hz1 hz2 rfl (by decide) _ _ _ rfl (World.ownsRow.alloc HO.out _) ⟨wr.heap.size, 0, none⟩ 1 1 [.int .i64 k] rfl rfl (cell_one_new _ _ _) (fun u hu => by simp at hu; subst hu; rfl) hmax (by omega) (by simp; omega) ?_; intro v' w7 hown' hgrow7 hnil7)
              have hbG := own_base (l := atV z (topV z z.length) k) (World.ownsRow.alloc HO.out (.cells #[.int .i64 (k : Int)] 3)) hgrow7 (Below.refl w.heap.size _) (Nat.le_refl _) (by simp; omega)
              have hO7 : In.Own w7 w.heap.size v' (atV z (topV z z.length) (k + 1)) := by rw [HE.out]; exact own_grown' hown'
              have hb7 : Below w.heap.size w w7 := (HB.out.alloc hsz _).trans hbG
              obtain ⟨B7, d7, hv7⟩ := hO7.slice
              subst hv7
              clear hown' hgrow7 hnil7 HO HB hbG
              go_roundw
              case rel =>
                have R : k + 1 ≤ z.length ∧ Value.int .i64 ((k : Int) + 1) = .int .i64 ((k + 1 : Nat) : Int) ∧ Value.slice B7 (atV z (topV z z.length) (k + 1)).length d7 = .slice B7 (atV z (topV z z.length) (k + 1)).length d7 ∧ In.Own w7 w.heap.size (.slice B7 (atV z (topV z z.length) (k + 1)).length d7) (atV z (topV z z.length) (k + 1)) ∧ Below w.heap.size w w7 := ⟨by omega, by go_num, rfl, hO7, hb7⟩
                first
                  | exact ⟨k + 1, B7, d7, R⟩
                  | ((repeat apply Exists.intro); exact ⟨⟨k + 1, B7, d7, R⟩, rfl⟩)
              case measure => simp [intOf]; omega
            · have HE : Hid (atV z (topV z z.length) (k + 1) = atV z (topV z z.length) k) := Lib.hid (if_neg he)
              have heq : (iAt z k == topV z z.length) = false := by simp; omega
              clear he
              go_wp2_with fail
              go_roundw
              case rel =>
                have R : k + 1 ≤ z.length ∧ Value.int .i64 ((k : Int) + 1) = .int .i64 ((k + 1 : Nat) : Int) ∧ Value.slice A (atV z (topV z z.length) k).length c = .slice A (atV z (topV z z.length) (k + 1)).length c ∧ In.Own wr w.heap.size (.slice A (atV z (topV z z.length) k).length c) (atV z (topV z z.length) (k + 1)) ∧ Below w.heap.size w wr := ⟨by omega, by go_num, by rw [HE.out], by rw [HE.out]; exact hO, hbe⟩
                first
                  | exact ⟨k + 1, A, c, R⟩
                  | ((repeat apply Exists.intro); exact ⟨⟨k + 1, A, c, R⟩, rfl⟩)
              case measure => simp [intOf]; omega
          · obtain rfl : k = z.length := by omega
            go_wp2_with fail
            go_ret
            rw [HLV.out]
            exact lenNew_of hO hbe
end Go.Proofs.Ytcgfklljbblhlaa.Ko
