/- The ways to leave heaps, by the program. -/
import Derived.Test.YtjanalljaacnoaaJs
import Derived.Test.YtjanalljaacnoaaKl
namespace Go.Proofs.Ytjanalljaacnoaa.Ko
open Go.ChangeShapes Go.WideShapes Go.ChangeAt Go.RowKit Base Sq In
set_option linter.unusedVariables false
set_option maxRecDepth 20000
attribute [local irreducible] wpQuiet

/-- what may be left in a way: nothing, one heap, two heaps -/
def contr (t : Nat) (R : Int) : List Pr := if t = 0 then (if 0 < R then [] else [((0 : Int), (0 : Int))]) else if t = 1 then (if R = 0 then [] else [((0 : Int), R)]) else splitK R (R / 2).toNat
theorem leaveNothing_any (R : Int) (w : World) (hR : 0 ≤ R) :
    Calls Try.prog 98 #[.agg #[], .int .i64 R] w fun e w' => PairNew 45 w w' (contr 0 R) e := by
  have hb0 := below_of w (.cells #[] 84)
  rcases Int.lt_or_eq_of_le hR with h | h
  · have HN := Lib.hid (show contr 0 R = [] by unfold contr; rw [if_pos rfl, if_pos h])
    go_enter Try.func98, Try.ntmps98
    go_wp2_with fail
    go_ret
    rw [HN.out]
    exact pairNew_of (l := []) (OwnP.nil _ _ _) hb0
  · subst h
    have HN := Lib.hid (show contr 0 0 = [((0 : Int), (0 : Int))] by unfold contr; simp)
    have p0 := Blk.new (w.alloc (.cells #[] 84)) #[.int .i64 0, .int .i64 0] 45
    simp only [World.size_alloc] at p0
    have hO := OwnP.one (base := w.heap.size) (Nat.le_succ _) p0
    go_enter Try.func98, Try.ntmps98
    go_wp2_with fail
    go_ret
    rw [HN.out]
    exact pairNew_of (l := [((0 : Int), (0 : Int))]) hO (by repeat (first | exact Below.refl _ _ | assumption | (refine Below.alloc ?_ (by first | omega | (simp; done) | (simp; omega)) _) | (refine Below.setCell ?_ (by first | omega | (simp; done) | (simp; omega)) _) | refine Below.drew ?_))
theorem leaveOne_any (R : Int) (w : World) (hR : 0 ≤ R) :
    Calls Try.prog 99 #[.agg #[], .int .i64 R] w fun e w' => PairNew 45 w w' (contr 1 R) e := by
  have hb0 := below_of w (.cells #[] 85)
  by_cases h : R = 0
  · subst h
    have HN := Lib.hid (show contr 1 0 = [] by unfold contr; simp)
    go_enter Try.func99, Try.ntmps99
    go_wp2_with fail
    go_ret
    rw [HN.out]
    exact pairNew_of (l := []) (OwnP.nil _ _ _) hb0
  · have hz : (R == 0) = false := by rw [beq_eq_false_iff_ne]; exact h
    have HN := Lib.hid (show contr 1 R = [((0 : Int), R)] by unfold contr; rw [if_neg (by decide), if_pos rfl, if_neg h])
    have p0 := Blk.new (w.alloc (.cells #[] 85)) #[.int .i64 0, .int .i64 R] 45
    simp only [World.size_alloc] at p0
    have hO := OwnP.one (base := w.heap.size) (Nat.le_succ _) p0
    clear h
    go_enter Try.func99, Try.ntmps99
    go_wp2_with fail
    go_ret
    rw [HN.out]
    exact pairNew_of (l := [((0 : Int), R)]) hO (by repeat (first | exact Below.refl _ _ | assumption | (refine Below.alloc ?_ (by first | omega | (simp; done) | (simp; omega)) _) | (refine Below.setCell ?_ (by first | omega | (simp; done) | (simp; omega)) _) | refine Below.drew ?_))
set_option maxHeartbeats 1000000 in
theorem leaveTwo_any (R : Int) (w : World) (hR : 0 ≤ R) (hR6 : R ≤ 60) :
    Calls Try.prog 100 #[.agg #[], .int .i64 R] w fun e w' => PairNew 45 w w' (contr 2 R) e := by
  obtain ⟨j0, hj, hy0, hy1, hy2⟩ := info_parts infoLeft
  have hb0 := below_of w (.cells #[] 86)
  have hO0 : OwnP 45 (w.alloc (.cells #[] 86)) w.heap.size (.slice none 0 0) (splitK R 0) := OwnP.nil _ _ _
  have HN := Lib.hid (show contr 2 R = splitK R (R / 2).toNat from rfl)
  go_enter Try.func100, Try.ntmps100
  go_wp2_with fail
  generalize hW0 : w.alloc _ = W0 at *
  clear hW0
  go_loopw [5, 6] (fun v i wr => ∃ (j : Nat) (A : Option Addr) (a : Nat), j ≤ (R / 2).toNat ∧ i = .int .i64 ((j : Int) + 1) ∧ v = .slice A (splitK R j).length a ∧ OwnP 45 wr w.heap.size (.slice A (splitK R j).length a) (splitK R j) ∧ Below w.heap.size w wr) (fun _ i _ => (R / 2).toNat + 1 - (intOf i).toNat)
  case atStart => exact ⟨0, _, _, by omega, rfl, rfl, hO0, hb0⟩
  case round =>
    clear hO0 hb0
    obtain ⟨j, B, d, hjj, rfl, rfl, hL, hbk⟩ := hrel
    have hl2 : (splitK R j).length ≤ 60 := by rw [splitK_len]; omega
    have hsk := hbk.size
    have w1 : IntKind.i64.wrap (R - ((j : Int) + 1)) = R - ((j : Int) + 1) := IntWalk.i64_in _ (by omega)
    by_cases hjl : j < (R / 2).toNat
    · have d1 : (j : Int) + 1 ≤ R / 2 := by omega
      have HE2 := Lib.hid (show splitK R (j + 1) = splitK R j ++ [((j : Int) + 1, R - ((j : Int) + 1))] from rfl)
      have HL := Lib.hid hL
      have HK := Lib.hid hbk
      have hmax : (splitK R j).length + 1 ≤ maxLen := by unfold maxLen; omega
      clear hL hbk
      go_wp2_with (at_builtin; refine wpList_append_own _ rfl _ _ 42 rfl (w.heap.size) 45 j0 (.agg #[.int .i64 0, .int .i64 0]) 2 16 Try.underlying42 hj hy0 hy1 hy2 rfl (by decide) _ _ _ rfl (OwnP.alloc HL.out _) ⟨wr.heap.size, 0, none⟩ 1 1 [.int .i64 ((j : Int) + 1), .int .i64 (R - ((j : Int) + 1))] rfl rfl (news2 (Blk.new wr #[.int .i64 ((j : Int) + 1), .int .i64 (R - ((j : Int) + 1))] 45)) one2 hmax (by omega) (by simp; omega) ?_; intro v' w9 hown' hgrow' hnil'; obtain ⟨B9, d9, rfl, hO9, hb9⟩ := app_afterP HL.out HE2.out hown' hgrow' (by omega); clear hown' hgrow' hnil')
      have hb9 := HK.out.trans hb9
      go_roundw
      case rel =>
        have RR : j + 1 ≤ (R / 2).toNat ∧ Value.int .i64 ((j : Int) + 1 + 1) = .int .i64 (((j + 1 : Nat) : Int) + 1) ∧ Value.slice B9 (splitK R (j + 1)).length d9 = .slice B9 (splitK R (j + 1)).length d9 ∧ OwnP 45 w9 w.heap.size (.slice B9 (splitK R (j + 1)).length d9) (splitK R (j + 1)) ∧ Below w.heap.size w w9 := ⟨by omega, by go_num, rfl, hO9, hb9⟩
        first
          | exact ⟨j + 1, B9, d9, RR⟩
          | ((repeat apply Exists.intro); exact ⟨⟨j + 1, B9, d9, RR⟩, rfl⟩)
      case measure => simp [intOf]; omega
    · obtain rfl : j = (R / 2).toNat := by omega
      have d1 : R / 2 < (((R / 2).toNat : Nat) : Int) + 1 := by omega
      go_wp2_with fail
      go_ret
      rw [HN.out]
      exact pairNew_of hL hbk
end Go.Proofs.Ytjanalljaacnoaa.Ko
