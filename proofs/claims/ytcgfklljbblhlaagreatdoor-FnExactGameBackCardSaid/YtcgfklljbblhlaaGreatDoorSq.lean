/- The contracts of the small functions of chapter 1 (boards), of the program and of the model, over whole numbers alone: each returns its Lean value, at every argument. -/
import Derived.Test.YtcgfklljbblhlaaGreatDoorBase
namespace Go.Proofs.YtcgfklljbblhlaaGreatDoor.Sq
open Go.ChangeShapes Go.WideShapes Go.ChangeAt Go.RowKit Base
set_option linter.unusedVariables false
set_option maxRecDepth 20000

def sideB (s : Int) : Bool := decide (2 ≤ s ∧ s ≤ 4)
def okB (s a : Int) : Bool := decide (2 ≤ s ∧ s ≤ 4 ∧ 0 ≤ a ∧ a < s * s)
def inB (n lo hi : Int) : Bool := decide (lo ≤ n ∧ n ≤ hi)

theorem in_yes (n lo hi : Int) (w : World) (h : lo ≤ n ∧ n ≤ hi) :
    Calls Tryz.prog 50 #[.int .i64 n, .int .i64 lo, .int .i64 hi] w fun e w' => e = .returned (.bool true) ∧ w = w' := by
  obtain ⟨h1, h2⟩ := h
  go_enter Tryz.func50, Tryz.ntmps50
  go_wp2
  go_ret
  exact ⟨rb (by first | rfl | (simp; done) | (simp; omega)), rfl⟩
theorem in_no (n lo hi : Int) (w : World) (h : n < lo ∨ hi < n) :
    Calls Tryz.prog 50 #[.int .i64 n, .int .i64 lo, .int .i64 hi] w fun e w' => e = .returned (.bool false) ∧ w = w' := by
  by_cases h1 : lo ≤ n
  · have h2 : hi < n := by omega
    clear h
    go_enter Tryz.func50, Tryz.ntmps50
    go_wp2
    go_ret
    exact ⟨rb (by first | rfl | (simp; done) | (simp; omega)), rfl⟩
  · have h2 : n < lo := by omega
    clear h h1
    go_enter Tryz.func50, Tryz.ntmps50
    go_wp2
    go_ret
    exact ⟨rb (by first | rfl | (simp; done) | (simp; omega)), rfl⟩
theorem in_any (n lo hi : Int) (w : World) :
    Calls Tryz.prog 50 #[.int .i64 n, .int .i64 lo, .int .i64 hi] w fun e w' => e = .returned (.bool (inB n lo hi)) ∧ w = w' := by
  by_cases h : lo ≤ n ∧ n ≤ hi
  · have : inB n lo hi = true := by unfold inB; exact decide_eq_true h
    rw [this]; exact in_yes n lo hi w h
  · have : inB n lo hi = false := by unfold inB; exact decide_eq_false h
    rw [this]; exact in_no n lo hi w (by omega)
theorem l1Side_any (s : Int) (w : World) :
    Calls Tryz.prog 93 #[.int .i64 s] w fun e w' => e = .returned (.bool (sideB s)) ∧ w = w' := by
  go_enter Tryz.func93, Tryz.ntmps93
  go_wp2_with (go_at_call 50; refine (in_any _ _ _ _).mono ?_; rintro e w' ⟨rfl, rfl⟩)
  go_ret
  exact ⟨rb (by first | rfl | (simp; done) | (simp; omega)), rfl⟩
theorem sideOk_any (s : Int) (w : World) :
    Calls Tryz.prog 99 #[.int .i64 s] w fun e w' => e = .returned (.bool (sideB s)) ∧ w = w' := by
  by_cases h1 : 2 ≤ s
  · by_cases h2 : s ≤ 4
    · have : sideB s = true := by unfold sideB; exact decide_eq_true ⟨h1, h2⟩
      rw [this]; clear this
      go_enter Tryz.func99, Tryz.ntmps99
      go_wp2
      go_ret
      exact ⟨rb (by first | rfl | (simp; done) | (simp; omega)), rfl⟩
    · have : sideB s = false := by unfold sideB; exact decide_eq_false (by omega)
      rw [this]; clear this
      have h3 : 4 < s := by omega
      clear h2
      go_enter Tryz.func99, Tryz.ntmps99
      go_wp2
      go_ret
      exact ⟨rb (by first | rfl | (simp; done) | (simp; omega)), rfl⟩
  · have : sideB s = false := by unfold sideB; exact decide_eq_false (by omega)
    rw [this]; clear this
    have h3 : s < 2 := by omega
    clear h1
    go_enter Tryz.func99, Tryz.ntmps99
    go_wp2
    go_ret
    exact ⟨rb (by first | rfl | (simp; done) | (simp; omega)), rfl⟩

theorem within_any (v far : Int) (w : World) (hf : 0 ≤ far ∧ far ≤ 100) :
    Calls Tryz.prog 130 #[.int .i64 v, .int .i64 far] w fun e w' => e = .returned (.bool (inB v (-far) far)) ∧ w = w' := by
  obtain ⟨hf1, hf2⟩ := hf
  by_cases h1 : -far ≤ v
  · by_cases h2 : v ≤ far
    · have : inB v (-far) far = true := by unfold inB; exact decide_eq_true ⟨h1, h2⟩
      rw [this]; clear this
      go_enter Tryz.func130, Tryz.ntmps130
      go_wp2
      go_ret
      exact ⟨rb (by first | rfl | (simp; done) | (simp; omega)), rfl⟩
    · have : inB v (-far) far = false := by unfold inB; exact decide_eq_false (by omega)
      rw [this]; clear this
      have h3 : far < v := by omega
      clear h2
      go_enter Tryz.func130, Tryz.ntmps130
      go_wp2
      go_ret
      exact ⟨rb (by first | rfl | (simp; done) | (simp; omega)), rfl⟩
  · have : inB v (-far) far = false := by unfold inB; exact decide_eq_false (by omega)
    rw [this]; clear this
    have h3 : v < -far := by omega
    clear h1
    go_enter Tryz.func130, Tryz.ntmps130
    go_wp2
    go_ret
    exact ⟨rb (by first | rfl | (simp; done) | (simp; omega)), rfl⟩

/-- SquareOk of the program and of the model. -/
theorem okB_yes {s a : Int} (h : okB s a = true) : (s = 2 ∨ s = 3 ∨ s = 4) ∧ 0 ≤ a ∧ a ≤ 15 ∧ a < s * s := by
  unfold okB at h
  have h := of_decide_eq_true h
  obtain ⟨h1, h2, h3, h4⟩ := h
  have hs : s = 2 ∨ s = 3 ∨ s = 4 := by omega
  refine ⟨hs, h3, ?_, h4⟩
  rcases hs with rfl | rfl | rfl <;> omega
theorem okB_of {s a : Int} (hs : s = 2 ∨ s = 3 ∨ s = 4) (h0 : 0 ≤ a) (h : a < s * s) : okB s a = true := by
  unfold okB; exact decide_eq_true (by omega)
theorem okB_no {s a : Int} (h : ¬ (2 ≤ s ∧ s ≤ 4 ∧ 0 ≤ a ∧ a < s * s)) : okB s a = false := by
  unfold okB; exact decide_eq_false h
theorem sq_ok (s a : Int) (w : World) :
    Calls Tryz.prog 116 #[.int .i64 s, .int .i64 a] w fun e w' => e = .returned (.bool (okB s a)) ∧ w = w' := by
  by_cases hs : sideB s = true
  · have hs3 : s = 2 ∨ s = 3 ∨ s = 4 := by unfold sideB at hs; have := of_decide_eq_true hs; omega
    clear hs
    by_cases h0 : 0 ≤ a
    · by_cases h1 : a < s * s
      · rw [okB_of hs3 h0 h1]
        rcases hs3 with rfl | rfl | rfl
        all_goals
          go_enter Tryz.func116, Tryz.ntmps116
          go_wp2_with (go_at_call 99; refine (sideOk_any _ _).mono ?_; rintro e w' ⟨rfl, rfl⟩)
          go_ret
          exact ⟨rb (by first | rfl | (simp; done) | (simp; omega) | (simp [sideB]; omega)), rfl⟩
      · rw [okB_no (by omega)]
        rcases hs3 with rfl | rfl | rfl
        all_goals
          go_enter Tryz.func116, Tryz.ntmps116
          go_wp2_with (go_at_call 99; refine (sideOk_any _ _).mono ?_; rintro e w' ⟨rfl, rfl⟩)
          go_ret
          exact ⟨rb (by first | rfl | (simp; done) | (simp; omega) | (simp [sideB]; omega)), rfl⟩
    · rw [okB_no (by omega)]
      rcases hs3 with rfl | rfl | rfl
      all_goals
        go_enter Tryz.func116, Tryz.ntmps116
        go_wp2_with (go_at_call 99; refine (sideOk_any _ _).mono ?_; rintro e w' ⟨rfl, rfl⟩)
        go_ret
        exact ⟨rb (by first | rfl | (simp; done) | (simp; omega) | (simp [sideB]; omega)), rfl⟩
  · have hs' : sideB s = false := by simpa using hs
    clear hs
    rw [okB_no (by unfold sideB at hs'; have := of_decide_eq_false hs'; omega)]
    go_enter Tryz.func116, Tryz.ntmps116
    go_wp2_with (go_at_call 99; refine (sideOk_any _ _).mono ?_; rw [hs']; rintro e w' ⟨rfl, rfl⟩)
    go_ret
    exact ⟨rb (by first | rfl | (simp; done) | (simp; omega)), rfl⟩



/-! ### The square's methods: they make memory -/
def sqv (s x y : Int) : Value := .agg #[.int .i64 s, .int .i64 x, .int .i64 y]
def onB (s x y : Int) : Bool := decide (0 ≤ x ∧ x < s ∧ 0 ≤ y ∧ y < s)
def numV (s x y : Int) : Int := if 0 ≤ x ∧ x < s ∧ 0 ≤ y ∧ y < s then x + s * y else -1


theorem onBoard_any (s x y : Int) (w : World) :
    Calls Tryz.prog 125 #[.agg #[.int .i64 s, .int .i64 x, .int .i64 y]] w fun e w' => e = .returned (.bool (onB s x y)) ∧ Below w.heap.size w w' := by
  by_cases h1 : 0 ≤ x
  · by_cases h2 : x < s
    · by_cases h3 : 0 ≤ y
      · by_cases h4 : y < s
        · have hb : onB s x y = true := decide_eq_true (by omega)
          rw [hb]; clear hb
          go_enter Tryz.func125, Tryz.ntmps125
          go_wp2
          go_ret
          exact ⟨rb (by first | rfl | (simp; done) | (simp; omega)), below_of _ _⟩
        · have hb : onB s x y = false := decide_eq_false (by omega)
          rw [hb]; clear hb
          have h4' : s ≤ y := by omega
          clear h4
          go_enter Tryz.func125, Tryz.ntmps125
          go_wp2
          go_ret
          exact ⟨rb (by first | rfl | (simp; done) | (simp; omega)), below_of _ _⟩
      · have hb : onB s x y = false := decide_eq_false (by omega)
        rw [hb]; clear hb
        have h3' : y < 0 := by omega
        clear h3
        go_enter Tryz.func125, Tryz.ntmps125
        go_wp2
        go_ret
        exact ⟨rb (by first | rfl | (simp; done) | (simp; omega)), below_of _ _⟩
    · have hb : onB s x y = false := decide_eq_false (by omega)
      rw [hb]; clear hb
      have h2' : s ≤ x := by omega
      clear h2
      go_enter Tryz.func125, Tryz.ntmps125
      go_wp2
      go_ret
      exact ⟨rb (by first | rfl | (simp; done) | (simp; omega)), below_of _ _⟩
  · have hb : onB s x y = false := decide_eq_false (by omega)
    rw [hb]; clear hb
    have h1' : x < 0 := by omega
    clear h1
    go_enter Tryz.func125, Tryz.ntmps125
    go_wp2
    go_ret
    exact ⟨rb (by first | rfl | (simp; done) | (simp; omega)), below_of _ _⟩

theorem number_any (s x y : Int) (w : World) (hs : s = 2 ∨ s = 3 ∨ s = 4) :
    Calls Tryz.prog 126 #[.agg #[.int .i64 s, .int .i64 x, .int .i64 y]] w fun e w' => e = .returned (.int .i64 (numV s x y)) ∧ Below w.heap.size w w' := by
  by_cases h : 0 ≤ x ∧ x < s ∧ 0 ≤ y ∧ y < s
  · have hb : onB s x y = true := decide_eq_true h
    have hn : numV s x y = x + s * y := if_pos h
    rw [hn]; clear hn
    have HB := Lib.hid hb; clear hb
    obtain ⟨h1, h2, h3, h4⟩ := h
    rcases hs with rfl | rfl | rfl
    all_goals
      go_enter Tryz.func126, Tryz.ntmps126
      go_wp2_with (go_at_call 125; refine (onBoard_any _ _ _ _).mono ?_; rw [HB.out]; rintro e w' ⟨rfl, hw⟩; obtain ⟨hc, hf⟩ := bcell hw)
      go_ret
      exact ⟨ri (by first | rfl | omega), (below_of _ _).trans (hw.mono (by simp))⟩
  · have hb : onB s x y = false := decide_eq_false h
    have hn : numV s x y = -1 := if_neg h
    rw [hn]; clear hn
    have HB := Lib.hid hb; clear hb h hs
    go_enter Tryz.func126, Tryz.ntmps126
    go_wp2_with (go_at_call 125; refine (onBoard_any _ _ _ _).mono ?_; rw [HB.out]; rintro e w' ⟨rfl, hw⟩)
    go_ret
    exact ⟨rfl, (below_of _ _).trans (hw.mono (by simp))⟩

end Go.Proofs.YtcgfklljbblhlaaGreatDoor.Sq
