/- The model's l1Turn. -/
import Derived.Test.YtmfcgikfgikbfaaGreatTo
import Derived.Test.YtmfcgikfgikbfaaGreatTu
namespace Go.Proofs.YtmfcgikfgikbfaaGreat.Sq
open Go.ChangeShapes Go.WideShapes Go.ChangeAt Go.RowKit Base
set_option linter.unusedVariables false
set_option maxRecDepth 20000

theorem l1Turn_hi (s k a : Int) (w : World) (hs : s = 2 ∨ s = 3 ∨ s = 4) (h0 : 0 ≤ a) (h1 : a ≤ 15) (h2 : a < s * s) (hk : 4 ≤ k ∧ k ≤ 7) :
    Calls Tryz.prog 65 #[.int .i64 s, .int .i64 k, .int .i64 a] w fun e w' => e = .returned (.int .i64 ((rot s (k % 4).toNat (a / s, a % s)).1 + s * (rot s (k % 4).toNat (a / s, a % s)).2)) ∧ w = w' := by
  obtain ⟨hx, hy⟩ := div_bd hs h0 h2
  have hrb := fun n => rot_bd s n (a / s, a % s) hy hx
  obtain ⟨q, hq0, hqs, hqb⟩ : ∃ q : Nat → Int × Int, Hid (∀ n, q n = rot s n (a / s, a % s)) ∧ Hid (∀ n, (s - 1 - (q n).2, (q n).1) = q (n + 1)) ∧ (∀ n, (0 ≤ (q n).1 ∧ (q n).1 < s) ∧ (0 ≤ (q n).2 ∧ (q n).2 < s)) :=
    ⟨fun n => rot s n (a / s, a % s), Lib.hid (fun _ => rfl), Lib.hid (fun _ => rfl), hrb⟩
  obtain ⟨hk1, hk2⟩ := hk
  have H := hq0.out (k % 4).toNat
  rw [← H]
  have HK := Lib.hid (hq0.out 0)
  clear h2 hx hy hrb H hq0
  rcases hs with rfl | rfl | rfl
  all_goals
    go_enter Tryz.func65, Tryz.ntmps65
    go_wp2
    go_loop [7, 8, 10] (fun x y i => ∃ n : Nat, (n : Int) ≤ k % 4 ∧ i = .int .i64 (k % 4 - n) ∧ x = .int .i64 (q n).1 ∧ y = .int .i64 (q n).2) (fun _ _ i => (intOf i).toNat)
    case atStart => exact ⟨0, by omega, by simp, by rw [HK.out]; rfl, by rw [HK.out]; rfl⟩
    case round =>
      obtain ⟨n, hn, rfl, rfl, rfl⟩ := hrel
      obtain ⟨⟨hr1, hr2⟩, hr3, hr4⟩ := hqb n
      by_cases hlt : (n : Int) < k % 4
      · go_wp2
        go_round
        case rel => exact ⟨n + 1, by omega, by go_num, by rw [← hqs.out]; rfl, by rw [← hqs.out]⟩
        case measure => simp [intOf]; omega
      · obtain rfl : n = (k % 4).toNat := by omega
        go_wp2
        go_ret
        exact ⟨rfl, rfl⟩
theorem l1Turn_lo (s k a : Int) (w : World) (hs : s = 2 ∨ s = 3 ∨ s = 4) (h0 : 0 ≤ a) (h1 : a ≤ 15) (h2 : a < s * s) (hk : 0 ≤ k ∧ k ≤ 3) :
    Calls Tryz.prog 65 #[.int .i64 s, .int .i64 k, .int .i64 a] w fun e w' => e = .returned (.int .i64 ((rot s (k % 4).toNat (a % s, a / s)).1 + s * (rot s (k % 4).toNat (a % s, a / s)).2)) ∧ w = w' := by
  obtain ⟨hx, hy⟩ := div_bd hs h0 h2
  have hrb := fun n => rot_bd s n (a % s, a / s) hx hy
  obtain ⟨q, hq0, hqs, hqb⟩ : ∃ q : Nat → Int × Int, Hid (∀ n, q n = rot s n (a % s, a / s)) ∧ Hid (∀ n, (s - 1 - (q n).2, (q n).1) = q (n + 1)) ∧ (∀ n, (0 ≤ (q n).1 ∧ (q n).1 < s) ∧ (0 ≤ (q n).2 ∧ (q n).2 < s)) :=
    ⟨fun n => rot s n (a % s, a / s), Lib.hid (fun _ => rfl), Lib.hid (fun _ => rfl), hrb⟩
  obtain ⟨hk1, hk2⟩ := hk
  have H := hq0.out (k % 4).toNat
  rw [← H]
  have HK := Lib.hid (hq0.out 0)
  clear h2 hx hy hrb H hq0
  rcases hs with rfl | rfl | rfl
  all_goals
    go_enter Tryz.func65, Tryz.ntmps65
    go_wp2
    go_loop [7, 8, 10] (fun x y i => ∃ n : Nat, (n : Int) ≤ k % 4 ∧ i = .int .i64 (k % 4 - n) ∧ x = .int .i64 (q n).1 ∧ y = .int .i64 (q n).2) (fun _ _ i => (intOf i).toNat)
    case atStart => exact ⟨0, by omega, by simp, by rw [HK.out]; rfl, by rw [HK.out]; rfl⟩
    case round =>
      obtain ⟨n, hn, rfl, rfl, rfl⟩ := hrel
      obtain ⟨⟨hr1, hr2⟩, hr3, hr4⟩ := hqb n
      by_cases hlt : (n : Int) < k % 4
      · go_wp2
        go_round
        case rel => exact ⟨n + 1, by omega, by go_num, by rw [← hqs.out]; rfl, by rw [← hqs.out]⟩
        case measure => simp [intOf]; omega
      · obtain rfl : n = (k % 4).toNat := by omega
        go_wp2
        go_ret
        exact ⟨rfl, rfl⟩

theorem l1Turn_any (s k a : Int) (w : World) (hs : s = 2 ∨ s = 3 ∨ s = 4) (h0 : 0 ≤ a) (h1 : a ≤ 15) (h2 : a < s * s) (hk : 0 ≤ k ∧ k ≤ 7) :
    Calls Tryz.prog 65 #[.int .i64 s, .int .i64 k, .int .i64 a] w fun e w' => e = .returned (.int .i64 ((turnV s k (a % s) (a / s)).1 + s * (turnV s k (a % s) (a / s)).2)) ∧ w = w' := by
  by_cases h : 4 ≤ k
  · have := l1Turn_hi s k a w hs h0 h1 h2 (by omega)
    unfold turnV; rw [if_pos h]; exact this
  · have := l1Turn_lo s k a w hs h0 h1 h2 (by omega)
    unfold turnV; rw [if_neg h]; exact this

end Go.Proofs.YtmfcgikfgikbfaaGreat.Sq
