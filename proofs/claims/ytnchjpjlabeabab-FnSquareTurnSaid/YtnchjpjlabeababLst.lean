/- The walk of the law FnSquareTurn. -/
import Derived.Test.YtnchjpjlabeababZg
namespace Go.Proofs.Ytnchjpjlabeabab.Laws
open Go.ChangeShapes Go.WideShapes Go.ChangeAt Go.RowKit Base Sq Rd In
set_option linter.unusedVariables false
set_option maxRecDepth 20000

def turnsL (s k : Int) (m : Nat) : List Int := (List.range m).map fun i : Nat => turnAt s k i
theorem turnsL_len (s k : Int) (m : Nat) : (turnsL s k m).length = m := by simp [turnsL]
theorem turnsL_succ (s k : Int) (m : Nat) : turnsL s k (m + 1) = turnsL s k m ++ [turnAt s k m] := by unfold turnsL; rw [List.range_succ, List.map_append]; rfl
set_option maxHeartbeats 4000000 in
theorem fnSquareTurn_walk (w : World) (A : Option Addr) (n c : Nat) (zs : List Int) (h : IsRow .u8 w A n c zs) :
    Calls Try.prog 5 #[.slice A n c] w fun e w' => e = .returned (.bool true) ∧ Below w.heap.size w w' := by
  by_cases hn : 1048576 < n
  · have hd : decide (1048576 < (n : Int)) = true := decide_eq_true (by omega)
    clear h
    go_enter Try.func5, Try.ntmps5
    go_wp2_with fail
    go_ret
    exact ⟨rfl, Below.refl _ _⟩
  have hd : decide (1048576 < (n : Int)) = false := decide_eq_false (by omega)
  have hn2 : n ≤ 1048576 := by omega
  have HH := Lib.hid h
  clear h hn
  go_enter Try.func5, Try.ntmps5
  go_wp2_with fail
  refine (drawSquareTurn_any _ _ _ _ _ HH.out hn2).mono ?_
  rintro e w1 ⟨s, k, a, rfl, hb1⟩
  go_wp2_with fail
  refine (impl_turn _ _ _ _).mono ?_
  rintro e w2 ⟨rfl, hb2⟩
  have hb := hb1.trans (hb2.mono hb1.size)
  clear hb1 hb2
  obtain ⟨G, hG⟩ : ∃ G, turnAt s k a = G := ⟨_, rfl⟩
  have HG := Lib.hid hG
  rw [hG]
  by_cases hneg : G < 0
  · clear hG
    go_wp2_with (go_at_call 23; refine (spec_turn _ _ _ _).mono ?_; rw [HG.out]; rintro e w' ⟨rfl, rfl⟩)
    go_ret
    exact ⟨rb (by first | rfl | simp), hb⟩
  obtain ⟨hs, hk, ha⟩ := turnAt_pos (s := s) (k := k) (a := a) (by omega)
  have hG0 : 0 ≤ G := by omega
  obtain ⟨_, _, f3, f4, f5⟩ := turn_facts hs hk ha
  have hss : 4 ≤ s * s ∧ s * s ≤ 16 := by rcases hs with rfl | rfl | rfl <;> omega
  obtain ⟨hss1, hss2⟩ := hss
  have hw1 : IntKind.i64.wrap (s * s) = s * s := IntWalk.i64_in _ (by omega)
  have F3 := Lib.hid f3
  have F4 := Lib.hid f4
  have F5 := Lib.hid f5
  have HS := Lib.hid hs
  have HK := Lib.hid hk
  have HA := Lib.hid ha
  clear hneg hG f3 f4 f5 hs hk ha
  go_wp2_with (go_at_call 23; refine (spec_turn _ _ _ _).mono ?_; rw [HG.out]; rintro e w' ⟨rfl, rfl⟩)
  go_loopw [7, 8] (fun x i wr => ∃ j : Nat, j ≤ 4 ∧ i = .int .i64 j ∧ x = .int .i64 (quarters s a j) ∧ Below w.heap.size w wr) (fun _ i _ => 4 - (intOf i).toNat)
  case atStart => exact ⟨0, by omega, rfl, rfl, hb⟩
  case round =>
    clear hb
    obtain ⟨j, hj, rfl, rfl, hbe⟩ := hrel
    by_cases hlt : j < 4
    · go_wp2_with fail
      refine (impl_turn _ _ _ _).mono ?_
      rintro e w3 ⟨rfl, hb3⟩
      go_wp2_with fail
      go_roundw
      case rel => exact ⟨j + 1, by omega, by go_num, rfl, hbe.trans (hb3.mono hbe.size)⟩
      case measure => simp [intOf]; omega
    · obtain rfl : j = 4 := by omega
      obtain ⟨q, hq⟩ : ∃ q, quarters s a 4 = q := ⟨_, rfl⟩
      have hqa : q = a := by rw [← hq]; exact F3.out
      rw [hq]
      clear hq
      subst hqa
      go_wp2_with fail
      have hO := Own.empty (base := w.heap.size) (g := wr.heap.size) hbe.size (Blk.new wr #[] 3)
      have hb4 := hbe.alloc hbe.size (.cells #[] 3)
      go_loopw [9, 10] (fun x i wr => ∃ (m : Nat) (A : Option Addr) (c : Nat), (m : Int) ≤ s * s ∧ i = .int .i64 m ∧ x = .slice A m c ∧ Own wr w.heap.size (.slice A m c) (turnsL s k m) ∧ Below w.heap.size w wr) (fun _ i _ => (s * s - intOf i).toNat)
      case atStart => exact ⟨0, some ⟨wr.heap.size, 0, none⟩, 0, by omega, rfl, rfl, hO, hb4⟩
      case round =>
        clear hO hb4 hbe
        obtain ⟨m, B, d, hm, rfl, rfl, hO, hbe⟩ := hrel
        by_cases hmt : (m : Int) < s * s
        · obtain ⟨g1, g2, _⟩ := turn_facts (a := (m : Int)) HS.out HK.out ⟨by omega, hmt⟩
          have HO1 := Lib.hid g1
          have HNE : Hid (∀ y ∈ turnsL s k m, y ≠ turnAt s k m) := Lib.hid (fun y hy he => by
            unfold turnsL at hy
            obtain ⟨i, hi, rfl⟩ := List.mem_map.1 hy
            have hi2 : i < m := by simpa using hi
            have := g2 i (by omega) (by omega) he.symm
            omega)
          clear g1 g2
          go_wp2_with fail
          refine (impl_turn _ _ _ _).mono ?_
          rintro e w3 ⟨rfl, hb3⟩
          have hO3 := hO.below hb3
          have hb4 := hbe.trans (hb3.mono hbe.size)
          clear hO hb3 hbe
          obtain ⟨A', c', hv, hI⟩ := hO3.is
          rw [turnsL_len] at hv
          obtain ⟨rfl, _, rfl⟩ : B = A' ∧ m = m ∧ d = c' := by injection hv with h1 h2 h3; exact ⟨h1, rfl, h3⟩
          have hZ := zgIn_any B d (turnsL s k m) (turnAt s k m) w3 hI (by rw [turnsL_len]; omega) HNE.out
          rw [turnsL_len] at hZ
          have HZ := Lib.hid hZ
          clear hZ hv hI
          obtain ⟨i0, hi, hz0, hz1, hz2⟩ := info_parts infoInt
          have hmax : m + 1 ≤ maxLen := by unfold maxLen; omega
          have hO4 : w3.ownsRow w.heap.size 3 1 (.slice B m d) m (nums (turnsL s k m)) := by have := hO3; unfold Own at this; rwa [turnsL_len] at this
          have hsz4 := hb4.size
          have HO3 := Lib.hid hO3
          have HO4 := Lib.hid hO4
          have HB4 := Lib.hid hb4
          clear hO3 hO4
          go_wp2_with (first
            | (go_at_call 20; refine (sq_ok _ _ _).mono ?_; rw [HO1.out]; rintro e w' ⟨rfl, rfl⟩)
            | (go_at_call 24; refine (HZ.out).mono ?_; rintro e w' ⟨rfl, rfl⟩)
            | (at_builtin; refine wpList_append_own _ rfl _ _ 53 rfl w.heap.size 3 i0 (.int .i64 0) 1 8 Try.underlying53 hi hz0 hz1 hz2 rfl (by decide) _ _ _ rfl (HO4.out.alloc _) ⟨w3.heap.size, 0, none⟩ 1 1 [.int .i64 (turnAt s k m)] rfl rfl (cell_one_new _ _ _) (fun u hu => by simp at hu; subst hu; rfl) hmax (by omega) (by simp; omega) ?_; intro v' w5 hown' hgrow5 hnil5))
          have hO5 : Own w5 w.heap.size v' (turnsL s k (m + 1)) := by unfold Own; rw [turnsL_len, turnsL_succ, nums_snoc]; exact hown'
          have hb5 : Below w.heap.size w w5 := own_base (l := turnsL s k m) (by unfold Own; rw [turnsL_len]; exact HO4.out.alloc _) hgrow5 (HB4.out.alloc hsz4 _) (Nat.le_refl _) (by simp; omega)
          obtain ⟨A5, c5, hv5⟩ := hO5.slice
          rw [turnsL_len] at hv5
          subst hv5
          clear hown' hgrow5 hnil5 HO3 HO4 HB4
          go_roundw
          case rel =>
            have R : ((m + 1 : Nat) : Int) ≤ s * s ∧ Value.int .i64 ((m : Int) + 1) = .int .i64 ((m + 1 : Nat) : Int) ∧ Value.slice A5 (m + 1) c5 = .slice A5 (m + 1) c5 ∧ Own w5 w.heap.size (.slice A5 (m + 1) c5) (turnsL s k (m + 1)) ∧ Below w.heap.size w w5 := ⟨by omega, by go_num, rfl, hO5, hb5⟩
            first
              | exact ⟨m + 1, A5, c5, R⟩
              | ((repeat apply Exists.intro); exact ⟨⟨m + 1, A5, c5, R⟩, rfl⟩)
          case measure => simp [intOf]; omega
        · obtain rfl : m = (s * s).toNat := by omega
          go_wp2_with (first | (go_at_call 22; refine (impl_turn _ _ _ _).mono ?_; rw [F4.out]; rintro e w4 ⟨rfl, hb4⟩) | (go_at_call 22; refine (impl_turn _ _ _ _).mono ?_; rw [F5.out]; rintro e w5 ⟨rfl, hb5⟩) | (go_at_call 22; refine (impl_turn _ _ _ _).mono ?_; rintro e w3 ⟨rfl, hb3⟩))
          go_ret
          exact ⟨rb (by first | rfl | simp), ((hbe.trans (hb3.mono hbe.size)).trans (hb4.mono (Nat.le_trans hbe.size hb3.size))).trans (hb5.mono (Nat.le_trans hbe.size (Nat.le_trans hb3.size hb4.size)))⟩
end Go.Proofs.Ytnchjpjlabeabab.Laws
