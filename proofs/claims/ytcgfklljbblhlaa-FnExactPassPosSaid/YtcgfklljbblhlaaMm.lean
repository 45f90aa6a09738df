/- Slices of men that a call has made: marking, holding. -/
import Derived.Test.YtcgfklljbblhlaaMc
import Derived.Test.YtcgfklljbblhlaaMk
import Derived.Test.YtcgfklljbblhlaaIn
namespace Go.Proofs.Ytcgfklljbblhlaa.Ko
open Go.ChangeShapes Go.WideShapes Go.ChangeAt Go.RowKit Base Sq
set_option linter.unusedVariables false
set_option maxRecDepth 20000
attribute [local irreducible] wpQuiet

theorem MenA.span {lo hi lo' hi' : Nat} {w w' : World} {A : Option Addr} {l : List St} (h : MenA lo hi w A l) (hs : Span lo' hi' w w') (ho : hi ≤ lo' ∨ hi' ≤ lo) : MenA lo hi w' A l := fun hn => by
  obtain ⟨b, cs, rfl, h1, h2, h3, h4, h5⟩ := h hn
  exact ⟨b, cs, rfl, h1, h2, hs.blk h3 (by omega), h4, h5⟩
def marksM (k : Int) (n : Nat) : List St := (List.range n).map fun i : Nat => ⟨k + 3 * i, k + 3 * i + 1, k + 3 * i + 2⟩
theorem marksM_len (k : Int) (n : Nat) : (marksM k n).length = n := by simp [marksM]
theorem marksM_at {k : Int} {n i : Nat} (h : i < n) : stAt (marksM k n) i = ⟨k + 3 * i, k + 3 * i + 1, k + 3 * i + 2⟩ := by unfold stAt marksM; simp [List.getD_eq_getElem?_getD, h]

set_option maxHeartbeats 2000000 in
theorem markManA_any (lo hi : Nat) (A : Option Addr) (c : Nat) (l : List St) (k : Int) (w : World) (h : MenA lo hi w A l) (hl : l.length ≤ 1048576) (hk0 : 0 ≤ k) (hk1 : k ≤ 1000000000000000) :
    Calls Try.prog 49 #[.slice A l.length c, .int .i64 k] w fun e w' => e = .returned (.int .i64 (k + 3 * l.length)) ∧ MenA lo hi w' A (marksM k l.length) ∧ Span lo hi w w' := by
  rcases Nat.eq_zero_or_pos l.length with h0 | h0
  · rw [h0]
    clear h
    go_enter Try.func49, Try.ntmps49
    go_wp2_with fail
    go_loopw [1, 5] (fun x i wr => i = .int .i64 0 ∧ x = .int .i64 k ∧ wr = w) (fun _ i _ => 0)
    case atStart => exact ⟨rfl, rfl, rfl⟩
    case round =>
      obtain ⟨rfl, rfl, rfl⟩ := hrel
      go_wp2_with fail
      go_ret
      exact ⟨by simp, fun hn => by simp [marksM] at hn, Span.refl _ _ _⟩
  · obtain ⟨b, cs0, rfl, h1, h2, h3, h4, h5⟩ := h h0
    clear h h5
    go_enter Try.func49, Try.ntmps49
    go_wp2_with fail
    go_loopw [1, 5] (fun x i wr => ∃ (j : Nat) (cs : Array Value), j ≤ l.length ∧ i = .int .i64 j ∧ x = .int .i64 (k + 3 * j) ∧ Blk wr b cs 86 ∧ l.length * 3 ≤ cs.size ∧ Hid (StepsIn cs (marksM k l.length) j) ∧ Span lo hi w wr) (fun _ i _ => l.length - (intOf i).toNat)
    case atStart => exact ⟨0, cs0, by omega, rfl, by simp, h3, h4, Lib.hid (fun j hj => absurd hj (by omega)), Span.refl _ _ _⟩
    case round =>
      clear h3 h4
      obtain ⟨j, cs, hj, rfl, rfl, hB, hsz, hh, hS⟩ := hrel
      by_cases hlt : j < l.length
      · obtain ⟨o0, x0⟩ := old_cell (cs := cs) (i := j * 3) (by omega)
        obtain ⟨o1, x1⟩ := old_cell (cs := cs) (i := j * 3 + 1) (by omega)
        obtain ⟨o2, x2⟩ := old_cell (cs := cs) (i := j * 3 + 2) (by omega)
        have y0 := (hB.cell (j * 3)).trans x0
        have y1 := (hB.cell (j * 3 + 1)).trans x1
        have y2 := (hB.cell (j * 3 + 2)).trans x2
        have f0 := hB.free (j * 3)
        have f1 := hB.free (j * 3 + 1)
        have f2 := hB.free (j * 3 + 2)
        have HB2 := Lib.hid (((hB.set (j * 3) (.int .i64 (k + 3 * j))).set (j * 3 + 1) (.int .i64 (k + 3 * j + 1))).set (j * 3 + 2) (.int .i64 (k + 3 * j + 2)))
        have hn := hh.out.next (by omega)
        rw [marksM_at hlt] at hn
        have HN := Lib.hid hn
        have HSZ : Hid (l.length * 3 ≤ (((cs.setIfInBounds (j * 3) (.int .i64 (k + 3 * j))).setIfInBounds (j * 3 + 1) (.int .i64 (k + 3 * j + 1))).setIfInBounds (j * 3 + 2) (.int .i64 (k + 3 * j + 2))).size) := Lib.hid (by simpa using hsz)
        have HS2 := Lib.hid (((hS.setCell h1 h2 (j * 3) (.int .i64 (k + 3 * j))).setCell h1 h2 (j * 3 + 1) (.int .i64 (k + 3 * j + 1))).setCell h1 h2 (j * 3 + 2) (.int .i64 (k + 3 * j + 2)))
        clear x0 x1 x2 hn hB hS hh
        go_wp2_with fail
        go_roundw
        case rel =>
          refine ⟨j + 1, _, by omega, by go_num, by first | go_num | (congr 1; omega), ?_, HSZ.out, Lib.hid HN.out, ?_⟩
          · have := HB2.out; simpa [Int.add_assoc] using this
          · have := HS2.out; simpa [Int.add_assoc] using this
        case measure => simp [intOf]; omega
      · obtain rfl : j = l.length := by omega
        go_wp2_with fail
        go_ret
        exact ⟨rfl, fun _ => ⟨b, cs, rfl, h1, h2, hB, by rw [marksM_len]; exact hsz, by rw [marksM_len]; exact hh.out⟩, hS⟩
theorem markPosA_any (lo hi : Nat) (A : Option Addr) (c : Nat) (t : Int) (l : List St) (k : Int) (w : World) (h : MenA lo hi w A l) (hh : hi ≤ w.heap.size) (hl : l.length ≤ 1048576) (hk0 : 0 ≤ k) (hk1 : k ≤ 1000000000000000) :
    Calls Try.prog 30 #[.agg #[.int .i64 t, .slice A l.length c], .int .i64 k] w fun e w' => e = .returned (.int .i64 (k + 3 * l.length)) ∧ MenA lo hi w' A (marksM k l.length) ∧ Span lo hi w w' := by
  have hb0 := below_of w (.cells #[.int .i64 t, .slice A l.length c] 45)
  have HB0 := Lib.hid hb0
  have HK := Lib.hid (h.below (hb0.mono hh))
  clear h hb0
  go_enter Try.func30, Try.ntmps30
  go_wp2_with fail
  refine (markManA_any lo hi _ _ _ _ _ HK.out hl hk0 hk1).mono ?_
  rintro e w2 ⟨rfl, hm, hs⟩
  go_wp2_with fail
  go_ret
  exact ⟨rfl, hm, (Span.ofBelow HB0.out).trans hs⟩
set_option maxHeartbeats 2000000 in
theorem heldManA_any (A : Option Addr) (c n : Nat) (k : Int) (w : World) (h : IsSteps w w.heap.size A (marksM k n)) (hl : n ≤ 1048576) (hk0 : 0 ≤ k) (hk1 : k ≤ 1000000000000000) :
    Calls Try.prog 50 #[.slice A n c, .int .i64 k] w fun e w' => e = .returned (.int .i64 (k + 3 * n)) ∧ w = w' := by
  go_enter Try.func50, Try.ntmps50
  go_wp2_with fail
  go_loopw [1, 5] (fun x i wr => ∃ j : Nat, j ≤ n ∧ i = .int .i64 j ∧ x = .int .i64 (k + 3 * j) ∧ wr = w) (fun _ i _ => n - (intOf i).toNat)
  case atStart => exact ⟨0, by omega, rfl, by simp, rfl⟩
  case round =>
    obtain ⟨j, hj, rfl, rfl, rfl⟩ := hrel
    by_cases hlt : j < n
    · obtain ⟨b, off, rfl, hB, hc⟩ := h (by rw [marksM_len]; omega)
      obtain ⟨c0, c1, c2⟩ := hc j (by rw [marksM_len]; exact hlt)
      rw [marksM_at hlt] at c0 c1 c2
      clear hc
      go_wp2_with fail
      go_roundw
      case rel => exact ⟨j + 1, by omega, by go_num, by first | go_num | (congr 1; omega), by first | rfl | trivial⟩
      case measure => simp [intOf]; omega
    · obtain rfl : j = n := by omega
      go_wp2_with fail
      go_ret
      exact ⟨rfl, rfl⟩
theorem heldPosA_any (A : Option Addr) (c n : Nat) (t k : Int) (w : World) (h : IsSteps w w.heap.size A (marksM k n)) (hl : n ≤ 1048576) (hk0 : 0 ≤ k) (hk1 : k ≤ 1000000000000000) :
    Calls Try.prog 31 #[.agg #[.int .i64 t, .slice A n c], .int .i64 k] w fun e w' => e = .returned (.int .i64 (k + 3 * n)) ∧ Below w.heap.size w w' := by
  have hb0 := below_of w (.cells #[.int .i64 t, .slice A n c] 45)
  have HK := Lib.hid ((h.below hb0).more hb0.size)
  have HB0 := Lib.hid hb0
  clear h hb0
  have hd : decide (k + 3 * (n : Int) < 0) = false := decide_eq_false (by omega)
  go_enter Try.func31, Try.ntmps31
  go_wp2_with fail
  refine (heldManA_any _ _ _ _ _ HK.out hl hk0 hk1).mono ?_
  rintro e w2 ⟨rfl, rfl⟩
  go_wp2_with fail
  go_ret
  exact ⟨rfl, HB0.out⟩
end Go.Proofs.Ytcgfklljbblhlaa.Ko
