/- Lists of Left in the exact laws: compared, marked, held. -/
import Derived.Test.YtiilijpljhnphaaJp
namespace Go.Proofs.Ytiilijpljhnphaa.Ko
open Go.ChangeShapes Go.WideShapes Go.ChangeAt Go.RowKit Base Sq In
set_option linter.unusedVariables false
set_option maxRecDepth 20000
attribute [local irreducible] wpQuiet

theorem infoLeft : (Try.prog.info? 70).map (fun i => (i.zero, i.size, i.bytes)) = some (some (.agg #[.int .i64 0, .int .i64 0]), 2, 16) := by kernel_rfl
theorem eqLeft_same (f q : Int) (w : World) :
    Calls Try.prog 72 #[.agg #[.int .i64 f, .int .i64 q], .agg #[.int .i64 f, .int .i64 q]] w fun e w' => e = .returned (.bool true) ∧ Below w.heap.size w w' := by
  go_enter Try.func72, Try.ntmps72
  go_wp2_with fail
  go_ret
  exact ⟨rfl, (by repeat (first | exact Below.refl _ _ | assumption | (refine Below.alloc ?_ (by first | omega | (simp; done) | (simp; omega)) _) | (refine Below.setCell ?_ (by first | omega | (simp; done) | (simp; omega)) _) | refine Below.drew ?_))⟩
theorem eqLeftS_same (A A' : Option Addr) (c c' : Nat) (l : List Pr) (w : World) (h : IsPr 70 w w.heap.size A l) (h' : IsPr 70 w w.heap.size A' l) (hl : l.length ≤ 1048576) :
    Calls Try.prog 38 #[.slice A l.length c, .slice A' l.length c'] w fun e w' => e = .returned (.bool true) ∧ Below w.heap.size w w' := by
  go_enter Try.func38, Try.ntmps38
  go_wp2_with fail
  go_loopw [5] (fun i wr => ∃ k : Nat, k ≤ l.length ∧ i = .int .i64 k ∧ Below w.heap.size w wr) (fun i _ => l.length - (intOf i).toNat)
  case atStart => exact ⟨0, by omega, rfl, Below.refl _ _⟩
  case round =>
    obtain ⟨k, hk, rfl, hbe⟩ := hrel
    by_cases hlt : k < l.length
    · obtain ⟨b, rfl, hB, c0, c1⟩ := (h.below hbe).at hlt
      obtain ⟨b', rfl, hB', d0, d1⟩ := (h'.below hbe).at hlt
      have hz := hbe.size
      have z1 : b < wr.heap.size := by omega
      have z2 : b' < wr.heap.size := by omega
      have hk1 : (k : Int) < (l.length : Int) := by omega
      have hk2 : (0 : Int) ≤ (k : Int) := by omega
      go_wp2_with fail
      refine wp_region_below (W := wr) (by kernel_rfl) (by kernel_rfl) (Below.refl _ _) ?_
      repeat (first
        | (refine qs_skip (by rfl) ?_; simp only [Act.put, List.setIfInBounds_toArray, List.set_cons_zero, List.set_cons_succ])
        | (apply qs_take
           focus rfl
           focus (
             intro wq hwq
             obtain ⟨hcq, hfq⟩ := bcell hwq
             go_simp
             all_goals first
               | exact rfl
               | (go_at_call 72; refine (eqLeft_same _ _ _).mono ?_; exact fun e w2 h => ⟨h.1, hwq.trans (h.2.mono hwq.size)⟩)
               | (exact ⟨trivial, rfl⟩))
           simp only [Act.put, List.setIfInBounds_toArray, List.set_cons_zero, List.set_cons_succ]))
      refine wpQuiet_nil ?_
      intro wq hwq
      go_wp2_with fail
      go_roundw
      case rel => exact ⟨k + 1, by omega, by go_num, hbe.trans (hwq.mono (by omega))⟩
      case measure => simp [intOf]; omega
    · obtain rfl : k = l.length := by omega
      go_wp2_with fail
      go_ret
      exact ⟨rfl, hbe⟩
set_option maxHeartbeats 1000000 in
theorem markLeftS_any (lo hi : Nat) (A : Option Addr) (c : Nat) (l : List Pr) (k : Int) (w : World) (h : PrA 70 lo hi w A l) (hl : l.length ≤ 1048576) (hk0 : 0 ≤ k) (hk1 : k ≤ 1000000000000000) :
    Calls Try.prog 39 #[.slice A l.length c, .int .i64 k] w fun e w' => e = .returned (.int .i64 (k + 2 * l.length)) ∧ PrA 70 lo hi w' A (marksP k l.length) ∧ Span lo hi w w' := by
  rcases Nat.eq_zero_or_pos l.length with h0 | h0
  · have hd : decide (0 < l.length) = false := decide_eq_false (by omega)
    rw [h0]
    clear h
    go_enter Try.func39, Try.ntmps39
    go_wp2_with fail
    go_loopw [1, 5] (fun x i wr => i = .int .i64 0 ∧ x = .int .i64 k ∧ wr = w) (fun _ i _ => 0)
    case atStart => exact ⟨rfl, rfl, rfl⟩
    case round =>
      obtain ⟨rfl, rfl, rfl⟩ := hrel
      go_wp2_with fail
      go_ret
      exact ⟨by simp, fun hn => by simp [marksP] at hn, Span.refl _ _ _⟩
  · obtain ⟨b, cs0, rfl, h1, h2, h3, h4, h5⟩ := h h0
    clear h h5
    go_enter Try.func39, Try.ntmps39
    go_wp2_with fail
    go_loopw [1, 5] (fun x i wr => ∃ (j : Nat) (cs : Array Value), j ≤ l.length ∧ i = .int .i64 j ∧ x = .int .i64 (k + 2 * j) ∧ Blk wr b cs 70 ∧ l.length * 2 ≤ cs.size ∧ Hid (∀ i, i < j → cs[i * 2]? = some (.int .i64 (k + 2 * i)) ∧ cs[i * 2 + 1]? = some (.int .i64 (k + 2 * i + 1))) ∧ Span lo hi w wr) (fun _ i _ => l.length - (intOf i).toNat)
    case atStart => exact ⟨0, cs0, by omega, rfl, by simp, h3, h4, Lib.hid (fun j hj => absurd hj (by omega)), Span.refl _ _ _⟩
    case round =>
      clear h3 h4
      obtain ⟨j, cs, hj, rfl, rfl, hB, hsz, hh, hS⟩ := hrel
      by_cases hlt : j < l.length
      · obtain ⟨o0, x0⟩ := old_cell (cs := cs) (i := j * 2) (by omega)
        obtain ⟨o1, x1⟩ := old_cell (cs := cs) (i := j * 2 + 1) (by omega)
        have y0 := (hB.cell (j * 2)).trans x0
        have y1 := (hB.cell (j * 2 + 1)).trans x1
        have f0 := hB.free (j * 2)
        have f1 := hB.free (j * 2 + 1)
        have HB2 := Lib.hid ((hB.set (j * 2) (.int .i64 (k + 2 * j))).set (j * 2 + 1) (.int .i64 (k + 2 * j + 1)))
        have HN : Hid (∀ i, i < j + 1 → ((cs.setIfInBounds (j * 2) (.int .i64 (k + 2 * j))).setIfInBounds (j * 2 + 1) (.int .i64 (k + 2 * j + 1)))[i * 2]? = some (.int .i64 (k + 2 * i)) ∧ ((cs.setIfInBounds (j * 2) (.int .i64 (k + 2 * j))).setIfInBounds (j * 2 + 1) (.int .i64 (k + 2 * j + 1)))[i * 2 + 1]? = some (.int .i64 (k + 2 * i + 1))) := Lib.hid (all_succ
          (fun i hi => ⟨set_get (set_get (hh.out i hi).1 (by omega)) (by omega), set_get (set_get (hh.out i hi).2 (by omega)) (by omega)⟩)
          ⟨set_get (set_same (by omega)) (by omega), set_same (by simp; omega)⟩)
        have HSZ : Hid (l.length * 2 ≤ ((cs.setIfInBounds (j * 2) (.int .i64 (k + 2 * j))).setIfInBounds (j * 2 + 1) (.int .i64 (k + 2 * j + 1))).size) := Lib.hid (by simpa using hsz)
        have HS2 := Lib.hid ((hS.setCell h1 h2 (j * 2) (.int .i64 (k + 2 * j))).setCell h1 h2 (j * 2 + 1) (.int .i64 (k + 2 * j + 1)))
        clear x0 x1 hB hS hh
        go_wp2_with fail
        go_roundw
        case rel =>
          refine ⟨j + 1, _, by omega, by go_num, by first | go_num | (congr 1; omega), ?_, HSZ.out, Lib.hid HN.out, ?_⟩
          · have := HB2.out; simpa [Int.add_assoc] using this
          · have := HS2.out; simpa [Int.add_assoc] using this
        case measure => simp [intOf]; omega
      · obtain rfl : j = l.length := by omega
        go_wp2_with fail
        go_ret
        exact ⟨rfl, fun _ => ⟨b, cs, rfl, h1, h2, hB, by rw [marksP_len]; exact hsz, fun i hi => by rw [marksP_len] at hi; rw [marksP_at hi]; exact hh.out i hi⟩, hS⟩
set_option maxHeartbeats 1000000 in
theorem heldLeftS_any (A : Option Addr) (c n B : Nat) (k : Int) (w : World) (h : IsPr 70 w B A (marksP k n)) (hl : n ≤ 1048576) (hk0 : 0 ≤ k) (hk1 : k ≤ 1000000000000000) :
    Calls Try.prog 40 #[.slice A n c, .int .i64 k] w fun e w' => e = .returned (.int .i64 (k + 2 * n)) ∧ w = w' := by
  go_enter Try.func40, Try.ntmps40
  go_wp2_with fail
  go_loopw [1, 5] (fun x i wr => ∃ j : Nat, j ≤ n ∧ i = .int .i64 j ∧ x = .int .i64 (k + 2 * j) ∧ wr = w) (fun _ i _ => n - (intOf i).toNat)
  case atStart => exact ⟨0, by omega, rfl, by simp, rfl⟩
  case round =>
    obtain ⟨j, hj, rfl, rfl, rfl⟩ := hrel
    by_cases hlt : j < n
    · obtain ⟨b, rfl, hB, c0, c1⟩ := h.at (i := j) (by rw [marksP_len]; omega)
      rw [marksP_at hlt] at c0 c1
      go_wp2_with fail
      go_roundw
      case rel => exact ⟨j + 1, by omega, by go_num, by first | go_num | (congr 1; omega), by first | rfl | trivial⟩
      case measure => simp [intOf]; omega
    · obtain rfl : j = n := by omega
      go_wp2_with fail
      go_ret
      exact ⟨rfl, rfl⟩
end Go.Proofs.Ytiilijpljhnphaa.Ko
