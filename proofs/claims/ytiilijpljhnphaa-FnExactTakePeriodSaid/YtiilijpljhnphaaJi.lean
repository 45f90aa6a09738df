/- Slices of whole numbers in the exact laws: compared, marked, held. -/
import Derived.Test.YtiilijpljhnphaaJq
import Derived.Test.YtiilijpljhnphaaJa
namespace Go.Proofs.Ytiilijpljhnphaa.Ko
open Go.ChangeShapes Go.WideShapes Go.ChangeAt Go.RowKit Base Sq In
set_option linter.unusedVariables false
set_option maxRecDepth 20000
attribute [local irreducible] wpQuiet

/-- numbers in a block of the call's own, from lo below hi -/
def NewInts (lo hi : Nat) (w : World) (A : Option Addr) (l : List Int) : Prop :=
  0 < l.length → ∃ b cs, A = some ⟨b, 0, none⟩ ∧ lo ≤ b ∧ b < hi ∧ Blk w b cs 3 ∧ l.length ≤ cs.size ∧ ∀ i, i < l.length → cs[i]? = some (.int .i64 (iAt l i))
theorem NewInts.of {w : World} {base : Nat} {v : Value} {l : List Int} (h : Own w base v l) : ∃ A c, v = .slice A l.length c ∧ NewInts base w.heap.size w A l := by
  rcases h.2 with ⟨rfl, h0⟩ | ⟨g, cap, cur, rfl, hb, hg, hn, hm, hs, ht⟩
  · exact ⟨none, 0, by rw [h0], fun hp => by omega⟩
  · refine ⟨some ⟨g, 0, none⟩, cap, rfl, fun _ => ⟨g, cur, rfl, hb, lt_of_block hg, hg, by omega, fun i hi => ?_⟩⟩
    have h2 : (cur.toList.take (l.length * 1))[i]? = some (.int .i64 (iAt l i)) := by
      rw [ht]; unfold nums iAt; rw [List.getElem?_map, List.getElem?_eq_getElem hi]; simp [List.getD_eq_getElem?_getD, hi]
    rw [List.getElem?_take_of_lt (by omega)] at h2
    simpa using h2
theorem NewInts.is {lo hi : Nat} {w : World} {A : Option Addr} {l : List Int} (h : NewInts lo hi w A l) : IsInts w hi A l := fun hn => by
  obtain ⟨b, cs, rfl, h1, h2, h3, h4, h5⟩ := h hn
  exact ⟨b, rfl, h2, fun i hi' => (h3.cell i).trans (h5 i hi')⟩
theorem NewInts.below {lo hi : Nat} {w w' : World} {A : Option Addr} {l : List Int} (h : NewInts lo hi w A l) (hb : Below hi w w') : NewInts lo hi w' A l := fun hn => by
  obtain ⟨b, cs, rfl, h1, h2, h3, h4, h5⟩ := h hn
  exact ⟨b, cs, rfl, h1, h2, h3.below hb h2, h4, h5⟩
theorem NewInts.span {lo hi lo' hi' : Nat} {w w' : World} {A : Option Addr} {l : List Int} (h : NewInts lo hi w A l) (hs : Span lo' hi' w w') (ho : hi ≤ lo' ∨ hi' ≤ lo) : NewInts lo hi w' A l := fun hn => by
  obtain ⟨b, cs, rfl, h1, h2, h3, h4, h5⟩ := h hn
  exact ⟨b, cs, rfl, h1, h2, hs.blk h3 (by omega), h4, h5⟩
def marksL (k : Int) (n : Nat) : List Int := (List.range n).map fun i : Nat => k + i
theorem marksL_len (k : Int) (n : Nat) : (marksL k n).length = n := by simp [marksL]
theorem marksL_at {k : Int} {n i : Nat} (h : i < n) : iAt (marksL k n) i = k + i := by unfold iAt marksL; simp [List.getD_eq_getElem?_getD, h]
set_option maxHeartbeats 1000000 in
theorem markIntS_any (lo hi : Nat) (A : Option Addr) (c : Nat) (l : List Int) (k : Int) (w : World) (h : NewInts lo hi w A l) (hl : l.length ≤ 1048576) (hk0 : 0 ≤ k) (hk1 : k ≤ 1000000000000000) :
    Calls Try.prog 21 #[.slice A l.length c, .int .i64 k] w fun e w' => e = .returned (.int .i64 (k + l.length)) ∧ NewInts lo hi w' A (marksL k l.length) ∧ Span lo hi w w' := by
  rcases Nat.eq_zero_or_pos l.length with h0 | h0
  · have hd : decide (0 < l.length) = false := decide_eq_false (by omega)
    rw [h0]
    clear h
    go_enter Try.func21, Try.ntmps21
    go_wp2_with fail
    go_loopw [1, 5] (fun x i wr => i = .int .i64 0 ∧ x = .int .i64 k ∧ wr = w) (fun _ i _ => 0)
    case atStart => exact ⟨rfl, rfl, rfl⟩
    case round =>
      obtain ⟨rfl, rfl, rfl⟩ := hrel
      go_wp2_with fail
      go_ret
      exact ⟨by simp, fun hn => by simp [marksL] at hn, Span.refl _ _ _⟩
  · obtain ⟨b, cs0, rfl, h1, h2, h3, h4, h5⟩ := h h0
    clear h h5
    go_enter Try.func21, Try.ntmps21
    go_wp2_with fail
    go_loopw [1, 5] (fun x i wr => ∃ (j : Nat) (cs : Array Value), j ≤ l.length ∧ i = .int .i64 j ∧ x = .int .i64 (k + j) ∧ Blk wr b cs 3 ∧ l.length ≤ cs.size ∧ Hid (∀ i, i < j → cs[i]? = some (.int .i64 (k + i))) ∧ Span lo hi w wr) (fun _ i _ => l.length - (intOf i).toNat)
    case atStart => exact ⟨0, cs0, by omega, rfl, by simp, h3, h4, Lib.hid (fun j hj => absurd hj (by omega)), Span.refl _ _ _⟩
    case round =>
      clear h3 h4
      obtain ⟨j, cs, hj, rfl, rfl, hB, hsz, hh, hS⟩ := hrel
      by_cases hlt : j < l.length
      · obtain ⟨o0, x0⟩ := old_cell (cs := cs) (i := j) (by omega)
        have y0 := (hB.cell j).trans x0
        have f0 := hB.free j
        have hB2 := hB.set j (.int .i64 (k + j))
        have HN : Hid (∀ i, i < j + 1 → (cs.setIfInBounds j (.int .i64 (k + j)))[i]? = some (.int .i64 (k + i))) := Lib.hid (all_succ (fun i hi => set_get (hh.out i hi) (by omega)) (set_same (by omega)))
        have HSZ : Hid (l.length ≤ (cs.setIfInBounds j (.int .i64 (k + j))).size) := Lib.hid (by simpa using hsz)
        have HB2 := Lib.hid hB2
        have HS2 := Lib.hid (hS.setCell h1 h2 j (.int .i64 (k + j)))
        clear x0 hB2
        go_wp2_with fail
        go_roundw
        case rel => exact ⟨j + 1, _, by omega, by go_num, by first | go_num | (congr 1; omega), HB2.out, HSZ.out, HN, HS2.out⟩
        case measure => simp [intOf]; omega
      · obtain rfl : j = l.length := by omega
        go_wp2_with fail
        go_ret
        exact ⟨rfl, fun _ => ⟨b, cs, rfl, h1, h2, hB, by rw [marksL_len]; exact hsz, fun i hi => by rw [marksL_len] at hi; rw [marksL_at hi]; exact hh.out i hi⟩, hS⟩
theorem heldIntS_any (A : Option Addr) (c n B : Nat) (k : Int) (w : World) (h : IsInts w B A (marksL k n)) (hl : n ≤ 1048576) (hk0 : 0 ≤ k) (hk1 : k ≤ 1000000000000000) :
    Calls Try.prog 22 #[.slice A n c, .int .i64 k] w fun e w' => e = .returned (.int .i64 (k + n)) ∧ w = w' := by
  go_enter Try.func22, Try.ntmps22
  go_wp2_with fail
  go_loopw [1, 5] (fun x i wr => ∃ j : Nat, j ≤ n ∧ i = .int .i64 j ∧ x = .int .i64 (k + j) ∧ wr = w) (fun _ i _ => n - (intOf i).toNat)
  case atStart => exact ⟨0, by omega, rfl, by simp, rfl⟩
  case round =>
    obtain ⟨j, hj, rfl, rfl, rfl⟩ := hrel
    by_cases hlt : j < n
    · obtain ⟨b, rfl, hB, hc⟩ := h (by rw [marksL_len]; omega)
      have c0 := hc j (by rw [marksL_len]; exact hlt)
      rw [marksL_at hlt] at c0
      clear hc
      go_wp2_with fail
      go_roundw
      case rel => exact ⟨j + 1, by omega, by go_num, by first | go_num | (congr 1; omega), by first | rfl | trivial⟩
      case measure => simp [intOf]; omega
    · obtain rfl : j = n := by omega
      go_wp2_with fail
      go_ret
      exact ⟨rfl, rfl⟩
end Go.Proofs.Ytiilijpljhnphaa.Ko
