/- Slices of men that a call has made: their cells, copying, marking, holding. -/
import Derived.Test.YtnchjpjlabeababMk
import Derived.Test.YtnchjpjlabeababIn
namespace Go.Proofs.Ytnchjpjlabeabab.Ko
open Go.ChangeShapes Go.WideShapes Go.ChangeAt Go.RowKit Base Sq
set_option linter.unusedVariables false
set_option maxRecDepth 20000
attribute [local irreducible] wpQuiet

def cellsM : List St → List Value
  | [] => []
  | s :: l => .int .i64 s.dx :: .int .i64 s.dy :: .int .i64 s.far :: cellsM l
theorem cellsM_len (l : List St) : (cellsM l).length = l.length * 3 := by
  induction l with
  | nil => rfl
  | cons s l ih => simp only [cellsM, List.length_cons, ih]; omega
theorem cellsM_one (l : List St) : ∀ u ∈ cellsM l, u.oneCell' = true := by
  induction l with
  | nil => intro u hu; cases hu
  | cons s l ih =>
    intro u hu
    simp only [cellsM, List.mem_cons] at hu
    rcases hu with rfl | rfl | rfl | hu
    · rfl
    · rfl
    · rfl
    · exact ih u hu
theorem cellsM_snoc (l : List St) (s : St) : cellsM (l ++ [s]) = cellsM l ++ [.int .i64 s.dx, .int .i64 s.dy, .int .i64 s.far] := by
  induction l with
  | nil => rfl
  | cons a l ih => simp only [List.cons_append, cellsM, ih]
theorem stAt_cons (s : St) (l : List St) (i : Nat) : stAt (s :: l) (i + 1) = stAt l i := by simp [stAt]
theorem cellsM_at (l : List St) : ∀ i, i < l.length → (cellsM l)[i * 3]? = some (.int .i64 (stAt l i).dx) ∧ (cellsM l)[i * 3 + 1]? = some (.int .i64 (stAt l i).dy) ∧ (cellsM l)[i * 3 + 2]? = some (.int .i64 (stAt l i).far) := by
  induction l with
  | nil => intro i hi; exact absurd hi (by simp)
  | cons s l ih =>
    intro i hi
    cases i with
    | zero => exact ⟨rfl, rfl, rfl⟩
    | succ i =>
      obtain ⟨h1, h2, h3⟩ := ih i (by simpa using hi)
      rw [stAt_cons, show (i + 1) * 3 = i * 3 + 3 from by omega]
      exact ⟨h1, h2, h3⟩
theorem cellsM_get {l : List St} {j : Nat} {u : Value} (h : (cellsM l)[j]? = some u) :
    ∃ i, i < l.length ∧ ((j = i * 3 ∧ u = .int .i64 (stAt l i).dx) ∨ (j = i * 3 + 1 ∧ u = .int .i64 (stAt l i).dy) ∨ (j = i * 3 + 2 ∧ u = .int .i64 (stAt l i).far)) := by
  have hj : j < l.length * 3 := by rw [← cellsM_len]; exact (List.getElem?_eq_some_iff.1 h).1
  obtain ⟨h1, h2, h3⟩ := cellsM_at l (j / 3) (by omega)
  refine ⟨j / 3, by omega, ?_⟩
  have hm : j % 3 = 0 ∨ j % 3 = 1 ∨ j % 3 = 2 := by omega
  rcases hm with hm | hm | hm
  · have e : j = j / 3 * 3 := by omega
    rw [← e, h] at h1; cases h1; exact .inl ⟨e, rfl⟩
  · have e : j = j / 3 * 3 + 1 := by omega
    rw [← e, h] at h2; cases h2; exact .inr (.inl ⟨e, rfl⟩)
  · have e : j = j / 3 * 3 + 2 := by omega
    rw [← e, h] at h3; cases h3; exact .inr (.inr ⟨e, rfl⟩)
/-- what is appended: the cells of men that lie in a block -/
theorem IsSteps.news {w : World} {B b off : Nat} {l : List St} (h : IsSteps w B (some ⟨b, off, none⟩) l) : ∀ j u, (cellsM l)[j]? = some u → w.cell? (Addr.add ⟨b, off, none⟩ j) = some u := by
  intro j u hu
  obtain ⟨i, hi, hc⟩ := cellsM_get hu
  obtain ⟨b', off', he, _, hh⟩ := h (by omega)
  cases he
  obtain ⟨h1, h2, h3⟩ := hh i hi
  have ea : Addr.add ⟨b, off, none⟩ j = ⟨b, off + j, none⟩ := by
    unfold Addr.add
    split
    · rename_i h0; rw [h0]; rfl
    · rfl
  rw [ea]
  rcases hc with ⟨rfl, rfl⟩ | ⟨rfl, rfl⟩ | ⟨rfl, rfl⟩
  · exact h1
  · rw [← Nat.add_assoc]; exact h2
  · rw [← Nat.add_assoc]; exact h3
/-- men in a block of the call's own, from lo below hi -/
def MenA (lo hi : Nat) (w : World) (A : Option Addr) (l : List St) : Prop :=
  0 < l.length → ∃ b cs, A = some ⟨b, 0, none⟩ ∧ lo ≤ b ∧ b < hi ∧ Blk w b cs 59 ∧ l.length * 3 ≤ cs.size ∧ StepsIn cs l l.length
theorem MenA.of {w : World} {base : Nat} {v : Value} {l : List St} (h : w.ownsRow base 59 3 v l.length (cellsM l)) : ∃ A c, v = .slice A l.length c ∧ MenA base w.heap.size w A l := by
  rcases h.2 with ⟨rfl, h0⟩ | ⟨g, cap, cur, rfl, hb, hg, hn, hm, hs, ht⟩
  · exact ⟨none, 0, by rw [h0], fun hp => by omega⟩
  · refine ⟨some ⟨g, 0, none⟩, cap, rfl, fun _ => ⟨g, cur, rfl, hb, lt_of_block hg, hg, by omega, fun i hi => ?_⟩⟩
    obtain ⟨h1, h2, h3⟩ := cellsM_at l i hi
    rw [← ht, List.getElem?_take_of_lt (by omega)] at h1 h2 h3
    exact ⟨by simpa using h1, by simpa using h2, by simpa using h3⟩
theorem MenA.nil (lo hi : Nat) (w : World) (A : Option Addr) : MenA lo hi w A [] := fun h => absurd h (by simp)
theorem MenA.is {lo hi : Nat} {w : World} {A : Option Addr} {l : List St} (h : MenA lo hi w A l) : IsSteps w hi A l := fun hn => by
  obtain ⟨b, cs, rfl, h1, h2, h3, h4, h5⟩ := h hn
  refine ⟨b, 0, rfl, h2, fun i hi' => ?_⟩
  obtain ⟨e1, e2, e3⟩ := h5 i hi'
  simp only [Nat.zero_add, h3.cell]
  exact ⟨e1, e2, e3⟩
theorem MenA.more {lo hi lo' hi' : Nat} {w : World} {A : Option Addr} {l : List St} (h : MenA lo hi w A l) (h1 : lo' ≤ lo) (h2 : hi ≤ hi') : MenA lo' hi' w A l := fun hn => by
  obtain ⟨b, cs, rfl, g1, g2, h3⟩ := h hn
  exact ⟨b, cs, rfl, by omega, by omega, h3⟩
theorem MenA.below {lo hi : Nat} {w w' : World} {A : Option Addr} {l : List St} (h : MenA lo hi w A l) (hb : Below hi w w') : MenA lo hi w' A l := fun hn => by
  obtain ⟨b, cs, rfl, h1, h2, h3, h4, h5⟩ := h hn
  exact ⟨b, cs, rfl, h1, h2, h3.below hb h2, h4, h5⟩
theorem MenA.span {lo hi lo' hi' : Nat} {w w' : World} {A : Option Addr} {l : List St} (h : MenA lo hi w A l) (hs : Span lo' hi' w w') (ho : hi ≤ lo' ∨ hi' ≤ lo) : MenA lo hi w' A l := fun hn => by
  obtain ⟨b, cs, rfl, h1, h2, h3, h4, h5⟩ := h hn
  exact ⟨b, cs, rfl, h1, h2, hs.blk h3 (by omega), h4, h5⟩
def marksM (k : Int) (n : Nat) : List St := (List.range n).map fun i : Nat => ⟨k + 3 * i, k + 3 * i + 1, k + 3 * i + 2⟩
theorem marksM_len (k : Int) (n : Nat) : (marksM k n).length = n := by simp [marksM]
theorem marksM_at {k : Int} {n i : Nat} (h : i < n) : stAt (marksM k n) i = ⟨k + 3 * i, k + 3 * i + 1, k + 3 * i + 2⟩ := by unfold stAt marksM; simp [List.getD_eq_getElem?_getD, h]

set_option maxHeartbeats 2000000 in
theorem markManA_any (lo hi : Nat) (A : Option Addr) (c : Nat) (l : List St) (k : Int) (w : World) (h : MenA lo hi w A l) (hl : l.length ≤ 1048576) (hk0 : 0 ≤ k) (hk1 : k ≤ 1000000000000000) :
    Calls Try.prog 35 #[.slice A l.length c, .int .i64 k] w fun e w' => e = .returned (.int .i64 (k + 3 * l.length)) ∧ MenA lo hi w' A (marksM k l.length) ∧ Span lo hi w w' := by
  rcases Nat.eq_zero_or_pos l.length with h0 | h0
  · rw [h0]
    clear h
    go_enter Try.func35, Try.ntmps35
    go_wp2_with fail
    go_loopw [1, 5] (fun x i wr => i = .int .i64 0 ∧ x = .int .i64 k ∧ wr = w) (fun _ i _ => 0)
    case atStart => exact ⟨rfl, rfl, rfl⟩
    case round =>
      obtain ⟨rfl, rfl, rfl⟩ := hrel
      go_wp2_with fail
      go_ret
      exact ⟨by simp, fun hn => by simp [marksM] at hn, Span.refl _ _ _⟩
  · obtain ⟨b, cs0, rfl, h1, h2, h3, h4, h5⟩ := h h0
    clear h h5
    go_enter Try.func35, Try.ntmps35
    go_wp2_with fail
    go_loopw [1, 5] (fun x i wr => ∃ (j : Nat) (cs : Array Value), j ≤ l.length ∧ i = .int .i64 j ∧ x = .int .i64 (k + 3 * j) ∧ Blk wr b cs 59 ∧ l.length * 3 ≤ cs.size ∧ Hid (StepsIn cs (marksM k l.length) j) ∧ Span lo hi w wr) (fun _ i _ => l.length - (intOf i).toNat)
    case atStart => exact ⟨0, cs0, by omega, rfl, by simp, h3, h4, Lib.hid (fun j hj => absurd hj (by omega)), Span.refl _ _ _⟩
    case round =>
      clear h3 h4
      obtain ⟨j, cs, hj, rfl, rfl, hB, hsz, hh, hS⟩ := hrel
      by_cases hlt : j < l.length
      · obtain ⟨o0, x0⟩ := old_cell (cs := cs) (i := j * 3) (by omega)
        obtain ⟨o1, x1⟩ := old_cell (cs := cs) (i := j * 3 + 1) (by omega)
        obtain ⟨o2, x2⟩ := old_cell (cs := cs) (i := j * 3 + 2) (by omega)
        have y0 := (hB.cell (j * 3)).trans x0
        have y1 := (hB.cell (j * 3 + 1)).trans x1
        have y2 := (hB.cell (j * 3 + 2)).trans x2
        have f0 := hB.free (j * 3)
        have f1 := hB.free (j * 3 + 1)
        have f2 := hB.free (j * 3 + 2)
        have HB2 := Lib.hid (((hB.set (j * 3) (.int .i64 (k + 3 * j))).set (j * 3 + 1) (.int .i64 (k + 3 * j + 1))).set (j * 3 + 2) (.int .i64 (k + 3 * j + 2)))
        have hn := hh.out.next (by omega)
        rw [marksM_at hlt] at hn
        have HN := Lib.hid hn
        have HSZ : Hid (l.length * 3 ≤ (((cs.setIfInBounds (j * 3) (.int .i64 (k + 3 * j))).setIfInBounds (j * 3 + 1) (.int .i64 (k + 3 * j + 1))).setIfInBounds (j * 3 + 2) (.int .i64 (k + 3 * j + 2))).size) := Lib.hid (by simpa using hsz)
        have HS2 := Lib.hid (((hS.setCell h1 h2 (j * 3) (.int .i64 (k + 3 * j))).setCell h1 h2 (j * 3 + 1) (.int .i64 (k + 3 * j + 1))).setCell h1 h2 (j * 3 + 2) (.int .i64 (k + 3 * j + 2)))
        clear x0 x1 x2 hn hB hS hh
        go_wp2_with fail
        go_roundw
        case rel =>
          refine ⟨j + 1, _, by omega, by go_num, by first | go_num | (congr 1; omega), ?_, HSZ.out, Lib.hid HN.out, ?_⟩
          · have := HB2.out; simpa [Int.add_assoc] using this
          · have := HS2.out; simpa [Int.add_assoc] using this
        case measure => simp [intOf]; omega
      · obtain rfl : j = l.length := by omega
        go_wp2_with fail
        go_ret
        exact ⟨rfl, fun _ => ⟨b, cs, rfl, h1, h2, hB, by rw [marksM_len]; exact hsz, by rw [marksM_len]; exact hh.out⟩, hS⟩
theorem markPosA_any (lo hi : Nat) (A : Option Addr) (c : Nat) (t : Int) (l : List St) (k : Int) (w : World) (h : MenA lo hi w A l) (hh : hi ≤ w.heap.size) (hl : l.length ≤ 1048576) (hk0 : 0 ≤ k) (hk1 : k ≤ 1000000000000000) :
    Calls Try.prog 15 #[.agg #[.int .i64 t, .slice A l.length c], .int .i64 k] w fun e w' => e = .returned (.int .i64 (k + 3 * l.length)) ∧ MenA lo hi w' A (marksM k l.length) ∧ Span lo hi w w' := by
  have hb0 := below_of w (.cells #[.int .i64 t, .slice A l.length c] 32)
  have HB0 := Lib.hid hb0
  have HK := Lib.hid (h.below (hb0.mono hh))
  clear h hb0
  go_enter Try.func15, Try.ntmps15
  go_wp2_with fail
  refine (markManA_any lo hi _ _ _ _ _ HK.out hl hk0 hk1).mono ?_
  rintro e w2 ⟨rfl, hm, hs⟩
  go_wp2_with fail
  go_ret
  exact ⟨rfl, hm, (Span.ofBelow HB0.out).trans hs⟩
set_option maxHeartbeats 2000000 in
theorem heldManA_any (A : Option Addr) (c n : Nat) (k : Int) (w : World) (h : IsSteps w w.heap.size A (marksM k n)) (hl : n ≤ 1048576) (hk0 : 0 ≤ k) (hk1 : k ≤ 1000000000000000) :
    Calls Try.prog 36 #[.slice A n c, .int .i64 k] w fun e w' => e = .returned (.int .i64 (k + 3 * n)) ∧ w = w' := by
  go_enter Try.func36, Try.ntmps36
  go_wp2_with fail
  go_loopw [1, 5] (fun x i wr => ∃ j : Nat, j ≤ n ∧ i = .int .i64 j ∧ x = .int .i64 (k + 3 * j) ∧ wr = w) (fun _ i _ => n - (intOf i).toNat)
  case atStart => exact ⟨0, by omega, rfl, by simp, rfl⟩
  case round =>
    obtain ⟨j, hj, rfl, rfl, rfl⟩ := hrel
    by_cases hlt : j < n
    · obtain ⟨b, off, rfl, hB, hc⟩ := h (by rw [marksM_len]; omega)
      obtain ⟨c0, c1, c2⟩ := hc j (by rw [marksM_len]; exact hlt)
      rw [marksM_at hlt] at c0 c1 c2
      clear hc
      go_wp2_with fail
      go_roundw
      case rel => exact ⟨j + 1, by omega, by go_num, by first | go_num | (congr 1; omega), by first | rfl | trivial⟩
      case measure => simp [intOf]; omega
    · obtain rfl : j = n := by omega
      go_wp2_with fail
      go_ret
      exact ⟨rfl, rfl⟩
theorem heldPosA_any (A : Option Addr) (c n : Nat) (t k : Int) (w : World) (h : IsSteps w w.heap.size A (marksM k n)) (hl : n ≤ 1048576) (hk0 : 0 ≤ k) (hk1 : k ≤ 1000000000000000) :
    Calls Try.prog 16 #[.agg #[.int .i64 t, .slice A n c], .int .i64 k] w fun e w' => e = .returned (.int .i64 (k + 3 * n)) ∧ Below w.heap.size w w' := by
  have hb0 := below_of w (.cells #[.int .i64 t, .slice A n c] 32)
  have HK := Lib.hid ((h.below hb0).more hb0.size)
  have HB0 := Lib.hid hb0
  clear h hb0
  have hd : decide (k + 3 * (n : Int) < 0) = false := decide_eq_false (by omega)
  go_enter Try.func16, Try.ntmps16
  go_wp2_with fail
  refine (heldManA_any _ _ _ _ _ HK.out hl hk0 hk1).mono ?_
  rintro e w2 ⟨rfl, rfl⟩
  go_wp2_with fail
  go_ret
  exact ⟨rfl, HB0.out⟩
end Go.Proofs.Ytnchjpjlabeabab.Ko
