/- The walk of the law FnHeapsMoves. -/
import Derived.Test.YtjanalljaacnoaaSd
import Derived.Test.YtjanalljaacnoaaZj
import Derived.Test.YtjanalljaacnoaaKf
namespace Go.Proofs.Ytjanalljaacnoaa.Laws
open Go.ChangeShapes Go.WideShapes Go.ChangeAt Go.RowKit Base Sq In Ko Sd
set_option linter.unusedVariables false
set_option maxRecDepth 20000
attribute [local irreducible] wpQuiet

theorem set_up {s : List Int} (hs : setB s = true) : ∀ k j, j < k → k < s.length → iAt s j < iAt s k := by
  intro k
  induction k with
  | zero => intro j h; omega
  | succ k ih =>
    intro j hj hk
    have h1 := setB_at hs hk
    rw [setAt_next (by omega), Bool.and_eq_true] at h1
    have h2 : iAt s k < iAt s (k + 1) := of_decide_eq_true h1.2
    rcases Nat.eq_or_lt_of_le (show j ≤ k by omega) with rfl | h3
    · exact h2
    · have := ih j h3 (by omega); omega
def Rup (p q : Pr) : Prop := p.1 < q.1 ∨ (p.1 = q.1 ∧ p.2 < q.2)
theorem takeL_mem {s : List Int} {i h : Int} {p : Pr} : ∀ k, p ∈ takeL s i h k → ∃ j, j < k ∧ p = (i, iAt s j) ∧ iAt s j ≤ h := by
  intro k
  induction k with
  | zero => intro hp; exact absurd hp (by simp [takeL])
  | succ k ih =>
    intro hp
    unfold takeL at hp
    split at hp
    · rename_i hle
      rcases List.mem_append.1 hp with h1 | h1
      · obtain ⟨j, a, b, c⟩ := ih h1; exact ⟨j, by omega, b, c⟩
      · exact ⟨k, by omega, by simpa using h1, hle⟩
    · obtain ⟨j, a, b, c⟩ := ih hp; exact ⟨j, by omega, b, c⟩
theorem takeL_up {s : List Int} (hs : setB s = true) (i h : Int) : ∀ k, k ≤ s.length → (takeL s i h k).Pairwise Rup := by
  intro k
  induction k with
  | zero => intro _; exact List.Pairwise.nil
  | succ k ih =>
    intro hk
    unfold takeL
    split
    · refine List.pairwise_append.2 ⟨ih (by omega), List.pairwise_singleton _ _, fun p hp q hq => ?_⟩
      obtain ⟨j, a, rfl, c⟩ := takeL_mem k hp
      obtain rfl : q = (i, iAt s k) := by simpa using hq
      exact .inr ⟨rfl, set_up hs k j a (by omega)⟩
    · exact ih (by omega)
theorem movH_mem {s z : List Int} {p : Pr} : ∀ n, p ∈ movH s z n → ∃ i j : Nat, i < n ∧ j < s.length ∧ p = ((i : Int), iAt s j) ∧ iAt s j ≤ iAt z i := by
  intro n
  induction n with
  | zero => intro hp; exact absurd hp (by simp [movH])
  | succ n ih =>
    intro hp
    unfold movH at hp
    rcases List.mem_append.1 hp with h1 | h1
    · obtain ⟨i, j, a, b, c, d⟩ := ih h1; exact ⟨i, j, by omega, b, c, d⟩
    · obtain ⟨j, a, b, c⟩ := takeL_mem _ h1; exact ⟨n, j, by omega, a, b, c⟩
theorem movH_up {s z : List Int} (hs : setB s = true) : ∀ n, (movH s z n).Pairwise Rup := by
  intro n
  induction n with
  | zero => exact List.Pairwise.nil
  | succ n ih =>
    unfold movH
    refine List.pairwise_append.2 ⟨ih, takeL_up hs _ _ _ (Nat.le_refl _), fun p hp q hq => ?_⟩
    obtain ⟨i, j, a, b, rfl, d⟩ := movH_mem n hp
    obtain ⟨j2, a2, rfl, c2⟩ := takeL_mem _ hq
    exact .inl (show (i : Int) < (n : Int) by omega)
theorem prAt_mem {l : List Pr} {i : Nat} (h : i < l.length) : prAt l i ∈ l := by
  unfold prAt; rw [List.getD_eq_getElem?_getD, List.getElem?_eq_getElem h]; exact List.getElem_mem _
theorem prAt_up {l : List Pr} (h : l.Pairwise Rup) {i j : Nat} (hij : i < j) (hj : j < l.length) : Rup (prAt l i) (prAt l j) := by
  unfold prAt
  rw [List.getD_eq_getElem?_getD, List.getD_eq_getElem?_getD, List.getElem?_eq_getElem hj, List.getElem?_eq_getElem (show i < l.length by omega)]
  exact List.pairwise_iff_getElem.1 h i j _ _ hij

set_option maxHeartbeats 8000000 in
theorem fnHeapsMoves_walk (w : World) (A : Option Addr) (n c : Nat) (zs : List Int) (h : IsRow .u8 w A n c zs) :
    Calls Try.prog 5 #[.slice A n c] w fun e w' => e = .returned (.bool true) ∧ Below w.heap.size w w' := by
  by_cases hn : 1048576 < n
  · have hd : decide (1048576 < (n : Int)) = true := decide_eq_true (by omega)
    clear h
    go_enter Try.func5, Try.ntmps5
    go_wp2_with fail
    go_ret
    exact ⟨rfl, Below.refl _ _⟩
  have hd : decide (1048576 < (n : Int)) = false := decide_eq_false (by omega)
  have hn2 : n ≤ 1048576 := by omega
  have HH := Lib.hid h
  clear h hn
  go_enter Try.func5, Try.ntmps5
  go_wp2_with fail
  refine (drawHeapsMoves_any _ _ _ _ _ HH.out hn2).mono ?_
  rintro e w1 ⟨V, cv, s, U, cu, z, rfl, hs6, hz4, hI1, hJ1, hW1⟩
  clear HH hd hn2
  have hML : (movesV s z).length ≤ 1048576 := movesV_len
  obtain ⟨M, hM⟩ : ∃ M, M = movesV s z := ⟨_, rfl⟩
  obtain ⟨hv, hhv⟩ : ∃ hv, hv = heapsV s z := ⟨_, rfl⟩
  have HM := Lib.hid hM
  have HV := Lib.hid hhv
  rw [← hM] at hML
  clear hM hhv
  go_wp2_with fail
  refine (heapsMoves_any V cv s U cu z w1 hI1 hJ1 (by omega) (by omega)).mono ?_
  rw [← HM.out]
  rintro e w2 ⟨A2, c2, rfl, hN2, hb2⟩
  have hI2 := (hI1.below hb2).more hb2.size
  have hJ2 := (hJ1.below hb2).more hb2.size
  have hP2 := hN2.is
  have hW2 := hW1.trans (hb2.mono hW1.size)
  clear hI1 hJ1 hN2 hb2 hW1
  go_wp2_with fail
  refine (specHeapsMoves_any V cv s U cu z w2 hI2 hJ2 (by omega) (by omega)).mono ?_
  rw [← HM.out]
  rintro e w3 ⟨A3, c3, rfl, hN3, hb3⟩
  have hI3 := (hI2.below hb3).more hb3.size
  have hJ3 := (hJ2.below hb3).more hb3.size
  have hP3 := (hP2.below hb3).more hb3.size
  have hQ3 := hN3.is
  have hW3 := hW2.trans (hb3.mono hW2.size)
  clear hI2 hJ2 hP2 hN3 hb3 hW2
  go_wp2_with fail
  refine (heapsVal_any V cv s U cu z w3 hI3 hJ3 (by omega) (by omega)).mono ?_
  rw [← HV.out]
  rintro e w4 ⟨rfl, hb4⟩
  have hI4 := (hI3.below hb4).more hb4.size
  have hJ4 := (hJ3.below hb4).more hb4.size
  have hP4 := (hP3.below hb4).more hb4.size
  have hQ4 := (hQ3.below hb4).more hb4.size
  have hW4 := hW3.trans (hb4.mono hW3.size)
  clear hI3 hJ3 hP3 hQ3 hb4 hW3
  by_cases hneg : hv < 0
  · go_wp2_with fail
    go_ret
    exact ⟨rfl, hW4⟩
  · have hok : (setB s && heapsB z) = true := by
      cases h0 : (setB s && heapsB z)
      · have := HV.out; rw [heapsV_no h0] at this; omega
      · rfl
    have hok2 := hok
    rw [Bool.and_eq_true] at hok2
    have hME : M = movH s z z.length := by rw [HM.out, movesV_yes hok2.1 hok2.2]
    have HUP := Lib.hid (show M.Pairwise Rup by rw [hME]; exact movH_up hok2.1 _)
    have HMEM := Lib.hid (show ∀ p, p ∈ M → ∃ i j : Nat, i < z.length ∧ j < s.length ∧ p = ((i : Int), iAt s j) ∧ iAt s j ≤ iAt z i from fun p hp => movH_mem _ (by rw [← hME]; exact hp))
    clear hok hok2 hME HM HV
    have HI := Lib.hid hI4
    have HJ := Lib.hid hJ4
    have HP := Lib.hid hP4
    have HQ := Lib.hid hQ4
    have HW := Lib.hid hW4
    have hszw := hW4.size
    clear hI4 hJ4 hP4 hQ4 hW4
    go_wp2_with fail
    go_loopw [7] (fun iv wr => ∃ n : Nat, n ≤ M.length ∧ iv = .int .i64 n ∧ Below w4.heap.size w4 wr) (fun iv _ => M.length - (intOf iv).toNat)
    case atStart => exact ⟨0, by omega, rfl, Below.refl _ _⟩
    case round =>
      obtain ⟨n, hn, rfl, hbe⟩ := hrel
      have hsz := hbe.size
      by_cases hlt : n < M.length
      · have hlt' : (n : Int) < (M.length : Int) := by omega
        have hn0 : (0 : Int) ≤ (n : Int) := by omega
        obtain ⟨i, k, hi, hk, hxy, hle⟩ := HMEM.out _ (prAt_mem hlt)
        have HD := Lib.hid (decide_eq_true (show iAt s k ∈ s from iAt_mem hk))
        obtain ⟨gb, rfl, _⟩ := HP.out.at hlt
        obtain ⟨qb, rfl, _⟩ := HQ.out.at hlt
        obtain ⟨ub, rfl⟩ := HJ.out.some (show 0 < z.length by omega)
        obtain ⟨hgB, c0, c1⟩ := (HP.out.below hbe).atb hlt hxy
        have hW1 : Below w4.heap.size w4 (wr.alloc (.cells #[.int .i64 (i : Int), .int .i64 (iAt s k)] 38)) := hbe.trans ((below_of wr _).mono hsz)
        have p8 := Blk.new wr #[.int .i64 (i : Int), .int .i64 (iAt s k)] 38
        go_wp2_with fail
        clear c0 c1
        have hs8 : (wr.alloc (.cells #[.int .i64 (i : Int), .int .i64 (iAt s k)] 38)).heap.size = wr.heap.size + 1 := by simp
        generalize hX : wr.alloc _ = W1 at *
        clear hX
        obtain ⟨hgB, c0, c1⟩ := (HP.out.below hW1).atb hlt hxy
        obtain ⟨hqB, d0, d1⟩ := (HQ.out.below hW1).atb hlt hxy
        obtain ⟨huB, u0⟩ := (HJ.out.below hW1).at hi
        obtain ⟨⟨a0, a1⟩, _, _⟩ := p8.at2
        have z1 : gb < W1.heap.size := by omega
        have z2 : qb < W1.heap.size := by omega
        have z3 : ub < W1.heap.size := by omega
        have z4 : wr.heap.size < W1.heap.size := by omega
        have HS8 := Lib.hid hs8
        clear hs8
        have hi' : (i : Int) < (z.length : Int) := by omega
        have hi0 : (0 : Int) ≤ (i : Int) := by omega
        have hled : decide (iAt z i < iAt s k) = false := decide_eq_false (by omega)
        have HLE := Lib.hid hle
        clear hle
        by_cases hnp : (0 : Int) < (n : Int)
        · obtain ⟨p, hp⟩ : ∃ p : Nat, n = p + 1 := ⟨n - 1, by omega⟩
          have hpl : p < M.length := by omega
          have hup := prAt_up HUP.out (show p < n by omega) hlt
          obtain ⟨px, py, hpxy⟩ : ∃ px py, prAt M p = (px, py) := ⟨_, _, rfl⟩
          rw [hxy, hpxy] at hup
          obtain ⟨_, e0, e1⟩ := (HP.out.below hW1).atb hpl hpxy
          have hpe : (n : Int) - 1 = (p : Int) := by omega
          have q0 : (0 : Int) ≤ (p : Int) := by omega
          have q2 : (p : Int) < (M.length : Int) := by omega
          have q3 : IntKind.i64.wrap ((n : Int) - 1) = (p : Int) := by rw [hpe]; exact IntWalk.i64_in _ (by omega)
          have q4 : IntKind.i64.wrap (p : Int) = (p : Int) := IntWalk.i64_in _ (by omega)
          have hcase : (decide ((i : Int) < px) = false ∧ ((i : Int) == px) = false ∧ True) ∨ (decide ((i : Int) < px) = false ∧ ((i : Int) == px) = true ∧ decide (iAt s k ≤ py) = false) := by
            rcases hup with h1 | ⟨h1, h2⟩
            · have h1 : px < (i : Int) := h1
              exact .inl ⟨decide_eq_false (by omega), by rw [beq_eq_false_iff_ne]; omega, trivial⟩
            · have h1 : px = (i : Int) := h1
              have h2 : py < iAt s k := h2
              exact .inr ⟨decide_eq_false (by omega), by rw [beq_iff_eq]; omega, decide_eq_false (by omega)⟩
          have hnN : 0 < n := by omega
          have hnd : decide ((0 : Int) < (n : Int)) = true := decide_eq_true hnp
          have hnd2 : decide (0 < n) = true := decide_eq_true hnN
          clear hup hxy hpxy hp
          rcases hcase with ⟨f1, f2, f3⟩ | ⟨f1, f2, f3⟩
          all_goals
            go_wp2_with fail
            refine wp_region_below (W := W1) (by kernel_rfl) (by kernel_rfl) (Below.refl _ _) ?_
            repeat (first
              | (refine qs_skip (by rfl) ?_; simp only [Act.put, List.setIfInBounds_toArray, List.set_cons_zero, List.set_cons_succ])
              | (apply qs_take
                 focus rfl
                 focus (
                   intro wq hwq
                   obtain ⟨hcq, hfq⟩ := bcell hwq
                   go_simp
                   all_goals first
                     | exact rfl
                     | (go_at_call 19; refine (zgIn_any _ _ _ _ _ ((HI.out.below (hW1.trans (hwq.mono (by have := HS8.out; omega)))).more (by have := HS8.out; have := hwq.size; omega)) (by omega)).mono ?_; rw [HD.out]; exact fun e w2 h => ⟨h.1, h.2 ▸ hwq⟩)
                     | (exact ⟨trivial, rfl⟩))
                 simp only [Act.put, List.setIfInBounds_toArray, List.set_cons_zero, List.set_cons_succ]))
            refine wpQuiet_nil ?_
            intro wq hwq
            go_wp2_with fail
            go_roundw
            case rel => exact ⟨n + 1, by omega, by go_num, hW1.trans (hwq.mono (by have := HS8.out; omega))⟩
            case measure => simp [intOf]; omega
        · have hnd : decide ((0 : Int) < (n : Int)) = false := decide_eq_false hnp
          have hnd2 : decide (0 < n) = false := decide_eq_false (by omega)
          go_wp2_with fail
          refine wp_region_below (W := W1) (by kernel_rfl) (by kernel_rfl) (Below.refl _ _) ?_
          repeat (first
            | (refine qs_skip (by rfl) ?_; simp only [Act.put, List.setIfInBounds_toArray, List.set_cons_zero, List.set_cons_succ])
            | (apply qs_take
               focus rfl
               focus (
                 intro wq hwq
                 obtain ⟨hcq, hfq⟩ := bcell hwq
                 go_simp
                 all_goals first
                   | exact rfl
                   | (go_at_call 19; refine (zgIn_any _ _ _ _ _ ((HI.out.below (hW1.trans (hwq.mono (by have := HS8.out; omega)))).more (by have := HS8.out; have := hwq.size; omega)) (by omega)).mono ?_; rw [HD.out]; exact fun e w2 h => ⟨h.1, h.2 ▸ hwq⟩)
                   | (exact ⟨trivial, rfl⟩))
               simp only [Act.put, List.setIfInBounds_toArray, List.set_cons_zero, List.set_cons_succ]))
          refine wpQuiet_nil ?_
          intro wq hwq
          go_wp2_with fail
          go_roundw
          case rel => exact ⟨n + 1, by omega, by go_num, hW1.trans (hwq.mono (by have := HS8.out; omega))⟩
          case measure => simp [intOf]; omega
      · obtain rfl : n = M.length := by omega
        go_wp2_with fail
        go_ret
        exact ⟨rfl, HW.out.trans (hbe.mono hszw)⟩
end Go.Proofs.Ytjanalljaacnoaa.Laws
