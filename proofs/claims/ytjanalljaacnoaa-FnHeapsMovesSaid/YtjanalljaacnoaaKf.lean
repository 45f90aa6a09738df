/- HeapsMoves: the model's and the program's. -/
import Derived.Test.YtjanalljaacnoaaKe
import Derived.Test.YtjanalljaacnoaaJte
namespace Go.Proofs.Ytjanalljaacnoaa.Ko
open Go.ChangeShapes Go.WideShapes Go.ChangeAt Go.RowKit Base Sq In
set_option linter.unusedVariables false
set_option maxRecDepth 20000
attribute [local irreducible] wpQuiet

/-- the moves of heap i of h objects, of the first k numbers -/
def takeL (s : List Int) (i h : Int) : Nat → List Pr
  | 0 => []
  | k + 1 => if iAt s k ≤ h then takeL s i h k ++ [(i, iAt s k)] else takeL s i h k
theorem takeL_len (s : List Int) (i h : Int) (k : Nat) : (takeL s i h k).length ≤ k := by
  induction k with
  | zero => exact Nat.le_refl _
  | succ k ih =>
    unfold takeL
    split
    · rw [List.length_append]; exact Nat.add_le_add ih (Nat.le_refl 1)
    · omega
/-- the moves of the first i heaps -/
def movH (s z : List Int) : Nat → List Pr
  | 0 => []
  | i + 1 => movH s z i ++ takeL s i (iAt z i) s.length
theorem movH_len (s z : List Int) (i : Nat) : (movH s z i).length ≤ i * s.length := by
  induction i with
  | zero => exact Nat.zero_le _
  | succ i ih =>
    have := takeL_len s i (iAt z i) s.length
    unfold movH
    rw [List.length_append, Nat.succ_mul]
    omega
/-- the moves of the first i heaps and of the first k numbers of the next -/
def movI (s z : List Int) (i k : Nat) : List Pr := movH s z i ++ takeL s i (iAt z i) k
theorem movI_zero (s z : List Int) (i : Nat) : movI s z i 0 = movH s z i := List.append_nil _
theorem movI_all (s z : List Int) (i : Nat) : movI s z i s.length = movH s z (i + 1) := rfl
theorem movI_yes {s z : List Int} {i k : Nat} (h : iAt s k ≤ iAt z i) : movI s z i (k + 1) = movI s z i k ++ [((i : Int), iAt s k)] := by
  unfold movI; rw [show takeL s i (iAt z i) (k + 1) = takeL s i (iAt z i) k ++ [((i : Int), iAt s k)] from if_pos h, List.append_assoc]
theorem movI_no {s z : List Int} {i k : Nat} (h : ¬ iAt s k ≤ iAt z i) : movI s z i (k + 1) = movI s z i k := by
  unfold movI; rw [show takeL s i (iAt z i) (k + 1) = takeL s i (iAt z i) k from if_neg h]
theorem movI_len {s z : List Int} (hs : s.length ≤ 5) {i k : Nat} (hi : i < 4) (hk : k ≤ s.length) : (movI s z i k).length ≤ 20 := by
  have h1 := movH_len s z i
  have h2 := takeL_len s i (iAt z i) k
  have h3 : i * s.length ≤ 3 * 5 := Nat.mul_le_mul (by omega) hs
  unfold movI
  rw [List.length_append]
  omega
/-- what HeapsMoves answers -/
def movesV (s z : List Int) : List Pr := if (setB s && heapsB z) = true then movH s z z.length else []
theorem movesV_len {s z : List Int} : (movesV s z).length ≤ 1048576 := by
  unfold movesV
  split
  · rename_i h
    rw [Bool.and_eq_true] at h
    have h1 := movH_len s z z.length
    have h2 := Nat.mul_le_mul (heapsB_len h.2) (setB_len h.1).2
    omega
  · exact Nat.zero_le _
theorem PrA.low {T : TypeId} {lo lo' hi : Nat} {w : World} {A : Option Addr} {l : List Pr} (h : PrA T lo hi w A l) (h1 : lo' ≤ lo) : PrA T lo' hi w A l := h.more h1 (Nat.le_refl _)
theorem PairNew.after {T : TypeId} {w w1 w' : World} {l : List Pr} {e : Ending} (h : PairNew T w1 w' l e) (hb : Below w.heap.size w w1) : PairNew T w w' l e := by
  obtain ⟨A, c, he, hn, hb2⟩ := h
  exact ⟨A, c, he, hn.low hb.size, hb.trans (hb2.mono hb.size)⟩
set_option maxHeartbeats 8000000 in
theorem l18Moves_any (V : Option Addr) (cv : Nat) (s : List Int) (U : Option Addr) (cu : Nat) (z : List Int) (w : World) (hV : IsInts w w.heap.size V s) (hU : IsInts w w.heap.size U z) (hs : setB s = true) (hz : heapsB z = true) :
    Calls Try.prog 62 #[.slice V s.length cv, .slice U z.length cu] w fun e w' => PairNew 38 w w' (movH s z z.length) e := by
  obtain ⟨j0, hj, hy0, hy1, hy2⟩ := info_parts infoTake
  have hsl := (setB_len hs).2
  have hzl := heapsB_len hz
  have hb0 : Below w.heap.size w (w.alloc (.cells #[] 38)) := (by repeat (first | exact Below.refl _ _ | assumption | (refine Below.alloc ?_ (by first | omega | (simp; done) | (simp; omega)) _) | (refine Below.setCell ?_ (by first | omega | (simp; done) | (simp; omega)) _) | refine Below.drew ?_))
  have hO0 : OwnP 38 (w.alloc (.cells #[] 38)) w.heap.size (.slice (some ⟨w.heap.size, 0, none⟩) 0 0) [] := OwnP.empty (Nat.le_refl _) (Blk.new w #[] 38)
  clear hs hz
  go_enter Try.func62, Try.ntmps62
  go_wp2_with fail
  generalize hW0 : w.alloc _ = W0 at *
  clear hW0
  go_loopw [5, 6] (fun v i wr => ∃ (n : Nat) (A : Option Addr) (c : Nat), n ≤ z.length ∧ i = .int .i64 n ∧ v = .slice A (movH s z n).length c ∧ OwnP 38 wr w.heap.size (.slice A (movH s z n).length c) (movH s z n) ∧ Below w.heap.size w wr) (fun _ i _ => z.length - (intOf i).toNat)
  case atStart => exact ⟨0, _, _, by omega, rfl, rfl, hO0, hb0⟩
  case round =>
    clear hO0 hb0
    obtain ⟨n, A, c, hn, rfl, rfl, hO, hbe⟩ := hrel
    by_cases hlt : n < z.length
    · have hlt' : (n : Int) < (z.length : Int) := by omega
      have HE0 := Lib.hid (movI_zero s z n)
      have HE1 := Lib.hid (movI_all s z n)
      rw [← movI_zero] at hO
      rw [show (movH s z n).length = (movI s z n 0).length by rw [HE0.out]]
      have hI : OwnP 38 wr w.heap.size (.slice A (movI s z n 0).length c) (movI s z n 0) := hO
      clear hO
      go_wp2_with fail
      generalize hwa : wr = wa at *
      clear hwa
      go_loopw [5, 7] (fun v i wr => ∃ (k : Nat) (A : Option Addr) (c : Nat), k ≤ s.length ∧ i = .int .i64 k ∧ v = .slice A (movI s z n k).length c ∧ OwnP 38 wr w.heap.size (.slice A (movI s z n k).length c) (movI s z n k) ∧ Below w.heap.size w wr) (fun _ i _ => s.length - (intOf i).toNat)
      case atStart => exact ⟨0, _, _, by omega, rfl, rfl, hI, hbe⟩
      case round =>
        clear hI hbe
        obtain ⟨k, B, d, hk, rfl, rfl, hL, hbk⟩ := hrel
        have hol := movI_len (z := z) hsl (show n < 4 by omega) hk
        have hsz := hbk.size
        by_cases hlk : k < s.length
        · obtain ⟨b, rfl⟩ := hV.some (by omega)
          obtain ⟨b2, rfl⟩ := hU.some (by omega)
          have hlk' : (k : Int) < (s.length : Int) := by omega
          have hk0 : (0 : Int) ≤ (k : Int) := by omega
          have hn0 : (0 : Int) ≤ (n : Int) := by omega
          obtain ⟨hBb, c0⟩ := (hV.below hbk).at hlk
          obtain ⟨hBu, c1⟩ := (hU.below hbk).at hlt
          have zb : b < wr.heap.size := by omega
          have zb2 : b2 < wr.heap.size := by omega
          have HL := Lib.hid hL
          have HK := Lib.hid hbk
          rcases ltge (iAt z n) (iAt s k) with hle | hle
          · have HE := Lib.hid (movI_no (s := s) (z := z) (i := n) (k := k) (by omega))
            have d1 : decide (iAt s k ≤ iAt z n) = false := decide_eq_false (by omega)
            clear hL hbk hle
            go_wp2_with fail
            refine wp_region_below (W := wr) (by kernel_rfl) (by kernel_rfl) (Below.refl _ _) ?_
            repeat (first
              | (refine qs_skip (by rfl) ?_; simp only [Act.put, List.setIfInBounds_toArray, List.set_cons_zero, List.set_cons_succ])
              | (apply qs_take
                 focus rfl
                 focus (
                   intro wq hwq
                   obtain ⟨hcq, hfq⟩ := bcell hwq
                   go_simp
                   all_goals first
                     | exact rfl
                     | (exact ⟨trivial, rfl⟩))
                 simp only [Act.put, List.setIfInBounds_toArray, List.set_cons_zero, List.set_cons_succ]))
            refine wpQuiet_nil ?_
            intro wq hwq
            have hL := HL.out.below hwq
            have hbk := HK.out.trans (hwq.mono hsz)
            go_wp2_with fail
            go_roundw
            case rel =>
              have R : k + 1 ≤ s.length ∧ Value.int .i64 ((k : Int) + 1) = .int .i64 ((k + 1 : Nat) : Int) ∧ Value.slice B (movI s z n k).length d = .slice B (movI s z n (k + 1)).length d ∧ OwnP 38 wq w.heap.size (.slice B (movI s z n (k + 1)).length d) (movI s z n (k + 1)) ∧ Below w.heap.size w wq := ⟨by omega, by go_num, by rw [HE.out], by rw [HE.out]; exact hL, hbk⟩
              first
                | exact ⟨k + 1, B, d, R⟩
                | ((repeat apply Exists.intro); exact ⟨⟨k + 1, B, d, R⟩, rfl⟩)
            case measure => simp [intOf]; omega
          · have HE := Lib.hid (movI_yes (s := s) (z := z) (i := n) (k := k) hle)
            have d1 : decide (iAt s k ≤ iAt z n) = true := decide_eq_true hle
            clear hL hbk hle
            go_wp2_with fail
            refine wp_region_below (W := wr) (by kernel_rfl) (by kernel_rfl) (Below.refl _ _) ?_
            repeat (first
              | (refine qs_skip (by rfl) ?_; simp only [Act.put, List.setIfInBounds_toArray, List.set_cons_zero, List.set_cons_succ])
              | (apply qs_take
                 focus rfl
                 focus (
                   intro wq hwq
                   obtain ⟨hcq, hfq⟩ := bcell hwq
                   go_simp
                   all_goals first
                     | exact rfl
                     | (exact ⟨trivial, rfl⟩))
                 simp only [Act.put, List.setIfInBounds_toArray, List.set_cons_zero, List.set_cons_succ]))
            refine wpQuiet_nil ?_
            intro wq hwq
            have hL := HL.out.below hwq
            have hbk := HK.out.trans (hwq.mono hsz)
            have hsq := hbk.size
            obtain ⟨_, c0⟩ := (hV.below hbk).at hlk
            have HLq := Lib.hid hL
            have HKq := Lib.hid hbk
            have hmax : (movI s z n k).length + 1 ≤ maxLen := by unfold maxLen; omega
            clear hwq hL hbk d1 hsz
            go_wp2_with (at_builtin; refine wpList_append_own _ rfl _ _ 35 rfl (w.heap.size) 38 j0 (.agg #[.int .i64 0, .int .i64 0]) 2 16 Try.underlying35 hj hy0 hy1 hy2 rfl (by decide) _ _ _ rfl (OwnP.alloc HLq.out _) ⟨wq.heap.size, 0, none⟩ 1 1 [.int .i64 ((n : Int)), .int .i64 (iAt s k)] rfl rfl (news2 (Blk.new wq #[.int .i64 ((n : Int)), .int .i64 (iAt s k)] 38)) one2 hmax (by omega) (by simp; omega) ?_; intro v' w7 hown' hgrow' hnil'; obtain ⟨B7, d7, rfl, hO7, hb7⟩ := app_afterP HLq.out HE.out hown' hgrow' (by omega); clear hown' hgrow' hnil')
            have hb7 := HKq.out.trans hb7
            go_roundw
            case rel =>
              have R : k + 1 ≤ s.length ∧ Value.int .i64 ((k : Int) + 1) = .int .i64 ((k + 1 : Nat) : Int) ∧ Value.slice B7 (movI s z n (k + 1)).length d7 = .slice B7 (movI s z n (k + 1)).length d7 ∧ OwnP 38 w7 w.heap.size (.slice B7 (movI s z n (k + 1)).length d7) (movI s z n (k + 1)) ∧ Below w.heap.size w w7 := ⟨by omega, by go_num, rfl, hO7, hb7⟩
              first
                | exact ⟨k + 1, B7, d7, R⟩
                | ((repeat apply Exists.intro); exact ⟨⟨k + 1, B7, d7, R⟩, rfl⟩)
            case measure => simp [intOf]; omega
        · obtain rfl : k = s.length := by omega
          rw [HE1.out] at hL
          rw [show (movI s z n s.length).length = (movH s z (n + 1)).length by rw [HE1.out]]
          clear hol
          go_wp2_with fail
          go_roundw
          case rel =>
            have R : n + 1 ≤ z.length ∧ Value.int .i64 ((n : Int) + 1) = .int .i64 ((n + 1 : Nat) : Int) ∧ Value.slice B (movH s z (n + 1)).length d = .slice B (movH s z (n + 1)).length d ∧ OwnP 38 wr w.heap.size (.slice B (movH s z (n + 1)).length d) (movH s z (n + 1)) ∧ Below w.heap.size w wr := ⟨by omega, by go_num, rfl, hL, hbk⟩
            first
              | exact ⟨n + 1, B, d, R⟩
              | ((repeat apply Exists.intro); exact ⟨⟨n + 1, B, d, R⟩, rfl⟩)
          case measure => simp [intOf]; omega
    · obtain rfl : n = z.length := by omega
      go_wp2_with fail
      go_ret
      exact pairNew_of hO hbe
theorem movesV_no {s z : List Int} (h : (setB s && heapsB z) = false) : movesV s z = [] := if_neg (by rw [h]; decide)
theorem movesV_yes {s z : List Int} (h : setB s = true) (hz : heapsB z = true) : movesV s z = movH s z z.length := if_pos (by rw [h, hz]; rfl)
theorem specHeapsMoves_any (V : Option Addr) (cv : Nat) (s : List Int) (U : Option Addr) (cu : Nat) (z : List Int) (w : World) (hV : IsInts w w.heap.size V s) (hU : IsInts w w.heap.size U z) (hs : s.length ≤ 1048576) (hz : z.length ≤ 1048576) :
    Calls Try.prog 25 #[.slice V s.length cv, .slice U z.length cu] w fun e w' => PairNew 38 w w' (movesV s z) e := by
  cases hb : setB s
  · have HS := Lib.hid hb
    have HN := Lib.hid (movesV_no (s := s) (z := z) (by rw [hb]; rfl))
    clear hb
    go_enter Try.func25, Try.ntmps25
    go_wp2_with (go_at_call 55; refine (l18Ok_any _ _ _ _ hV hs).mono ?_; rw [HS.out]; rintro e w' ⟨rfl, hb⟩)
    go_ret
    rw [HN.out]
    exact pairNew_of (l := []) (OwnP.nil _ _ _) hb
  · have HS := Lib.hid hb
    cases hh : heapsB z
    · have HH := Lib.hid hh
      have HN := Lib.hid (movesV_no (s := s) (z := z) (by rw [hh, Bool.and_false]))
      clear hb hh
      go_enter Try.func25, Try.ntmps25
      go_wp2_with (first | (go_at_call 55; refine (l18Ok_any _ _ _ _ hV hs).mono ?_; rw [HS.out]; rintro e w' ⟨rfl, hb⟩) | (go_at_call 60; refine (l18Heaps_any _ _ _ _ ((hU.below hb).more hb.size) hz).mono ?_; rw [HH.out]; rintro e w2 ⟨rfl, rfl⟩))
      go_ret
      rw [HN.out]
      exact pairNew_of (l := []) (OwnP.nil _ _ _) hb
    · have HH := Lib.hid hh
      have HN := Lib.hid (movesV_yes hb hh)
      clear hb hh
      go_enter Try.func25, Try.ntmps25
      go_wp2_with (first | (go_at_call 55; refine (l18Ok_any _ _ _ _ hV hs).mono ?_; rw [HS.out]; rintro e w' ⟨rfl, hb⟩) | (go_at_call 60; refine (l18Heaps_any _ _ _ _ ((hU.below hb).more hb.size) hz).mono ?_; rw [HH.out]; rintro e w2 ⟨rfl, rfl⟩) | (go_at_call 62; refine (l18Moves_any _ _ _ _ _ _ _ ((hV.below hb).more hb.size) ((hU.below hb).more hb.size) HS.out HH.out).mono ?_; rintro e w3 ⟨A, c, rfl, hN, hb3⟩))
      go_ret
      rw [HN.out]
      exact PairNew.after ⟨A, c, rfl, hN, hb3⟩ hb
set_option maxHeartbeats 8000000 in
theorem heapsMoves_any (V : Option Addr) (cv : Nat) (s : List Int) (U : Option Addr) (cu : Nat) (z : List Int) (w : World) (hV : IsInts w w.heap.size V s) (hU : IsInts w w.heap.size U z) (hs : s.length ≤ 1048576) (hz : z.length ≤ 1048576) :
    Calls Try.prog 24 #[.slice V s.length cv, .slice U z.length cu] w fun e w' => PairNew 38 w w' (movesV s z) e := by
  obtain ⟨j0, hj, hy0, hy1, hy2⟩ := info_parts infoTake
  cases hb : (setB s && heapsB z)
  · have HH := Lib.hid hb
    have HN := Lib.hid (movesV_no hb)
    clear hb
    go_enter Try.func24, Try.ntmps24
    go_wp2_with (go_at_call 59; refine (heapsOk_any _ _ _ _ _ _ _ hV hU hs hz).mono ?_; rw [HH.out]; rintro e w2 ⟨rfl, rfl⟩)
    go_ret
    rw [HN.out]
    exact pairNew_of (l := []) (OwnP.nil _ _ _) (Below.refl _ _)
  · have HH := Lib.hid hb
    rw [Bool.and_eq_true] at hb
    obtain ⟨h1, h2⟩ := hb
    have HN := Lib.hid (movesV_yes h1 h2)
    have hsl := (setB_len h1).2
    have hzl := heapsB_len h2
    have hO0 : OwnP 38 w w.heap.size (.slice none 0 0) (movH s z 0) := OwnP.nil _ _ _
    clear h1 h2
    go_enter Try.func24, Try.ntmps24
    go_wp2_with (go_at_call 59; refine (heapsOk_any _ _ _ _ _ _ _ hV hU hs hz).mono ?_; rw [HH.out]; rintro e w2 ⟨rfl, rfl⟩)
    go_loopw [5, 16] (fun v i wr => ∃ (n : Nat) (A : Option Addr) (c : Nat), n ≤ z.length ∧ i = .int .i64 n ∧ v = .slice A (movH s z n).length c ∧ OwnP 38 wr w.heap.size (.slice A (movH s z n).length c) (movH s z n) ∧ Below w.heap.size w wr) (fun _ i _ => z.length - (intOf i).toNat)
    case atStart => exact ⟨0, _, _, by omega, rfl, rfl, hO0, Below.refl _ _⟩
    case round =>
      clear hO0
      obtain ⟨n, A, c, hn, rfl, rfl, hO, hbe⟩ := hrel
      by_cases hlt : n < z.length
      · have hlt' : (n : Int) < (z.length : Int) := by omega
        obtain ⟨b2, rfl⟩ := hU.some (by omega)
        obtain ⟨hBu, c1⟩ := (hU.below hbe).at hlt
        have HE0 := Lib.hid (movI_zero s z n)
        have HE1 := Lib.hid (movI_all s z n)
        rw [← movI_zero] at hO
        rw [show (movH s z n).length = (movI s z n 0).length by rw [HE0.out]]
        have hI : OwnP 38 wr w.heap.size (.slice A (movI s z n 0).length c) (movI s z n 0) := hO
        clear hO
        go_wp2_with fail
        generalize hwa : wr = wa at *
        clear hwa
        go_loopw [5, 23] (fun v i wr => ∃ (k : Nat) (A : Option Addr) (c : Nat), k ≤ s.length ∧ i = .int .i64 k ∧ v = .slice A (movI s z n k).length c ∧ OwnP 38 wr w.heap.size (.slice A (movI s z n k).length c) (movI s z n k) ∧ Below w.heap.size w wr) (fun _ i _ => s.length - (intOf i).toNat)
        case atStart => exact ⟨0, _, _, by omega, rfl, rfl, hI, hbe⟩
        case round =>
          clear hI hbe c1
          obtain ⟨k, B, d, hk, rfl, rfl, hL, hbk⟩ := hrel
          have hol := movI_len (z := z) hsl (show n < 4 by omega) hk
          have hsz := hbk.size
          by_cases hlk : k < s.length
          · obtain ⟨b, rfl⟩ := hV.some (by omega)
            have hlk' : (k : Int) < (s.length : Int) := by omega
            obtain ⟨hBb, c0⟩ := (hV.below hbk).at hlk
            rcases ltge (iAt z n) (iAt s k) with hle | hle
            · have HE := Lib.hid (movI_no (s := s) (z := z) (i := n) (k := k) (by omega))
              have d1 : decide (iAt s k ≤ iAt z n) = false := decide_eq_false (by omega)
              clear hle
              go_wp2_with fail
              go_roundw
              case rel =>
                have R : k + 1 ≤ s.length ∧ Value.int .i64 ((k : Int) + 1) = .int .i64 ((k + 1 : Nat) : Int) ∧ Value.slice B (movI s z n k).length d = .slice B (movI s z n (k + 1)).length d ∧ OwnP 38 wr w.heap.size (.slice B (movI s z n (k + 1)).length d) (movI s z n (k + 1)) ∧ Below w.heap.size w wr := ⟨by omega, by go_num, by rw [HE.out], by rw [HE.out]; exact hL, hbk⟩
                first
                  | exact ⟨k + 1, B, d, R⟩
                  | ((repeat apply Exists.intro); exact ⟨⟨k + 1, B, d, R⟩, rfl⟩)
              case measure => simp [intOf]; omega
            · have HE := Lib.hid (movI_yes (s := s) (z := z) (i := n) (k := k) hle)
              have d1 : decide (iAt s k ≤ iAt z n) = true := decide_eq_true hle
              have HL := Lib.hid hL
              have HK := Lib.hid hbk
              have hmax : (movI s z n k).length + 1 ≤ maxLen := by unfold maxLen; omega
              clear hL hbk hle
              go_wp2_with (at_builtin; refine wpList_append_own _ rfl _ _ 35 rfl (w.heap.size) 38 j0 (.agg #[.int .i64 0, .int .i64 0]) 2 16 Try.underlying35 hj hy0 hy1 hy2 rfl (by decide) _ _ _ rfl (OwnP.alloc HL.out _) ⟨wr.heap.size, 0, none⟩ 1 1 [.int .i64 ((n : Int)), .int .i64 (iAt s k)] rfl rfl (news2 (Blk.new wr #[.int .i64 ((n : Int)), .int .i64 (iAt s k)] 38)) one2 hmax (by omega) (by simp; omega) ?_; intro v' w7 hown' hgrow' hnil'; obtain ⟨B7, d7, rfl, hO7, hb7⟩ := app_afterP HL.out HE.out hown' hgrow' (by omega); clear hown' hgrow' hnil')
              have hb7 := HK.out.trans hb7
              go_roundw
              case rel =>
                have R : k + 1 ≤ s.length ∧ Value.int .i64 ((k : Int) + 1) = .int .i64 ((k + 1 : Nat) : Int) ∧ Value.slice B7 (movI s z n (k + 1)).length d7 = .slice B7 (movI s z n (k + 1)).length d7 ∧ OwnP 38 w7 w.heap.size (.slice B7 (movI s z n (k + 1)).length d7) (movI s z n (k + 1)) ∧ Below w.heap.size w w7 := ⟨by omega, by go_num, rfl, hO7, hb7⟩
                first
                  | exact ⟨k + 1, B7, d7, R⟩
                  | ((repeat apply Exists.intro); exact ⟨⟨k + 1, B7, d7, R⟩, rfl⟩)
              case measure => simp [intOf]; omega
          · obtain rfl : k = s.length := by omega
            rw [HE1.out] at hL
            rw [show (movI s z n s.length).length = (movH s z (n + 1)).length by rw [HE1.out]]
            clear hol
            go_wp2_with fail
            go_roundw
            case rel =>
              have R : n + 1 ≤ z.length ∧ Value.int .i64 ((n : Int) + 1) = .int .i64 ((n + 1 : Nat) : Int) ∧ Value.slice B (movH s z (n + 1)).length d = .slice B (movH s z (n + 1)).length d ∧ OwnP 38 wr w.heap.size (.slice B (movH s z (n + 1)).length d) (movH s z (n + 1)) ∧ Below w.heap.size w wr := ⟨by omega, by go_num, rfl, hL, hbk⟩
              first
                | exact ⟨n + 1, B, d, R⟩
                | ((repeat apply Exists.intro); exact ⟨⟨n + 1, B, d, R⟩, rfl⟩)
            case measure => simp [intOf]; omega
      · obtain rfl : n = z.length := by omega
        go_wp2_with fail
        go_ret
        rw [HN.out]
        exact pairNew_of hO hbe
end Go.Proofs.Ytjanalljaacnoaa.Ko
