/- Heaps: whether they are valid; their values together; by the model and by the program. -/
import Derived.Test.YtjanalljaacnoaaKd
namespace Go.Proofs.Ytjanalljaacnoaa.Ko
open Go.ChangeShapes Go.WideShapes Go.ChangeAt Go.RowKit Base Sq In
set_option linter.unusedVariables false
set_option maxRecDepth 20000
attribute [local irreducible] wpQuiet

def heapAt (z : List Int) (i : Nat) : Bool := inB (iAt z i) 0 60
theorem heapsB_bad {z : List Int} {k : Nat} (hk : k < z.length) (h : heapAt z k = false) : heapsB z = false := by
  have : (List.range z.length).all (fun i => decide (0 ≤ iAt z i ∧ iAt z i ≤ 60)) = false := by rw [List.all_eq_false]; exact ⟨k, by simpa using hk, by unfold heapAt inB at h; rw [h]; decide⟩
  unfold heapsB; rw [this]; rfl
theorem heapsB_end {z : List Int} (h : ∀ j, j < z.length → heapAt z j = true) : heapsB z = decide (z.length ≤ 4) := by
  have : (List.range z.length).all (fun i => decide (0 ≤ iAt z i ∧ iAt z i ≤ 60)) = true := by rw [List.all_eq_true]; intro j hj; have := h j (by simpa using hj); unfold heapAt inB at this; exact this
  unfold heapsB; rw [this]; rfl
theorem heapsB_many {z : List Int} (h : ¬ z.length ≤ 4) : heapsB z = false := by
  unfold heapsB; rw [decide_eq_false h, Bool.and_false]
theorem heapsB_in {z : List Int} (h : heapsB z = true) {k : Nat} (hk : k < z.length) : 0 ≤ iAt z k ∧ iAt z k ≤ 60 := by
  unfold heapsB at h; rw [Bool.and_eq_true, List.all_eq_true] at h
  exact of_decide_eq_true (h.1 k (by simpa using hk))
theorem heapsB_len {z : List Int} (h : heapsB z = true) : z.length ≤ 4 := by
  unfold heapsB at h; rw [Bool.and_eq_true] at h; exact of_decide_eq_true h.2
theorem heapsOk_any (V : Option Addr) (cv : Nat) (s : List Int) (U : Option Addr) (cu : Nat) (z : List Int) (w : World) (hV : IsInts w w.heap.size V s) (hU : IsInts w w.heap.size U z) (hs : s.length ≤ 1048576) (hz : z.length ≤ 1048576) :
    Calls Try.prog 59 #[.slice V s.length cv, .slice U z.length cu] w fun e w' => e = .returned (.bool (setB s && heapsB z)) ∧ w = w' := by
  cases hb : setB s
  · have HS := Lib.hid hb
    clear hb
    go_enter Try.func59, Try.ntmps59
    go_wp2_with (go_at_call 17; refine (takeOk_any _ _ _ _ hV hs).mono ?_; rw [HS.out]; rintro e w' ⟨rfl, rfl⟩)
    go_ret
    exact ⟨rfl, rfl⟩
  · have HS := Lib.hid hb
    clear hb
    by_cases h4 : (4 : Int) < (z.length : Int)
    · have HN := Lib.hid (heapsB_many (z := z) (by omega))
      go_enter Try.func59, Try.ntmps59
      go_wp2_with (go_at_call 17; refine (takeOk_any _ _ _ _ hV hs).mono ?_; rw [HS.out]; rintro e w' ⟨rfl, rfl⟩)
      go_ret
      exact ⟨rb (by rw [HN.out]; rfl), rfl⟩
    · have h4' : (z.length : Int) ≤ 4 := by omega
      have hd4 : decide ((4 : Int) < (z.length : Int)) = false := decide_eq_false h4
      have HE := Lib.hid (show decide (z.length ≤ 4) = true from decide_eq_true (by omega))
      clear h4
      go_enter Try.func59, Try.ntmps59
      go_wp2_with (go_at_call 17; refine (takeOk_any _ _ _ _ hV hs).mono ?_; rw [HS.out]; rintro e w' ⟨rfl, rfl⟩)
      clear hd4
      go_loopw [17] (fun i wr => ∃ k : Nat, k ≤ z.length ∧ i = .int .i64 k ∧ Hid (∀ j, j < k → heapAt z j = true) ∧ w = wr) (fun i _ => z.length - (intOf i).toNat)
      case atStart => exact ⟨0, by omega, rfl, Lib.hid (fun j hj => absurd hj (by omega)), rfl⟩
      case round =>
        obtain ⟨k, hk, rfl, hg, rfl⟩ := hrel
        by_cases hlt : k < z.length
        · obtain ⟨b, rfl⟩ := hU.some (by omega)
          have hlt' : (k : Int) < (z.length : Int) := by omega
          obtain ⟨hBb, c0⟩ := hU.at hlt
          cases hh : inB (iAt z k) 0 60
          · have HH := Lib.hid hh
            have HB := Lib.hid (heapsB_bad hlt hh)
            clear hh
            go_wp2_with (go_at_call 52; refine (heapOk_any _ _).mono ?_; rw [HH.out]; rintro e w' ⟨rfl, rfl⟩)
            go_ret
            exact ⟨rb (by rw [HB.out]; rfl), rfl⟩
          · have HH := Lib.hid hh
            clear hh
            go_wp2_with (go_at_call 52; refine (heapOk_any _ _).mono ?_; rw [HH.out]; rintro e w' ⟨rfl, rfl⟩)
            go_roundw
            case rel => exact ⟨k + 1, by omega, by go_num, Lib.hid (all_succ hg.out HH.out), by first | rfl | trivial⟩
            case measure => simp [intOf]; omega
        · obtain rfl : k = z.length := by omega
          go_wp2_with fail
          go_ret
          exact ⟨rb (by rw [heapsB_end hg.out, HE.out]; rfl), rfl⟩
theorem l18Heaps_any (U : Option Addr) (cu : Nat) (z : List Int) (w : World) (hU : IsInts w w.heap.size U z) (hz : z.length ≤ 1048576) :
    Calls Try.prog 60 #[.slice U z.length cu] w fun e w' => e = .returned (.bool (heapsB z)) ∧ w = w' := by
  go_enter Try.func60, Try.ntmps60
  go_wp2_with fail
  go_loopw [3] (fun i wr => ∃ k : Nat, k ≤ z.length ∧ i = .int .i64 k ∧ Hid (∀ j, j < k → heapAt z j = true) ∧ w = wr) (fun i _ => z.length - (intOf i).toNat)
  case atStart => exact ⟨0, by omega, rfl, Lib.hid (fun j hj => absurd hj (by omega)), rfl⟩
  case round =>
    obtain ⟨k, hk, rfl, hg, rfl⟩ := hrel
    by_cases hlt : k < z.length
    · obtain ⟨b, rfl⟩ := hU.some (by omega)
      have hlt' : (k : Int) < (z.length : Int) := by omega
      obtain ⟨hBb, c0⟩ := hU.at hlt
      cases hb : inB (iAt z k) 0 60
      · have E1 := Lib.hid hb
        have HB := Lib.hid (heapsB_bad hlt hb)
        clear hb
        go_wp2_with (go_at_call 56; refine (in_any _ _ _ _).mono ?_; rw [E1.out]; rintro e w' ⟨rfl, rfl⟩)
        go_ret
        exact ⟨rb (by rw [HB.out]), rfl⟩
      · have E1 := Lib.hid hb
        clear hb
        go_wp2_with (go_at_call 56; refine (in_any _ _ _ _).mono ?_; rw [E1.out]; rintro e w' ⟨rfl, rfl⟩)
        go_roundw
        case rel => exact ⟨k + 1, by omega, by go_num, Lib.hid (all_succ hg.out E1.out), by first | rfl | trivial⟩
        case measure => simp [intOf]; omega
    · obtain rfl : k = z.length := by omega
      have HE := Lib.hid (heapsB_end hg.out)
      clear hg
      go_wp2_with fail
      go_ret
      exact ⟨rb (by rw [HE.out, Bool.eq_iff_iff]; simp; omega), rfl⟩
theorem gru_at {s z : List Int} (hs : setB s = true) (hz : heapsB z = true) {k : Nat} (hk : k < z.length) : 0 ≤ iAt (gruV s 61) (iAt z k).toNat ∧ iAt (gruV s 61) (iAt z k).toNat < 2 ^ 3 := by
  have h1 := heapsB_in hz hk
  have h2 := gruV_bd (s := s) (n := 61) (i := (iAt z k).toNat) (by omega)
  have h3 := setB_len hs
  omega
theorem heapsK_bd {s z : List Int} (hs : setB s = true) (hz : heapsB z = true) {k : Nat} (hk : k ≤ z.length) : 0 ≤ heapsK s z k ∧ heapsK s z k < 2 ^ 3 := by
  induction k with
  | zero => exact ⟨Int.le_refl _, show (0 : Int) < 2 ^ 3 by omega⟩
  | succ k ih => exact xorV_lt (ih (by omega)) (gru_at hs hz (by omega))
theorem heapsV_yes {s z : List Int} (h : setB s = true) (hz : heapsB z = true) : heapsV s z = heapsK s z z.length := if_pos ⟨h, hz⟩
theorem heapsV_no {s z : List Int} (h : (setB s && heapsB z) = false) : heapsV s z = -1 := if_neg (fun ⟨a, b⟩ => by rw [a, b] at h; cases h)
set_option maxHeartbeats 1000000 in
theorem l18Sum_any (V : Option Addr) (cv : Nat) (s : List Int) (U : Option Addr) (cu : Nat) (z : List Int) (w : World) (hV : IsInts w w.heap.size V s) (hU : IsInts w w.heap.size U z) (hs : setB s = true) (hz : heapsB z = true) :
    Calls Try.prog 61 #[.slice V s.length cv, .slice U z.length cu] w fun e w' => e = .returned (.int .i64 (heapsK s z z.length)) ∧ Below w.heap.size w w' := by
  have HS := Lib.hid hs
  have HZ := Lib.hid hz
  have hzl := heapsB_len hz
  clear hs hz
  go_enter Try.func61, Try.ntmps61
  go_wp2_with (go_at_call 57; refine (l18All_any _ _ _ 60 _ hV HS.out (by omega)).mono ?_; rw [show gruV s (60 + 1) = gruV s 61 from rfl]; rintro e w1 ⟨A, c, rfl, hN, hb1⟩)
  have HN := Lib.hid hN.is
  have HGL := Lib.hid (gruV_len s 61)
  clear hN
  have hsz := hb1.size
  go_loopw [6, 7] (fun v i wr => ∃ k : Nat, k ≤ z.length ∧ i = .int .i64 k ∧ v = .int .i64 (heapsK s z k) ∧ Below w1.heap.size w1 wr) (fun _ i _ => z.length - (intOf i).toNat)
  case atStart => exact ⟨0, by omega, rfl, rfl, Below.refl _ _⟩
  case round =>
    obtain ⟨k, hk, rfl, rfl, hbe⟩ := hrel
    have hbw := hb1.trans (hbe.mono hsz)
    by_cases hlt : k < z.length
    · obtain ⟨b, rfl⟩ := hU.some (by omega)
      have hlt' : (k : Int) < (z.length : Int) := by omega
      obtain ⟨hBb, c0⟩ := (hU.below hbw).at hlt
      obtain ⟨r1, r2⟩ := heapsB_in HZ.out hlt
      obtain ⟨g, rfl⟩ := HN.out.some (by have := HGL.out; omega)
      obtain ⟨hgB, c1⟩ := (HN.out.below hbe).at (i := (iAt z k).toNat) (by have := HGL.out; omega)
      have q2 : iAt z k < ((gruV s 61).length : Int) := by have := HGL.out; omega
      have e1 := gru_at HS.out HZ.out hlt
      have e2 := heapsK_bd HS.out HZ.out (Nat.le_of_lt hlt)
      have hx : bits .xor .i64 (heapsK s z k) (iAt (gruV s 61) (iAt z k).toNat) = heapsK s z (k + 1) := bits_xor (by omega) (by omega)
      have HE := Lib.hid (show heapsK s z (k + 1) = heapsK s z (k + 1) from rfl)
      clear e1 e2 hbw
      go_wp2_with fail
      go_roundw
      case rel => exact ⟨k + 1, by omega, by go_num, by first | rfl | rw [hx], hbe⟩
      case measure => simp [intOf]; omega
    · obtain rfl : k = z.length := by omega
      go_wp2_with fail
      go_ret
      exact ⟨rfl, hbw⟩
theorem specHeapsVal_any (V : Option Addr) (cv : Nat) (s : List Int) (U : Option Addr) (cu : Nat) (z : List Int) (w : World) (hV : IsInts w w.heap.size V s) (hU : IsInts w w.heap.size U z) (hs : s.length ≤ 1048576) (hz : z.length ≤ 1048576) :
    Calls Try.prog 22 #[.slice V s.length cv, .slice U z.length cu] w fun e w' => e = .returned (.int .i64 (heapsV s z)) ∧ Below w.heap.size w w' := by
  cases hb : setB s
  · have HS := Lib.hid hb
    have HN := Lib.hid (heapsV_no (s := s) (z := z) (by rw [hb]; rfl))
    clear hb
    go_enter Try.func22, Try.ntmps22
    go_wp2_with (go_at_call 55; refine (l18Ok_any _ _ _ _ hV hs).mono ?_; rw [HS.out]; rintro e w' ⟨rfl, hb⟩)
    go_ret
    exact ⟨ri HN.out.symm, hb⟩
  · have HS := Lib.hid hb
    cases hh : heapsB z
    · have HH := Lib.hid hh
      have HN := Lib.hid (heapsV_no (s := s) (z := z) (by rw [hh, Bool.and_false]))
      clear hb hh
      go_enter Try.func22, Try.ntmps22
      go_wp2_with (first | (go_at_call 55; refine (l18Ok_any _ _ _ _ hV hs).mono ?_; rw [HS.out]; rintro e w' ⟨rfl, hb⟩) | (go_at_call 60; refine (l18Heaps_any _ _ _ _ ((hU.below hb).more hb.size) hz).mono ?_; rw [HH.out]; rintro e w2 ⟨rfl, rfl⟩))
      go_ret
      exact ⟨ri HN.out.symm, hb⟩
    · have HH := Lib.hid hh
      have HN := Lib.hid (heapsV_yes hb hh)
      clear hb hh
      go_enter Try.func22, Try.ntmps22
      go_wp2_with (first | (go_at_call 55; refine (l18Ok_any _ _ _ _ hV hs).mono ?_; rw [HS.out]; rintro e w' ⟨rfl, hb⟩) | (go_at_call 60; refine (l18Heaps_any _ _ _ _ ((hU.below hb).more hb.size) hz).mono ?_; rw [HH.out]; rintro e w2 ⟨rfl, rfl⟩) | (go_at_call 61; refine (l18Sum_any _ _ _ _ _ _ _ ((hV.below hb).more hb.size) ((hU.below hb).more hb.size) HS.out HH.out).mono ?_; rintro e w3 ⟨rfl, hb3⟩))
      go_ret
      exact ⟨ri HN.out.symm, hb.trans (hb3.mono hb.size)⟩
set_option maxHeartbeats 1000000 in
theorem heapsVal_any (V : Option Addr) (cv : Nat) (s : List Int) (U : Option Addr) (cu : Nat) (z : List Int) (w : World) (hV : IsInts w w.heap.size V s) (hU : IsInts w w.heap.size U z) (hs : s.length ≤ 1048576) (hz : z.length ≤ 1048576) :
    Calls Try.prog 21 #[.slice V s.length cv, .slice U z.length cu] w fun e w' => e = .returned (.int .i64 (heapsV s z)) ∧ Below w.heap.size w w' := by
  cases hb : (setB s && heapsB z)
  · have HH := Lib.hid hb
    have HN := Lib.hid (heapsV_no hb)
    clear hb
    go_enter Try.func21, Try.ntmps21
    go_wp2_with (go_at_call 59; refine (heapsOk_any _ _ _ _ _ _ _ hV hU hs hz).mono ?_; rw [HH.out]; rintro e w2 ⟨rfl, rfl⟩)
    go_ret
    exact ⟨ri HN.out.symm, Below.refl _ _⟩
  · have HH := Lib.hid hb
    rw [Bool.and_eq_true] at hb
    obtain ⟨h1, h2⟩ := hb
    have HS := Lib.hid h1
    have HZ := Lib.hid h2
    have HN := Lib.hid (heapsV_yes h1 h2)
    have HT := Lib.hid (takeV_yes (m := 60) h1 (by omega))
    have hzl := heapsB_len h2
    clear h1 h2
    go_enter Try.func21, Try.ntmps21
    go_wp2_with (first | (go_at_call 59; refine (heapsOk_any _ _ _ _ _ _ _ hV hU hs hz).mono ?_; rw [HH.out]; rintro e w2 ⟨rfl, rfl⟩) | (go_at_call 14; refine (takeAll_any _ _ _ _ _ hV hs).mono ?_; rw [show takeV s 60 = gruV s 61 from HT.out]; rintro e w1 ⟨A, c, rfl, hN, hb1⟩))
    have HI := Lib.hid hN.is
    have HGL := Lib.hid (gruV_len s 61)
    clear hN
    have hsz := hb1.size
    go_loopw [6, 17] (fun v i wr => ∃ k : Nat, k ≤ z.length ∧ i = .int .i64 k ∧ v = .int .i64 (heapsK s z k) ∧ w1 = wr) (fun _ i _ => z.length - (intOf i).toNat)
    case atStart => exact ⟨0, by omega, rfl, rfl, rfl⟩
    case round =>
      obtain ⟨k, hk, rfl, rfl, rfl⟩ := hrel
      by_cases hlt : k < z.length
      · obtain ⟨b, rfl⟩ := hU.some (by omega)
        have hlt' : (k : Int) < (z.length : Int) := by omega
        obtain ⟨hBb, c0⟩ := (hU.below hb1).at hlt
        obtain ⟨r1, r2⟩ := heapsB_in HZ.out hlt
        obtain ⟨g, rfl⟩ := HI.out.some (by have := HGL.out; omega)
        obtain ⟨hgB, c1⟩ := HI.out.at (i := (iAt z k).toNat) (by have := HGL.out; omega)
        have q2 : iAt z k < ((gruV s 61).length : Int) := by have := HGL.out; omega
        have e1 := gru_at HS.out HZ.out hlt
        have e2 := heapsK_bd HS.out HZ.out (Nat.le_of_lt hlt)
        have hx : bits .xor .i64 (heapsK s z k) (iAt (gruV s 61) (iAt z k).toNat) = heapsK s z (k + 1) := bits_xor (by omega) (by omega)
        clear e1 e2
        go_wp2_with fail
        go_roundw
        case rel => exact ⟨k + 1, by omega, by go_num, by first | rfl | rw [hx], by first | rfl | trivial⟩
        case measure => simp [intOf]; omega
      · obtain rfl : k = z.length := by omega
        go_wp2_with fail
        go_ret
        exact ⟨ri HN.out.symm, hb1⟩
end Go.Proofs.Ytjanalljaacnoaa.Ko
