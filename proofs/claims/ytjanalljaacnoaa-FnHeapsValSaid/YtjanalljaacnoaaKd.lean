/- TakeAll: the model's whole, the program's. -/
import Derived.Test.YtjanalljaacnoaaKb
import Derived.Test.YtjanalljaacnoaaKc
namespace Go.Proofs.Ytjanalljaacnoaa.Ko
open Go.ChangeShapes Go.WideShapes Go.ChangeAt Go.RowKit Base Sq In
set_option linter.unusedVariables false
set_option maxRecDepth 20000
attribute [local irreducible] wpQuiet

theorem NewInts.low {lo lo' hi : Nat} {w : World} {A : Option Addr} {l : List Int} (h : NewInts lo hi w A l) (h1 : lo' ≤ lo) : NewInts lo' hi w A l := fun hn => by
  obtain ⟨b, cs, rfl, g1, g2, h3⟩ := h hn
  exact ⟨b, cs, rfl, by omega, g2, h3⟩
theorem LenNew.after {w w1 w' : World} {l : List Int} {e : Ending} (h : LenNew w1 w' l e) (hb : Below w.heap.size w w1) : LenNew w w' l e := by
  obtain ⟨A, c, he, hn, hb2⟩ := h
  exact ⟨A, c, he, hn.low hb.size, hb.trans (hb2.mono hb.size)⟩
theorem takeV_no {z : List Int} {q : Int} (h : ¬ (setB z = true ∧ 0 ≤ q ∧ q ≤ 60)) : takeV z q = [] := if_neg h
theorem takeV_yes {z : List Int} {m : Nat} (h : setB z = true) (hm : m ≤ 60) : takeV z m = gruV z (m + 1) := by
  unfold takeV; rw [if_pos ⟨h, by omega, by omega⟩, Int.toNat_natCast]
theorem inB_in {q lo hi : Int} (h : inB q lo hi = true) : lo ≤ q ∧ q ≤ hi := of_decide_eq_true h
theorem inB_out {q lo hi : Int} (h : inB q lo hi = false) : ¬ (lo ≤ q ∧ q ≤ hi) := of_decide_eq_false h
theorem specTakeAll_any (V : Option Addr) (cv : Nat) (z : List Int) (q : Int) (w : World) (hV : IsInts w w.heap.size V z) (hz : z.length ≤ 1048576) :
    Calls Try.prog 16 #[.slice V z.length cv, .int .i64 q] w fun e w' => LenNew w w' (takeV z q) e := by
  cases hs : setB z
  · have HS := Lib.hid hs
    have HN := Lib.hid (takeV_no (z := z) (q := q) (fun h => by rw [hs] at h; cases h.1))
    clear hs
    go_enter Try.func16, Try.ntmps16
    go_wp2_with (go_at_call 55; refine (l18Ok_any _ _ _ _ hV hz).mono ?_; rw [HS.out]; rintro e w' ⟨rfl, hb⟩)
    go_ret
    rw [HN.out]
    exact lenNew_of (l := []) (own_nil' _ _) hb
  · have HS := Lib.hid hs
    cases hq : inB q 0 60
    · have HQ := Lib.hid hq
      have HN := Lib.hid (takeV_no (z := z) (q := q) (fun h => inB_out hq h.2))
      clear hs hq
      go_enter Try.func16, Try.ntmps16
      go_wp2_with (first | (go_at_call 55; refine (l18Ok_any _ _ _ _ hV hz).mono ?_; rw [HS.out]; rintro e w' ⟨rfl, hb⟩) | (go_at_call 56; refine (in_any _ _ _ _).mono ?_; rw [HQ.out]; rintro e w2 ⟨rfl, rfl⟩))
      go_ret
      rw [HN.out]
      exact lenNew_of (l := []) (own_nil' _ _) hb
    · have HQ := Lib.hid hq
      obtain ⟨q1, q2⟩ := inB_in hq
      obtain ⟨m, rfl⟩ := Int.eq_ofNat_of_zero_le q1
      have hm : m ≤ 60 := by omega
      have HN := Lib.hid (takeV_yes hs hm)
      clear hs hq q1 q2
      go_enter Try.func16, Try.ntmps16
      go_wp2_with (first | (go_at_call 55; refine (l18Ok_any _ _ _ _ hV hz).mono ?_; rw [HS.out]; rintro e w' ⟨rfl, hb⟩) | (go_at_call 56; refine (in_any _ _ _ _).mono ?_; rw [HQ.out]; rintro e w2 ⟨rfl, rfl⟩) | (go_at_call 57; refine (l18All_any _ _ _ m _ ((hV.below hb).more hb.size) HS.out hm).mono ?_; rintro e w3 ⟨A, c, rfl, hN, hb3⟩))
      go_ret
      rw [HN.out]
      exact LenNew.after ⟨A, c, rfl, hN, hb3⟩ hb
theorem heapOk_any (q : Int) (w : World) : Calls Try.prog 52 #[.int .i64 q] w fun e w' => e = .returned (.bool (inB q 0 60)) ∧ w = w' := by
  rcases ltge q 0 with h | h
  · have HN := Lib.hid (show inB q 0 60 = false from decide_eq_false (by omega))
    have d1 : decide (0 ≤ q) = false := decide_eq_false (by omega)
    clear h
    go_enter Try.func52, Try.ntmps52
    go_wp2_with fail
    go_ret
    exact ⟨rb HN.out.symm, rfl⟩
  · rcases ltge 60 q with h2 | h2
    · have HN := Lib.hid (show inB q 0 60 = false from decide_eq_false (by omega))
      have d1 : decide (0 ≤ q) = true := decide_eq_true (by omega)
      have d2 : decide (q ≤ 60) = false := decide_eq_false (by omega)
      clear h h2
      go_enter Try.func52, Try.ntmps52
      go_wp2_with fail
      go_ret
      exact ⟨rb HN.out.symm, rfl⟩
    · have HN := Lib.hid (show inB q 0 60 = true from decide_eq_true (by omega))
      have d1 : decide (0 ≤ q) = true := decide_eq_true (by omega)
      have d2 : decide (q ≤ 60) = true := decide_eq_true (by omega)
      clear h h2
      go_enter Try.func52, Try.ntmps52
      go_wp2_with fail
      go_ret
      exact ⟨rb HN.out.symm, rfl⟩
theorem iAt_snoc (l : List Int) (x : Int) : iAt (l ++ [x]) l.length = x := by unfold iAt; simp [List.getD_eq_getElem?_getD]
theorem gruV_bd {s : List Int} {n i : Nat} (hi : i < n) : 0 ≤ iAt (gruV s n) i ∧ iAt (gruV s n) i ≤ s.length := by
  induction n with
  | zero => omega
  | succ n ih =>
    rw [show gruV s (n + 1) = gruV s n ++ [mexV (optK s (gruV s n) n s.length)] from rfl]
    rcases Nat.lt_succ_iff_lt_or_eq.1 hi with h | rfl
    · rw [iAt_append_left (by rw [gruV_len]; exact h)]; exact ih h
    · have e := iAt_snoc (gruV s i) (mexV (optK s (gruV s i) i s.length))
      rw [gruV_len] at e
      rw [e]
      have h1 := mexV_le (optK s (gruV s i) i s.length)
      have h2 := optK_len s (gruV s i) i s.length
      omega
/-- what a function that grundyVals calls gives: a set of numbers -/
def SetPost (w w' : World) (l : List Int) (e : Ending) : Prop := ∃ m, e = .returned (.map (some m)) ∧ IsSet w' m 2000 l ∧ Below w.heap.size w w'
set_option maxHeartbeats 2000000 in
theorem takeAfter_any (g : Nat) (V : Option Addr) (cv : Nat) (s : List Int) (A : Option Addr) (c : Nat) (l : List Int) (w : World) (hg : Blk w g #[.slice V s.length cv] 23) (hV : IsInts w w.heap.size V s) (hA : IsInts w w.heap.size A l) (hs : setB s = true) (hl : l.length ≤ 61) (hin : ∀ i, i < l.length → 0 ≤ iAt l i ∧ iAt l i ≤ 1000) :
    Calls Try.prog 54 #[.slice A l.length c, .pointer (some ⟨g, 0, none⟩)] w fun e w' => SetPost w w' (optK s l l.length s.length) e := by
  have hsl := setB_len hs
  have HS := Lib.hid hs
  have HIN := Lib.hid hin
  have hmm := @run_makeMap Try.prog
  have hb0 := below_of w (.map #[] 0)
  have hS0 := IsSet.made w
  obtain ⟨g0, _⟩ := (hg.alloc (.map #[] 0)).at1
  have hgl := hg.lt
  clear hs hin
  go_enter Try.func54, Try.ntmps54
  go_wp2_with fail
  generalize hW0 : w.alloc _ = W0 at *
  clear hW0 g0 hmm
  go_loopw [10] (fun i wr => ∃ k : Nat, k ≤ s.length ∧ i = .int .i64 k ∧ Hid (IsSet wr w.heap.size k (optK s l l.length k)) ∧ Below w.heap.size w wr) (fun i _ => s.length - (intOf i).toNat)
  case atStart => exact ⟨0, by omega, rfl, Lib.hid hS0, hb0⟩
  case round =>
    clear hS0 hb0
    obtain ⟨k, hk, rfl, hS, hbe⟩ := hrel
    have hsz := hbe.size
    by_cases hlt : k < s.length
    · obtain ⟨b, rfl⟩ := hV.some (by omega)
      have hlt' : (k : Int) < (s.length : Int) := by omega
      obtain ⟨hBb, c0⟩ := (hV.below hbe).at hlt
      obtain ⟨r1, r2⟩ := setB_in HS.out hlt
      by_cases hle : iAt s k ≤ (l.length : Int)
      · have HE := Lib.hid (optK_yes (g := l) hle)
        obtain ⟨a, rfl⟩ := hA.some (by omega)
        have hix : ((l.length : Int) - iAt s k).toNat < l.length := by omega
        obtain ⟨haB, c1⟩ := (hA.below hbe).at hix
        have q1 : (0 : Int) ≤ (l.length : Int) - iAt s k := by omega
        have q2 : (l.length : Int) - iAt s k < (l.length : Int) := by omega
        have q3 : IntKind.i64.wrap ((l.length : Int) - iAt s k) = (l.length : Int) - iAt s k := IntWalk.i64_in _ (by omega)
        obtain ⟨w4, hu, hS4, hg4⟩ := hS.out.update (by omega) (u := iAt l ((l.length : Int) - iAt s k).toNat) (by have := HIN.out _ hix; omega)
        rw [← HE.out] at hS4
        have HS4 := Lib.hid hS4
        have hb4 := below_grown hbe hg4 (Nat.le_refl _) hsz
        clear hS4 hg4 hS hbe
        go_wp2_with fail
        go_roundw
        case rel => exact ⟨k + 1, by omega, by go_num, HS4, hb4⟩
        case measure => simp [intOf]; omega
      · have HE := Lib.hid (optK_no (g := l) hle)
        have hle' : (l.length : Int) < iAt s k := by omega
        clear hle
        go_wp2_with fail
        go_roundw
        case rel => exact ⟨k + 1, by omega, by go_num, Lib.hid (by rw [HE.out]; exact hS.out.mono (by omega)), hbe⟩
        case measure => simp [intOf]; omega
    · obtain rfl : k = s.length := by omega
      go_wp2_with fail
      go_ret
      exact ⟨_, rfl, hS.out.mono (by omega), hbe⟩
set_option maxHeartbeats 2000000 in
theorem grundyTake_any (g : Nat) (V : Option Addr) (cv : Nat) (s : List Int) (m : Nat) (w : World) (hg : Blk w g #[.slice V s.length cv] 23) (hV : IsInts w w.heap.size V s) (hs : setB s = true) (hm : m ≤ 60) :
    Calls Try.prog 53 #[.int .i64 (m : Int), .func (.func 54) #[] #[.pointer (some ⟨g, 0, none⟩)]] w fun e w' => LenNew w w' (gruV s (m + 1)) e := by
  obtain ⟨i0, hi, hz0, hz1, hz2⟩ := info_parts infoInt
  have HS := Lib.hid hs
  have hsl := setB_len hs
  have HG := Lib.hid hg
  have hgl := hg.lt
  clear hs hg
  go_enter Try.func53, Try.ntmps53
  go_wp2_with (at_make; refine wpList_make_own _ rfl _ _ _ rfl w.heap.size 3 i0 (.int .i64 0) 1 Try.underlying23 hi hz0 hz1 .i64 .i64 _ (m + 1) (by rfl) (by rfl) (by first | rfl | omega) (by rw [hz2]; omega) (by unfold maxLen; omega) (by simp) ?_; intro w1 hown hgrow)
  have hb1 := below_of_grown hgrow (Nat.le_refl _)
  have hO1 : In.Own w1 w.heap.size (.slice (some ⟨w.heap.size, 0, none⟩) (gruV s 0).length (m + 1)) (gruV s 0) := hown
  clear hgrow hown
  go_loopw [5, 11] (fun v i wr => ∃ (n : Nat) (A : Option Addr) (c : Nat), n ≤ m + 1 ∧ i = .int .i64 n ∧ v = .slice A (gruV s n).length c ∧ In.Own wr w.heap.size (.slice A (gruV s n).length c) (gruV s n) ∧ Below w.heap.size w wr) (fun _ i _ => m + 1 - (intOf i).toNat)
  case atStart => exact ⟨0, _, _, by omega, rfl, rfl, hO1, hb1⟩
  case round =>
    clear hO1 hb1
    obtain ⟨n, A, c, hn, rfl, rfl, hO, hbe⟩ := hrel
    have HGL := Lib.hid (gruV_len s n)
    have hgl6 : (gruV s n).length ≤ 61 := by have := HGL.out; omega
    have hsz := hbe.size
    by_cases hlt : n ≤ m
    · have hlt' : (n : Int) < (m : Int) + 1 := by omega
      have HB := Lib.hid hbe
      have HO := Lib.hid hO
      have HE := Lib.hid (show gruV s (n + 1) = gruV s n ++ [mexV (optK s (gruV s n) (gruV s n).length s.length)] by rw [gruV_len]; rfl)
      have hmax : (gruV s n).length + 1 ≤ maxLen := by unfold maxLen; omega
      obtain ⟨A', c', hv', hI⟩ := hO.is
      simp only [Value.slice.injEq] at hv'
      obtain ⟨rfl, _, rfl⟩ := hv'
      have HI := Lib.hid hI
      have HBD := Lib.hid (show ∀ i, i < (gruV s n).length → 0 ≤ iAt (gruV s n) i ∧ iAt (gruV s n) i ≤ 1000 from fun i h => by have := gruV_bd (s := s) (n := n) (i := i) (by rw [← gruV_len s n]; exact h); omega)
      have hol := optK_len s (gruV s n) (gruV s n).length s.length
      clear hO hbe hI
      go_wp2_with (first
        | (go_at_call 54; refine (takeAfter_any g V cv s _ _ _ wr (HG.out.below HB.out hgl) ((hV.below HB.out).more hsz) HI.out HS.out hgl6 HBD.out).mono ?_; rintro e w2 ⟨mm, rfl, hS, hb2⟩; have HST := Lib.hid hS; have HB2 := Lib.hid hb2; have hs2 := hb2.size; have HOk := Lib.hid (HO.out.below hb2); clear hS hb2)
        | (go_at_call 79; refine (excluded_any mm 2000 _ _ HST.out (by omega)).mono ?_; rintro e w3 ⟨rfl, rfl⟩)
        | (at_builtin; refine wpList_append_own _ rfl _ _ 23 rfl (w.heap.size) 3 i0 (.int .i64 0) 1 8 Try.underlying23 hi hz0 hz1 hz2 rfl (by decide) _ _ _ rfl (World.ownsRow.alloc HOk.out _) ⟨w2.heap.size, 0, none⟩ 1 1 [.int .i64 (mexV (optK s (gruV s n) (gruV s n).length s.length))] rfl rfl (cell_one_new _ _ _) (fun u hu => by simp at hu; subst hu; rfl) hmax (by omega) (by simp; omega) ?_; intro v' w7 hown' hgrow' hnil'; obtain ⟨B7, d7, rfl, hO7, hb7⟩ := app_after HOk.out HE.out hown' hgrow' (by omega); clear hown' hgrow' hnil'))
      have hb7 := (HB.out.trans (HB2.out.mono hsz)).trans hb7
      clear hol
      go_roundw
      case rel =>
        have R : n + 1 ≤ m + 1 ∧ Value.int .i64 ((n : Int) + 1) = .int .i64 ((n + 1 : Nat) : Int) ∧ Value.slice B7 (gruV s (n + 1)).length d7 = .slice B7 (gruV s (n + 1)).length d7 ∧ In.Own w7 w.heap.size (.slice B7 (gruV s (n + 1)).length d7) (gruV s (n + 1)) ∧ Below w.heap.size w w7 := ⟨by omega, by go_num, rfl, hO7, hb7⟩
        first
          | exact ⟨n + 1, B7, d7, R⟩
          | ((repeat apply Exists.intro); exact ⟨⟨n + 1, B7, d7, R⟩, rfl⟩)
      case measure => simp [intOf]; omega
    · obtain rfl : n = m + 1 := by omega
      go_wp2_with fail
      go_ret
      exact lenNew_of hO hbe
theorem takeAll_any (V : Option Addr) (cv : Nat) (z : List Int) (q : Int) (w : World) (hV : IsInts w w.heap.size V z) (hz : z.length ≤ 1048576) :
    Calls Try.prog 14 #[.slice V z.length cv, .int .i64 q] w fun e w' => LenNew w w' (takeV z q) e := by
  have hb0 := below_of w (.cells #[.slice V z.length cv] 23)
  have p0 := Blk.new w #[.slice V z.length cv] 23
  have hV0 := (hV.below hb0).more hb0.size
  cases hs : setB z
  · have HS := Lib.hid hs
    have HN := Lib.hid (takeV_no (z := z) (q := q) (fun h => by rw [hs] at h; cases h.1))
    clear hs
    go_enter Try.func14, Try.ntmps14
    go_wp2_with (go_at_call 17; refine (takeOk_any _ _ _ _ hV0 hz).mono ?_; rw [HS.out]; rintro e w' ⟨rfl, rfl⟩)
    go_ret
    rw [HN.out]
    exact lenNew_of (l := []) (own_nil' _ _) hb0
  · have HS := Lib.hid hs
    cases hq : inB q 0 60
    · have HQ := Lib.hid hq
      have HN := Lib.hid (takeV_no (z := z) (q := q) (fun h => inB_out hq h.2))
      clear hs hq
      go_enter Try.func14, Try.ntmps14
      go_wp2_with (first | (go_at_call 17; refine (takeOk_any _ _ _ _ hV0 hz).mono ?_; rw [HS.out]; rintro e w' ⟨rfl, rfl⟩) | (go_at_call 52; refine (heapOk_any _ _).mono ?_; rw [HQ.out]; rintro e w2 ⟨rfl, rfl⟩))
      go_ret
      rw [HN.out]
      exact lenNew_of (l := []) (own_nil' _ _) hb0
    · have HQ := Lib.hid hq
      obtain ⟨q1, q2⟩ := inB_in hq
      obtain ⟨m, rfl⟩ := Int.eq_ofNat_of_zero_le q1
      have hm : m ≤ 60 := by omega
      have HN := Lib.hid (takeV_yes hs hm)
      clear hs hq q1 q2
      go_enter Try.func14, Try.ntmps14
      go_wp2_with (first | (go_at_call 17; refine (takeOk_any _ _ _ _ hV0 hz).mono ?_; rw [HS.out]; rintro e w' ⟨rfl, rfl⟩) | (go_at_call 52; refine (heapOk_any _ _).mono ?_; rw [HQ.out]; rintro e w2 ⟨rfl, rfl⟩) | (go_at_call 53; refine (grundyTake_any _ V cv z m _ p0 hV0 HS.out hm).mono ?_; rintro e w3 ⟨A, c, rfl, hN, hb3⟩))
      go_ret
      rw [HN.out]
      exact LenNew.after ⟨A, c, rfl, hN, hb3⟩ hb0
end Go.Proofs.Ytjanalljaacnoaa.Ko
