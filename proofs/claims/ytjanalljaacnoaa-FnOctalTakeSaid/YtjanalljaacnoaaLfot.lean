/- The walk of the law FnOctalTake. -/
import Derived.Test.YtjanalljaacnoaaSd
import Derived.Test.YtjanalljaacnoaaZj
import Derived.Test.YtjanalljaacnoaaKd
import Derived.Test.YtjanalljaacnoaaKr
import Derived.Test.YtjanalljaacnoaaOt
namespace Go.Proofs.Ytjanalljaacnoaa.Laws
open Go.ChangeShapes Go.WideShapes Go.ChangeAt Go.RowKit Base Sq In Ko Sd Ot
set_option linter.unusedVariables false
set_option maxRecDepth 20000
attribute [local irreducible] wpQuiet

set_option maxHeartbeats 8000000 in
theorem fnOctalTake_walk (w : World) (A : Option Addr) (n c : Nat) (zs : List Int) (h : IsRow .u8 w A n c zs) :
    Calls Try.prog 10 #[.slice A n c] w fun e w' => e = .returned (.bool true) ∧ Below w.heap.size w w' := by
  by_cases hn : 1048576 < n
  · have hd : decide (1048576 < (n : Int)) = true := decide_eq_true (by omega)
    clear h
    go_enter Try.func10, Try.ntmps10
    go_wp2_with fail
    go_ret
    exact ⟨rfl, Below.refl _ _⟩
  have hd : decide (1048576 < (n : Int)) = false := decide_eq_false (by omega)
  have hn2 : n ≤ 1048576 := by omega
  have HH := Lib.hid h
  clear h hn
  go_enter Try.func10, Try.ntmps10
  go_wp2_with fail
  refine (drawTakeAll_any _ _ _ _ _ HH.out hn2).mono ?_
  rintro e w1 ⟨V, cv, s, x, rfl, hs6, hx0, hx1, hI1, hW1⟩
  clear HH hd hn2
  have hGL : (takeV s x).length ≤ 1048576 := takeV_len
  obtain ⟨G, hG⟩ : ∃ G, G = takeV s x := ⟨_, rfl⟩
  have HG := Lib.hid hG
  rw [← hG] at hGL
  clear hG
  go_wp2_with fail
  refine (takeAll_any V cv s x w1 hI1 (by omega)).mono ?_
  rw [← HG.out]
  rintro e w2 ⟨A2, c2, rfl, hN2, hb2⟩
  have hI2 := (hI1.below hb2).more hb2.size
  have hG2 := hN2.is
  have hW2 := hW1.trans (hb2.mono hW1.size)
  clear hI1 hN2 hb2 hW1
  go_wp2_with fail
  refine (specTakeAll_any V cv s x w2 hI2 (by omega)).mono ?_
  rw [← HG.out]
  rintro e w3 ⟨A3, c3, rfl, hN3, hb3⟩
  have hI3 := (hI2.below hb3).more hb3.size
  have hG3 := (hG2.below hb3).more hb3.size
  have hW3 := hW2.trans (hb3.mono hW2.size)
  clear hI2 hG2 hW2 hb3
  go_wp2_with fail
  refine (zgInts_same _ _ _ _ _ _ hG3 hN3.is hGL).mono ?_
  rintro e w4 ⟨rfl, hb4⟩
  have hI4 := (hI3.below hb4).more hb4.size
  have hG4 := (hG3.below hb4).more hb4.size
  have hW4 := hW3.trans (hb4.mono hW3.size)
  clear hI3 hG3 hN3 hW3 hb4
  by_cases h0 : G.length = 0
  · have h0i : ((G.length : Int) == 0) = true := by rw [beq_iff_eq]; omega
    clear h0
    go_wp2_with fail
    refine (specTakeAll_any V cv s x w4 hI4 (by omega)).mono ?_
    rw [← HG.out]
    rintro e w6 ⟨A6, c6, rfl, hN6, hb6⟩
    have hG6 := (hG4.below hb6).more hb6.size
    have hW6 := hW4.trans (hb6.mono hW4.size)
    clear hI4 hG4 hW4 hb6
    go_wp2_with fail
    refine (zgInts_same _ _ _ _ _ _ hG6 hN6.is hGL).mono ?_
    rintro e w7 ⟨rfl, hb7⟩
    have hW7 := hW6.trans (hb7.mono hW6.size)
    clear hG6 hN6 hW6 hb7
    go_wp2_with fail
    go_ret
    exact ⟨rfl, hW7⟩
  have h0i : ((G.length : Int) == 0) = false := by rw [beq_eq_false_iff_ne]; omega
  have hyes : setB s = true ∧ 0 ≤ x ∧ x ≤ 60 := by
    by_cases hy : setB s = true ∧ 0 ≤ x ∧ x ≤ 60
    · exact hy
    · have e := HG.out
      rw [takeV_no hy] at e
      rw [e] at h0
      exact absurd rfl h0
  obtain ⟨hsb, hx2, hx3⟩ := hyes
  have hsl := setB_len hsb
  obtain ⟨r, hr⟩ : ∃ r : Nat, s.length = r + 1 := ⟨s.length - 1, by omega⟩
  have HR := Lib.hid hr
  have hr1 : r < s.length := by omega
  have hre : (s.length : Int) - 1 = (r : Int) := by omega
  have hr0 : (0 : Int) ≤ (r : Int) := by omega
  have hr2 : (r : Int) < (s.length : Int) := by omega
  have hr3 : IntKind.i64.wrap ((s.length : Int) - 1) = (r : Int) := by rw [hre]; exact IntWalk.i64_in _ (by omega)
  have hr4 : IntKind.i64.wrap (r : Int) = (r : Int) := IntWalk.i64_in _ (by omega)
  clear hr h0
  obtain ⟨vb, rfl⟩ := hI4.some (by omega)
  obtain ⟨hvB, v0⟩ := hI4.at hr1
  by_cases h4 : 4 < iAt s r
  · have hd4 : decide (4 < iAt s r) = true := decide_eq_true h4
    clear h4
    go_wp2_with fail
    refine (specTakeAll_any _ cv s x w4 hI4 (by omega)).mono ?_
    rw [← HG.out]
    rintro e w6 ⟨A6, c6, rfl, hN6, hb6⟩
    have hG6 := (hG4.below hb6).more hb6.size
    have hW6 := hW4.trans (hb6.mono hW4.size)
    clear hI4 hG4 hW4 hb6
    go_wp2_with fail
    refine (zgInts_same _ _ _ _ _ _ hG6 hN6.is hGL).mono ?_
    rintro e w7 ⟨rfl, hb7⟩
    have hW7 := hW6.trans (hb7.mono hW6.size)
    clear hG6 hN6 hW6 hb7
    go_wp2_with fail
    go_ret
    exact ⟨rfl, hW7⟩
  have hd4 : decide (4 < iAt s r) = false := decide_eq_false h4
  have HS := Lib.hid hsb
  have H4 := Lib.hid (show ∀ j, j < s.length → iAt s j ≤ 4 from fun j hj => by
    rcases Nat.eq_or_lt_of_le (show j ≤ r by omega) with rfl | h5
    · omega
    · have := set_up2 hsb r j h5 hr1; omega)
  clear h4 hsb
  obtain ⟨m, rfl⟩ := Int.eq_ofNat_of_zero_le hx2
  have hm : m ≤ 60 := by omega
  have HGE := Lib.hid (show G = gruV s (m + 1) by rw [HG.out, takeV_yes HS.out hm])
  have hO5 : In.Own (w4.alloc (.cells #[.int .i64 0, .int .i64 0, .int .i64 0, .int .i64 0] 3)) w4.heap.size (.slice (some ⟨w4.heap.size, 0, none⟩) 4 4) [0, 0, 0, 0] :=
    ⟨rfl, .inr ⟨w4.heap.size, 4, #[.int .i64 0, .int .i64 0, .int .i64 0, .int .i64 0], rfl, Nat.le_refl _, Blk.new _ _ _, Nat.le_refl _, (by decide), rfl, rfl⟩⟩
  have hb5 := below_of w4 (.cells #[.int .i64 0, .int .i64 0, .int .i64 0, .int .i64 0] 3)
  have HI := Lib.hid hI4
  have HGI := Lib.hid hG4
  have HW := Lib.hid hW4
  have hszw := hW4.size
  clear hI4 hG4 hW4 hx0 hx1 hx2 hx3 HG hs6
  go_wp2_with fail
  clear v0 hd4 h0i hr0 hr1 hr2 hr3 hr4 hre
  generalize hX : w4.alloc _ = W5 at *
  clear hX
  generalize hgb : w4.heap.size = g6 at *
  go_loopw [7] (fun iv wr => ∃ (k : Nat) (l : List Int), k ≤ s.length ∧ iv = .int .i64 k ∧ Hid (l.length = 4 ∧ Dig s k l) ∧ In.Own wr g6 (.slice (some ⟨g6, 0, none⟩) 4 4) l ∧ Below g6 w4 wr) (fun iv _ => s.length - (intOf iv).toNat)
  case atStart => exact ⟨0, _, by omega, rfl, Lib.hid ⟨rfl, Dig.zero s⟩, hO5, hb5⟩
  case round =>
    clear hO5 hb5
    obtain ⟨k, l, hk, rfl, hl, hO, hbe⟩ := hrel
    have hsz := hbe.size
    by_cases hlt : k < s.length
    · have hlt' : (k : Int) < (s.length : Int) := by omega
      obtain ⟨hvB, c0⟩ := (HI.out.below hbe).at hlt
      obtain ⟨r1, r2⟩ := setB_in HS.out hlt
      have r3 := H4.out k hlt
      obtain ⟨t, ht⟩ : ∃ t : Nat, iAt s k = (t : Int) + 1 := ⟨(iAt s k - 1).toNat, by omega⟩
      have ht4 : t < 4 := by omega
      have hO' : In.Own wr g6 (.slice (some ⟨g6, 0, none⟩) l.length 4) l := by rw [hl.out.1]; exact hO
      obtain ⟨gg, hgg, _, hgl, u0, f0, hput⟩ := own_put hO' (i := t) (by rw [hl.out.1]; exact ht4)
      obtain rfl : g6 = gg := by simpa using hgg
      have hP := hput 3
      have hB2 := Below.setCell (p := ⟨g6, t, none⟩) hbe (Nat.le_refl _) (.int .i64 3)
      have HL2 := Lib.hid (show (l.set t 3).length = 4 ∧ Dig s (k + 1) (l.set t 3) from ⟨by rw [List.length_set]; exact hl.out.1, hl.out.2.put hl.out.1 ht4 ht⟩)
      have HP := Lib.hid (show In.Own (wr.setCell ⟨g6, t, none⟩ (.int .i64 3)) g6 (.slice (some ⟨g6, 0, none⟩) 4 4) (l.set t 3) by rw [hl.out.1] at hP; exact hP)
      have HB2 := Lib.hid hB2
      rw [ht] at c0
      have q1 : (t : Int) + 1 - 1 = (t : Int) := by omega
      have q2 : IntKind.i64.wrap ((t : Int) + 1 - 1) = (t : Int) := by rw [q1]; exact IntWalk.i64_in _ (by omega)
      have q3 : IntKind.i64.wrap (t : Int) = (t : Int) := IntWalk.i64_in _ (by omega)
      have q4 : (0 : Int) ≤ (t : Int) := by omega
      have q5 : (t : Int) < 4 := by omega
      clear hput hP hB2 hgg hO' hO hbe r1 r2 r3 ht
      go_wp2_with fail
      go_roundw
      case rel => exact ⟨k + 1, l.set t 3, by omega, by go_num, HL2, HP.out, HB2.out⟩
      case measure => simp [intOf]; omega
    · obtain rfl : k = s.length := by omega
      have hLI := own_is (show In.Own wr g6 (.slice (some ⟨g6, 0, none⟩) l.length 4) l by rw [hl.out.1]; exact hO)
      have hoc : octalV l (m : Int) = G := by
        unfold octalV
        rw [if_pos ⟨dig_ok hl.out.1 hl.out.2, by omega, by omega⟩, HGE.out, octal_take HS.out hl.out.1 hl.out.2 H4.out]
        rfl
      have HOC := Lib.hid hoc
      have hcon := octalAll_any (some ⟨g6, 0, none⟩) 4 l (m : Int) wr hLI (by rw [hl.out.1]; decide) (by rw [hl.out.1]; exact Nat.le_refl 4)
      rw [hl.out.1, hoc] at hcon
      have HCON := Lib.hid hcon
      have HLT := Lib.hid hlt
      clear hoc hcon hLI hO
      go_wp2_with fail
      refine HCON.out.mono ?_
      rintro e w6 ⟨A6, c6, rfl, hN6, hb6⟩
      have hbw := hbe.trans (hb6.mono (by omega))
      have hG6 := (HGI.out.below hbw).more (show g6 ≤ w6.heap.size by have := hbw.size; omega)
      go_wp2_with fail
      refine (zgInts_same _ _ _ _ _ _ hN6.is hG6 hGL).mono ?_
      rintro e w7 ⟨rfl, hb7⟩
      go_wp2_with fail
      go_ret
      exact ⟨rfl, (HW.out.trans (hbw.mono (by omega))).trans (hb7.mono (by have := hbw.size; omega))⟩
end Go.Proofs.Ytjanalljaacnoaa.Laws
