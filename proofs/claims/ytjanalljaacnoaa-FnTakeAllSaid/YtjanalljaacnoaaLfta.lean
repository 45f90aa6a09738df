/- The walk of the law FnTakeAll. -/
import Derived.Test.YtjanalljaacnoaaSd
import Derived.Test.YtjanalljaacnoaaZj
import Derived.Test.YtjanalljaacnoaaKd
namespace Go.Proofs.Ytjanalljaacnoaa.Laws
open Go.ChangeShapes Go.WideShapes Go.ChangeAt Go.RowKit Base Sq In Ko Sd
set_option linter.unusedVariables false
set_option maxRecDepth 20000
attribute [local irreducible] wpQuiet

theorem gruV_val {s : List Int} {n m : Nat} (h : n ≤ m) : iAt (gruV s (m + 1)) n = mexV (optK s (gruV s n) n s.length) := by
  rw [gruV_at s (show n < n + 1 by omega) (by omega)]
  have := iAt_snoc (gruV s n) (mexV (optK s (gruV s n) n s.length))
  rw [gruV_len] at this
  exact this
theorem optK_zero {s g : List Int} (hs : setB s = true) : ∀ k, k ≤ s.length → optK s g 0 k = [] := by
  intro k
  induction k with
  | zero => intro _; rfl
  | succ k ih =>
    intro hk
    have := setB_in hs (show k < s.length by omega)
    rw [optK_no (by show ¬ iAt s k ≤ ((0 : Nat) : Int); omega)]
    exact ih (by omega)
theorem gruV_first {s : List Int} {m : Nat} (hs : setB s = true) : iAt (gruV s (m + 1)) 0 = 0 := by
  rw [gruV_val (Nat.zero_le m), optK_zero hs _ (Nat.le_refl _)]; rfl

set_option maxHeartbeats 8000000 in
theorem fnTakeAll_walk (w : World) (A : Option Addr) (n c : Nat) (zs : List Int) (h : IsRow .u8 w A n c zs) :
    Calls Try.prog 3 #[.slice A n c] w fun e w' => e = .returned (.bool true) ∧ Below w.heap.size w w' := by
  obtain ⟨i0, hi, hz0, hz1, hz2⟩ := info_parts infoInt
  by_cases hn : 1048576 < n
  · have hd : decide (1048576 < (n : Int)) = true := decide_eq_true (by omega)
    clear h
    go_enter Try.func3, Try.ntmps3
    go_wp2_with fail
    go_ret
    exact ⟨rfl, Below.refl _ _⟩
  have hd : decide (1048576 < (n : Int)) = false := decide_eq_false (by omega)
  have hn2 : n ≤ 1048576 := by omega
  have HH := Lib.hid h
  clear h hn
  go_enter Try.func3, Try.ntmps3
  go_wp2_with fail
  refine (drawTakeAll_any _ _ _ _ _ HH.out hn2).mono ?_
  rintro e w1 ⟨V, cv, s, x, rfl, hs6, hx0, hx1, hI1, hW1⟩
  clear HH hd hn2
  have hGL : (takeV s x).length ≤ 1048576 := takeV_len
  obtain ⟨G, hG⟩ : ∃ G, G = takeV s x := ⟨_, rfl⟩
  obtain ⟨bb, hbb⟩ : ∃ bb, bb = setB s := ⟨_, rfl⟩
  have HG := Lib.hid hG
  have HBB := Lib.hid hbb
  rw [← hG] at hGL
  have hc : (bb = false ∧ G.length = 0) ∨ (bb = true ∧ G.length = 0) ∨ (bb = true ∧ 0 < G.length) := by
    by_cases h0 : G.length = 0
    · cases bb
      · exact .inl ⟨rfl, h0⟩
      · exact .inr (.inl ⟨rfl, h0⟩)
    · by_cases hy : setB s = true ∧ 0 ≤ x ∧ x ≤ 60
      · exact .inr (.inr ⟨by rw [hbb]; exact hy.1, by omega⟩)
      · rw [takeV_no hy] at hG
        rw [hG] at h0
        exact absurd rfl h0
  clear hG hbb
  rcases hc with ⟨rfl, h0⟩ | ⟨rfl, h0⟩ | ⟨rfl, h0⟩
  all_goals
    have H0 := Lib.hid h0
    first
      | (have h0i : ((G.length : Int) == 0) = true := by (rw [beq_iff_eq]; omega))
      | (have h0i : ((G.length : Int) == 0) = false := by (rw [beq_eq_false_iff_ne]; omega))
    clear h0
    go_wp2_with fail
    refine (takeAll_any V cv s x w1 hI1 (by omega)).mono ?_
    rw [← HG.out]
    rintro e w2 ⟨A2, c2, rfl, hN2, hb2⟩
    have hI2 := hI1.below hb2
    have hG2 := hN2.is
    have hW2 := hW1.trans (hb2.mono hW1.size)
    have hz2' := hb2.size
    clear hI1 hN2 hb2 hW1
    go_wp2_with fail
    refine (specTakeAll_any V cv s x w2 (hI2.more hz2') (by omega)).mono ?_
    rw [← HG.out]
    rintro e w3 ⟨A3, c3, rfl, hN3, hb3⟩
    have hI3 := (hI2.more hz2').below hb3
    have hG3 := hG2.below hb3
    have hW3 := hW2.trans (hb3.mono hW2.size)
    have hz3 := hb3.size
    clear hI2 hG2 hW2 hb3 hz2'
    go_wp2_with fail
    refine (zgInts_same _ _ _ _ _ _ (hG3.more hz3) hN3.is hGL).mono ?_
    rintro e w4 ⟨rfl, hb4⟩
    have hI4 := (hI3.more hz3).below hb4
    have hG4 := (hG3.more hz3).below hb4
    have hW4 := hW3.trans (hb4.mono hW3.size)
    have hz4 := hb4.size
    clear hI3 hG3 hN3 hW3 hb4 hz3
    go_wp2_with fail
    refine (takeOk_any V cv s w4 (hI4.more hz4) (by omega)).mono ?_
    rw [← HBB.out]
    rintro e w' ⟨rfl, rfl⟩
    go_wp2_with fail
    refine (specTakeOk_any V cv s w4 (hI4.more hz4) (by omega)).mono ?_
    rw [← HBB.out]
    rintro e w5 ⟨rfl, hb5⟩
    have hI5 := ((hI4.more hz4).below hb5).more hb5.size
    have hG5 := ((hG4.more hz4).below hb5).more hb5.size
    have hW5 := hW4.trans (hb5.mono hW4.size)
    have hz5 := hb5.size
    clear hI4 hG4 hW4 hb5 hz4 hz5
    go_wp2_with fail
  · refine (specTakeAll_any V cv s x w5 hI5 (by omega)).mono ?_
    rw [← HG.out]
    rintro e w6 ⟨A6, c6, rfl, hN6, hb6⟩
    have hI6 := (hI5.below hb6).more hb6.size
    have hG6 := (hG5.below hb6).more hb6.size
    have hW6 := hW5.trans (hb6.mono hW5.size)
    clear hI5 hG5 hW5 hb6
    go_wp2_with fail
    refine (zgInts_same _ _ _ _ _ _ hG6 hN6.is hGL).mono ?_
    rintro e w7 ⟨rfl, hb7⟩
    have hI7 := (hI6.below hb7).more hb7.size
    have hW7 := hW6.trans (hb7.mono hW6.size)
    clear hI6 hG6 hN6 hW6 hb7
    go_wp2_with fail
    refine (takeOk_any V cv s w7 hI7 (by omega)).mono ?_
    rw [← HBB.out]
    rintro e w' ⟨rfl, rfl⟩
    go_wp2_with fail
    refine (specTakeOk_any V cv s w7 hI7 (by omega)).mono ?_
    rw [← HBB.out]
    rintro e w8 ⟨rfl, hb8⟩
    have hW8 := hW7.trans (hb8.mono hW7.size)
    go_wp2_with fail
    go_ret
    exact ⟨rfl, hW8⟩
  · refine (specTakeAll_any V cv s x w5 hI5 (by omega)).mono ?_
    rw [← HG.out]
    rintro e w6 ⟨A6, c6, rfl, hN6, hb6⟩
    have hI6 := (hI5.below hb6).more hb6.size
    have hG6 := (hG5.below hb6).more hb6.size
    have hW6 := hW5.trans (hb6.mono hW5.size)
    clear hI5 hG5 hW5 hb6
    go_wp2_with fail
    refine (zgInts_same _ _ _ _ _ _ hG6 hN6.is hGL).mono ?_
    rintro e w7 ⟨rfl, hb7⟩
    have hI7 := (hI6.below hb7).more hb7.size
    have hW7 := hW6.trans (hb7.mono hW6.size)
    clear hI6 hG6 hN6 hW6 hb7
    go_wp2_with fail
    refine (takeOk_any V cv s w7 hI7 (by omega)).mono ?_
    rw [← HBB.out]
    rintro e w' ⟨rfl, rfl⟩
    go_wp2_with fail
    refine (specTakeOk_any V cv s w7 hI7 (by omega)).mono ?_
    rw [← HBB.out]
    rintro e w8 ⟨rfl, hb8⟩
    have hW8 := hW7.trans (hb8.mono hW7.size)
    go_wp2_with fail
    go_ret
    exact ⟨rfl, hW8⟩
  · have hyes : setB s = true ∧ 0 ≤ x ∧ x ≤ 60 := by
      by_cases hy : setB s = true ∧ 0 ≤ x ∧ x ≤ 60
      · exact hy
      · have e := HG.out
        rw [takeV_no hy] at e
        have e2 := H0.out
        rw [e] at e2
        exact absurd e2 (Nat.lt_irrefl 0)
    obtain ⟨hsb, hx2, hx3⟩ := hyes
    obtain ⟨m, rfl⟩ := Int.eq_ofNat_of_zero_le hx2
    have hm : m ≤ 60 := by omega
    have hGe : G = gruV s (m + 1) := by rw [HG.out, takeV_yes hsb hm]
    have HGL := Lib.hid (show G.length = m + 1 by rw [hGe, gruV_len])
    have HGE := Lib.hid hGe
    have HS := Lib.hid hsb
    have hsl := setB_len hsb
    obtain ⟨vb, rfl⟩ := hI5.some (by omega)
    obtain ⟨gb, rfl⟩ := hG5.some H0.out
    have HI := Lib.hid hI5
    have HGI := Lib.hid hG5
    have HW := Lib.hid hW5
    have hszw := hW5.size
    clear hI5 hG5 hW5 hGe hsb hx0 hx1 hx2 hx3 HG HBB h0i hs6
    go_loopw [6] (fun iv wr => ∃ n : Nat, n ≤ m + 1 ∧ iv = .int .i64 n ∧ Below w5.heap.size w5 wr) (fun iv _ => m + 1 - (intOf iv).toNat)
    case atStart => exact ⟨0, by omega, rfl, Below.refl _ _⟩
    case round =>
      obtain ⟨n, hn, rfl, hbe⟩ := hrel
      have hsz := hbe.size
      by_cases hlt : n ≤ m
      · have hlt' : (n : Int) ≤ (m : Int) := by omega
        have HB := Lib.hid hbe
        have hO1 := Own.empty (base := wr.heap.size) (Nat.le_refl _) (Blk.new wr #[] 3)
        have hb1 := below_of wr (.cells #[] 3)
        clear hbe
        go_wp2_with fail
        generalize hW1 : wr.alloc _ = W1 at *
        clear hW1
        generalize hwa : wr = wa at *
        clear hwa
        go_loopw [7, 8] (fun v i wr => ∃ (k : Nat) (B : Option Addr) (d : Nat), k ≤ s.length ∧ i = .int .i64 k ∧ v = .slice B (optK s (gruV s n) n k).length d ∧ In.Own wr wa.heap.size (.slice B (optK s (gruV s n) n k).length d) (optK s (gruV s n) n k) ∧ Below wa.heap.size wa wr) (fun _ i _ => s.length - (intOf i).toNat)
        case atStart => exact ⟨0, _, _, by omega, rfl, rfl, hO1, hb1⟩
        case round =>
          clear hO1 hb1
          obtain ⟨k, B, d, hk, rfl, rfl, hL, hbk⟩ := hrel
          have hol := optK_len s (gruV s n) n k
          have hszk := hbk.size
          have hbw := HB.out.trans (hbk.mono hsz)
          by_cases hlk : k < s.length
          · have hlk' : (k : Int) < (s.length : Int) := by omega
            obtain ⟨hBb, c0⟩ := (HI.out.below hbw).at hlk
            obtain ⟨r1, r2⟩ := setB_in HS.out hlk
            by_cases hle : iAt s k ≤ (n : Int)
            · have hix : ((n : Int) - iAt s k).toNat < G.length := by have := HGL.out; omega
              obtain ⟨hgB, c1⟩ := (HGI.out.below hbw).at hix
              have HE := Lib.hid (show optK s (gruV s n) n (k + 1) = optK s (gruV s n) n k ++ [iAt G ((n : Int) - iAt s k).toNat] by
                rw [optK_yes hle, HGE.out, gruV_at s (n := n) (m := m + 1) (i := ((n : Int) - iAt s k).toNat) (by omega) (by omega)])
              have q1 : (0 : Int) ≤ (n : Int) - iAt s k := by omega
              have q2 : (n : Int) - iAt s k < (G.length : Int) := by have := HGL.out; omega
              have hmax : (optK s (gruV s n) n k).length + 1 ≤ maxLen := by unfold maxLen; omega
              have q3 : IntKind.i64.wrap ((n : Int) - iAt s k) = (n : Int) - iAt s k := IntWalk.i64_in _ (by omega)
              have HL := Lib.hid hL
              have HK := Lib.hid hbk
              clear hL hbk hbw
              go_wp2_with (at_builtin; refine wpList_append_own _ rfl _ _ 23 rfl (wa.heap.size) 3 i0 (.int .i64 0) 1 8 Try.underlying23 hi hz0 hz1 hz2 rfl (by decide) _ _ _ rfl (World.ownsRow.alloc HL.out _) ⟨wr.heap.size, 0, none⟩ 1 1 [.int .i64 (iAt G ((n : Int) - iAt s k).toNat)] rfl rfl (cell_one_new _ _ _) (fun u hu => by simp at hu; subst hu; rfl) hmax (by omega) (by simp; omega) ?_; intro v' w7 hown' hgrow' hnil'; obtain ⟨B7, d7, rfl, hO7, hb7⟩ := app_after HL.out HE.out hown' hgrow' (by omega); clear hown' hgrow' hnil')
              go_roundw
              case rel =>
                have R : k + 1 ≤ s.length ∧ Value.int .i64 ((k : Int) + 1) = .int .i64 ((k + 1 : Nat) : Int) ∧ Value.slice B7 (optK s (gruV s n) n (k + 1)).length d7 = .slice B7 (optK s (gruV s n) n (k + 1)).length d7 ∧ In.Own w7 wa.heap.size (.slice B7 (optK s (gruV s n) n (k + 1)).length d7) (optK s (gruV s n) n (k + 1)) ∧ Below wa.heap.size wa w7 := ⟨by omega, by go_num, rfl, hO7, HK.out.trans hb7⟩
                first
                  | exact ⟨k + 1, B7, d7, R⟩
                  | ((repeat apply Exists.intro); exact ⟨⟨k + 1, B7, d7, R⟩, rfl⟩)
              case measure => simp [intOf]; omega
            · have HE := Lib.hid (optK_no (g := gruV s n) hle)
              have hle' : (n : Int) < iAt s k := by omega
              clear hle
              go_wp2_with fail
              go_roundw
              case rel =>
                have R : k + 1 ≤ s.length ∧ Value.int .i64 ((k : Int) + 1) = .int .i64 ((k + 1 : Nat) : Int) ∧ Value.slice B (optK s (gruV s n) n k).length d = .slice B (optK s (gruV s n) n (k + 1)).length d ∧ In.Own wr wa.heap.size (.slice B (optK s (gruV s n) n (k + 1)).length d) (optK s (gruV s n) n (k + 1)) ∧ Below wa.heap.size wa wr := ⟨by omega, by go_num, by rw [HE.out], by rw [HE.out]; exact hL, hbk⟩
                first
                  | exact ⟨k + 1, B, d, R⟩
                  | ((repeat apply Exists.intro); exact ⟨⟨k + 1, B, d, R⟩, rfl⟩)
              case measure => simp [intOf]; omega
          · obtain rfl : k = s.length := by omega
            have hnG : n < G.length := by have := HGL.out; omega
            obtain ⟨hgB, c1⟩ := (HGI.out.below hbw).at hnG
            have hval : iAt G n = mexV (optK s (gruV s n) n s.length) := by rw [HGE.out, gruV_val hlt]
            have hn1 : (n : Int) < (G.length : Int) := by omega
            have hn0 : (0 : Int) ≤ (n : Int) := by omega
            obtain ⟨t, ht⟩ : ∃ t : Nat, iAt G n = (t : Int) := Int.eq_ofNat_of_zero_le (by rw [hval]; exact (mexV_le _).1)
            have HOUT := Lib.hid (decide_eq_false (show ¬ ((t : Nat) : Int) ∈ optK s (gruV s n) n s.length by rw [← ht, hval]; exact mexV_out _))
            have HIN := Lib.hid (show ∀ j : Nat, j < t → decide (((j : Nat) : Int) ∈ optK s (gruV s n) n s.length) = true from fun j hj => decide_eq_true (mexV_in (by rw [← hval, ht]; omega)))
            have htl : t ≤ 60 := by have := (mexV_le (optK s (gruV s n) n s.length)).2; rw [← hval, ht] at this; omega
            rw [ht] at c1
            clear ht hval
            have HK := Lib.hid (own_is hL)
            clear hL
            generalize optK s (gruV s n) n s.length = K at *
            have HBW := Lib.hid hbw
            clear hbk hbw
            go_wp2_with fail
            refine (zgIn_any _ _ _ _ _ HK.out (by omega)).mono ?_
            rw [HOUT.out]
            rintro e w' ⟨rfl, rfl⟩
            go_wp2_with fail
            go_loopw [9] (fun iv wr2 => ∃ j : Nat, j ≤ t ∧ iv = .int .i64 j ∧ wr = wr2) (fun iv _ => t - (intOf iv).toNat)
            case atStart => exact ⟨0, by omega, rfl, rfl⟩
            case round =>
              obtain ⟨j, hj, rfl, rfl⟩ := hrel
              by_cases hjt : j < t
              · have hjt' : (j : Int) < (t : Int) := by omega
                have HJ := Lib.hid (HIN.out j hjt)
                go_wp2_with fail
                refine (zgIn_any _ _ _ _ _ HK.out (by omega)).mono ?_
                rw [HJ.out]
                rintro e w' ⟨rfl, rfl⟩
                go_wp2_with fail
                go_roundw
                case rel => exact ⟨j + 1, by omega, by go_num, by first | rfl | trivial⟩
                case measure => simp [intOf]; omega
              · obtain rfl : j = t := by omega
                go_wp2_with fail
                go_roundw
                case rel => exact ⟨n + 1, by omega, by go_num, HBW.out⟩
                case measure => simp [intOf]; omega
      · obtain rfl : n = m + 1 := by omega
        have hd : decide (((m + 1 : Nat) : Int) ≤ (m : Int)) = false := decide_eq_false (by omega)
        obtain ⟨hgB, c1⟩ := (HGI.out.below hbe).at H0.out
        rw [HGE.out, gruV_first HS.out] at c1
        have hG0 : (0 : Int) < (G.length : Int) := by have := HGL.out; omega
        have hGm : (G.length : Int) = (m : Int) + 1 := by have := HGL.out; omega
        have hGb : ((G.length : Int) == (m : Int) + 1) = true := by rw [beq_iff_eq]; exact hGm
        have HBE := Lib.hid hbe
        clear hbe hGm
        go_wp2_with fail
        go_ret
        exact ⟨rfl, HW.out.trans (HBE.out.mono hszw)⟩
end Go.Proofs.Ytjanalljaacnoaa.Laws
