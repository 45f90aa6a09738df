/- The walk of the law FnTakePeriod. -/
import Derived.Test.YtjanalljaacnoaaSd
import Derived.Test.YtjanalljaacnoaaPes
namespace Go.Proofs.Ytjanalljaacnoaa.Laws
open Go.ChangeShapes Go.WideShapes Go.ChangeAt Go.RowKit Base Sq In Ko Rd Rb Sd Per
set_option linter.unusedVariables false
set_option maxRecDepth 20000
attribute [local irreducible] wpQuiet

def SetOnly (w w' : World) (e : Ending) : Prop := ∃ (A : Option Addr) (c : Nat) (z : List Int), e = .returned (.slice A z.length c) ∧ z.length ≤ 6 ∧ IsInts w' w'.heap.size A z ∧ Below w.heap.size w w'
theorem drawTakePeriod_any (A : Option Addr) (n c : Nat) (zs : List Int) (w : World) (h : IsRow .u8 w A n c zs) (hn : n ≤ 1048576) :
    Calls Try.prog 29 #[.slice A n c] w fun e w' => SetOnly w w' e := by
  go_enter Try.func29, Try.ntmps29
  go_wp2_with fail
  refine (Rb.open_any _ _ _ _ _ h hn).mono ?_
  rintro e w1 ⟨g, rfl, hg, hR1, hb1⟩
  have hs1 := hb1.size
  have hgl := hR1.lt
  clear h
  go_wp2_with fail
  refine (l30Set_any _ g 0 w1 hR1 (by omega) hs1).mono ?_
  rintro e w2 ⟨B, d, z, r, rfl, hz, hr, hO2, hR2, hb2⟩
  have hW2 := hb1.trans (hb2.below hs1 hg)
  have hs2 := hW2.size
  clear hb1 hb2 hR1
  have hI2 := own_is hO2
  clear hO2 hR2
  go_wp2_with fail
  go_ret
  exact ⟨B, d, z, rfl, hz, hI2, hW2⟩

set_option maxHeartbeats 8000000 in
theorem fnTakePeriod_walk (w : World) (A : Option Addr) (n c : Nat) (zs : List Int) (h : IsRow .u8 w A n c zs) :
    Calls Try.prog 7 #[.slice A n c] w fun e w' => e = .returned (.bool true) ∧ Below w.heap.size w w' := by
  by_cases hn : 1048576 < n
  · have hd : decide (1048576 < (n : Int)) = true := decide_eq_true (by omega)
    clear h
    go_enter Try.func7, Try.ntmps7
    go_wp2_with fail
    go_ret
    exact ⟨rfl, Below.refl _ _⟩
  have hd : decide (1048576 < (n : Int)) = false := decide_eq_false (by omega)
  have hn2 : n ≤ 1048576 := by omega
  have HH := Lib.hid h
  clear h hn
  go_enter Try.func7, Try.ntmps7
  go_wp2_with fail
  refine (drawTakePeriod_any _ _ _ _ _ HH.out hn2).mono ?_
  rintro e w1 ⟨V, cv, s, rfl, hs6, hI1, hW1⟩
  clear HH hd hn2
  go_wp2_with fail
  refine (takePeriod_any V cv s w1 hI1 (by omega)).mono ?_
  rintro e w2 ⟨P, F, rfl, hTP, hb2⟩
  have hI2 := (hI1.below hb2).more hb2.size
  have hW2 := hW1.trans (hb2.mono hW1.size)
  clear hI1 hb2 hW1
  go_wp2_with fail
  refine (specTakePeriod_any V cv s w2 hI2 (by omega)).mono ?_
  rintro e w3 ⟨P', F', rfl, hTP', hb3⟩
  obtain ⟨rfl, rfl⟩ := hTP.uniq hTP'
  have hI3 := (hI2.below hb3).more hb3.size
  have hW3 := hW2.trans (hb3.mono hW2.size)
  clear hI2 hb3 hW2 hTP'
  by_cases h0 : P = 0
  · have hP0 : (P : Int) = 0 := by omega
    have hPb : ((P : Int) == 0) = true := by rw [beq_iff_eq]; exact hP0
    clear h0 hTP hP0
    go_wp2_with fail
    go_ret
    exact ⟨rfl, hW3⟩
  have hPb : ((P : Int) == 0) = false := by rw [beq_eq_false_iff_ne]; omega
  have hfacts : setB s = true ∧ 1 ≤ P ∧ F = repF (gruV s 61) P ∧ F + 2 * P + 9 ≤ 60 := by
    rcases hTP with ⟨a, ⟨b, _⟩ | ⟨b, c, d, _⟩⟩ | ⟨a, b, _⟩
    · exact absurd b h0
    · exact ⟨a, b, c, d⟩
    · exact absurd b h0
  obtain ⟨hsb, hP1, hFe, hsum⟩ := hfacts
  have HFE := Lib.hid hFe
  clear h0 hTP hFe
  go_wp2_with fail
  refine (takeAll_any V cv s 60 w3 hI3 (by omega)).mono ?_
  rw [show takeV s 60 = gruV s 61 from takeV_yes (m := 60) hsb (by omega)]
  obtain ⟨G, hG⟩ : ∃ G, G = gruV s 61 := ⟨_, rfl⟩
  have hGl : G.length = 61 := by rw [hG, gruV_len]
  have HGL := Lib.hid hGl
  have hFe := HFE.out
  rw [← hG] at hFe
  rw [← hG]
  have HEQ := Lib.hid (show ∀ i, F ≤ i → i + P ≤ 60 → iAt G i = iAt G (i + P) from fun i h1 h2 => repD_eq (G.length - P) i (by rw [hFe] at h1; exact h1) (by omega))
  have HNE := Lib.hid (show ∀ j, F = j + 1 → iAt G j ≠ iAt G (j + P) from fun j hj => repD_ne (G.length - P) j (by rw [hFe] at hj; exact hj))
  clear hG hFe HFE hGl hsb
  unfold LenNew
  rw [HGL.out]
  rintro e w4 ⟨A, c4, rfl, hN, hb4⟩
  obtain ⟨gb, rfl⟩ := hN.is.some (by rw [HGL.out]; omega)
  have HI := Lib.hid hN.is
  have HW := Lib.hid (hW3.trans (hb4.mono hW3.size))
  have hszw := HW.out.size
  clear hN hb4 hI3 hW3
  go_wp2_with fail
  go_loopw [9] (fun iv wr => ∃ i : Nat, iv = .int .i64 i ∧ F ≤ i ∧ i ≤ 61 - P ∧ Below w4.heap.size w4 wr) (fun iv _ => 61 - (intOf iv).toNat)
  case atStart => exact ⟨F, rfl, Nat.le_refl _, by omega, Below.refl _ _⟩
  case round =>
    obtain ⟨i, rfl, hi1, hi2, hbe⟩ := hrel
    have hsz := hbe.size
    obtain ⟨r, hr⟩ : ∃ r : Nat, i + P = r := ⟨_, rfl⟩
    have hr1 : (i : Int) + (P : Int) = (r : Int) := by omega
    have hr5 : IntKind.i64.wrap ((i : Int) + (P : Int)) = (r : Int) := by rw [hr1]; exact IntWalk.i64_in _ (by omega)
    have hr6 : IntKind.i64.wrap (r : Int) = (r : Int) := IntWalk.i64_in _ (by omega)
    by_cases hlt : r ≤ 60
    · have hr2 : (r : Int) ≤ 60 := by omega
      have hr3 : (r : Int) < 61 := by omega
      have hr4 : (0 : Int) ≤ (r : Int) := by omega
      have hr7 : (i : Int) < 61 := by omega
      have hr8 : (0 : Int) ≤ (i : Int) := by omega
      obtain ⟨hgB, c0⟩ := (HI.out.below hbe).at (i := i) (by rw [HGL.out]; omega)
      obtain ⟨_, c1⟩ := (HI.out.below hbe).at (i := r) (by rw [HGL.out]; omega)
      have z1 : gb < wr.heap.size := by omega
      have he := HEQ.out i hi1 (by omega)
      rw [hr] at he
      rw [← he] at c1
      have HR := Lib.hid hr
      clear he hr
      go_wp2_with fail
      refine wp_region_below (W := wr) (by kernel_rfl) (by kernel_rfl) (Below.refl _ _) ?_
      repeat (first
        | (refine qs_skip (by rfl) ?_; simp only [Act.put, List.setIfInBounds_toArray, List.set_cons_zero, List.set_cons_succ])
        | (apply qs_take
           focus rfl
           focus (
             intro wq hwq
             obtain ⟨hcq, hfq⟩ := bcell hwq
             go_simp
             all_goals first
               | exact rfl
               | (exact ⟨trivial, rfl⟩))
           simp only [Act.put, List.setIfInBounds_toArray, List.set_cons_zero, List.set_cons_succ]))
      refine wpQuiet_nil ?_
      intro wq hwq
      go_wp2_with fail
      go_roundw
      case rel => exact ⟨i + 1, by go_num, by omega, by have := HR.out; omega, hbe.trans (hwq.mono hsz)⟩
      case measure => simp [intOf]; omega
    · have hrd : decide ((r : Int) ≤ 60) = false := decide_eq_false (by omega)
      have HBE := Lib.hid hbe
      have HR := Lib.hid hr
      clear hr hlt
      rcases Nat.eq_zero_or_pos F with hF | hF
      · have hFb : ((F : Int) == 0) = true := by rw [beq_iff_eq]; omega
        clear hF
        go_wp2_with fail
        refine wp_region_below (W := wr) (by kernel_rfl) (by kernel_rfl) (Below.refl _ _) ?_
        repeat (first
          | (refine qs_skip (by rfl) ?_; simp only [Act.put, List.setIfInBounds_toArray, List.set_cons_zero, List.set_cons_succ])
          | (apply qs_take
             focus rfl
             focus (
               intro wq hwq
               obtain ⟨hcq, hfq⟩ := bcell hwq
               go_simp
               all_goals first
                 | exact rfl
                 | (exact ⟨trivial, rfl⟩))
             simp only [Act.put, List.setIfInBounds_toArray, List.set_cons_zero, List.set_cons_succ]))
        refine wpQuiet_nil ?_
        intro wq hwq
        go_wp2_with fail
        go_ret
        exact ⟨rfl, HW.out.trans ((HBE.out.trans (hwq.mono hsz)).mono hszw)⟩
      · have hFb : ((F : Int) == 0) = false := by rw [beq_eq_false_iff_ne]; omega
        obtain ⟨j, hj⟩ : ∃ j : Nat, F = j + 1 := ⟨F - 1, by omega⟩
        obtain ⟨t, ht⟩ : ∃ t : Nat, j + P = t := ⟨_, rfl⟩
        have hne := HNE.out j hj
        rw [ht] at hne
        have hneb : (iAt G j == iAt G t) = false := by rw [beq_eq_false_iff_ne]; exact hne
        have HNB := Lib.hid (show (iAt G j != iAt G t) = true by rw [bne_iff_ne]; exact hne)
        have k1 : (F : Int) - 1 = (j : Int) := by omega
        have k2 : IntKind.i64.wrap ((F : Int) - 1) = (j : Int) := by rw [k1]; exact IntWalk.i64_in _ (by omega)
        have k3 : IntKind.i64.wrap (j : Int) = (j : Int) := IntWalk.i64_in _ (by omega)
        have k4 : (j : Int) + (P : Int) = (t : Int) := by omega
        have k5 : IntKind.i64.wrap ((j : Int) + (P : Int)) = (t : Int) := by rw [k4]; exact IntWalk.i64_in _ (by omega)
        have k6 : IntKind.i64.wrap (t : Int) = (t : Int) := IntWalk.i64_in _ (by omega)
        have l1 : (0 : Int) ≤ (j : Int) := by omega
        have l2 : (j : Int) < 61 := by omega
        have l3 : (0 : Int) ≤ (t : Int) := by omega
        have l4 : (t : Int) < 61 := by omega
        obtain ⟨hgB, c0⟩ := (HI.out.below hbe).at (i := j) (by rw [HGL.out]; omega)
        obtain ⟨_, c1⟩ := (HI.out.below hbe).at (i := t) (by rw [HGL.out]; omega)
        have z1 : gb < wr.heap.size := by omega
        clear hj ht hne hF hneb
        go_wp2_with fail
        refine wp_region_below (W := wr) (by kernel_rfl) (by kernel_rfl) (Below.refl _ _) ?_
        repeat (first
          | (refine qs_skip (by rfl) ?_; simp only [Act.put, List.setIfInBounds_toArray, List.set_cons_zero, List.set_cons_succ])
          | (apply qs_take
             focus rfl
             focus (
               intro wq hwq
               obtain ⟨hcq, hfq⟩ := bcell hwq
               go_simp
               all_goals first
                 | exact rfl
                 | (exact ⟨trivial, rfl⟩))
             simp only [Act.put, List.setIfInBounds_toArray, List.set_cons_zero, List.set_cons_succ]))
        refine wpQuiet_nil ?_
        intro wq hwq
        go_wp2_with fail
        go_ret
        exact ⟨by rw [HNB.out]; rfl, HW.out.trans ((HBE.out.trans (hwq.mono hsz)).mono hszw)⟩
end Go.Proofs.Ytjanalljaacnoaa.Laws
