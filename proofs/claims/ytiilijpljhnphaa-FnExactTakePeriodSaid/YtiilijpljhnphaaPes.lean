/- Periods of subtraction games: the model's. -/
import Derived.Test.YtiilijpljhnphaaPer
namespace Go.Proofs.Ytiilijpljhnphaa.Per
open Go.ChangeShapes Go.WideShapes Go.ChangeAt Go.RowKit Base Sq In Ko
set_option linter.unusedVariables false
set_option maxRecDepth 20000
attribute [local irreducible] wpQuiet

/-- from f up to i the list repeats itself after p -/
def allE (g : List Int) (p f i : Nat) : Bool := (List.range (i - f)).all fun j => decide (iAt g (f + j) = iAt g (f + j + p))
theorem allE_zero (g : List Int) (p f : Nat) : allE g p f f = true := by unfold allE; rw [Nat.sub_self]; rfl
theorem allE_next {g : List Int} {p f i : Nat} (h : f ≤ i) : allE g p f (i + 1) = (allE g p f i && decide (iAt g i = iAt g (i + p))) := by
  unfold allE
  rw [show i + 1 - f = (i - f) + 1 by omega, List.range_succ, List.all_append]
  simp [show f + (i - f) = i by omega]
theorem allE_yes {g : List Int} {p f n : Nat} (hl : g.length = n + p) (hfn : f ≤ n) (hf : f ≤ repF g p) (h : allE g p f n = true) : repF g p = f := by
  unfold repF at *
  rw [show g.length - p = n by omega] at *
  by_cases hlt : f < repD g p n
  · obtain ⟨j, hj⟩ : ∃ j, repD g p n = j + 1 := ⟨repD g p n - 1, by omega⟩
    have h1 := repD_ne n j hj
    have h2 := repD_le g p n
    unfold allE at h
    rw [List.all_eq_true] at h
    have := of_decide_eq_true (h (j - f) (by simp; omega))
    rw [show f + (j - f) = j by omega] at this
    exact absurd this h1
  · omega
theorem allE_no {g : List Int} {p f n : Nat} (hl : g.length = n + p) (hf : f ≤ repF g p) (h : allE g p f n = false) : f + 1 ≤ repF g p := by
  unfold repF at *
  rw [show g.length - p = n by omega] at *
  by_cases he : repD g p n = f
  · unfold allE at h
    rw [List.all_eq_false] at h
    obtain ⟨j, hj, hc⟩ := h
    exact absurd (decide_eq_true (repD_eq n (f + j) (by omega) (by simp at hj; omega))) hc
  · omega

set_option maxHeartbeats 4000000 in
theorem specTakePeriod_any (V : Option Addr) (cv : Nat) (z : List Int) (w : World) (hV : IsInts w w.heap.size V z) (hz : z.length ≤ 1048576) :
    Calls Try.prog 32 #[.slice V z.length cv] w fun e w' => TwoPost z w w' e := by
  cases hs : setB z
  · have HS := Lib.hid hs
    clear hs
    go_enter Try.func32, Try.ntmps32
    go_wp2_with fail
    refine (l18Ok_any V cv z w hV hz).mono ?_
    rw [HS.out]
    rintro e w' ⟨rfl, hb⟩
    go_wp2_with fail
    go_ret2
    exact ⟨0, 0, rfl, .inr ⟨HS.out, rfl, rfl⟩, hb⟩
  · have HS := Lib.hid hs
    clear hs
    go_enter Try.func32, Try.ntmps32
    go_wp2_with fail
    refine (l18Ok_any V cv z w hV hz).mono ?_
    rw [HS.out]
    rintro e w0 ⟨rfl, hb0⟩
    have hs0 := hb0.size
    go_wp2_with fail
    refine (l18All_any V cv z 60 w0 ((hV.below hb0).more hs0) HS.out (by omega)).mono ?_
    obtain ⟨G, hG⟩ : ∃ G, G = gruV z 61 := ⟨_, rfl⟩
    have HG := Lib.hid hG
    have HGL := Lib.hid (show G.length = 61 by rw [hG, gruV_len])
    rw [← hG]
    clear hG
    unfold LenNew
    rw [HGL.out]
    rintro e w1 ⟨A, c, rfl, hN, hb1⟩
    obtain ⟨gb, rfl⟩ := hN.is.some (by rw [HGL.out]; omega)
    have HI := Lib.hid hN.is
    have HW := Lib.hid (hb0.trans (hb1.mono hs0))
    have hsw := HW.out.size
    clear hN hb1 hV hb0
    go_wp2_with fail
    go_loopw [5] (fun iv wr => ∃ p : Nat, 1 ≤ p ∧ p ≤ 61 ∧ iv = .int .i64 p ∧ Hid (∀ p' : Nat, 1 ≤ p' → p' < p → 60 < repF G p' + 2 * p' + 9) ∧ Below w1.heap.size w1 wr) (fun iv _ => 61 - (intOf iv).toNat)
    case atStart => exact ⟨1, by omega, by omega, rfl, Lib.hid (fun p' h1 h2 => absurd h2 (by omega)), Below.refl _ _⟩
    case round =>
      obtain ⟨p, hp1, hp2, rfl, hall, hbe⟩ := hrel
      have hsz := hbe.size
      have w2p : IntKind.i64.wrap (2 * (p : Int)) = 2 * (p : Int) := IntWalk.i64_in _ (by omega)
      by_cases hgo : p ≤ 60
      · have hgo' : (p : Int) ≤ 60 := by omega
        have HB := Lib.hid hbe
        clear hbe
        go_wp2_with fail
        generalize hwa : wr = wa at *
        clear hwa
        go_loopw [6] (fun fv wr => ∃ f : Nat, fv = .int .i64 f ∧ f ≤ 60 ∧ Hid (f ≤ repF G p) ∧ Below w1.heap.size w1 wr) (fun fv _ => 61 - (intOf fv).toNat)
        case atStart => exact ⟨0, rfl, by omega, Lib.hid (Nat.zero_le _), HB.out⟩
        case round =>
          obtain ⟨f, rfl, hf60, hfr, hbe⟩ := hrel
          have hsf := hbe.size
          have v1 : IntKind.i64.wrap ((f : Int) + 2 * (p : Int)) = (f : Int) + 2 * (p : Int) := IntWalk.i64_in _ (by omega)
          have v2 : IntKind.i64.wrap ((f : Int) + 2 * (p : Int) + 9) = (f : Int) + 2 * (p : Int) + 9 := IntWalk.i64_in _ (by omega)
          by_cases hin : (f : Int) + 2 * (p : Int) + 9 ≤ 60
          · have hid : decide ((f : Int) + 2 * (p : Int) + 9 ≤ 60) = true := decide_eq_true hin
            obtain ⟨n, hn⟩ : ∃ n : Nat, 61 = n + p := ⟨61 - p, by omega⟩
            have hfn : f ≤ n := by omega
            have HIN := Lib.hid hin
            have HN := Lib.hid hn
            have HBF := Lib.hid hbe
            clear hin hn hbe
            go_wp2_with fail
            generalize hwa : wr = wb at *
            clear hwa
            go_loopw [7, 8] (fun bv iv wr => ∃ i : Nat, iv = .int .i64 i ∧ f ≤ i ∧ i ≤ n ∧ bv = .bool (allE G p f i) ∧ Below w1.heap.size w1 wr) (fun _ iv _ => n - (intOf iv).toNat)
            case atStart => exact ⟨f, rfl, Nat.le_refl _, hfn, by rw [allE_zero], HBF.out⟩
            case round =>
              obtain ⟨i, rfl, hfi, hi, rfl, hbe⟩ := hrel
              have hsi := hbe.size
              have hn' := HN.out
              have u1 : IntKind.i64.wrap ((i : Int) + (p : Int)) = (i : Int) + (p : Int) := IntWalk.i64_in _ (by omega)
              by_cases hlt : i < n
              · obtain ⟨r, hr⟩ : ∃ r : Nat, i + p = r := ⟨_, rfl⟩
                have hr1 : (i : Int) + (p : Int) = (r : Int) := by omega
                have hr2 : (r : Int) ≤ 60 := by omega
                have hr3 : (r : Int) < 61 := by omega
                have hr4 : (0 : Int) ≤ (r : Int) := by omega
                have hr5 : IntKind.i64.wrap (r : Int) = (r : Int) := IntWalk.i64_in _ (by omega)
                have hr6 : (i : Int) < 61 := by omega
                have hr7 : (0 : Int) ≤ (i : Int) := by omega
                obtain ⟨hgB, c0⟩ := (HI.out.below hbe).at (i := i) (by rw [HGL.out]; omega)
                obtain ⟨_, c1⟩ := (HI.out.below hbe).at (i := r) (by rw [HGL.out]; omega)
                have z1 : gb < wr.heap.size := by omega
                have HAL := Lib.hid (allE_next (g := G) (p := p) hfi)
                rw [hr] at HAL
                have HR := Lib.hid hr
                clear hr hn'
                cases hb : allE G p f i
                · have HA2 := Lib.hid (show allE G p f (i + 1) = false by rw [HAL.out, hb]; rfl)
                  clear hb
                  go_wp2_with fail
                  refine wp_region_below (W := wr) (by kernel_rfl) (by kernel_rfl) (Below.refl _ _) ?_
                  repeat (first
                    | (refine qs_skip (by rfl) ?_; simp only [Act.put, List.setIfInBounds_toArray, List.set_cons_zero, List.set_cons_succ])
                    | (apply qs_take
                       focus rfl
                       focus (
                         intro wq hwq
                         obtain ⟨hcq, hfq⟩ := bcell hwq
                         go_simp
                         all_goals first
                           | exact rfl
                           | (exact ⟨trivial, rfl⟩))
                       simp only [Act.put, List.setIfInBounds_toArray, List.set_cons_zero, List.set_cons_succ]))
                  refine wpQuiet_nil ?_
                  intro wq hwq
                  go_wp2_with fail
                  go_roundw
                  case rel => exact ⟨i + 1, by go_num, by omega, by omega, by rw [HA2.out], hbe.trans (hwq.mono hsi)⟩
                  case measure => simp [intOf]; omega
                · by_cases he : iAt G i = iAt G r
                  · have heb : (iAt G i == iAt G r) = true := by rw [beq_iff_eq]; exact he
                    have HA2 := Lib.hid (show allE G p f (i + 1) = true by rw [HAL.out, hb, decide_eq_true he]; rfl)
                    clear hb he
                    go_wp2_with fail
                    refine wp_region_below (W := wr) (by kernel_rfl) (by kernel_rfl) (Below.refl _ _) ?_
                    repeat (first
                      | (refine qs_skip (by rfl) ?_; simp only [Act.put, List.setIfInBounds_toArray, List.set_cons_zero, List.set_cons_succ])
                      | (apply qs_take
                         focus rfl
                         focus (
                           intro wq hwq
                           obtain ⟨hcq, hfq⟩ := bcell hwq
                           go_simp
                           all_goals first
                             | exact rfl
                             | (exact ⟨trivial, rfl⟩))
                         simp only [Act.put, List.setIfInBounds_toArray, List.set_cons_zero, List.set_cons_succ]))
                    refine wpQuiet_nil ?_
                    intro wq hwq
                    go_wp2_with fail
                    go_roundw
                    case rel => exact ⟨i + 1, by go_num, by omega, by omega, by rw [HA2.out], hbe.trans (hwq.mono hsi)⟩
                    case measure => simp [intOf]; omega
                  · have heb : (iAt G i == iAt G r) = false := by rw [beq_eq_false_iff_ne]; exact he
                    have HA2 := Lib.hid (show allE G p f (i + 1) = false by rw [HAL.out, hb, decide_eq_false he]; rfl)
                    clear hb he
                    go_wp2_with fail
                    refine wp_region_below (W := wr) (by kernel_rfl) (by kernel_rfl) (Below.refl _ _) ?_
                    repeat (first
                      | (refine qs_skip (by rfl) ?_; simp only [Act.put, List.setIfInBounds_toArray, List.set_cons_zero, List.set_cons_succ])
                      | (apply qs_take
                         focus rfl
                         focus (
                           intro wq hwq
                           obtain ⟨hcq, hfq⟩ := bcell hwq
                           go_simp
                           all_goals first
                             | exact rfl
                             | (exact ⟨trivial, rfl⟩))
                         simp only [Act.put, List.setIfInBounds_toArray, List.set_cons_zero, List.set_cons_succ]))
                    refine wpQuiet_nil ?_
                    intro wq hwq
                    go_wp2_with fail
                    go_roundw
                    case rel => exact ⟨i + 1, by go_num, by omega, by omega, by rw [HA2.out], hbe.trans (hwq.mono hsi)⟩
                    case measure => simp [intOf]; omega
              · obtain rfl : i = n := by omega
                have hr1 : (i : Int) + (p : Int) = 61 := by omega
                have hrd : decide ((i : Int) + (p : Int) ≤ 60) = false := decide_eq_false (by omega)
                have hL : G.length = i + p := by rw [HGL.out]; exact HN.out
                cases hb : allE G p f i
                · have HNX := Lib.hid (allE_no hL hfr.out hb)
                  clear hb hL hr1 hn'
                  go_wp2_with fail
                  go_roundw
                  case rel => exact ⟨f + 1, by go_num, by have := HIN.out; omega, HNX, hbe⟩
                  case measure => simp [intOf]; omega
                · have HEQ := Lib.hid (allE_yes hL hfn hfr.out hb)
                  clear hb hL hr1 hn'
                  go_wp2_with fail
                  go_ret2
                  exact ⟨p, f, rfl, .inl ⟨HS.out, by rw [← HG.out]; exact .inr ⟨hp1, HEQ.out.symm, by have := HIN.out; omega, hall.out⟩⟩, HW.out.trans (hbe.mono (by have := hs0; omega))⟩
          · have hid : decide ((f : Int) + 2 * (p : Int) + 9 ≤ 60) = false := decide_eq_false hin
            have HALL := Lib.hid (show ∀ p' : Nat, 1 ≤ p' → p' < p + 1 → 60 < repF G p' + 2 * p' + 9 from fun p' h1 h2 => by
              rcases Nat.eq_or_lt_of_le (show p' ≤ p by omega) with rfl | h3
              · have := hfr.out; omega
              · exact hall.out p' h1 h3)
            clear hin
            go_wp2_with fail
            go_roundw
            case rel => exact ⟨p + 1, by omega, by omega, by go_num, HALL, hbe⟩
            case measure => simp [intOf]; omega
      · have hgo' : ¬ (p : Int) ≤ 60 := by omega
        have hgd : decide ((p : Int) ≤ 60) = false := decide_eq_false hgo'
        have HPN := Lib.hid (show ∀ p' : Nat, 1 ≤ p' → 2 * p' + 9 ≤ 60 → 60 < repF G p' + 2 * p' + 9 from fun p' h1 h2 => hall.out p' h1 (by omega))
        clear hgo hgo'
        go_wp2_with fail
        go_ret2
        exact ⟨0, 0, rfl, .inl ⟨HS.out, by rw [← HG.out]; exact .inl ⟨rfl, rfl, HPN.out⟩⟩, HW.out.trans (hbe.mono (by have := hs0; omega))⟩
end Go.Proofs.Ytiilijpljhnphaa.Per
