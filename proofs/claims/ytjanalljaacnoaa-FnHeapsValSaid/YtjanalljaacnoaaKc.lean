/- TakeAll by the model: the least that is missing, all values. -/
import Derived.Test.YtjanalljaacnoaaKa
namespace Go.Proofs.Ytjanalljaacnoaa.Ko
open Go.ChangeShapes Go.WideShapes Go.ChangeAt Go.RowKit Base Sq In
set_option linter.unusedVariables false
set_option maxRecDepth 20000
attribute [local irreducible] wpQuiet

theorem take_next {l : List Int} {i : Nat} (hi : i < l.length) (x : Int) : decide (x ∈ l.take (i + 1)) = (decide (x ∈ l.take i) || (iAt l i == x)) := by
  have e : iAt l i = l[i] := by unfold iAt; simp [List.getD_eq_getElem?_getD, hi]
  rw [e, List.take_succ_eq_append_getElem hi, Bool.eq_iff_iff, Bool.or_eq_true, decide_eq_true_eq, decide_eq_true_eq, beq_iff_eq, List.mem_append, List.mem_singleton]
  exact or_congr Iff.rfl eq_comm
theorem mex_any (V : Option Addr) (cv : Nat) (z : List Int) (w : World) (hV : IsInts w w.heap.size V z) (hz : z.length ≤ 1048576) :
    Calls Try.prog 80 #[.slice V z.length cv] w fun e w' => e = .returned (.int .i64 (mexV z)) ∧ w = w' := by
  have hm := mexV_le z
  go_enter Try.func80, Try.ntmps80
  go_wp2_with fail
  go_loopw [3] (fun i wr => ∃ k : Nat, i = .int .i64 k ∧ (k : Int) ≤ mexV z ∧ Hid (∀ j, j < k → ((j : Nat) : Int) ∈ z) ∧ w = wr) (fun i _ => (mexV z).toNat - (intOf i).toNat)
  case atStart => exact ⟨0, rfl, by omega, Lib.hid (fun j hj => absurd hj (by omega)), rfl⟩
  case round =>
    obtain ⟨k, rfl, hk, hg, rfl⟩ := hrel
    go_wp2_with fail
    go_loopw [4, 5] (fun b i wr => ∃ (j : Nat) (c : Bool), j ≤ z.length ∧ i = .int .i64 j ∧ b = .bool c ∧ Hid (c = decide ((k : Int) ∈ z.take j)) ∧ w = wr) (fun _ i _ => z.length - (intOf i).toNat)
    case atStart => exact ⟨0, false, by omega, rfl, rfl, Lib.hid (by simp), rfl⟩
    case round =>
      obtain ⟨j, c, hj, rfl, rfl, hc, rfl⟩ := hrel
      by_cases hlt : j < z.length
      · obtain ⟨b, rfl⟩ := hV.some (by omega)
        have hlt' : (j : Int) < (z.length : Int) := by omega
        obtain ⟨hBb, c0⟩ := hV.at hlt
        have HN := Lib.hid (take_next hlt (k : Int))
        cases c
        · cases he : (iAt z j == (k : Int))
          · have HE := Lib.hid (show false = decide ((k : Int) ∈ z.take (j + 1)) by rw [HN.out, ← hc.out, he]; rfl)
            go_wp2_with fail
            go_roundw
            case rel => exact ⟨j + 1, false, by omega, by go_num, rfl, HE, by first | rfl | trivial⟩
            case measure => simp [intOf]; omega
          · have HE := Lib.hid (show true = decide ((k : Int) ∈ z.take (j + 1)) by rw [HN.out, ← hc.out, he]; rfl)
            go_wp2_with fail
            go_roundw
            case rel => exact ⟨j + 1, true, by omega, by go_num, rfl, HE, by first | rfl | trivial⟩
            case measure => simp [intOf]; omega
        · have HE := Lib.hid (show true = decide ((k : Int) ∈ z.take (j + 1)) by rw [HN.out, ← hc.out]; rfl)
          go_wp2_with fail
          go_roundw
          case rel => exact ⟨j + 1, true, by omega, by go_num, rfl, HE, by first | rfl | trivial⟩
          case measure => simp [intOf]; omega
      · obtain rfl : j = z.length := by omega
        have HC := Lib.hid (show c = decide ((k : Int) ∈ z) by have := hc.out; rwa [List.take_length] at this)
        clear hc
        cases c
        · have HE := Lib.hid (mexV_eq hg.out (of_decide_eq_false HC.out.symm))
          go_wp2_with fail
          go_ret
          exact ⟨ri HE.out.symm, rfl⟩
        · have hin := of_decide_eq_true HC.out.symm
          have hne : (k : Int) < mexV z := by
            rcases Int.lt_or_eq_of_le hk with h1 | h1
            · exact h1
            · rw [h1] at hin; exact absurd hin (mexV_out z)
          have HG := Lib.hid (all_succ hg.out hin)
          clear hin hg HC
          go_wp2_with fail
          go_roundw
          case rel => exact ⟨k + 1, by go_num, by omega, HG, by first | rfl | trivial⟩
          case measure => simp [intOf]; omega
theorem optK_yes {s g : List Int} {n k : Nat} (h : iAt s k ≤ (n : Int)) : optK s g n (k + 1) = optK s g n k ++ [iAt g ((n : Int) - iAt s k).toNat] := if_pos h
theorem optK_no {s g : List Int} {n k : Nat} (h : ¬ iAt s k ≤ (n : Int)) : optK s g n (k + 1) = optK s g n k := if_neg h
set_option maxHeartbeats 8000000 in
theorem l18All_any (V : Option Addr) (cv : Nat) (s : List Int) (m : Nat) (w : World) (hV : IsInts w w.heap.size V s) (hs : setB s = true) (hm : m ≤ 60) :
    Calls Try.prog 57 #[.slice V s.length cv, .int .i64 (m : Int)] w fun e w' => LenNew w w' (gruV s (m + 1)) e := by
  obtain ⟨i0, hi, hz0, hz1, hz2⟩ := info_parts infoInt
  have hsl := setB_len hs
  have HS := Lib.hid hs
  have hb0 : Below w.heap.size w (w.alloc (.cells #[] 3)) := (by repeat (first | exact Below.refl _ _ | assumption | (refine Below.alloc ?_ (by first | omega | (simp; done) | (simp; omega)) _) | (refine Below.setCell ?_ (by first | omega | (simp; done) | (simp; omega)) _) | refine Below.drew ?_))
  have hO0 := Own.empty (base := w.heap.size) (Nat.le_refl _) (Blk.new w #[] 3)
  clear hs
  go_enter Try.func57, Try.ntmps57
  go_wp2_with fail
  generalize hW0 : w.alloc _ = W0 at *
  clear hW0
  go_loopw [5, 6] (fun v i wr => ∃ (n : Nat) (A : Option Addr) (c : Nat), n ≤ m + 1 ∧ i = .int .i64 n ∧ v = .slice A (gruV s n).length c ∧ In.Own wr w.heap.size (.slice A (gruV s n).length c) (gruV s n) ∧ Below w.heap.size w wr) (fun _ i _ => m + 1 - (intOf i).toNat)
  case atStart => exact ⟨0, _, _, by omega, rfl, rfl, hO0, hb0⟩
  case round =>
    clear hO0 hb0
    obtain ⟨n, A, c, hn, rfl, rfl, hO, hbe⟩ := hrel
    have HGL := Lib.hid (gruV_len s n)
    have hgl6 : (gruV s n).length ≤ 61 := by have := HGL.out; omega
    by_cases hlt : n ≤ m
    · have hlt' : (n : Int) ≤ (m : Int) := by omega
      have HB := Lib.hid hbe
      have HO := Lib.hid hO
      have hsz := hbe.size
      have hO1 := Own.empty (base := wr.heap.size) (Nat.le_refl _) (Blk.new wr #[] 3)
      have hb1 := below_of wr (.cells #[] 3)
      clear hbe hO
      go_wp2_with fail
      generalize hW1 : wr.alloc _ = W1 at *
      clear hW1
      generalize hwa : wr = wa at *
      clear hwa
      go_loopw [7, 8] (fun v i wr => ∃ (k : Nat) (B : Option Addr) (d : Nat), k ≤ s.length ∧ i = .int .i64 k ∧ v = .slice B (optK s (gruV s n) n k).length d ∧ In.Own wr wa.heap.size (.slice B (optK s (gruV s n) n k).length d) (optK s (gruV s n) n k) ∧ Below wa.heap.size wa wr) (fun _ i _ => s.length - (intOf i).toNat)
      case atStart => exact ⟨0, _, _, by omega, rfl, rfl, hO1, hb1⟩
      case round =>
        clear hO1 hb1
        obtain ⟨k, B, d, hk, rfl, rfl, hL, hbk⟩ := hrel
        have hol := optK_len s (gruV s n) n k
        have hszk := hbk.size
        by_cases hlk : k < s.length
        · obtain ⟨b, rfl⟩ := hV.some (by omega)
          have hlk' : (k : Int) < (s.length : Int) := by omega
          have hbw := HB.out.trans (hbk.mono hsz)
          obtain ⟨hBb, c0⟩ := (hV.below hbw).at hlk
          obtain ⟨r1, r2⟩ := setB_in HS.out hlk
          by_cases hle : iAt s k ≤ (n : Int)
          · have HE := Lib.hid (optK_yes (g := gruV s n) hle)
            obtain ⟨A', c', hv', hI⟩ := HO.out.is
            simp only [Value.slice.injEq] at hv'
            obtain ⟨rfl, _, rfl⟩ := hv'
            have hI' := hI.below hbk
            obtain ⟨g, rfl⟩ := hI'.some (by have := HGL.out; omega)
            have hix : ((n : Int) - iAt s k).toNat < (gruV s n).length := by have := HGL.out; omega
            obtain ⟨hgB, c1⟩ := hI'.at hix
            have q1 : (0 : Int) ≤ (n : Int) - iAt s k := by omega
            have q2 : (n : Int) - iAt s k < ((gruV s n).length : Int) := by have := HGL.out; omega
            have hmax : (optK s (gruV s n) n k).length + 1 ≤ maxLen := by unfold maxLen; omega
            have q3 : IntKind.i64.wrap ((n : Int) - iAt s k) = (n : Int) - iAt s k := IntWalk.i64_in _ (by omega)
            have HL := Lib.hid hL
            have HK := Lib.hid hbk
            clear hL hbk hI hI' hbw
            go_wp2_with (at_builtin; refine wpList_append_own _ rfl _ _ 23 rfl (wa.heap.size) 3 i0 (.int .i64 0) 1 8 Try.underlying23 hi hz0 hz1 hz2 rfl (by decide) _ _ _ rfl (World.ownsRow.alloc HL.out _) ⟨wr.heap.size, 0, none⟩ 1 1 [.int .i64 (iAt (gruV s n) ((n : Int) - iAt s k).toNat)] rfl rfl (cell_one_new _ _ _) (fun u hu => by simp at hu; subst hu; rfl) hmax (by omega) (by simp; omega) ?_; intro v' w7 hown' hgrow' hnil'; obtain ⟨B7, d7, rfl, hO7, hb7⟩ := app_after HL.out HE.out hown' hgrow' (by omega); clear hown' hgrow' hnil')
            go_roundw
            case rel =>
              have R : k + 1 ≤ s.length ∧ Value.int .i64 ((k : Int) + 1) = .int .i64 ((k + 1 : Nat) : Int) ∧ Value.slice B7 (optK s (gruV s n) n (k + 1)).length d7 = .slice B7 (optK s (gruV s n) n (k + 1)).length d7 ∧ In.Own w7 wa.heap.size (.slice B7 (optK s (gruV s n) n (k + 1)).length d7) (optK s (gruV s n) n (k + 1)) ∧ Below wa.heap.size wa w7 := ⟨by omega, by go_num, rfl, hO7, HK.out.trans hb7⟩
              first
                | exact ⟨k + 1, B7, d7, R⟩
                | ((repeat apply Exists.intro); exact ⟨⟨k + 1, B7, d7, R⟩, rfl⟩)
            case measure => simp [intOf]; omega
          · have HE := Lib.hid (optK_no (g := gruV s n) hle)
            have hle' : (n : Int) < iAt s k := by omega
            clear hle
            go_wp2_with fail
            go_roundw
            case rel =>
              have R : k + 1 ≤ s.length ∧ Value.int .i64 ((k : Int) + 1) = .int .i64 ((k + 1 : Nat) : Int) ∧ Value.slice B (optK s (gruV s n) n k).length d = .slice B (optK s (gruV s n) n (k + 1)).length d ∧ In.Own wr wa.heap.size (.slice B (optK s (gruV s n) n (k + 1)).length d) (optK s (gruV s n) n (k + 1)) ∧ Below wa.heap.size wa wr := ⟨by omega, by go_num, by rw [HE.out], by rw [HE.out]; exact hL, hbk⟩
              first
                | exact ⟨k + 1, B, d, R⟩
                | ((repeat apply Exists.intro); exact ⟨⟨k + 1, B, d, R⟩, rfl⟩)
            case measure => simp [intOf]; omega
        · obtain rfl : k = s.length := by omega
          have HE := Lib.hid (show gruV s (n + 1) = gruV s n ++ [mexV (optK s (gruV s n) n s.length)] from rfl)
          have HOk := Lib.hid (HO.out.below hbk)
          have hmax : (gruV s n).length + 1 ≤ maxLen := by unfold maxLen; omega
          obtain ⟨B', d', hv', hI⟩ := hL.is
          simp only [Value.slice.injEq] at hv'
          obtain ⟨rfl, _, rfl⟩ := hv'
          have HK := Lib.hid hbk
          have HI := Lib.hid hI
          clear hL hbk hI
          go_wp2_with (first | (go_at_call 80; refine (mex_any _ _ _ _ HI.out (by omega)).mono ?_; rintro e w' ⟨rfl, rfl⟩) | (at_builtin; refine wpList_append_own _ rfl _ _ 23 rfl (w.heap.size) 3 i0 (.int .i64 0) 1 8 Try.underlying23 hi hz0 hz1 hz2 rfl (by decide) _ _ _ rfl (World.ownsRow.alloc HOk.out _) ⟨wr.heap.size, 0, none⟩ 1 1 [.int .i64 (mexV (optK s (gruV s n) n s.length))] rfl rfl (cell_one_new _ _ _) (fun u hu => by simp at hu; subst hu; rfl) hmax (by omega) (by simp; omega) ?_; intro v' w7 hown' hgrow' hnil'; obtain ⟨B7, d7, rfl, hO7, hb7⟩ := app_after HOk.out HE.out hown' hgrow' (by omega); clear hown' hgrow' hnil'))
          have hbw := (HB.out.trans (HK.out.mono hsz)).trans hb7
          clear hol
          go_roundw
          case rel =>
            have R : n + 1 ≤ m + 1 ∧ Value.int .i64 ((n : Int) + 1) = .int .i64 ((n + 1 : Nat) : Int) ∧ Value.slice B7 (gruV s (n + 1)).length d7 = .slice B7 (gruV s (n + 1)).length d7 ∧ In.Own w7 w.heap.size (.slice B7 (gruV s (n + 1)).length d7) (gruV s (n + 1)) ∧ Below w.heap.size w w7 := ⟨by omega, by go_num, rfl, hO7, hbw⟩
            first
              | exact ⟨n + 1, B7, d7, R⟩
              | ((repeat apply Exists.intro); exact ⟨⟨n + 1, B7, d7, R⟩, rfl⟩)
          case measure => simp [intOf]; omega
    · obtain rfl : n = m + 1 := by omega
      have hd : decide (((m + 1 : Nat) : Int) ≤ (m : Int)) = false := decide_eq_false (by omega)
      go_wp2_with fail
      go_ret
      exact lenNew_of hO hbe
end Go.Proofs.Ytjanalljaacnoaa.Ko
