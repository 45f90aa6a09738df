/- OctalMoves by the model: what may be left of a heap. -/
import Derived.Test.YtjanalljaacnoaaKd
import Derived.Test.YtjanalljaacnoaaJle
namespace Go.Proofs.Ytjanalljaacnoaa.Ko
open Go.ChangeShapes Go.WideShapes Go.ChangeAt Go.RowKit Base Sq In
set_option linter.unusedVariables false
set_option maxRecDepth 20000
attribute [local irreducible] wpQuiet

theorem octAt_zero {c : List Int} {m k : Nat} (hr : (m : Int) - k - 1 = 0) {d : Int} (hd : iAt c k = d) : octAt c m k = if d % 2 = 1 then [((0 : Int), (0 : Int))] else [] := by
  unfold octAt
  rw [hd, hr]
  by_cases h1 : d % 2 = 1 <;> simp [h1, splitK]
theorem octAt_pos {c : List Int} {m k : Nat} {R : Int} (hr : (m : Int) - k - 1 = R) (h0 : 0 < R) {d : Int} (hd : iAt c k = d) : octAt c m k = (if d / 2 % 2 = 1 then [((0 : Int), R)] else []) ++ (if d / 4 = 1 then splitK R (R / 2).toNat else []) := by
  unfold octAt
  rw [hd, hr, if_neg (fun h => by omega), List.nil_append]
  by_cases h1 : d / 2 % 2 = 1 <;> simp [h1, h0]
/-- a list and the ways to part R with the lesser heap up to j -/
def addK (P : List Pr) (R : Int) (j : Nat) : List Pr := P ++ splitK R j
theorem addK_zero (P : List Pr) (R : Int) : addK P R 0 = P := List.append_nil _
theorem addK_next (P : List Pr) (R : Int) (j : Nat) : addK P R (j + 1) = addK P R j ++ [((j : Int) + 1, R - ((j : Int) + 1))] := by
  unfold addK; rw [List.append_assoc]; rfl
theorem addK_len (P : List Pr) (R : Int) (j : Nat) : (addK P R j).length = P.length + j := by unfold addK; rw [List.length_append, splitK_len]
/-- how many ways to leave two heaps a digit allows -/
def octJ (d R : Int) : Nat := if d / 4 = 1 then (R / 2).toNat else 0
theorem addK_J (P : List Pr) (d R : Int) : addK P R (octJ d R) = P ++ (if d / 4 = 1 then splitK R (R / 2).toNat else []) := by
  unfold addK octJ
  split <;> rfl
theorem octJ_le (d : Int) {R : Int} (h : 0 ≤ R) : (octJ d R : Int) ≤ R := by unfold octJ; split <;> omega
theorem octJ_in {d R : Int} (h : 0 ≤ R) {j : Nat} (hj : j < octJ d R) : (j : Int) + 1 ≤ R - ((j : Int) + 1) ∧ d / 4 = 1 := by
  unfold octJ at hj
  split at hj
  · exact ⟨by omega, by assumption⟩
  · omega
theorem octJ_out (d : Int) {R : Int} (h : 0 ≤ R) : (R - ((octJ d R : Int) + 1) < (octJ d R : Int) + 1) ∨ ¬ d / 4 = 1 := by
  unfold octJ
  split
  · left; omega
  · right; assumption
theorem octK_next (c : List Int) (m k : Nat) : octK c m (k + 1) = octK c m k ++ octAt c m k := rfl
theorem octM_lim {c : List Int} {m : Nat} : octM c m = octK c m (min c.length m) := by unfold octM; rw [Int.toNat_natCast]
theorem octK_few {c : List Int} {m k : Nat} (h : m ≤ 60) (hk : k ≤ 4) : (octK c m k).length ≤ 128 := by
  have := octK_len (c := c) (heap := (m : Int)) (by omega) k
  omega
/-- what OctalMoves answers -/
def octMV (c : List Int) (q : Int) : List Pr := if octB c = true ∧ 0 ≤ q ∧ q ≤ 60 then octM c q else []
theorem octMV_no {c : List Int} {q : Int} (h : ¬ (octB c = true ∧ 0 ≤ q ∧ q ≤ 60)) : octMV c q = [] := if_neg h
theorem octMV_yes {c : List Int} {m : Nat} (h : octB c = true) (hm : m ≤ 60) : octMV c m = octM c m := if_pos ⟨h, by omega, by omega⟩
theorem octMV_len {c : List Int} {q : Int} : (octMV c q).length ≤ 1048576 := by
  unfold octMV
  split
  · rename_i h
    have h1 := octB_len h.1
    unfold octM
    have := octK_len (c := c) (heap := q) h.2.2 (min c.length q.toNat)
    omega
  · exact Nat.zero_le _
theorem PairNew.after' {T : TypeId} {w w1 w' : World} {l : List Pr} {e : Ending} (h : PairNew T w1 w' l e) (hb : Below w.heap.size w w1) : PairNew T w w' l e := by
  obtain ⟨A, c, he, hn, hb2⟩ := h
  exact ⟨A, c, he, hn.more hb.size (Nat.le_refl _), hb.trans (hb2.mono hb.size)⟩
set_option maxHeartbeats 8000000 in
theorem l19Moves_any (V : Option Addr) (cv : Nat) (c : List Int) (m : Nat) (w : World) (hV : IsInts w w.heap.size V c) (hs : octB c = true) (hm : m ≤ 60) :
    Calls Try.prog 70 #[.slice V c.length cv, .int .i64 (m : Int)] w fun e w' => PairNew 45 w w' (octM c m) e := by
  obtain ⟨j0, hj, hy0, hy1, hy2⟩ := info_parts infoLeft
  have hsl := (octB_len hs).2
  have HS := Lib.hid hs
  have hb0 : Below w.heap.size w (w.alloc (.cells #[] 45)) := (by repeat (first | exact Below.refl _ _ | assumption | (refine Below.alloc ?_ (by first | omega | (simp; done) | (simp; omega)) _) | (refine Below.setCell ?_ (by first | omega | (simp; done) | (simp; omega)) _) | refine Below.drew ?_))
  have hO0 : OwnP 45 (w.alloc (.cells #[] 45)) w.heap.size (.slice (some ⟨w.heap.size, 0, none⟩) 0 0) (octK c m 0) := OwnP.empty (Nat.le_refl _) (Blk.new w #[] 45)
  clear hs
  go_enter Try.func70, Try.ntmps70
  go_wp2_with fail
  generalize hW0 : w.alloc _ = W0 at *
  clear hW0
  go_loopw [5, 6] (fun v i wr => ∃ (k : Nat) (A : Option Addr) (a : Nat), k ≤ min c.length m ∧ i = .int .i64 k ∧ v = .slice A (octK c m k).length a ∧ OwnP 45 wr w.heap.size (.slice A (octK c m k).length a) (octK c m k) ∧ Below w.heap.size w wr) (fun _ i _ => c.length - (intOf i).toNat)
  case atStart => exact ⟨0, _, _, by omega, rfl, rfl, hO0, hb0⟩
  case round =>
    clear hO0 hb0
    obtain ⟨k, A, a, hk, rfl, rfl, hO, hbe⟩ := hrel
    have hol := octK_few (c := c) hm (show k ≤ 4 by omega)
    by_cases hlt : k < c.length
    · have hlt' : (k : Int) < (c.length : Int) := by omega
      by_cases hkm : k < m
      · have hkm' : (k : Int) < (m : Int) := by omega
        obtain ⟨b, rfl⟩ := hV.some (by omega)
        obtain ⟨hBb, c0⟩ := (hV.below hbe).at hlt
        have hdr := octB_in HS.out hlt
        have hsz := hbe.size
        have HX := Lib.hid (octK_next c m k)
        obtain ⟨d, hd⟩ : ∃ d, iAt c k = d := ⟨_, rfl⟩
        rw [hd] at c0 hdr
        have HD := Lib.hid hd
        have HO := Lib.hid hO
        have HB := Lib.hid hbe
        clear hd hO hbe
        obtain ⟨R, hR⟩ : ∃ R : Int, (m : Int) - k - 1 = R := ⟨_, rfl⟩
        have hR0 : 0 ≤ R := by omega
        have hR60 : R ≤ 60 := by omega
        have HR := Lib.hid hR
        have hdr1 := hdr.1
        have hdr2 := hdr.2
        have HLN := Lib.hid hol
        clear hdr
        rcases Int.lt_or_eq_of_le hR0 with hp | hz
        · have hpp : decide (0 < R) = true := decide_eq_true hp
          have hz : (R == 0) = false := by rw [beq_eq_false_iff_ne]; omega
          have HP0 := Lib.hid hp
          have w2 : IntKind.i64.wrap (R - 1) = R - 1 := IntWalk.i64_in _ (by omega)
          have HA := Lib.hid (octAt_pos hR hp HD.out)
          by_cases h1 : d % 2 = 1
          all_goals
            by_cases h2 : d / 2 % 2 = 1
            · obtain ⟨P, hP⟩ : ∃ P, P = octK c m k ++ [((0 : Int), R)] := ⟨_, rfl⟩
              have HP := Lib.hid hP
              have HLN := Lib.hid (show P.length ≤ 200 by rw [hP, List.length_append]; simp; omega)
              have HE := Lib.hid (show octK c m (k + 1) = addK P R (octJ d R) by rw [HX.out, HA.out, if_pos h2, addK_J, hP, List.append_assoc])
              have hmax : (octK c m k).length + 1 ≤ maxLen := by unfold maxLen; omega
              clear hP
              go_wp2_with (at_builtin; refine wpList_append_own _ rfl _ _ 42 rfl (w.heap.size) 45 j0 (.agg #[.int .i64 0, .int .i64 0]) 2 16 Try.underlying42 hj hy0 hy1 hy2 rfl (by decide) _ _ _ rfl (OwnP.alloc HO.out _) ⟨wr.heap.size, 0, none⟩ 1 1 [.int .i64 (0), .int .i64 (R)] rfl rfl (news2 (Blk.new wr #[.int .i64 (0), .int .i64 (R)] 45)) one2 hmax (by omega) (by simp; omega) ?_; intro v' w7 hown' hgrow' hnil'; obtain ⟨B7, d7, rfl, hO7, hb7⟩ := app_afterP HO.out HP.out hown' hgrow' (by omega); clear hown' hgrow' hnil')
              have HO7 := Lib.hid hO7
              have HB7 := Lib.hid (HB.out.trans hb7)
              clear hO7 hb7 h1 h2 hpp hz w2 c0
              have hI : OwnP 45 w7 w.heap.size (.slice B7 (addK P R 0).length d7) (addK P R 0) := by rw [addK_zero]; exact HO7.out
              have hv1 : Value.slice B7 (P).length d7 = .slice B7 (addK P R 0).length d7 := by rw [addK_zero]
              go_loopw [5, 8] (fun v i wr => ∃ (j : Nat) (A : Option Addr) (a : Nat), j ≤ octJ d R ∧ i = .int .i64 ((j : Int) + 1) ∧ v = .slice A (addK P R j).length a ∧ OwnP 45 wr w.heap.size (.slice A (addK P R j).length a) (addK P R j) ∧ Below w.heap.size w wr) (fun _ i _ => octJ d R + 1 - (intOf i).toNat)
              case atStart => exact ⟨0, _, _, by omega, rfl, hv1, hI, HB7.out⟩
              case round =>
                clear hI hv1
                obtain ⟨j, B2, d2, hjj, rfl, rfl, hL, hbk⟩ := hrel
                have hl2 : (addK P R j).length ≤ 300 := by have := HLN.out; have := octJ_le d hR0; rw [addK_len]; omega
                have hjR := octJ_le d hR0
                have hsk := hbk.size
                obtain ⟨_, c0⟩ := (hV.below hbk).at hlt
                rw [HD.out] at c0
                have w1 : IntKind.i64.wrap (R - ((j : Int) + 1)) = R - ((j : Int) + 1) := IntWalk.i64_in _ (by omega)
                by_cases hjl : j < octJ d R
                · obtain ⟨d1x, e4⟩ := octJ_in hR0 hjl
                  have HE2 := Lib.hid (addK_next P R j)
                  have HL := Lib.hid hL
                  have HK := Lib.hid hbk
                  have hmax : (addK P R j).length + 1 ≤ maxLen := by unfold maxLen; omega
                  clear hL hbk
                  go_wp2_with (at_builtin; refine wpList_append_own _ rfl _ _ 42 rfl (w.heap.size) 45 j0 (.agg #[.int .i64 0, .int .i64 0]) 2 16 Try.underlying42 hj hy0 hy1 hy2 rfl (by decide) _ _ _ rfl (OwnP.alloc HL.out _) ⟨wr.heap.size, 0, none⟩ 1 1 [.int .i64 ((j : Int) + 1), .int .i64 (R - ((j : Int) + 1))] rfl rfl (news2 (Blk.new wr #[.int .i64 ((j : Int) + 1), .int .i64 (R - ((j : Int) + 1))] 45)) one2 hmax (by omega) (by simp; omega) ?_; intro v' w9 hown' hgrow' hnil'; obtain ⟨B9, d9, rfl, hO9, hb9⟩ := app_afterP HL.out HE2.out hown' hgrow' (by omega); clear hown' hgrow' hnil')
                  have hb9 := HK.out.trans hb9
                  clear hjR
                  go_roundw
                  case rel =>
                    have RR : j + 1 ≤ octJ d R ∧ Value.int .i64 ((j : Int) + 1 + 1) = .int .i64 (((j + 1 : Nat) : Int) + 1) ∧ Value.slice B9 (addK P R (j + 1)).length d9 = .slice B9 (addK P R (j + 1)).length d9 ∧ OwnP 45 w9 w.heap.size (.slice B9 (addK P R (j + 1)).length d9) (addK P R (j + 1)) ∧ Below w.heap.size w w9 := ⟨by omega, by go_num, rfl, hO9, hb9⟩
                    first
                      | exact ⟨j + 1, B9, d9, RR⟩
                      | ((repeat apply Exists.intro); exact ⟨⟨j + 1, B9, d9, RR⟩, rfl⟩)
                  case measure => simp [intOf]; omega
                · obtain rfl : j = octJ d R := by omega
                  have HE3 := Lib.hid (show addK P R (octJ d R) = octK c m (k + 1) from HE.out.symm)
                  rw [HE3.out] at hL
                  rw [show (addK P R (octJ d R)).length = (octK c m (k + 1)).length by rw [HE3.out]]
                  clear hjR hl2
                  rcases octJ_out d hR0 with h4 | h4
                  · go_wp2_with fail
                    go_roundw
                    case rel =>
                      have RR : k + 1 ≤ min c.length m ∧ Value.int .i64 ((k : Int) + 1) = .int .i64 ((k + 1 : Nat) : Int) ∧ Value.slice B2 (octK c m (k + 1)).length d2 = .slice B2 (octK c m (k + 1)).length d2 ∧ OwnP 45 wr w.heap.size (.slice B2 (octK c m (k + 1)).length d2) (octK c m (k + 1)) ∧ Below w.heap.size w wr := ⟨by omega, by go_num, rfl, hL, hbk⟩
                      first
                        | exact ⟨k + 1, B2, d2, RR⟩
                        | ((repeat apply Exists.intro); exact ⟨⟨k + 1, B2, d2, RR⟩, rfl⟩)
                    case measure => simp [intOf]; omega
                  · by_cases h5 : (octJ d R : Int) + 1 ≤ R - ((octJ d R : Int) + 1)
                    all_goals
                      go_wp2_with fail
                      go_roundw
                      case rel =>
                        have RR : k + 1 ≤ min c.length m ∧ Value.int .i64 ((k : Int) + 1) = .int .i64 ((k + 1 : Nat) : Int) ∧ Value.slice B2 (octK c m (k + 1)).length d2 = .slice B2 (octK c m (k + 1)).length d2 ∧ OwnP 45 wr w.heap.size (.slice B2 (octK c m (k + 1)).length d2) (octK c m (k + 1)) ∧ Below w.heap.size w wr := ⟨by omega, by go_num, rfl, hL, hbk⟩
                        first
                          | exact ⟨k + 1, B2, d2, RR⟩
                          | ((repeat apply Exists.intro); exact ⟨⟨k + 1, B2, d2, RR⟩, rfl⟩)
                      case measure => simp [intOf]; omega
            · have HLN := Lib.hid (show (octK c m k).length ≤ 200 by omega)
              obtain ⟨P, hP⟩ : ∃ P, P = octK c m k := ⟨_, rfl⟩
              have HP := Lib.hid hP
              have HE := Lib.hid (show octK c m (k + 1) = addK P R (octJ d R) by rw [HX.out, HA.out, if_neg h2, List.nil_append, addK_J, hP])
              rw [← hP] at HO HLN ⊢
              clear hP
              go_wp2_with fail
              clear h1 h2 hpp hz w2 c0
              generalize hwa : wr = wa at *
              clear hwa
              have hI : OwnP 45 wa w.heap.size (.slice A (addK P R 0).length a) (addK P R 0) := by rw [addK_zero]; exact HO.out
              have hv1 : Value.slice A (P).length a = .slice A (addK P R 0).length a := by rw [addK_zero]
              go_loopw [5, 8] (fun v i wr => ∃ (j : Nat) (A : Option Addr) (a : Nat), j ≤ octJ d R ∧ i = .int .i64 ((j : Int) + 1) ∧ v = .slice A (addK P R j).length a ∧ OwnP 45 wr w.heap.size (.slice A (addK P R j).length a) (addK P R j) ∧ Below w.heap.size w wr) (fun _ i _ => octJ d R + 1 - (intOf i).toNat)
              case atStart => exact ⟨0, _, _, by omega, rfl, hv1, hI, HB.out⟩
              case round =>
                clear hI hv1
                obtain ⟨j, B2, d2, hjj, rfl, rfl, hL, hbk⟩ := hrel
                have hl2 : (addK P R j).length ≤ 300 := by have := HLN.out; have := octJ_le d hR0; rw [addK_len]; omega
                have hjR := octJ_le d hR0
                have hsk := hbk.size
                obtain ⟨_, c0⟩ := (hV.below hbk).at hlt
                rw [HD.out] at c0
                have w1 : IntKind.i64.wrap (R - ((j : Int) + 1)) = R - ((j : Int) + 1) := IntWalk.i64_in _ (by omega)
                by_cases hjl : j < octJ d R
                · obtain ⟨d1x, e4⟩ := octJ_in hR0 hjl
                  have HE2 := Lib.hid (addK_next P R j)
                  have HL := Lib.hid hL
                  have HK := Lib.hid hbk
                  have hmax : (addK P R j).length + 1 ≤ maxLen := by unfold maxLen; omega
                  clear hL hbk
                  go_wp2_with (at_builtin; refine wpList_append_own _ rfl _ _ 42 rfl (w.heap.size) 45 j0 (.agg #[.int .i64 0, .int .i64 0]) 2 16 Try.underlying42 hj hy0 hy1 hy2 rfl (by decide) _ _ _ rfl (OwnP.alloc HL.out _) ⟨wr.heap.size, 0, none⟩ 1 1 [.int .i64 ((j : Int) + 1), .int .i64 (R - ((j : Int) + 1))] rfl rfl (news2 (Blk.new wr #[.int .i64 ((j : Int) + 1), .int .i64 (R - ((j : Int) + 1))] 45)) one2 hmax (by omega) (by simp; omega) ?_; intro v' w9 hown' hgrow' hnil'; obtain ⟨B9, d9, rfl, hO9, hb9⟩ := app_afterP HL.out HE2.out hown' hgrow' (by omega); clear hown' hgrow' hnil')
                  have hb9 := HK.out.trans hb9
                  clear hjR
                  go_roundw
                  case rel =>
                    have RR : j + 1 ≤ octJ d R ∧ Value.int .i64 ((j : Int) + 1 + 1) = .int .i64 (((j + 1 : Nat) : Int) + 1) ∧ Value.slice B9 (addK P R (j + 1)).length d9 = .slice B9 (addK P R (j + 1)).length d9 ∧ OwnP 45 w9 w.heap.size (.slice B9 (addK P R (j + 1)).length d9) (addK P R (j + 1)) ∧ Below w.heap.size w w9 := ⟨by omega, by go_num, rfl, hO9, hb9⟩
                    first
                      | exact ⟨j + 1, B9, d9, RR⟩
                      | ((repeat apply Exists.intro); exact ⟨⟨j + 1, B9, d9, RR⟩, rfl⟩)
                  case measure => simp [intOf]; omega
                · obtain rfl : j = octJ d R := by omega
                  have HE3 := Lib.hid (show addK P R (octJ d R) = octK c m (k + 1) from HE.out.symm)
                  rw [HE3.out] at hL
                  rw [show (addK P R (octJ d R)).length = (octK c m (k + 1)).length by rw [HE3.out]]
                  clear hjR hl2
                  rcases octJ_out d hR0 with h4 | h4
                  · go_wp2_with fail
                    go_roundw
                    case rel =>
                      have RR : k + 1 ≤ min c.length m ∧ Value.int .i64 ((k : Int) + 1) = .int .i64 ((k + 1 : Nat) : Int) ∧ Value.slice B2 (octK c m (k + 1)).length d2 = .slice B2 (octK c m (k + 1)).length d2 ∧ OwnP 45 wr w.heap.size (.slice B2 (octK c m (k + 1)).length d2) (octK c m (k + 1)) ∧ Below w.heap.size w wr := ⟨by omega, by go_num, rfl, hL, hbk⟩
                      first
                        | exact ⟨k + 1, B2, d2, RR⟩
                        | ((repeat apply Exists.intro); exact ⟨⟨k + 1, B2, d2, RR⟩, rfl⟩)
                    case measure => simp [intOf]; omega
                  · by_cases h5 : (octJ d R : Int) + 1 ≤ R - ((octJ d R : Int) + 1)
                    all_goals
                      go_wp2_with fail
                      go_roundw
                      case rel =>
                        have RR : k + 1 ≤ min c.length m ∧ Value.int .i64 ((k : Int) + 1) = .int .i64 ((k + 1 : Nat) : Int) ∧ Value.slice B2 (octK c m (k + 1)).length d2 = .slice B2 (octK c m (k + 1)).length d2 ∧ OwnP 45 wr w.heap.size (.slice B2 (octK c m (k + 1)).length d2) (octK c m (k + 1)) ∧ Below w.heap.size w wr := ⟨by omega, by go_num, rfl, hL, hbk⟩
                        first
                          | exact ⟨k + 1, B2, d2, RR⟩
                          | ((repeat apply Exists.intro); exact ⟨⟨k + 1, B2, d2, RR⟩, rfl⟩)
                      case measure => simp [intOf]; omega
        · subst hz
          have HA := Lib.hid (octAt_zero hR HD.out)
          by_cases h1 : d % 2 = 1
          · have HE := Lib.hid (show octK c m (k + 1) = octK c m k ++ [((0 : Int), (0 : Int))] by rw [HX.out, HA.out, if_pos h1])
            have hmax : (octK c m k).length + 1 ≤ maxLen := by unfold maxLen; omega
            by_cases h2 : d / 2 % 2 = 1
            all_goals
              go_wp2_with ((at_builtin; refine wpList_append_own _ rfl _ _ 42 rfl (w.heap.size) 45 j0 (.agg #[.int .i64 0, .int .i64 0]) 2 16 Try.underlying42 hj hy0 hy1 hy2 rfl (by decide) _ _ _ rfl (OwnP.alloc HO.out _) ⟨wr.heap.size, 0, none⟩ 1 1 [.int .i64 (0), .int .i64 (0)] rfl rfl (news2 (Blk.new wr #[.int .i64 (0), .int .i64 (0)] 45)) one2 hmax (by omega) (by simp; omega) ?_; intro v' w7 hown' hgrow' hnil'; obtain ⟨B7, d7, rfl, hO7, hb7⟩ := app_afterP HO.out HE.out hown' hgrow' (by omega); clear hown' hgrow' hnil'); have hb7 := HB.out.trans hb7; obtain ⟨_, c0⟩ := (hV.below hb7).at hlt; rw [HD.out] at c0)
              go_loopw [5, 8] (fun v i wr => i = .int .i64 1 ∧ v = Value.slice B7 (octK c m (k + 1)).length d7 ∧ w7 = wr) (fun _ i _ => 0)
              case atStart => exact ⟨rfl, rfl, rfl⟩
              case round =>
                obtain ⟨rfl, rfl, rfl⟩ := hrel
                go_wp2_with fail
                go_roundw
                case rel =>
                  have RR : k + 1 ≤ min c.length m ∧ Value.int .i64 ((k : Int) + 1) = .int .i64 ((k + 1 : Nat) : Int) ∧ Value.slice B7 (octK c m (k + 1)).length d7 = .slice B7 (octK c m (k + 1)).length d7 ∧ OwnP 45 w7 w.heap.size (.slice B7 (octK c m (k + 1)).length d7) (octK c m (k + 1)) ∧ Below w.heap.size w w7 := ⟨by omega, by go_num, rfl, hO7, hb7⟩
                  first
                    | exact ⟨k + 1, B7, d7, RR⟩
                    | ((repeat apply Exists.intro); exact ⟨⟨k + 1, B7, d7, RR⟩, rfl⟩)
                case measure => simp [intOf]; omega
          · have HE := Lib.hid (show octK c m (k + 1) = octK c m k by rw [HX.out, HA.out, if_neg h1, List.append_nil])
            by_cases h2 : d / 2 % 2 = 1
            all_goals
              go_wp2_with fail
              generalize hwa : wr = wa at *
              clear hwa
              go_loopw [5, 8] (fun v i wr => i = .int .i64 1 ∧ v = Value.slice A (octK c m k).length a ∧ wa = wr) (fun _ i _ => 0)
              case atStart => exact ⟨rfl, rfl, rfl⟩
              case round =>
                obtain ⟨rfl, rfl, rfl⟩ := hrel
                go_wp2_with fail
                go_roundw
                case rel =>
                  have RR : k + 1 ≤ min c.length m ∧ Value.int .i64 ((k : Int) + 1) = .int .i64 ((k + 1 : Nat) : Int) ∧ Value.slice A (octK c m k).length a = .slice A (octK c m (k + 1)).length a ∧ OwnP 45 wa w.heap.size (.slice A (octK c m (k + 1)).length a) (octK c m (k + 1)) ∧ Below w.heap.size w wa := ⟨by omega, by go_num, by rw [HE.out], by rw [HE.out]; exact HO.out, HB.out⟩
                  first
                    | exact ⟨k + 1, A, a, RR⟩
                    | ((repeat apply Exists.intro); exact ⟨⟨k + 1, A, a, RR⟩, rfl⟩)
                case measure => simp [intOf]; omega
      · obtain rfl : k = m := by omega
        have HE := Lib.hid (show octM c k = octK c k k by rw [octM_lim, Nat.min_eq_right (Nat.le_of_lt hlt)])
        go_wp2_with fail
        go_ret
        rw [HE.out]
        exact pairNew_of hO hbe
    · obtain rfl : k = c.length := by omega
      have HE := Lib.hid (show octM c m = octK c m c.length by rw [octM_lim, Nat.min_eq_left (by omega)])
      go_wp2_with fail
      go_ret
      rw [HE.out]
      exact pairNew_of hO hbe
theorem specOctalMoves_any (V : Option Addr) (cv : Nat) (z : List Int) (q : Int) (w : World) (hV : IsInts w w.heap.size V z) (hz : z.length ≤ 1048576) :
    Calls Try.prog 39 #[.slice V z.length cv, .int .i64 q] w fun e w' => PairNew 45 w w' (octMV z q) e := by
  cases hs : octB z
  · have HS := Lib.hid hs
    have HN := Lib.hid (octMV_no (c := z) (q := q) (fun h => by rw [hs] at h; cases h.1))
    clear hs
    go_enter Try.func39, Try.ntmps39
    go_wp2_with (go_at_call 67; refine (l19Ok_any _ _ _ _ hV hz).mono ?_; rw [HS.out]; rintro e w' ⟨rfl, rfl⟩)
    go_ret
    rw [HN.out]
    exact pairNew_of (l := []) (OwnP.nil _ _ _) (Below.refl _ _)
  · have HS := Lib.hid hs
    cases hq : inB q 0 60
    · have HQ := Lib.hid hq
      have HN := Lib.hid (octMV_no (c := z) (q := q) (fun h => inB_out hq h.2))
      clear hs hq
      go_enter Try.func39, Try.ntmps39
      go_wp2_with (first | (go_at_call 67; refine (l19Ok_any _ _ _ _ hV hz).mono ?_; rw [HS.out]; rintro e w' ⟨rfl, rfl⟩) | (go_at_call 56; refine (in_any _ _ _ _).mono ?_; rw [HQ.out]; rintro e w2 ⟨rfl, rfl⟩))
      go_ret
      rw [HN.out]
      exact pairNew_of (l := []) (OwnP.nil _ _ _) (Below.refl _ _)
    · have HQ := Lib.hid hq
      obtain ⟨q1, q2⟩ := inB_in hq
      obtain ⟨m, rfl⟩ := Int.eq_ofNat_of_zero_le q1
      have hm : m ≤ 60 := by omega
      have HN := Lib.hid (octMV_yes hs hm)
      clear hs hq q1 q2
      go_enter Try.func39, Try.ntmps39
      go_wp2_with (first | (go_at_call 67; refine (l19Ok_any _ _ _ _ hV hz).mono ?_; rw [HS.out]; rintro e w' ⟨rfl, rfl⟩) | (go_at_call 56; refine (in_any _ _ _ _).mono ?_; rw [HQ.out]; rintro e w2 ⟨rfl, rfl⟩) | (go_at_call 70; refine (l19Moves_any _ _ _ m _ hV HS.out hm).mono ?_; rintro e w3 ⟨A, c, rfl, hN, hb3⟩))
      go_ret
      rw [HN.out]
      exact ⟨A, c, rfl, hN, hb3⟩
end Go.Proofs.Ytjanalljaacnoaa.Ko
