/- HeapsBest by the model. -/
import Derived.Test.YtiilijpljhnphaaKh
namespace Go.Proofs.Ytiilijpljhnphaa.Ko
open Go.ChangeShapes Go.WideShapes Go.ChangeAt Go.RowKit Base Sq In
set_option linter.unusedVariables false
set_option maxRecDepth 20000
attribute [local irreducible] wpQuiet

set_option maxHeartbeats 1000000 in
theorem specHeapsBest_any (V : Option Addr) (cv : Nat) (s : List Int) (U : Option Addr) (cu : Nat) (z : List Int) (w : World) (hV : IsInts w w.heap.size V s) (hU : IsInts w w.heap.size U z) (hs : s.length ≤ 1048576) (hz : z.length ≤ 1048576) :
    Calls Try.prog 30 #[.slice V s.length cv, .slice U z.length cu] w fun e w' => PairNew 60 w w' (bestH s z) e := by
  obtain ⟨j0, hj, hy0, hy1, hy2⟩ := info_parts infoTake
  have hb0 := below_of w (.cells #[] 60)
  have hV0 := (hV.below hb0).more hb0.size
  have hU0 := (hU.below hb0).more hb0.size
  cases hb : setB s
  · have HS := Lib.hid hb
    have HN := Lib.hid (bestH_no (s := s) (z := z) (by rw [hb]; rfl))
    clear hb
    go_enter Try.func30, Try.ntmps30
    go_wp2_with (go_at_call 56; refine (l18Ok_any _ _ _ _ hV0 hs).mono ?_; rw [HS.out]; rintro e w' ⟨rfl, hb⟩)
    go_ret
    rw [HN.out]
    exact pairNew_of (l := []) (OwnP.nil _ _ _) (hb0.trans (hb.mono hb0.size))
  · have HS := Lib.hid hb
    cases hh : heapsB z
    · have HH := Lib.hid hh
      have HN := Lib.hid (bestH_no (s := s) (z := z) (by rw [hh, Bool.and_false]))
      clear hb hh
      go_enter Try.func30, Try.ntmps30
      go_wp2_with (first | (go_at_call 56; refine (l18Ok_any _ _ _ _ hV0 hs).mono ?_; rw [HS.out]; rintro e w' ⟨rfl, hb⟩) | (go_at_call 62; refine (l18Heaps_any _ _ _ _ ((hU0.below hb).more hb.size) hz).mono ?_; rw [HH.out]; rintro e w2 ⟨rfl, rfl⟩))
      go_ret
      rw [HN.out]
      exact pairNew_of (l := []) (OwnP.nil _ _ _) (hb0.trans (hb.mono hb0.size))
    · have HH := Lib.hid hh
      have HN := Lib.hid (bestH_yes hb hh)
      have HOK := Lib.hid (fun (i : Nat) (h : i < (movH s z z.length).length) => movH_ok hb h)
      have hfew := movH_few hb hh
      have hO0 : OwnP 60 (w.alloc (.cells #[] 60)) w.heap.size (.slice (some ⟨w.heap.size, 0, none⟩) 0 0) (bestK s z (movH s z z.length) 0) := OwnP.empty (Nat.le_refl _) (Blk.new w #[] 60)
      have HO0 := Lib.hid hO0
      have HB0 := Lib.hid hb0
      clear hb hh hO0
      go_enter Try.func30, Try.ntmps30
      go_wp2_with (first | (go_at_call 56; refine (l18Ok_any _ _ _ _ hV0 hs).mono ?_; rw [HS.out]; rintro e w' ⟨rfl, hb⟩) | (go_at_call 62; refine (l18Heaps_any _ _ _ _ ((hU0.below hb).more hb.size) hz).mono ?_; rw [HH.out]; rintro e w2 ⟨rfl, rfl⟩) | (go_at_call 65; refine (l18Moves_any _ _ _ _ _ _ _ ((hV0.below hb).more hb.size) ((hU0.below hb).more hb.size) HS.out HH.out).mono ?_; rintro e w3 ⟨A3, c3, rfl, hN, hb3⟩))
      have hbb := HB0.out.trans ((hb.trans (hb3.mono hb.size)).mono HB0.out.size)
      have HO3 := Lib.hid ((HO0.out.below hb).below (hb3))
      have HL3 := Lib.hid hN.is
      have HNE : Hid (0 < (movH s z z.length).length → ∀ b, A3 = some ⟨b, 0, none⟩ → (some ⟨w.heap.size, 0, none⟩ : Option Addr) ≠ some ⟨b, 0, none⟩) := Lib.hid (fun h0 b hA he => by
        obtain ⟨b', _, hA', hlo, _⟩ := hN h0
        rw [hA] at hA'
        have := hb.size
        simp at hA' he this
        omega)
      have HB3 := Lib.hid hbb
      have hs3 := hbb.size
      clear hN hb hb3 hb0 hV0 hU0 HO0 HB0 hbb
      generalize hms : movH s z z.length = ms at *
      have HMS := Lib.hid hms
      clear hms
      go_loopw [5, 7] (fun v i wr => ∃ (k : Nat) (A : Option Addr) (c : Nat), k ≤ ms.length ∧ i = .int .i64 k ∧ v = .slice A (bestK s z ms k).length c ∧ OwnP 60 wr w.heap.size (.slice A (bestK s z ms k).length c) (bestK s z ms k) ∧ Below w.heap.size w wr ∧ w3.heap.size ≤ wr.heap.size ∧ Hid (IsPr 60 wr w3.heap.size A3 ms) ∧ Hid (0 < ms.length → ∀ b, A3 = some ⟨b, 0, none⟩ → A ≠ some ⟨b, 0, none⟩)) (fun _ i _ => ms.length - (intOf i).toNat)
      case atStart => exact ⟨0, _, _, by omega, rfl, rfl, HO3.out, HB3.out, Nat.le_refl _, HL3, HNE⟩
      case round =>
        obtain ⟨k, A, c, hk, rfl, rfl, hO, hbe, hsw, HL, HNA⟩ := hrel
        have hbl := bestK_len s z ms k
        by_cases hlt : k < ms.length
        · have hlt' : (k : Int) < (ms.length : Int) := by omega
          obtain ⟨x, y, hxy⟩ : ∃ x y, prAt ms k = (x, y) := ⟨_, _, rfl⟩
          have hok := HOK.out k hlt
          rw [hxy] at hok
          have HMO := Lib.hid hok
          obtain ⟨lb, hlbA, -, -⟩ := HL.out.at hlt
          subst hlbA
          obtain ⟨hlb, c0, c1⟩ := HL.out.atb hlt hxy
          have HXY := Lib.hid hxy
          have hsz := hbe.size
          have HB := Lib.hid hbe
          have HO := Lib.hid hO
          clear hok hxy hbe hO
          cases hw : winB s z (x, y)
          · have HQ : (heapsK s (doH z (x, y)) (doH z (x, y)).length == 0) = false := by rw [win_iff HS.out HH.out HMO.out]; exact hw
            have HE := Lib.hid (bestK_no (s := s) (z := z) (ms := ms) (k := k) (by rw [HXY.out]; exact hw))
            clear hw
            go_wp2_with (first
              | (go_at_call 67; refine (l18Do_any U cu z x y wr ((hU.below HB.out).more hsz) HH.out HMO.out).mono ?_; rintro e w5 ⟨A5, c5, rfl, hN5, hb5⟩; have HN5 := Lib.hid hN5.is; have HW5 := Lib.hid (HB.out.trans (hb5.mono hsz)); have HB5 := Lib.hid hb5; have hs5 := hb5.size; clear hN5 hb5)
              | (go_at_call 63; refine (l18Sum_any _ _ _ _ _ _ _ ((hV.below HW5.out).more HW5.out.size) HN5.out HS.out (heapsB_do HH.out HMO.out)).mono ?_; rintro e w6 ⟨rfl, hb6⟩; have HB6 := Lib.hid (HB5.out.trans (hb6.mono hs5)); have hs6 := hb6.size; clear hb6))
            have hO6 := HO.out.below HB6.out
            have hb6 := HB.out.trans (HB6.out.mono hsz)
            have HL6 := Lib.hid (HL.out.below (HB6.out.mono hsw))
            have hw6 : w3.heap.size ≤ w6.heap.size := by omega
            clear HQ
            go_roundw
            case rel =>
              have R : k + 1 ≤ ms.length ∧ Value.int .i64 ((k : Int) + 1) = .int .i64 ((k + 1 : Nat) : Int) ∧ Value.slice A (bestK s z ms k).length c = .slice A (bestK s z ms (k + 1)).length c ∧ OwnP 60 w6 w.heap.size (.slice A (bestK s z ms (k + 1)).length c) (bestK s z ms (k + 1)) ∧ Below w.heap.size w w6 ∧ w3.heap.size ≤ w6.heap.size ∧ Hid (IsPr 60 w6 w3.heap.size (some ⟨lb, 0, none⟩) ms) ∧ Hid (0 < ms.length → ∀ b, (some ⟨lb, 0, none⟩ : Option Addr) = some ⟨b, 0, none⟩ → A ≠ some ⟨b, 0, none⟩) := ⟨by omega, by go_num, by rw [HE.out], by rw [HE.out]; exact hO6, hb6, hw6, HL6, HNA⟩
              first
                | exact ⟨k + 1, A, c, R⟩
                | ((repeat apply Exists.intro); exact ⟨⟨k + 1, A, c, R⟩, rfl⟩)
            case measure => simp [intOf]; omega
          · have HQ : (heapsK s (doH z (x, y)) (doH z (x, y)).length == 0) = true := by rw [win_iff HS.out HH.out HMO.out]; exact hw
            have HE := Lib.hid (show bestK s z ms (k + 1) = bestK s z ms k ++ [(x, y)] by rw [bestK_yes (by rw [HXY.out]; exact hw), HXY.out])
            have hmax : (bestK s z ms k).length + 1 ≤ maxLen := by unfold maxLen; omega
            clear hw
            go_wp2_with (first
              | (go_at_call 67; refine (l18Do_any U cu z x y wr ((hU.below HB.out).more hsz) HH.out HMO.out).mono ?_; rintro e w5 ⟨A5, c5, rfl, hN5, hb5⟩; have HN5 := Lib.hid hN5.is; have HW5 := Lib.hid (HB.out.trans (hb5.mono hsz)); have HB5 := Lib.hid hb5; have hs5 := hb5.size; clear hN5 hb5)
              | (go_at_call 63; refine (l18Sum_any _ _ _ _ _ _ _ ((hV.below HW5.out).more HW5.out.size) HN5.out HS.out (heapsB_do HH.out HMO.out)).mono ?_; rintro e w6 ⟨rfl, hb6⟩; have HB6 := Lib.hid (HB5.out.trans (hb6.mono hs5)); have hs6 := hb6.size; have HO6 := Lib.hid (HO.out.below HB6.out); have HL6 := Lib.hid (HL.out.below (HB6.out.mono hsw)); obtain ⟨_, c0, c1⟩ := HL6.out.atb hlt HXY.out; have HNW := Lib.hid (Blk.new w6 #[.int .i64 x, .int .i64 y] 60); clear hb6)
              | (at_builtin; refine wpList_append_own_at _ rfl _ _ 30 rfl (w.heap.size) 60 j0 (.agg #[.int .i64 0, .int .i64 0]) 2 16 Try.underlying30 hj hy0 hy1 hy2 rfl (by decide) _ _ _ rfl (OwnP.alloc HO6.out _) ⟨w6.heap.size, 0, none⟩ 1 1 [.int .i64 (x), .int .i64 (y)] rfl rfl (news2 HNW.out) one2 hmax (by omega) (by simp; omega) ?_; intro v' w7 hown' hgrow' hnil' hloc'; obtain ⟨B7, d7, rfl, hO7, hb7, hk7⟩ := app_afterP_at HO6.out HE.out hown' hgrow' hloc' (by first | omega | (simp; omega)); clear hown' hgrow' hnil' hloc'))
            have hz7 : w3.heap.size ≤ w7.heap.size := by have := hb7.size; omega
            have hb7 := (HB.out.trans (HB6.out.mono hsz)).trans hb7
            have hlb6 : lb < w6.heap.size := by omega
            obtain ⟨hne7, hst7⟩ := hk7 lb hlb6 (HNA.out (by omega) lb rfl)
            have HL7 := Lib.hid (HL6.out.stays (w' := w7) (fun b he => by obtain rfl : lb = b := (by simpa using he); exact hst7))
            have HN7 : Hid (0 < ms.length → ∀ b, (some ⟨lb, 0, none⟩ : Option Addr) = some ⟨b, 0, none⟩ → B7 ≠ some ⟨b, 0, none⟩) := Lib.hid (fun _ b he => by obtain rfl : lb = b := (by simpa using he); exact hne7)
            clear HQ hk7 hst7 hne7
            go_roundw
            case rel =>
              have R : k + 1 ≤ ms.length ∧ Value.int .i64 ((k : Int) + 1) = .int .i64 ((k + 1 : Nat) : Int) ∧ Value.slice B7 (bestK s z ms (k + 1)).length d7 = .slice B7 (bestK s z ms (k + 1)).length d7 ∧ OwnP 60 w7 w.heap.size (.slice B7 (bestK s z ms (k + 1)).length d7) (bestK s z ms (k + 1)) ∧ Below w.heap.size w w7 ∧ w3.heap.size ≤ w7.heap.size ∧ Hid (IsPr 60 w7 w3.heap.size (some ⟨lb, 0, none⟩) ms) ∧ Hid (0 < ms.length → ∀ b, (some ⟨lb, 0, none⟩ : Option Addr) = some ⟨b, 0, none⟩ → B7 ≠ some ⟨b, 0, none⟩) := ⟨by omega, by go_num, rfl, hO7, hb7, hz7, HL7, HN7⟩
              first
                | exact ⟨k + 1, B7, d7, R⟩
                | ((repeat apply Exists.intro); exact ⟨⟨k + 1, B7, d7, R⟩, rfl⟩)
            case measure => simp [intOf]; omega
        · obtain rfl : k = ms.length := by omega
          go_wp2_with fail
          go_ret
          rw [HN.out]
          exact pairNew_of hO hbe
end Go.Proofs.Ytiilijpljhnphaa.Ko
