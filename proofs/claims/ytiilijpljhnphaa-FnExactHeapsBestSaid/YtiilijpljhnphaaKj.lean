/- HeapsBest by the program. -/
import Derived.Test.YtiilijpljhnphaaKg
namespace Go.Proofs.Ytiilijpljhnphaa.Ko
open Go.ChangeShapes Go.WideShapes Go.ChangeAt Go.RowKit Base Sq In
set_option linter.unusedVariables false
set_option maxRecDepth 20000
attribute [local irreducible] wpQuiet

set_option maxHeartbeats 2000000 in
theorem heapsBest_any (V : Option Addr) (cv : Nat) (s : List Int) (U : Option Addr) (cu : Nat) (z : List Int) (w : World) (hV : IsInts w w.heap.size V s) (hU : IsInts w w.heap.size U z) (hs : s.length ≤ 1048576) (hz : z.length ≤ 1048576) :
    Calls Try.prog 31 #[.slice V s.length cv, .slice U z.length cu] w fun e w' => PairNew 60 w w' (bestH s z) e := by
  obtain ⟨j0, hj, hy0, hy1, hy2⟩ := info_parts infoTake
  cases hb : (setB s && heapsB z)
  · have HH := Lib.hid hb
    have HN := Lib.hid (bestH_no hb)
    clear hb
    go_enter Try.func31, Try.ntmps31
    go_wp2_with (go_at_call 64; refine (heapsOk_any _ _ _ _ _ _ _ hV hU hs hz).mono ?_; rw [HH.out]; rintro e w2 ⟨rfl, rfl⟩)
    go_ret
    rw [HN.out]
    exact pairNew_of (l := []) (OwnP.nil _ _ _) (Below.refl _ _)
  · have HH := Lib.hid hb
    rw [Bool.and_eq_true] at hb
    obtain ⟨h1, h2⟩ := hb
    have HS := Lib.hid h1
    have HZ := Lib.hid h2
    have HN := Lib.hid (bestH_yes h1 h2)
    have HVV := Lib.hid (heapsV_yes h1 h2)
    have HMM := Lib.hid (movesV_yes h1 h2)
    have HT := Lib.hid (show takeV s 60 = gruV s 61 from takeV_yes (m := 60) h1 (by omega))
    have HOK := Lib.hid (fun (i : Nat) (h : i < (movH s z z.length).length) => movH_ok h1 h)
    have hfew := movH_few h1 h2
    have HX := Lib.hid (heapsK_bd h1 h2 (Nat.le_refl _))
    clear h1 h2
    go_enter Try.func31, Try.ntmps31
    go_wp2_with (first
      | (go_at_call 64; refine (heapsOk_any _ _ _ _ _ _ _ hV hU hs hz).mono ?_; rw [HH.out]; rintro e w0 ⟨rfl, rfl⟩)
      | (go_at_call 20; refine (takeAll_any _ _ _ _ _ hV hs).mono ?_; rw [HT.out]; rintro e w1 ⟨A1, c1, rfl, hN1, hb1⟩)
      | (go_at_call 24; refine (heapsVal_any _ _ _ _ _ _ _ ((hV.below hb1).more hb1.size) ((hU.below hb1).more hb1.size) hs hz).mono ?_; rw [HVV.out]; rintro e w2 ⟨rfl, hb2⟩; have hb12 := hb1.trans (hb2.mono hb1.size))
      | (go_at_call 26; refine (heapsMoves_any _ _ _ _ _ _ _ ((hV.below hb12).more hb12.size) ((hU.below hb12).more hb12.size) hs hz).mono ?_; rw [HMM.out]; rintro e w3 ⟨A3, c3, rfl, hN3, hb3⟩))
    have hbb := hb12.trans (hb3.mono hb12.size)
    have HL3 := Lib.hid hN3.is
    have hs2 := hb2.size
    have hs3 := hb3.size
    have HG3 := Lib.hid ((((hN1.is.below hb2).more hs2).below hb3).more hs3)
    have HB3 := Lib.hid hbb
    have hss := hbb.size
    have HGL := Lib.hid (gruV_len s 61)
    have HO3 := Lib.hid (OwnP.nil 60 w3 w3.heap.size)
    clear hN1 hN3 hb1 hb2 hb12 hb3 hbb
    generalize hms : movH s z z.length = ms at *
    generalize hxx : heapsK s z z.length = X at *
    have HMS := Lib.hid hms
    have HXX := Lib.hid hxx
    clear hms hxx
    go_loopw [7, 25] (fun v i wr => ∃ (k : Nat) (A : Option Addr) (c : Nat), k ≤ ms.length ∧ i = .int .i64 k ∧ v = .slice A (bestK s z ms k).length c ∧ OwnP 60 wr w3.heap.size (.slice A (bestK s z ms k).length c) (bestK s z ms k) ∧ Below w3.heap.size w3 wr) (fun _ i _ => ms.length - (intOf i).toNat)
    case atStart => exact ⟨0, _, _, by omega, rfl, rfl, HO3.out, Below.refl _ _⟩
    case round =>
      obtain ⟨k, A, c, hk, rfl, rfl, hO, hbe⟩ := hrel
      have hbl := bestK_len s z ms k
      by_cases hlt : k < ms.length
      · have hlt' : (k : Int) < (ms.length : Int) := by omega
        obtain ⟨x, y, hxy⟩ : ∃ x y, prAt ms k = (x, y) := ⟨_, _, rfl⟩
        have hok := HOK.out k hlt
        rw [hxy] at hok
        obtain ⟨hx0, hxl, hy1', hy2'⟩ : 0 ≤ x ∧ x.toNat < z.length ∧ 1 ≤ y ∧ y ≤ iAt z x.toNat := hok
        obtain ⟨hr1, hr2⟩ := heapsB_in HZ.out hxl
        obtain ⟨lb, hlbA, -, -⟩ := HL3.out.at hlt
        subst hlbA
        have hsz := hbe.size
        obtain ⟨hlb, c0, c1⟩ := (HL3.out.below hbe).atb hlt hxy
        obtain ⟨b2, rfl⟩ := hU.some (by omega)
        obtain ⟨g, rfl⟩ := HG3.out.some (by have := HGL.out; omega)
        have hbA := hbe.alloc hsz (.cells #[.int .i64 x, .int .i64 y] 60)
        have hbW := HB3.out.trans (hbA.mono hss)
        have p0 := Blk.new wr #[.int .i64 x, .int .i64 y] 60
        obtain ⟨⟨e0, e1⟩, _⟩ := p0.at2
        obtain ⟨hu1, u0⟩ := (hU.below hbW).at hxl
        obtain ⟨hg1, v0⟩ := (HG3.out.below hbA).at (i := (iAt z x.toNat).toNat) (by have := HGL.out; omega)
        obtain ⟨_, v1⟩ := (HG3.out.below hbA).at (i := (iAt z x.toNat - y).toNat) (by have := HGL.out; omega)
        have q1 : x < (z.length : Int) := by omega
        have q2 : iAt z x.toNat < ((gruV s 61).length : Int) := by have := HGL.out; omega
        have q3 : iAt z x.toNat - y < ((gruV s 61).length : Int) := by have := HGL.out; omega
        have q4 : 0 ≤ iAt z x.toNat - y := by omega
        have q5 : IntKind.i64.wrap (iAt z x.toNat - y) = iAt z x.toNat - y := IntWalk.i64_in _ (by omega)
        have hgb := gruV_bd (s := s) (n := 61) (i := (iAt z x.toNat).toNat) (by omega)
        have hsl := setB_len HS.out
        have hbx : bits .xor .i64 X (iAt (gruV s 61) (iAt z x.toNat).toNat) = xorV X (iAt (gruV s 61) (iAt z x.toNat).toNat) := bits_xor (by have := HX.out; omega) (by omega)
        have HXY := Lib.hid hxy
        have HB := Lib.hid hbe
        have HO := Lib.hid hO
        have HOA := Lib.hid (hO.alloc (.cells #[.int .i64 x, .int .i64 y] 60))
        have HBA := Lib.hid hbA
        have hwin : winB s z (x, y) = (iAt (gruV s 61) (iAt z x.toNat - y).toNat == xorV X (iAt (gruV s 61) (iAt z x.toNat).toNat)) := by unfold winB; rw [HXX.out]
        have hszA : w3.heap.size ≤ (wr.alloc (.cells #[.int .i64 x, .int .i64 y] 60)).heap.size := by simp; omega
        clear hbe hO hbA hbW p0 hxy hgb hsl
        cases hw : winB s z (x, y)
        · have HE := Lib.hid (bestK_no (s := s) (z := z) (ms := ms) (k := k) (by rw [HXY.out]; exact hw))
          rw [hw] at hwin
          have hwin2 := hwin.symm
          clear hwin
          clear hw
          go_wp2_with fail
          go_roundw
          case rel =>
            have R : k + 1 ≤ ms.length ∧ Value.int .i64 ((k : Int) + 1) = .int .i64 ((k + 1 : Nat) : Int) ∧ Value.slice A (bestK s z ms k).length c = .slice A (bestK s z ms (k + 1)).length c ∧ OwnP 60 (wr.alloc (.cells #[.int .i64 x, .int .i64 y] 60)) w3.heap.size (.slice A (bestK s z ms (k + 1)).length c) (bestK s z ms (k + 1)) ∧ Below w3.heap.size w3 (wr.alloc (.cells #[.int .i64 x, .int .i64 y] 60)) := ⟨by omega, by go_num, by rw [HE.out], by rw [HE.out]; exact HOA.out, HBA.out⟩
            first
              | exact ⟨k + 1, A, c, R⟩
              | ((repeat apply Exists.intro); exact ⟨⟨k + 1, A, c, R⟩, rfl⟩)
          case measure => simp [intOf]; omega
        · have HE := Lib.hid (show bestK s z ms (k + 1) = bestK s z ms k ++ [(x, y)] by rw [bestK_yes (by rw [HXY.out]; exact hw), HXY.out])
          rw [hw] at hwin
          have hwin2 := hwin.symm
          clear hwin
          have hmax : (bestK s z ms k).length + 1 ≤ maxLen := by unfold maxLen; omega
          have HNW : Hid (Blk ((wr.alloc (.cells #[.int .i64 x, .int .i64 y] 60)).alloc (.cells #[.int .i64 x, .int .i64 y] 60)) (wr.heap.size + 1) #[.int .i64 x, .int .i64 y] 60) := Lib.hid (by have := Blk.new (wr.alloc (.cells #[.int .i64 x, .int .i64 y] 60)) #[.int .i64 x, .int .i64 y] 60; simp only [World.size_alloc] at this; exact this)
          clear hw
          go_wp2_with (at_builtin; refine wpList_append_own _ rfl _ _ 30 rfl (w3.heap.size) 60 j0 (.agg #[.int .i64 0, .int .i64 0]) 2 16 Try.underlying30 hj hy0 hy1 hy2 rfl (by decide) _ _ _ rfl (OwnP.alloc HOA.out _) ⟨wr.heap.size + 1, 0, none⟩ 1 1 [.int .i64 (x), .int .i64 (y)] rfl rfl (news2 HNW.out) one2 hmax (by omega) (by simp; omega) ?_; intro v' w7 hown' hgrow' hnil'; obtain ⟨B7, d7, rfl, hO7, hb7⟩ := app_afterP HOA.out HE.out hown' hgrow' (by first | omega | (simp; omega)); clear hown' hgrow' hnil')
          have hb7 := HBA.out.trans hb7
          go_roundw
          case rel =>
            have R : k + 1 ≤ ms.length ∧ Value.int .i64 ((k : Int) + 1) = .int .i64 ((k + 1 : Nat) : Int) ∧ Value.slice B7 (bestK s z ms (k + 1)).length d7 = .slice B7 (bestK s z ms (k + 1)).length d7 ∧ OwnP 60 w7 w3.heap.size (.slice B7 (bestK s z ms (k + 1)).length d7) (bestK s z ms (k + 1)) ∧ Below w3.heap.size w3 w7 := ⟨by omega, by go_num, rfl, hO7, hb7⟩
            first
              | exact ⟨k + 1, B7, d7, R⟩
              | ((repeat apply Exists.intro); exact ⟨⟨k + 1, B7, d7, R⟩, rfl⟩)
          case measure => simp [intOf]; omega
      · obtain rfl : k = ms.length := by omega
        go_wp2_with fail
        go_ret
        rw [HN.out]
        exact PairNew.after (pairNew_of hO hbe) HB3.out
end Go.Proofs.Ytiilijpljhnphaa.Ko
