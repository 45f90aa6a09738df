/- OctalAll: the program's. -/
import Derived.Test.YtjanalljaacnoaaKb
import Derived.Test.YtjanalljaacnoaaKp2
import Derived.Test.YtjanalljaacnoaaKq
namespace Go.Proofs.Ytjanalljaacnoaa.Ko
open Go.ChangeShapes Go.WideShapes Go.ChangeAt Go.RowKit Base Sq In
set_option linter.unusedVariables false
set_option maxRecDepth 20000
attribute [local irreducible] wpQuiet

theorem IsSet.ne {w : World} {m n : Nat} {l : List Int} (h : IsSet w m n l) {g : Nat} {vs : Array Value} {T : TypeId} (hb : Blk w g vs T) : g ≠ m := by
  rintro rfl
  obtain ⟨D, ⟨es, clock, hm, _⟩, _⟩ := h
  have h2 : w.heap[g]? = some (.cells vs T) := hb
  rw [hm] at h2
  simp at h2
set_option maxHeartbeats 4000000 in
theorem octAfter_any (g : Nat) (V : Option Addr) (cv : Nat) (s : List Int) (A : Option Addr) (c : Nat) (l : List Int) (w : World) (hg : Blk w g #[.slice V s.length cv] 23) (hV : IsInts w w.heap.size V s) (hA : IsInts w w.heap.size A l) (hs : octB s = true) (hcap : s.length ≤ cv) (hl : l.length ≤ 60) (hin : ∀ i, i < l.length → 0 ≤ iAt l i ∧ iAt l i < 2 ^ 8) :
    Calls Try.prog 66 #[.slice A l.length c, .pointer (some ⟨g, 0, none⟩)] w fun e w' => SetPost w w' (octW l (octM s l.length)) e := by
  have HS := Lib.hid hs
  have HIN := Lib.hid hin
  have hmm := @run_makeMap Try.prog
  have hb0 := below_of w (.map #[] 0)
  have hS0 := IsSet.made w
  obtain ⟨g0, _⟩ := (hg.alloc (.map #[] 0)).at1
  have hgl := hg.lt
  have hsl : s.length ≤ 1048576 := by have := octB_len hs; omega
  have hV0 := (hV.below hb0).more hb0.size
  have hA0 := (hA.below hb0).more hb0.size
  have HMV := Lib.hid (octMV_yes hs (m := l.length) hl)
  have hfew := octM_few hs (n := l.length) hl
  have HPI := Lib.hid (show ∀ i, i < (octM s l.length).length → PairIn l.length (prAt (octM s l.length) i) from fun i h => octM_in h)
  clear hs hin
  go_enter Try.func66, Try.ntmps66
  go_wp2_with (go_at_call 37; refine (octalMoves_any _ _ _ (l.length : Int) _ hV0 hsl hcap).mono ?_; rw [HMV.out]; rintro e w1 ⟨Am, cm, rfl, hM, hb1⟩)
  have HS1 := Lib.hid (hS0.below hb1 hS0.lt)
  have HB1 := Lib.hid (hb0.trans (hb1.mono hb0.size))
  have HM1 := Lib.hid hM.is
  have HA1 := Lib.hid ((hA0.below hb1).more hb1.size)
  have hs1 : w.heap.size < w1.heap.size := Nat.lt_of_lt_of_le hS0.lt hb1.size
  clear hmm g0 hS0 hb0 hM hb1 hV0 hA0
  generalize hms : octM s l.length = ms at *
  have HMS := Lib.hid hms
  clear hms
  go_loopw [13] (fun i wr => ∃ k : Nat, k ≤ ms.length ∧ i = .int .i64 k ∧ Hid (IsSet wr w.heap.size k (kidK l ms k)) ∧ Below w.heap.size w wr ∧ w1.heap.size ≤ wr.heap.size ∧ Hid (∀ g vs T, g ≠ w.heap.size → Blk w1 g vs T → Blk wr g vs T)) (fun i _ => ms.length - (intOf i).toNat)
  case atStart => exact ⟨0, by omega, rfl, Lib.hid (HS1.out.mono (by omega)), HB1.out, Nat.le_refl _, Lib.hid (fun _ _ _ _ h => h)⟩
  case round =>
    obtain ⟨k, hk, rfl, hS, hbe, hw1, HK1⟩ := hrel
    have hsz := hbe.size
    by_cases hlk : k < ms.length
    · have hlkI : (k : Int) < (ms.length : Int) := by omega
      obtain ⟨x, y, hxy⟩ : ∃ x y, prAt ms k = (x, y) := ⟨_, _, rfl⟩
      have hpin := HPI.out k hlk
      rw [hxy] at hpin
      obtain ⟨⟨x0, x1⟩, y0, y1⟩ : (0 ≤ x ∧ x < l.length) ∧ 0 ≤ y ∧ y < l.length := hpin
      have HMr := Lib.hid (HM1.out.kept (w' := wr) (fun g vs hb => HK1.out g vs _ (HS1.out.ne hb) hb))
      obtain ⟨lb, hlbA, -, -⟩ := HMr.out.at hlk
      subst hlbA
      obtain ⟨hlb, c0, c1⟩ := HMr.out.atb hlk hxy
      obtain ⟨a, rfl⟩ := hA.some (by omega)
      have hbA := hbe.alloc hsz (.cells #[.int .i64 x, .int .i64 y] 45)
      have p0 := Blk.new wr #[.int .i64 x, .int .i64 y] 45
      obtain ⟨⟨e0, e1⟩, _⟩ := p0.at2
      have hix : x.toNat < l.length := by omega
      have hiy : y.toNat < l.length := by omega
      obtain ⟨haB, v0⟩ := (hA.below hbA).at hix
      obtain ⟨_, v1⟩ := (hA.below hbA).at hiy
      have b1 := HIN.out _ hix
      have b2 := HIN.out _ hiy
      have hX8 := xorV_lt (n := 8) b1 b2
      obtain ⟨X, hX⟩ : ∃ X, X = xorV (iAt l x.toNat) (iAt l y.toNat) := ⟨_, rfl⟩
      have hx : bits .xor .i64 (iAt l x.toNat) (iAt l y.toNat) = X := by rw [hX]; exact bits_xor (by omega) (by omega)
      have HE := Lib.hid (show kidK l ms (k + 1) = kidK l ms k ++ [X] by rw [hX, show kidK l ms (k + 1) = kidK l ms k ++ [xorV (iAt l (prAt ms k).1.toNat) (iAt l (prAt ms k).2.toNat)] from rfl, hxy])
      rw [← hX] at hX8
      have hSW := hS.out.below (below_of wr (.cells #[.int .i64 x, .int .i64 y] 45)) hS.out.lt
      have hSD : IsSet (wr.alloc (.cells #[.int .i64 x, .int .i64 y] 45)).drew w.heap.size k (kidK l ms k) := hSW
      obtain ⟨w5, hu, hS5, hg5⟩ := hSD.update (by omega) (u := X) (by omega)
      rw [← HE.out] at hS5
      have HS5 := Lib.hid hS5
      have HB5 := Lib.hid (below_grown (hbA.drew) hg5 (Nat.le_refl _) (by show w.heap.size ≤ (wr.alloc _).heap.size; simp; omega))
      have hs5 : w1.heap.size ≤ w5.heap.size := by have h1 := hg5.size; have h2 : (wr.alloc (.cells #[.int .i64 x, .int .i64 y] 45)).drew.heap.size = wr.heap.size + 1 := by show (wr.alloc _).heap.size = _; simp
                                                   omega
      have HK5 := Lib.hid (show ∀ g vs T, g ≠ w.heap.size → Blk w1 g vs T → Blk w5 g vs T from fun g vs T hne hb => by
        have h1 := (HK1.out g vs T hne hb).alloc (.cells #[.int .i64 x, .int .i64 y] 45)
        have h2 : Blk (wr.alloc (.cells #[.int .i64 x, .int .i64 y] 45)).drew g vs T := h1
        exact (hg5.block g h2.lt (fun he => by simp at he; omega)).trans h2)
      clear hX b1 b2 hxy hbA p0 hSW hSD hS5 hg5 hS HK1 hbe HMr
      go_wp2_with fail
      go_region_with fail
      all_goals
        go_wp2_with fail
        go_roundw
        case rel => exact ⟨k + 1, by omega, by go_num, HS5, HB5.out, hs5, HK5⟩
        case measure => simp [intOf]; omega
    · obtain rfl : k = ms.length := by omega
      have HE := Lib.hid (kidK_all l ms)
      go_wp2_with fail
      go_ret
      rw [HMS.out, ← HE.out]
      exact ⟨_, rfl, hS.out.mono (by omega), hbe⟩
set_option maxHeartbeats 2000000 in
theorem grundyOct_any (g : Nat) (V : Option Addr) (cv : Nat) (s : List Int) (m : Nat) (w : World) (hg : Blk w g #[.slice V s.length cv] 23) (hV : IsInts w w.heap.size V s) (hs : octB s = true) (hcap : s.length ≤ cv) (hm : m ≤ 60) :
    Calls Try.prog 53 #[.int .i64 (m : Int), .func (.func 66) #[] #[.pointer (some ⟨g, 0, none⟩)]] w fun e w' => LenNew w w' (gruO s (m + 1)) e := by
  obtain ⟨i0, hi, hz0, hz1, hz2⟩ := info_parts infoInt
  have HS := Lib.hid hs
  have HG := Lib.hid hg
  have hgl := hg.lt
  clear hs hg
  go_enter Try.func53, Try.ntmps53
  go_wp2_with (at_make; refine wpList_make_own _ rfl _ _ _ rfl w.heap.size 3 i0 (.int .i64 0) 1 Try.underlying23 hi hz0 hz1 .i64 .i64 _ (m + 1) (by rfl) (by rfl) (by first | rfl | omega) (by rw [hz2]; omega) (by unfold maxLen; omega) (by simp) ?_; intro w1 hown hgrow)
  have hb1 := below_of_grown hgrow (Nat.le_refl _)
  have hO1 : In.Own w1 w.heap.size (.slice (some ⟨w.heap.size, 0, none⟩) (gruO s 0).length (m + 1)) (gruO s 0) := hown
  clear hgrow hown
  go_loopw [5, 11] (fun v i wr => ∃ (n : Nat) (A : Option Addr) (c : Nat), n ≤ m + 1 ∧ i = .int .i64 n ∧ v = .slice A (gruO s n).length c ∧ In.Own wr w.heap.size (.slice A (gruO s n).length c) (gruO s n) ∧ Below w.heap.size w wr) (fun _ i _ => m + 1 - (intOf i).toNat)
  case atStart => exact ⟨0, _, _, by omega, rfl, rfl, hO1, hb1⟩
  case round =>
    clear hO1 hb1
    obtain ⟨n, A, c, hn, rfl, rfl, hO, hbe⟩ := hrel
    have HGL := Lib.hid (gruO_len s n)
    have hgl6 : (gruO s n).length ≤ 61 := by have := HGL.out; omega
    have hsz := hbe.size
    by_cases hlt : n ≤ m
    · have hlt' : (n : Int) < (m : Int) + 1 := by omega
      have HB := Lib.hid hbe
      have HO := Lib.hid hO
      have HE := Lib.hid (show gruO s (n + 1) = gruO s n ++ [mexV (octW (gruO s n) (octM s (gruO s n).length))] by rw [gruO_len]; rfl)
      have hmax : (gruO s n).length + 1 ≤ maxLen := by unfold maxLen; omega
      obtain ⟨A', c', hv', hI⟩ := hO.is
      simp only [Value.slice.injEq] at hv'
      obtain ⟨rfl, _, rfl⟩ := hv'
      have HI := Lib.hid hI
      have HBD := Lib.hid (show ∀ i, i < (gruO s n).length → 0 ≤ iAt (gruO s n) i ∧ iAt (gruO s n) i < 2 ^ 8 from fun i h => by have := gruO_bd HS.out (n := n) (i := i) (by have := HGL.out; omega) (by have := HGL.out; omega); omega)
      have hol : (octW (gruO s n) (octM s (gruO s n).length)).length ≤ 128 := by unfold octW; rw [List.length_map]; exact octM_few HS.out (by have := HGL.out; omega)
      have hgl60 : (gruO s n).length ≤ 60 := by have := HGL.out; omega
      clear hO hbe hI
      go_wp2_with (first
        | (go_at_call 66; refine (octAfter_any g V cv s _ _ _ wr (HG.out.below HB.out hgl) ((hV.below HB.out).more hsz) HI.out HS.out hcap hgl60 HBD.out).mono ?_; rintro e w2 ⟨mm, rfl, hS, hb2⟩; have HST := Lib.hid hS; have HB2 := Lib.hid hb2; have hs2 := hb2.size; have HOk := Lib.hid (HO.out.below hb2); clear hS hb2)
        | (go_at_call 79; refine (excluded_any mm 2000 _ _ HST.out (by omega)).mono ?_; rintro e w3 ⟨rfl, rfl⟩)
        | (at_builtin; refine wpList_append_own _ rfl _ _ 23 rfl (w.heap.size) 3 i0 (.int .i64 0) 1 8 Try.underlying23 hi hz0 hz1 hz2 rfl (by decide) _ _ _ rfl (World.ownsRow.alloc HOk.out _) ⟨w2.heap.size, 0, none⟩ 1 1 [.int .i64 (mexV (octW (gruO s n) (octM s (gruO s n).length)))] rfl rfl (cell_one_new _ _ _) (fun u hu => by simp at hu; subst hu; rfl) hmax (by omega) (by simp; omega) ?_; intro v' w7 hown' hgrow' hnil'; obtain ⟨B7, d7, rfl, hO7, hb7⟩ := app_after HOk.out HE.out hown' hgrow' (by omega); clear hown' hgrow' hnil'))
      have hb7 := (HB.out.trans (HB2.out.mono hsz)).trans hb7
      clear hol
      go_roundw
      case rel =>
        have R : n + 1 ≤ m + 1 ∧ Value.int .i64 ((n : Int) + 1) = .int .i64 ((n + 1 : Nat) : Int) ∧ Value.slice B7 (gruO s (n + 1)).length d7 = .slice B7 (gruO s (n + 1)).length d7 ∧ In.Own w7 w.heap.size (.slice B7 (gruO s (n + 1)).length d7) (gruO s (n + 1)) ∧ Below w.heap.size w w7 := ⟨by omega, by go_num, rfl, hO7, hb7⟩
        first
          | exact ⟨n + 1, B7, d7, R⟩
          | ((repeat apply Exists.intro); exact ⟨⟨n + 1, B7, d7, R⟩, rfl⟩)
      case measure => simp [intOf]; omega
    · obtain rfl : n = m + 1 := by omega
      go_wp2_with fail
      go_ret
      exact lenNew_of hO hbe
theorem specOctalAll_any (V : Option Addr) (cv : Nat) (z : List Int) (q : Int) (w : World) (hV : IsInts w w.heap.size V z) (hz : z.length ≤ 1048576) :
    Calls Try.prog 34 #[.slice V z.length cv, .int .i64 q] w fun e w' => LenNew w w' (octalV z q) e := by
  cases hs : octB z
  · have HS := Lib.hid hs
    have HN := Lib.hid (octalV_no (z := z) (q := q) (fun h => by rw [hs] at h; cases h.1))
    clear hs
    go_enter Try.func34, Try.ntmps34
    go_wp2_with (go_at_call 67; refine (l19Ok_any _ _ _ _ hV hz).mono ?_; rw [HS.out]; rintro e w' ⟨rfl, rfl⟩; have hb := Below.refl w.heap.size w)
    go_ret
    rw [HN.out]
    exact lenNew_of (l := []) (own_nil' _ _) hb
  · have HS := Lib.hid hs
    cases hq : inB q 0 60
    · have HQ := Lib.hid hq
      have HN := Lib.hid (octalV_no (z := z) (q := q) (fun h => inB_out hq h.2))
      clear hs hq
      go_enter Try.func34, Try.ntmps34
      go_wp2_with (first | (go_at_call 67; refine (l19Ok_any _ _ _ _ hV hz).mono ?_; rw [HS.out]; rintro e w' ⟨rfl, rfl⟩; have hb := Below.refl w.heap.size w) | (go_at_call 56; refine (in_any _ _ _ _).mono ?_; rw [HQ.out]; rintro e w2 ⟨rfl, rfl⟩))
      go_ret
      rw [HN.out]
      exact lenNew_of (l := []) (own_nil' _ _) hb
    · have HQ := Lib.hid hq
      obtain ⟨q1, q2⟩ := inB_in hq
      obtain ⟨m, rfl⟩ := Int.eq_ofNat_of_zero_le q1
      have hm : m ≤ 60 := by omega
      have HN := Lib.hid (octalV_yes hs hm)
      clear hs hq q1 q2
      go_enter Try.func34, Try.ntmps34
      go_wp2_with (first | (go_at_call 67; refine (l19Ok_any _ _ _ _ hV hz).mono ?_; rw [HS.out]; rintro e w' ⟨rfl, rfl⟩; have hb := Below.refl w.heap.size w) | (go_at_call 56; refine (in_any _ _ _ _).mono ?_; rw [HQ.out]; rintro e w2 ⟨rfl, rfl⟩) | (go_at_call 68; refine (l19All_any _ _ _ m _ ((hV.below hb).more hb.size) HS.out hm).mono ?_; rintro e w3 ⟨A, c, rfl, hN, hb3⟩))
      go_ret
      rw [HN.out]
      exact LenNew.after ⟨A, c, rfl, hN, hb3⟩ hb
theorem octalAll_any (V : Option Addr) (cv : Nat) (z : List Int) (q : Int) (w : World) (hV : IsInts w w.heap.size V z) (hz : z.length ≤ 1048576) (hcap : z.length ≤ cv) :
    Calls Try.prog 33 #[.slice V z.length cv, .int .i64 q] w fun e w' => LenNew w w' (octalV z q) e := by
  have hb0 := below_of w (.cells #[.slice V z.length cv] 23)
  have p0 := Blk.new w #[.slice V z.length cv] 23
  have hV0 := (hV.below hb0).more hb0.size
  cases hs : octB z
  · have HS := Lib.hid hs
    have HN := Lib.hid (octalV_no (z := z) (q := q) (fun h => by rw [hs] at h; cases h.1))
    clear hs
    go_enter Try.func33, Try.ntmps33
    go_wp2_with (go_at_call 35; refine (octalOk_any _ _ _ _ hV0 hz).mono ?_; rw [HS.out]; rintro e w' ⟨rfl, rfl⟩)
    go_ret
    rw [HN.out]
    exact lenNew_of (l := []) (own_nil' _ _) hb0
  · have HS := Lib.hid hs
    cases hq : inB q 0 60
    · have HQ := Lib.hid hq
      have HN := Lib.hid (octalV_no (z := z) (q := q) (fun h => inB_out hq h.2))
      clear hs hq
      go_enter Try.func33, Try.ntmps33
      go_wp2_with (first | (go_at_call 35; refine (octalOk_any _ _ _ _ hV0 hz).mono ?_; rw [HS.out]; rintro e w' ⟨rfl, rfl⟩) | (go_at_call 52; refine (heapOk_any _ _).mono ?_; rw [HQ.out]; rintro e w2 ⟨rfl, rfl⟩))
      go_ret
      rw [HN.out]
      exact lenNew_of (l := []) (own_nil' _ _) hb0
    · have HQ := Lib.hid hq
      obtain ⟨q1, q2⟩ := inB_in hq
      obtain ⟨m, rfl⟩ := Int.eq_ofNat_of_zero_le q1
      have hm : m ≤ 60 := by omega
      have HN := Lib.hid (octalV_yes hs hm)
      clear hs hq q1 q2
      go_enter Try.func33, Try.ntmps33
      go_wp2_with (first | (go_at_call 35; refine (octalOk_any _ _ _ _ hV0 hz).mono ?_; rw [HS.out]; rintro e w' ⟨rfl, rfl⟩) | (go_at_call 52; refine (heapOk_any _ _).mono ?_; rw [HQ.out]; rintro e w2 ⟨rfl, rfl⟩) | (go_at_call 53; refine (grundyOct_any _ V cv z m _ p0 hV0 HS.out hcap hm).mono ?_; rintro e w3 ⟨A, c, rfl, hN, hb3⟩))
      go_ret
      rw [HN.out]
      exact LenNew.after ⟨A, c, rfl, hN, hb3⟩ hb0
end Go.Proofs.Ytjanalljaacnoaa.Ko
