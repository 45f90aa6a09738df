/- PointsOf: values; the program's and the model's. -/
import Derived.Test.YtjanalljaacnoaaKs2
import Derived.Test.YtjanalljaacnoaaJx
namespace Go.Proofs.Ytjanalljaacnoaa.Ko
open Go.ChangeShapes Go.WideShapes Go.ChangeAt Go.RowKit Base Sq In
set_option linter.unusedVariables false
set_option maxRecDepth 20000
attribute [local irreducible] wpQuiet

/-- the points of the first p players after k results -/
def ptsL (p : Nat) (l : List St) (k : Nat) : List Int := (List.range p).map fun a : Nat => ptK l a k
theorem ptsL_len (p : Nat) (l : List St) (k : Nat) : (ptsL p l k).length = p := by unfold ptsL; simp
theorem ptsL_at {p : Nat} {l : List St} {k a : Nat} (h : a < p) : iAt (ptsL p l k) a = ptK l a k := by unfold iAt ptsL; simp [List.getD_eq_getElem?_getD, h]
theorem list_eq {a b : List Int} (h : a.length = b.length) (h2 : ∀ i, i < a.length → iAt a i = iAt b i) : a = b := by
  refine List.ext_getElem h (fun i h1 h3 => ?_)
  have := h2 i h1
  unfold iAt at this
  simpa [List.getD_eq_getElem?_getD, h1, h3] using this
theorem ptsL_next {p : Nat} {l : List St} {k x y : Nat} {z : Int} (hx : x < p) (hy : y < p) (hne : x ≠ y) (h1 : (stAt l k).dx = x) (h2 : (stAt l k).dy = y) (h3 : (stAt l k).far = z) :
    ptsL p l (k + 1) = ((ptsL p l k).set x (ptK l x k + z)).set y (ptK l y k + (2 - z)) := by
  refine list_eq (by simp [ptsL_len]) (fun i hi => ?_)
  rw [ptsL_len] at hi
  rw [ptsL_at hi]
  show ptK l i k + (if (stAt l k).dx = i then (stAt l k).far else 0) + (if (stAt l k).dy = i then 2 - (stAt l k).far else 0) = _
  rw [h1, h2, h3]
  by_cases e1 : y = i
  · subst e1
    rw [iAt_set_same (by simp [ptsL_len]; omega), if_neg (by omega), if_pos rfl]
    omega
  · rw [iAt_set_other e1, if_neg (show ¬ ((y : Int) = i) by omega)]
    by_cases e2 : x = i
    · subst e2
      rw [iAt_set_same (by simp [ptsL_len]; omega), if_pos rfl]
      omega
    · rw [iAt_set_other e2, ptsL_at hi, if_neg (show ¬ ((x : Int) = i) by omega)]
      omega
theorem made_pts (p : Nat) (l : List St) : (madeCells (Value.int .i64 0).cells (p * 1)).toList = nums (ptsL p l 0) := by
  unfold madeCells nums ptsL
  simp [Value.cells, ptK]
  intro a _
  rw [Nat.mod_one]
  rfl
theorem pointsV_no {p : Int} {l : List St} (h : resB p l = false) : pointsV p l = [] := if_neg (by rw [h]; decide)
theorem pointsV_yes {p : Nat} {l : List St} (h : resB p l = true) : pointsV p l = ptsL p l l.length := by unfold pointsV; rw [if_pos h, Int.toNat_natCast]; rfl
theorem cell_set_other {w : World} {b g i j : Nat} {u : Value} (h : b ≠ g) : (w.setCell ⟨g, i, none⟩ u).cell? ⟨b, j, none⟩ = w.cell? ⟨b, j, none⟩ := by
  have := Below.heap_setCell w ⟨g, i, none⟩ u b h
  simp only [World.cell?, this]
theorem NewInts.low {lo lo' hi : Nat} {w : World} {A : Option Addr} {l : List Int} (h : NewInts lo hi w A l) (h1 : lo' ≤ lo) : NewInts lo' hi w A l := fun hn => by
  obtain ⟨b, cs, rfl, g1, g2, h3⟩ := h hn
  exact ⟨b, cs, rfl, by omega, g2, h3⟩
set_option maxHeartbeats 4000000 in
theorem l20Points_any (pn : Nat) (A : Option Addr) (ca : Nat) (l : List St) (w : World) (hA : IsSteps w w.heap.size A l) (hr : resB pn l = true) :
    Calls Try.prog 73 #[.int .i64 (pn : Int), .slice A l.length ca] w fun e w' => LenNew w w' (ptsL pn l l.length) e := by
  obtain ⟨i0, hi, hz0, hz1, hz2⟩ := info_parts infoInt
  have HR := Lib.hid hr
  obtain ⟨⟨hp1, hp2⟩, hll⟩ := resB_len hr
  clear hr
  go_enter Try.func73, Try.ntmps73
  go_wp2_with (at_make; refine wpList_make_full _ rfl _ _ _ rfl w.heap.size 3 i0 (.int .i64 0) 1 Try.underlying23 hi hz0 hz1 .i64 .i64 _ _ pn (by rfl) (by rfl) rfl rfl (by rw [hz2]; omega) (by unfold maxLen; omega) (Nat.le_refl _) ?_; intro w1 hown hgrow)
  have hb1 := below_of_grown hgrow (Nat.le_refl _)
  have hO1 : In.Own w1 w.heap.size (.slice (some ⟨w.heap.size, 0, none⟩) pn pn) (ptsL pn l 0) := by unfold In.Own; rw [ptsL_len, ← made_pts]; exact hown
  clear hown hgrow
  generalize hg0 : w.heap.size = g0 at hO1
  have hgw : w.heap.size ≤ g0 := by omega
  have HG0 := Lib.hid hg0
  go_loopw [6] (fun i wr => ∃ k : Nat, k ≤ l.length ∧ i = .int .i64 k ∧ In.Own wr g0 (.slice (some ⟨g0, 0, none⟩) pn pn) (ptsL pn l k) ∧ Below w.heap.size w wr) (fun i _ => l.length - (intOf i).toNat)
  case atStart => exact ⟨0, by omega, rfl, hO1, hb1⟩
  case round =>
    clear hO1 hb1
    obtain ⟨k, hk, rfl, hO, hbe⟩ := hrel
    by_cases hlt : k < l.length
    · have hltI : (k : Int) < (l.length : Int) := by omega
      obtain ⟨b, off, rfl, hB, hc⟩ := (hA.below hbe) (by omega)
      obtain ⟨c0, c1, c2⟩ := hc k hlt
      have hsz := hbe.size
      obtain ⟨⟨x0, x1⟩, ⟨y0, y1⟩, hne, z0, z1⟩ := resB_at HR.out hlt
      have hbx := ptK_bd HR.out (stAt l k).dx k (by omega)
      have hby := ptK_bd HR.out (stAt l k).dy k (by omega)
      obtain ⟨x, hx⟩ := Int.eq_ofNat_of_zero_le x0
      obtain ⟨y, hy⟩ := Int.eq_ofNat_of_zero_le y0
      obtain ⟨z, hz⟩ : ∃ z, (stAt l k).far = z := ⟨_, rfl⟩
      have HE := Lib.hid (ptsL_next (p := pn) (l := l) (k := k) (x := x) (y := y) (z := z) (by omega) (by omega) (by omega) hx hy hz)
      rw [hx] at c0 x0 x1 hbx hne
      rw [hy] at c1 y0 y1 hby hne
      rw [hz] at c2 z0 z1
      have hxp : x < pn := by omega
      have hyp : y < pn := by omega
      have hxI : (x : Int) < (pn : Int) := by omega
      have hyI : (y : Int) < (pn : Int) := by omega
      have hxy : x ≠ y := by omega
      have HAX := Lib.hid (ptsL_at (l := l) (k := k) hxp)
      have HAY := Lib.hid (ptsL_at (l := l) (k := k) hyp)
      obtain ⟨P, hP⟩ : ∃ P, ptK l x k = P := ⟨_, rfl⟩
      obtain ⟨Q, hQ⟩ : ∃ Q, ptK l y k = Q := ⟨_, rfl⟩
      rw [hP] at hbx
      rw [hQ] at hby
      have hE2 := HE.out
      rw [hP, hQ] at hE2
      have HE2 := Lib.hid hE2
      have hax := HAX.out
      rw [hP] at hax
      have hay := HAY.out
      rw [hQ] at hay
      have HAX2 := Lib.hid hax
      have HAY2 := Lib.hid hay
      have hlen := ptsL_len pn l k
      have HLEN := Lib.hid hlen
      have hbx1 := hbx.1
      have hbx2 := hbx.2
      have hby1 := hby.1
      have hby2 := hby.2
      have hPz : P + z ≤ 100 := by omega
      have hQz : Q + (2 - z) ≤ 100 := by omega
      clear hc hx hy hz hP hQ hE2 hax hay hlen hne HAX HAY hbx hby
      go_wp2_with fail
      obtain ⟨WB, hWB⟩ : ∃ x, x = wr := ⟨_, rfl⟩
      have hOB : In.Own WB g0 (.slice (some ⟨g0, 0, none⟩) pn pn) (ptsL pn l k) := by rw [hWB]; exact hO
      have hBB : Below w.heap.size w WB := by rw [hWB]; exact hbe
      have hzB : wr.heap.size ≤ WB.heap.size := by rw [hWB]; exact Nat.le_refl _
      rw [← hWB] at c0 c1 c2 ⊢
      clear hO hbe hWB
      have odA : In.Own WB g0 (.slice (some ⟨g0, 0, none⟩) (ptsL pn l k).length pn) (ptsL pn l k) := by rw [HLEN.out]; exact hOB
      obtain ⟨gA, hgA, -, hglA, uA, -, -⟩ := own_put odA (i := x) (by rw [HLEN.out]; exact hxp)
      obtain rfl : g0 = gA := by simpa using hgA
      rw [HAX2.out] at uA
      clear odA hgA
      -- the first store
      go_still_tail 21, (by kernel_rfl)
      change wpList _ _ _ _ _ WB.drew
      have od : In.Own WB.drew g0 (.slice (some ⟨g0, 0, none⟩) (ptsL pn l k).length pn) (ptsL pn l k) := by rw [HLEN.out]; exact hOB
      have bd := hBB.drew
      have hzd : wr.heap.size ≤ WB.drew.heap.size := hzB
      have k0 : WB.drew.cell? ⟨b, off + k * 3, none⟩ = some (.int .i64 x) := c0
      have k1 : WB.drew.cell? ⟨b, off + k * 3 + 1, none⟩ = some (.int .i64 y) := c1
      have k2 : WB.drew.cell? ⟨b, off + k * 3 + 2, none⟩ = some (.int .i64 z) := c2
      clear c0 c1 c2
      clear hOB hBB hzB uA hglA
      generalize WB.drew = WD at *
      obtain ⟨g, hgg, _, hgl, u0, f0, hput⟩ := own_put od (i := x) (by rw [HLEN.out]; exact hxp)
      obtain rfl : g0 = g := by simpa using hgg
      rw [HAX2.out] at u0
      have hbg : b ≠ g0 := by omega
      have hP2 := hput (P + z)
      have bd2 := Below.setCell (p := ⟨g0, x, none⟩) bd hgw (.int .i64 (P + z))
      have hzs : wr.heap.size ≤ (WD.setCell ⟨g0, x, none⟩ (.int .i64 (P + z))).heap.size := by rw [size_set]; exact hzd
      have HP2 := Lib.hid hP2
      have HB2 := Lib.hid bd2
      have s1 : (WD.setCell ⟨g0, x, none⟩ (.int .i64 (P + z))).cell? ⟨b, off + k * 3 + 1, none⟩ = some (.int .i64 y) := by rw [cell_set_other hbg]; exact k1
      have s2 : (WD.setCell ⟨g0, x, none⟩ (.int .i64 (P + z))).cell? ⟨b, off + k * 3 + 2, none⟩ = some (.int .i64 z) := by rw [cell_set_other hbg]; exact k2
      clear hput hP2 bd2 od bd hgg
      go_wp2_with fail
      generalize WD.setCell _ _ = WS at *
      have odB : In.Own WS g0 (.slice (some ⟨g0, 0, none⟩) ((ptsL pn l k).set x (P + z)).length pn) ((ptsL pn l k).set x (P + z)) := by rw [List.length_set]; exact HP2.out
      obtain ⟨gB, hgB, -, hglB, uB, -, -⟩ := own_put odB (i := y) (by rw [List.length_set, HLEN.out]; exact hyp)
      obtain rfl : g0 = gB := by simpa using hgB
      rw [iAt_set_other hxy, HAY2.out] at uB
      clear odB hgB
      -- the second store
      go_still_tail 22, (by kernel_rfl)
      change wpList _ _ _ _ _ WS.drew
      have od : In.Own WS.drew g0 (.slice (some ⟨g0, 0, none⟩) ((ptsL pn l k).set x (P + z)).length pn) ((ptsL pn l k).set x (P + z)) := by rw [List.length_set]; exact HP2.out
      have bd := HB2.out.drew
      have m1 : WS.drew.cell? ⟨b, off + k * 3 + 1, none⟩ = some (.int .i64 y) := s1
      have m2 : WS.drew.cell? ⟨b, off + k * 3 + 2, none⟩ = some (.int .i64 z) := s2
      clear k0 k1 k2 s1 s2
      clear HP2 HB2 u0 f0 uB hglB
      have hzt : wr.heap.size ≤ WS.drew.heap.size := hzs
      clear hzs
      generalize WS.drew = WT at *
      obtain ⟨g, hgg, _, hgl2, v0, f1, hput⟩ := own_put od (i := y) (by rw [List.length_set, HLEN.out]; exact hyp)
      obtain rfl : g0 = g := by simpa using hgg
      rw [iAt_set_other hxy, HAY2.out] at v0
      have hqq : Q + 2 - z = Q + (2 - z) := by omega
      have hP3 := hput (Q + (2 - z))
      have HP3 := Lib.hid (show In.Own (WT.setCell ⟨g0, y, none⟩ (.int .i64 (Q + (2 - z)))) g0 (.slice (some ⟨g0, 0, none⟩) pn pn) (ptsL pn l (k + 1)) by rw [HE2.out]; rw [List.length_set, HLEN.out] at hP3; exact hP3)
      have HB3 := Lib.hid (Below.setCell (p := ⟨g0, y, none⟩) bd hgw (.int .i64 (Q + (2 - z))))
      clear hput hP3 od bd hgg
      go_wp2_with fail
      go_roundw
      case rel => exact ⟨k + 1, by omega, by go_num, HP3.out, HB3.out⟩
      case measure => simp [intOf]; omega
    · obtain rfl : k = l.length := by omega
      have HLEN := Lib.hid (ptsL_len pn l l.length)
      go_wp2_with fail
      go_ret
      obtain ⟨A', c', hv, hn⟩ := NewInts.of (w := wr) (base := g0) (v := .slice (some ⟨g0, 0, none⟩) (ptsL pn l l.length).length pn) (l := ptsL pn l l.length) (by rw [HLEN.out]; exact hO)
      simp only [Value.slice.injEq] at hv
      obtain ⟨rfl, _, rfl⟩ := hv
      exact ⟨_, _, by rw [HLEN.out]; rfl, hn.low hgw, hbe⟩
theorem specPointsOf_any (p : Int) (A : Option Addr) (ca : Nat) (l : List St) (w : World) (hA : IsSteps w w.heap.size A l) (hl : l.length ≤ 1048576) :
    Calls Try.prog 42 #[.int .i64 p, .slice A l.length ca] w fun e w' => LenNew w w' (pointsV p l) e := by
  cases hr : resB p l
  · have HR := Lib.hid hr
    have HN := Lib.hid (pointsV_no hr)
    clear hr
    go_enter Try.func42, Try.ntmps42
    go_wp2_with (go_at_call 72; refine (l20Ok_any _ _ _ _ _ hA hl).mono ?_; rw [HR.out]; rintro e w2 ⟨rfl, hb2⟩)
    go_ret
    rw [HN.out]
    exact lenNew_of (l := []) (own_nil' _ _) hb2
  · obtain ⟨⟨hp1, hp2⟩, hll⟩ := resB_len hr
    obtain ⟨pn, rfl⟩ := Int.eq_ofNat_of_zero_le (show 0 ≤ p by omega)
    have HR := Lib.hid hr
    have HN := Lib.hid (pointsV_yes hr)
    clear hr
    go_enter Try.func42, Try.ntmps42
    go_wp2_with (first | (go_at_call 72; refine (l20Ok_any _ _ _ _ _ hA hl).mono ?_; rw [HR.out]; rintro e w2 ⟨rfl, hb2⟩) | (go_at_call 73; refine (l20Points_any pn _ _ _ _ ((hA.below hb2).more hb2.size) HR.out).mono ?_; rintro e w3 ⟨A3, c3, rfl, hN, hb3⟩))
    go_ret
    rw [HN.out]
    exact ⟨A3, c3, rfl, hN.low hb2.size, hb2.trans (hb3.mono hb2.size)⟩
set_option maxHeartbeats 4000000 in
theorem pointsOf_any (p : Int) (A : Option Addr) (ca : Nat) (l : List St) (w : World) (hA : IsSteps w w.heap.size A l) (hl : l.length ≤ 1048576) :
    Calls Try.prog 41 #[.int .i64 p, .slice A l.length ca] w fun e w' => LenNew w w' (pointsV p l) e := by
  obtain ⟨i0, hi, hz0, hz1, hz2⟩ := info_parts infoInt
  cases hr : resB p l
  · have HR := Lib.hid hr
    have HN := Lib.hid (pointsV_no hr)
    clear hr
    go_enter Try.func41, Try.ntmps41
    go_wp2_with (go_at_call 43; refine (resultsOk_any _ _ _ _ _ hA hl).mono ?_; rw [HR.out]; rintro e w2 ⟨rfl, hb2⟩)
    go_ret
    rw [HN.out]
    exact lenNew_of (l := []) (own_nil' _ _) hb2
  · obtain ⟨⟨hp1, hp2⟩, hll⟩ := resB_len hr
    obtain ⟨pn, rfl⟩ := Int.eq_ofNat_of_zero_le (show 0 ≤ p by omega)
    have HR := Lib.hid hr
    have HN := Lib.hid (pointsV_yes hr)
    clear hr
    go_enter Try.func41, Try.ntmps41
    go_wp2_with (first | (go_at_call 43; refine (resultsOk_any _ _ _ _ _ hA hl).mono ?_; rw [HR.out]; rintro e w2 ⟨rfl, hb2⟩) | (at_make; refine wpList_make_full _ rfl _ _ _ rfl w2.heap.size 3 i0 (.int .i64 0) 1 Try.underlying23 hi hz0 hz1 .i64 .i64 _ _ pn (by rfl) (by rfl) rfl rfl (by rw [hz2]; omega) (by unfold maxLen; omega) (Nat.le_refl _) ?_; intro w1 hown hgrow))
    have hb1 := hb2.trans ((below_of_grown hgrow (Nat.le_refl _)).mono hb2.size)
    have hO1 : In.Own w1 w2.heap.size (.slice (some ⟨w2.heap.size, 0, none⟩) pn pn) (ptsL pn l 0) := by unfold In.Own; rw [ptsL_len, ← made_pts]; exact hown
    have hgw : w.heap.size ≤ w2.heap.size := hb2.size
    clear hown hgrow hb2
    generalize w2.heap.size = g0 at *
    go_loopw [16] (fun i wr => ∃ k : Nat, k ≤ l.length ∧ i = .int .i64 k ∧ In.Own wr g0 (.slice (some ⟨g0, 0, none⟩) pn pn) (ptsL pn l k) ∧ Below w.heap.size w wr) (fun i _ => l.length - (intOf i).toNat)
    case atStart => exact ⟨0, by omega, rfl, hO1, hb1⟩
    case round =>
      clear hO1 hb1
      obtain ⟨k, hk, rfl, hO, hbe⟩ := hrel
      by_cases hlt : k < l.length
      · have hltI : (k : Int) < (l.length : Int) := by omega
        obtain ⟨b, off, rfl, hB, hc⟩ := (hA.below hbe) (by omega)
        obtain ⟨c0, c1, c2⟩ := hc k hlt
        have hsz := hbe.size
        obtain ⟨⟨x0, x1⟩, ⟨y0, y1⟩, hne, z0, z1⟩ := resB_at HR.out hlt
        have hbx := ptK_bd HR.out (stAt l k).dx k (by omega)
        have hby := ptK_bd HR.out (stAt l k).dy k (by omega)
        obtain ⟨x, hx⟩ := Int.eq_ofNat_of_zero_le x0
        obtain ⟨y, hy⟩ := Int.eq_ofNat_of_zero_le y0
        obtain ⟨z, hz⟩ : ∃ z, (stAt l k).far = z := ⟨_, rfl⟩
        have HE := Lib.hid (ptsL_next (p := pn) (l := l) (k := k) (x := x) (y := y) (z := z) (by omega) (by omega) (by omega) hx hy hz)
        rw [hx] at c0 x0 x1 hbx hne
        rw [hy] at c1 y0 y1 hby hne
        rw [hz] at c2 z0 z1
        have hxp : x < pn := by omega
        have hyp : y < pn := by omega
        have hxI : (x : Int) < (pn : Int) := by omega
        have hyI : (y : Int) < (pn : Int) := by omega
        have hxy : x ≠ y := by omega
        have HAX := Lib.hid (ptsL_at (l := l) (k := k) hxp)
        have HAY := Lib.hid (ptsL_at (l := l) (k := k) hyp)
        obtain ⟨P, hP⟩ : ∃ P, ptK l x k = P := ⟨_, rfl⟩
        obtain ⟨Q, hQ⟩ : ∃ Q, ptK l y k = Q := ⟨_, rfl⟩
        rw [hP] at hbx
        rw [hQ] at hby
        have hE2 := HE.out
        rw [hP, hQ] at hE2
        have HE2 := Lib.hid hE2
        have hax := HAX.out
        rw [hP] at hax
        have hay := HAY.out
        rw [hQ] at hay
        have HAX2 := Lib.hid hax
        have HAY2 := Lib.hid hay
        have hlen := ptsL_len pn l k
        have HLEN := Lib.hid hlen
        have hbx1 := hbx.1
        have hbx2 := hbx.2
        have hby1 := hby.1
        have hby2 := hby.2
        have hPz : P + z ≤ 100 := by omega
        have hQz : Q + (2 - z) ≤ 100 := by omega
        clear hc hx hy hz hP hQ hE2 hax hay hlen hne HAX HAY hbx hby
        have hOB := hO.below (below_of wr (.cells #[.int .i64 x, .int .i64 y, .int .i64 z] 76))
        have hBB := hbe.alloc hsz (.cells #[.int .i64 x, .int .i64 y, .int .i64 z] 76)
        have p0 := Blk.new wr #[.int .i64 x, .int .i64 y, .int .i64 z] 76
        have hzB : wr.heap.size ≤ (wr.alloc (.cells #[.int .i64 x, .int .i64 y, .int .i64 z] 76)).heap.size := by simp
        have hgr : g0 < wr.heap.size := by
          rcases hO.2 with ⟨hv, _⟩ | ⟨g, cap, cur, hv, _, hg, _⟩
          · simp at hv
          · simp only [Value.slice.injEq, Option.some.injEq, Addr.mk.injEq] at hv; obtain ⟨⟨rfl, _⟩, _⟩ := hv; exact lt_of_block hg
        clear hO hbe
        go_wp2_with fail
        generalize wr.alloc _ = WB at *
        obtain ⟨⟨a0, a1, a2⟩, _⟩ := p0.at3
        have odA : In.Own WB g0 (.slice (some ⟨g0, 0, none⟩) (ptsL pn l k).length pn) (ptsL pn l k) := by rw [HLEN.out]; exact hOB
        obtain ⟨gA, hgA, -, hglA, uA, -, -⟩ := own_put odA (i := x) (by rw [HLEN.out]; exact hxp)
        obtain rfl : g0 = gA := by simpa using hgA
        rw [HAX2.out] at uA
        clear odA hgA
        -- the first store
        go_still_tail 9, (by kernel_rfl)
        change wpList _ _ _ _ _ WB.drew
        have od : In.Own WB.drew g0 (.slice (some ⟨g0, 0, none⟩) (ptsL pn l k).length pn) (ptsL pn l k) := by rw [HLEN.out]; exact hOB
        have bd := hBB.drew
        have hzd : wr.heap.size ≤ WB.drew.heap.size := hzB
        have pd := p0.drew
        clear p0 c0 c1 c2 a0 a1 a2
        clear hOB hBB hzB uA hglA
        generalize WB.drew = WD at *
        obtain ⟨g, hgg, _, hgl, u0, f0, hput⟩ := own_put od (i := x) (by rw [HLEN.out]; exact hxp)
        obtain rfl : g0 = g := by simpa using hgg
        rw [HAX2.out] at u0
        obtain ⟨⟨e0, e1, e2⟩, _⟩ := pd.at3
        have hbg : wr.heap.size ≠ g0 := by omega
        have hP2 := hput (P + z)
        have bd2 := Below.setCell (p := ⟨g0, x, none⟩) bd hgw (.int .i64 (P + z))
        have hzs : wr.heap.size ≤ (WD.setCell ⟨g0, x, none⟩ (.int .i64 (P + z))).heap.size := by rw [size_set]; exact hzd
        have HP2 := Lib.hid hP2
        have HB2 := Lib.hid bd2
        have ps := pd.other ⟨g0, x, none⟩ (.int .i64 (P + z)) hbg
        obtain ⟨⟨s0, s1, s2⟩, _⟩ := ps.at3
        clear hput hP2 bd2 od bd hgg
        go_wp2_with fail
        generalize WD.setCell _ _ = WS at *
        have odB : In.Own WS g0 (.slice (some ⟨g0, 0, none⟩) ((ptsL pn l k).set x (P + z)).length pn) ((ptsL pn l k).set x (P + z)) := by rw [List.length_set]; exact HP2.out
        obtain ⟨gB, hgB, -, hglB, uB, -, -⟩ := own_put odB (i := y) (by rw [List.length_set, HLEN.out]; exact hyp)
        obtain rfl : g0 = gB := by simpa using hgB
        rw [iAt_set_other hxy, HAY2.out] at uB
        clear odB hgB
        -- the second store
        go_still_tail 10, (by kernel_rfl)
        change wpList _ _ _ _ _ WS.drew
        have od : In.Own WS.drew g0 (.slice (some ⟨g0, 0, none⟩) ((ptsL pn l k).set x (P + z)).length pn) ((ptsL pn l k).set x (P + z)) := by rw [List.length_set]; exact HP2.out
        have bd := HB2.out.drew
        have pt := ps.drew
        clear ps pd e0 e1 e2 s0 s1 s2
        clear HP2 HB2 u0 f0 uB hglB
        have hzt : wr.heap.size ≤ WS.drew.heap.size := hzs
        clear hzs
        generalize WS.drew = WT at *
        obtain ⟨g, hgg, _, hgl2, v0, f1, hput⟩ := own_put od (i := y) (by rw [List.length_set, HLEN.out]; exact hyp)
        obtain rfl : g0 = g := by simpa using hgg
        rw [iAt_set_other hxy, HAY2.out] at v0
        obtain ⟨⟨e0, e1, e2⟩, _⟩ := pt.at3
        have hP3 := hput (Q + (2 - z))
        have HP3 := Lib.hid (show In.Own (WT.setCell ⟨g0, y, none⟩ (.int .i64 (Q + (2 - z)))) g0 (.slice (some ⟨g0, 0, none⟩) pn pn) (ptsL pn l (k + 1)) by rw [HE2.out]; rw [List.length_set, HLEN.out] at hP3; exact hP3)
        have HB3 := Lib.hid (Below.setCell (p := ⟨g0, y, none⟩) bd hgw (.int .i64 (Q + (2 - z))))
        clear hput hP3 od bd hgg
        go_wp2_with fail
        go_roundw
        case rel => exact ⟨k + 1, by omega, by go_num, HP3.out, HB3.out⟩
        case measure => simp [intOf]; omega
      · obtain rfl : k = l.length := by omega
        have HLEN := Lib.hid (ptsL_len pn l l.length)
        go_wp2_with fail
        go_ret
        rw [HN.out]
        obtain ⟨A', c', hv, hn⟩ := NewInts.of (w := wr) (base := g0) (v := .slice (some ⟨g0, 0, none⟩) (ptsL pn l l.length).length pn) (l := ptsL pn l l.length) (by rw [HLEN.out]; exact hO)
        simp only [Value.slice.injEq] at hv
        obtain ⟨rfl, _, rfl⟩ := hv
        exact ⟨_, _, by rw [HLEN.out]; rfl, hn.low hgw, hbe⟩
end Go.Proofs.Ytjanalljaacnoaa.Ko
