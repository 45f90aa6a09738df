/- The walk of the law FnHeapsVal. -/
import Derived.Test.YtjanalljaacnoaaSd
import Derived.Test.YtjanalljaacnoaaHx
import Derived.Test.YtjanalljaacnoaaJz
import Derived.Test.YtjanalljaacnoaaKd
namespace Go.Proofs.Ytjanalljaacnoaa.Laws
open Go.ChangeShapes Go.WideShapes Go.ChangeAt Go.RowKit Base Sq In Ko Sd Hx
set_option linter.unusedVariables false
set_option maxRecDepth 20000
attribute [local irreducible] wpQuiet

set_option maxHeartbeats 8000000 in
theorem fnHeapsVal_walk (w : World) (A : Option Addr) (n c : Nat) (zs : List Int) (h : IsRow .u8 w A n c zs) (A1 : Option Addr) (n1 c1 : Nat) (zs1 : List Int) (h1 : IsRow .u8 w A1 n1 c1 zs1) :
    Calls Try.prog 4 #[.slice A n c, .slice A1 n1 c1] w fun e w' => e = .returned (.bool true) ∧ Below w.heap.size w w' := by
  obtain ⟨i0, hi, hz0, hz1, hz2⟩ := info_parts infoInt
  clear h1
  by_cases hn : 1048576 < n
  · have hd : decide (1048576 < (n : Int)) = true := decide_eq_true (by omega)
    clear h
    go_enter Try.func4, Try.ntmps4
    go_wp2_with fail
    go_ret
    exact ⟨rfl, Below.refl _ _⟩
  have hd : decide (1048576 < (n : Int)) = false := decide_eq_false (by omega)
  have hn2 : n ≤ 1048576 := by omega
  by_cases hm : 1048576 < n1
  · have hd1 : decide (1048576 < (n1 : Int)) = true := decide_eq_true (by omega)
    clear h hn
    go_enter Try.func4, Try.ntmps4
    go_wp2_with fail
    go_ret
    exact ⟨rfl, Below.refl _ _⟩
  have hd1 : decide (1048576 < (n1 : Int)) = false := decide_eq_false (by omega)
  have hn3 : n1 ≤ 1048576 := by omega
  have HH := Lib.hid h
  clear h hn hm
  go_enter Try.func4, Try.ntmps4
  go_wp2_with fail
  refine (drawHeapsVal_any _ _ _ _ _ HH.out hn2).mono ?_
  rintro e w1 ⟨V, cv, s, U, cu, z, rfl, hs6, hz4, hI1, hJ1, hW1⟩
  clear HH hd hd1 hn2
  obtain ⟨v, hv⟩ : ∃ v, v = heapsV s z := ⟨_, rfl⟩
  have HV := Lib.hid hv
  clear hv
  go_wp2_with fail
  refine (heapsVal_any V cv s U cu z w1 hI1 hJ1 (by omega) (by omega)).mono ?_
  rw [← HV.out]
  rintro e w2 ⟨rfl, hb2⟩
  have hI2 := (hI1.below hb2).more hb2.size
  have hJ2 := (hJ1.below hb2).more hb2.size
  have hW2 := hW1.trans (hb2.mono hW1.size)
  clear hI1 hJ1 hb2 hW1
  go_wp2_with fail
  refine (specHeapsVal_any V cv s U cu z w2 hI2 hJ2 (by omega) (by omega)).mono ?_
  rw [← HV.out]
  rintro e w3 ⟨rfl, hb3⟩
  have hI3 := (hI2.below hb3).more hb3.size
  have hJ3 := (hJ2.below hb3).more hb3.size
  have hW3 := hW2.trans (hb3.mono hW2.size)
  clear hI2 hJ2 hb3 hW2
  by_cases hneg : v < 0
  · go_wp2_with fail
    refine (specHeapsVal_any V cv s U cu z w3 hI3 hJ3 (by omega) (by omega)).mono ?_
    rw [← HV.out]
    rintro e w4 ⟨rfl, hb4⟩
    have hW4 := hW3.trans (hb4.mono hW3.size)
    go_wp2_with fail
    go_ret
    exact ⟨rfl, hW4⟩
  have hok : (setB s && heapsB z) = true := by
    cases h0 : (setB s && heapsB z)
    · have := HV.out; rw [heapsV_no h0] at this; omega
    · rfl
  rw [Bool.and_eq_true] at hok
  have HS := Lib.hid hok.1
  have HZ := Lib.hid hok.2
  have hneg2 : decide (v < 0) = false := decide_eq_false hneg
  clear hneg hok
  have HI := Lib.hid hI3
  have HJ := Lib.hid hJ3
  have HW := Lib.hid hW3
  have hszw := hW3.size
  clear hI3 hJ3 hW3
  have hO5 := Own.empty (base := w3.heap.size) (Nat.le_refl _) (Blk.new w3 #[] 3)
  have hb5 := below_of w3 (.cells #[] 3)
  obtain ⟨zn, hzn⟩ : ∃ zn : Nat, z.length = zn := ⟨_, rfl⟩
  have HB0 := Lib.hid (show (bk z zn).length = 0 ∧ bk z zn = [] by rw [← hzn, bk_none]; exact ⟨rfl, rfl⟩)
  have HZN := Lib.hid hzn
  clear hzn
  go_wp2_with fail
  generalize hX : w3.alloc _ = W5 at *
  clear hX
  go_loopw [8, 9] (fun v iv wr => ∃ (k : Nat) (I : Int) (B : Option Addr) (d : Nat) (L : List Int), k ≤ z.length ∧ I = (k : Int) - 1 ∧ iv = .int .i64 I ∧ v = .slice B L.length d ∧ Hid (L = bk z k) ∧ L.length ≤ 4 ∧ In.Own wr w3.heap.size (.slice B L.length d) L ∧ Below w3.heap.size w3 wr) (fun _ iv _ => (intOf iv + 1).toNat)
  case atStart => exact ⟨zn, _, _, _, [], by have := HZN.out; omega, by have := HZN.out; omega, rfl, rfl, Lib.hid HB0.out.2.symm, by simp, hO5, hb5⟩
  case round =>
    clear hO5 hb5 HB0
    obtain ⟨k, I, B, d, L, hk, hI, rfl, rfl, hL, hL4, hO, hbe⟩ := hrel
    have hsz := hbe.size
    rcases Nat.eq_zero_or_pos k with hk0 | hk0
    · have hIm : I = -1 := by omega
      subst hIm
      have HLE := Lib.hid (show L = z.reverse by rw [hL.out, hk0]; rfl)
      clear hI hk0 hk hL
      obtain ⟨X, hX⟩ : ∃ X : Nat, n1 % 61 = X := ⟨_, rfl⟩
      have hX60 : X ≤ 60 := by omega
      have hx1 : (n1 : Int) % 61 = (X : Int) := by omega
      have hx2 : (n1 : Int).tmod 61 = (X : Int) := by rw [Int.tmod_eq_emod_of_nonneg (by omega)]; exact hx1
      have hx3 : IntKind.i64.wrap (X : Int) = (X : Int) := IntWalk.i64_in _ (by omega)
      clear hX
      have HLI := Lib.hid (own_is hO)
      have HB := Lib.hid hbe
      have HO6 := Lib.hid (Own.empty (base := wr.heap.size) (Nat.le_refl _) (Blk.new wr #[] 3))
      have hb6 := below_of wr (.cells #[] 3)
      have HJ6 := Lib.hid ((HJ.out.below (hbe.trans (hb6.mono hsz))).more (show w3.heap.size ≤ (wr.alloc (.cells #[] 3)).heap.size by simp; omega))
      have hbs6 := hb6.size
      have HB6 := Lib.hid hb6
      have HEZ := Lib.hid (show z = [] ++ z from rfl)
      have hmx : ([] : List Int).length + z.length ≤ maxLen := by unfold maxLen; simp only [List.length_nil]; omega
      have hby : (([] : List Int).length + z.length) * 8 ≤ 140737488355328 := by simp only [List.length_nil]; omega
      have hmx2 : z.length + [(X : Int), (X : Int)].length ≤ maxLen := by unfold maxLen; simp only [List.length_cons, List.length_nil]; omega
      have hby2 : (z.length + [(X : Int), (X : Int)].length) * 8 ≤ 140737488355328 := by simp only [List.length_cons, List.length_nil]; omega
      obtain ⟨LZ, hLZ⟩ : ∃ LZ, LZ = z ++ [(X : Int), (X : Int)] := ⟨_, rfl⟩
      have HLZ := Lib.hid hLZ
      have HLZl := Lib.hid (show LZ.length = z.length + 2 by rw [hLZ, List.length_append]; rfl)
      have HMX := Lib.hid (And.intro (And.intro hmx hby) (And.intro hmx2 hby2))
      clear hO hbe hb6 hLZ hmx hby hmx2 hby2
      go_wp2_with (first
        | (at_builtin; refine wpList_append_ints _ rfl _ _ 23 rfl wr.heap.size i0 Try.underlying23 hi hz0 hz1 hz2 _ _ [] z z rfl HO6.out _ _ rfl HJ6.out HEZ.out HMX.out.1.1 HMX.out.1.2 hbs6 ?_; intro B7 d7 w7 hO7 hb7; have HO8 := Lib.hid (hO7.below (below_of w7 (.cells #[.int .i64 (X : Int), .int .i64 (X : Int)] 3))); have HN8 := Lib.hid (isInts_two w7 (X : Int)); have hbs7 : wr.heap.size ≤ (w7.alloc (.cells #[.int .i64 (X : Int), .int .i64 (X : Int)] 3)).heap.size := Nat.le_trans (Nat.le_trans hbs6 hb7.size) (below_of w7 _).size; have HB8 := Lib.hid ((HB6.out.trans hb7).trans ((below_of w7 (.cells #[.int .i64 (X : Int), .int .i64 (X : Int)] 3)).mono (Nat.le_trans hbs6 hb7.size))); clear hO7 hb7)
        | (at_builtin; refine wpList_append_ints _ rfl _ _ 23 rfl wr.heap.size i0 Try.underlying23 hi hz0 hz1 hz2 _ _ z [(X : Int), (X : Int)] LZ rfl HO8.out _ _ rfl HN8.out HLZ.out HMX.out.2.1 HMX.out.2.2 hbs7 ?_; intro B9 d9 w9 hO9 hb9))
      have hb79 := HB8.out.trans hb9
      have hs79 := hb79.size
      have hb39 := HB.out.trans (hb79.mono hsz)
      have hI9 := (HI.out.below hb39).more hb39.size
      have hL9 := (HLI.out.below hb79).more hs79
      have hZ9 := own_is hO9
      have hW9 := HW.out.trans (hb39.mono hszw)
      clear hO9 hb9 hb79 hb39 HB8 HN8 HO8 HO6 HJ6 HB6 HEZ HMX
      refine (heapsVal_any V cv s B d L w9 hI9 hL9 (by omega) (by omega)).mono ?_
      rw [show heapsV s L = v by rw [HLE.out, rev_ok HS.out HZ.out, ← HV.out]]
      rintro e w10 ⟨rfl, hb10⟩
      have hI10 := (hI9.below hb10).more hb10.size
      have hZ10 := (hZ9.below hb10).more hb10.size
      have hW10 := hW9.trans (hb10.mono hW9.size)
      clear hI9 hZ9 hL9 hb10 hW9
      have hone : heapsV s [(X : Int)] = iAt (gruV s (X + 1)) X := one_ok HS.out hX60
      obtain ⟨Y, hY⟩ : ∃ Y, iAt (gruV s (X + 1)) X = Y := ⟨_, rfl⟩
      rw [hY] at hone
      have HONE := Lib.hid hone
      have HY := Lib.hid hY
      clear hone hY
      by_cases hgt : 2 < z.length
      · have hgd : decide (2 < (z.length : Int)) = true := decide_eq_true (by omega)
        clear hgt
        go_wp2_with fail
        refine (heapsVal_any V cv s (some ⟨w10.heap.size, 0, none⟩) 1 [(X : Int)] (w10.alloc (.cells #[.int .i64 (X : Int)] 3)) ((hI10.below (below_of w10 _)).more (below_of w10 _).size) (isInts_one w10 (X : Int)) (by omega) (by show (1 : Nat) ≤ 1048576; omega)).mono ?_
        rw [HONE.out]
        rintro e w12 ⟨rfl, hb12⟩
        have hb12' := (below_of w10 (.cells #[.int .i64 (X : Int)] 3)).trans (hb12.mono (below_of w10 _).size)
        have hI12 := (hI10.below hb12').more hb12'.size
        have hW12 := hW10.trans (hb12'.mono hW10.size)
        clear hI10 hb12 hb12' hW10
        go_wp2_with fail
        refine (takeAll_any V cv s (X : Int) w12 hI12 (by omega)).mono ?_
        rw [show takeV s (X : Int) = gruV s (X + 1) from takeV_yes HS.out hX60]
        obtain ⟨G, hG⟩ : ∃ G, G = gruV s (X + 1) := ⟨_, rfl⟩
        have HGL := Lib.hid (show G.length = X + 1 by rw [hG, gruV_len])
        have HGY := Lib.hid (show iAt G X = Y by rw [hG]; exact HY.out)
        rw [← hG]
        clear hG
        rintro e w13 ⟨A13, c13, rfl, hN13, hb13⟩
        obtain ⟨gb, rfl⟩ := hN13.is.some (by rw [HGL.out]; omega)
        obtain ⟨hgB, g0⟩ := hN13.is.at (i := X) (by rw [HGL.out]; omega)
        rw [HGY.out] at g0
        have hXG : (X : Int) < (G.length : Int) := by have := HGL.out; omega
        have hX0 : (0 : Int) ≤ (X : Int) := by omega
        have hW13 := Lib.hid (hW12.trans (hb13.mono hW12.size))
        clear hN13 hb13 hI12 hW12
        go_wp2_with fail
        go_ret
        exact ⟨rfl, hW13.out⟩
      · have hgd : decide (2 < (z.length : Int)) = false := decide_eq_false (by omega)
        have HGT := Lib.hid (show z.length ≤ 2 by omega)
        clear hgt
        go_wp2_with fail
        refine (heapsVal_any V cv s B9 d9 LZ w10 hI10 hZ10 (by omega) (by rw [HLZl.out]; omega)).mono ?_
        rw [show heapsV s LZ = v by rw [HLZ.out, two_ok HS.out HZ.out (by omega) (by omega) HGT.out, ← HV.out]]
        rintro e w11 ⟨rfl, hb11⟩
        have hI11 := (hI10.below hb11).more hb11.size
        have hW11 := hW10.trans (hb11.mono hW10.size)
        clear hI10 hZ10 hb11 hW10
        go_wp2_with fail
        refine (heapsVal_any V cv s (some ⟨w11.heap.size, 0, none⟩) 1 [(X : Int)] (w11.alloc (.cells #[.int .i64 (X : Int)] 3)) ((hI11.below (below_of w11 _)).more (below_of w11 _).size) (isInts_one w11 (X : Int)) (by omega) (by show (1 : Nat) ≤ 1048576; omega)).mono ?_
        rw [HONE.out]
        rintro e w12 ⟨rfl, hb12⟩
        have hb12' := (below_of w11 (.cells #[.int .i64 (X : Int)] 3)).trans (hb12.mono (below_of w11 _).size)
        have hI12 := (hI11.below hb12').more hb12'.size
        have hW12 := hW11.trans (hb12'.mono hW11.size)
        clear hI11 hb12 hb12' hW11
        go_wp2_with fail
        refine (takeAll_any V cv s (X : Int) w12 hI12 (by omega)).mono ?_
        rw [show takeV s (X : Int) = gruV s (X + 1) from takeV_yes HS.out hX60]
        obtain ⟨G, hG⟩ : ∃ G, G = gruV s (X + 1) := ⟨_, rfl⟩
        have HGL := Lib.hid (show G.length = X + 1 by rw [hG, gruV_len])
        have HGY := Lib.hid (show iAt G X = Y by rw [hG]; exact HY.out)
        rw [← hG]
        clear hG
        rintro e w13 ⟨A13, c13, rfl, hN13, hb13⟩
        obtain ⟨gb, rfl⟩ := hN13.is.some (by rw [HGL.out]; omega)
        obtain ⟨hgB, g0⟩ := hN13.is.at (i := X) (by rw [HGL.out]; omega)
        rw [HGY.out] at g0
        have hXG : (X : Int) < (G.length : Int) := by have := HGL.out; omega
        have hX0 : (0 : Int) ≤ (X : Int) := by omega
        have hW13 := Lib.hid (hW12.trans (hb13.mono hW12.size))
        clear hN13 hb13 hI12 hW12
        go_wp2_with fail
        go_ret
        exact ⟨rfl, hW13.out⟩
    · obtain ⟨j, hj⟩ : ∃ j : Nat, k = j + 1 := ⟨k - 1, by omega⟩
      have hIj : I = (j : Int) := by omega
      subst hIj
      have hjz : j < z.length := by omega
      have hjz2 : (j : Int) < (z.length : Int) := by omega
      have hj0 : (0 : Int) ≤ (j : Int) := by omega
      obtain ⟨ub, rfl⟩ := HJ.out.some (by omega)
      obtain ⟨huB, c0⟩ := (HJ.out.below hbe).at hjz
      have HE := Lib.hid (show bk z j = L ++ [iAt z j] by rw [bk_next hjz, hL.out, hj])
      obtain ⟨LL, hLL⟩ : ∃ LL, LL = bk z j := ⟨_, rfl⟩
      have HLL := Lib.hid hLL
      have HEL := Lib.hid (show LL = L ++ [iAt z j] by rw [hLL]; exact HE.out)
      have HLen := Lib.hid (show LL.length ≤ 4 by rw [hLL, bk_len]; omega)
      have hmax : L.length + 1 ≤ maxLen := by unfold maxLen; omega
      have HO := Lib.hid hO
      have HBE := Lib.hid hbe
      have hkle : j ≤ z.length := by omega
      clear hLL hO hbe hI hj hk0 hk hL
      go_wp2_with (at_builtin; refine wpList_append_own _ rfl _ _ 23 rfl (w3.heap.size) 3 i0 (.int .i64 0) 1 8 Try.underlying23 hi hz0 hz1 hz2 rfl (by decide) _ _ _ rfl (World.ownsRow.alloc HO.out _) ⟨wr.heap.size, 0, none⟩ 1 1 [.int .i64 (iAt z j)] rfl rfl (cell_one_new _ _ _) (fun u hu => by simp at hu; subst hu; rfl) hmax (by omega) (by simp; omega) ?_; intro v' w7 hown' hgrow' hnil'; obtain ⟨B7, d7, rfl, hO7, hb7⟩ := app_after HO.out HEL.out hown' hgrow' (by omega); clear hown' hgrow' hnil')
      go_roundw
      case rel => exact ⟨j, (j : Int) - 1, B7, d7, LL, hkle, rfl, rfl, rfl, HLL, HLen.out, hO7, HBE.out.trans hb7⟩
      case measure => simp [intOf]
end Go.Proofs.Ytjanalljaacnoaa.Laws
