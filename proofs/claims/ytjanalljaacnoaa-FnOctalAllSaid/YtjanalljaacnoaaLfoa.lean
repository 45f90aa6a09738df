/- The walk of the law FnOctalAll. -/
import Derived.Test.YtjanalljaacnoaaSo3
import Derived.Test.YtjanalljaacnoaaZj
import Derived.Test.YtjanalljaacnoaaKr
namespace Go.Proofs.Ytjanalljaacnoaa.Laws
open Go.ChangeShapes Go.WideShapes Go.ChangeAt Go.RowKit Base Sq In Ko Sd So
set_option linter.unusedVariables false
set_option maxRecDepth 20000
attribute [local irreducible] wpQuiet

theorem gruO_at (s : List Int) {n m i : Nat} (h : i < n) (hm : n ≤ m) : iAt (gruO s m) i = iAt (gruO s n) i := by
  induction m with
  | zero => omega
  | succ m ih =>
    rcases Nat.eq_or_lt_of_le hm with rfl | h2
    · rfl
    · rw [show gruO s (m + 1) = gruO s m ++ [mexV (octW (gruO s m) (octM s m))] from rfl, iAt_append_left (by rw [gruO_len]; omega)]
      exact ih (by omega)
theorem octW_up {s : List Int} {n m : Nat} (h : n ≤ m) : octW (gruO s m) (octM s n) = octW (gruO s n) (octM s n) := by
  unfold octW
  refine List.map_congr_left fun p hp => ?_
  rw [octM_lim] at hp
  obtain ⟨⟨a, b⟩, c, d⟩ := octK_mem (Nat.min_le_right _ _) hp
  rw [gruO_at s (show p.1.toNat < n by omega) h, gruO_at s (show p.2.toNat < n by omega) h]
theorem gruO_val {s : List Int} {n m : Nat} (h : n ≤ m) : iAt (gruO s (m + 1)) n = mexV (octW (gruO s (m + 1)) (octM s n)) := by
  rw [octW_up (by omega), gruO_at s (show n < n + 1 by omega) (by omega)]
  have := iAt_snoc (gruO s n) (mexV (octW (gruO s n) (octM s n)))
  rw [gruO_len] at this
  exact this
theorem gruO_first {s : List Int} {m : Nat} : iAt (gruO s (m + 1)) 0 = 0 := by
  have e : octM s ((0 : Nat) : Int) = [] := by rw [octM_lim, Nat.min_zero]; rfl
  rw [gruO_val (Nat.zero_le m), e]; rfl

set_option maxHeartbeats 8000000 in
theorem fnOctalAll_walk (w : World) (A : Option Addr) (n c : Nat) (zs : List Int) (h : IsRow .u8 w A n c zs) :
    Calls Try.prog 8 #[.slice A n c] w fun e w' => e = .returned (.bool true) ∧ Below w.heap.size w w' := by
  obtain ⟨i0, hi, hz0, hz1, hz2⟩ := info_parts infoInt
  by_cases hn : 1048576 < n
  · have hd : decide (1048576 < (n : Int)) = true := decide_eq_true (by omega)
    clear h
    go_enter Try.func8, Try.ntmps8
    go_wp2_with fail
    go_ret
    exact ⟨rfl, Below.refl _ _⟩
  have hd : decide (1048576 < (n : Int)) = false := decide_eq_false (by omega)
  have hn2 : n ≤ 1048576 := by omega
  have HH := Lib.hid h
  clear h hn
  go_enter Try.func8, Try.ntmps8
  go_wp2_with fail
  refine (drawOctalAll_any _ _ _ _ _ HH.out hn2).mono ?_
  rintro e w1 ⟨V, cv, s, x, rfl, hs6, hx0, hx1, hcap, hI1, hW1⟩
  clear HH hd hn2
  have hGL : (octalV s x).length ≤ 1048576 := octalV_len
  obtain ⟨G, hG⟩ : ∃ G, G = octalV s x := ⟨_, rfl⟩
  obtain ⟨bb, hbb⟩ : ∃ bb, bb = octB s := ⟨_, rfl⟩
  have HG := Lib.hid hG
  have HBB := Lib.hid hbb
  rw [← hG] at hGL
  have hc : (bb = false ∧ G.length = 0) ∨ (bb = true ∧ G.length = 0) ∨ (bb = true ∧ 0 < G.length) := by
    by_cases h0 : G.length = 0
    · cases bb
      · exact .inl ⟨rfl, h0⟩
      · exact .inr (.inl ⟨rfl, h0⟩)
    · by_cases hy : octB s = true ∧ 0 ≤ x ∧ x ≤ 60
      · exact .inr (.inr ⟨by rw [hbb]; exact hy.1, by omega⟩)
      · rw [octalV_no hy] at hG
        rw [hG] at h0
        exact absurd rfl h0
  clear hG hbb
  rcases hc with ⟨rfl, h0⟩ | ⟨rfl, h0⟩ | ⟨rfl, h0⟩
  all_goals
    have H0 := Lib.hid h0
    first
      | (have h0i : ((G.length : Int) == 0) = true := by (rw [beq_iff_eq]; omega))
      | (have h0i : ((G.length : Int) == 0) = false := by (rw [beq_eq_false_iff_ne]; omega))
    clear h0
    go_wp2_with fail
    refine (octalAll_any V cv s x w1 hI1 (by omega) hcap).mono ?_
    rw [← HG.out]
    rintro e w2 ⟨A2, c2, rfl, hN2, hb2⟩
    have hI2 := hI1.below hb2
    have hG2 := hN2.is
    have hW2 := hW1.trans (hb2.mono hW1.size)
    have hz2' := hb2.size
    clear hI1 hN2 hb2 hW1
    go_wp2_with fail
    refine (specOctalAll_any V cv s x w2 (hI2.more hz2') (by omega)).mono ?_
    rw [← HG.out]
    rintro e w3 ⟨A3, c3, rfl, hN3, hb3⟩
    have hI3 := (hI2.more hz2').below hb3
    have hG3 := hG2.below hb3
    have hW3 := hW2.trans (hb3.mono hW2.size)
    have hz3 := hb3.size
    clear hI2 hG2 hW2 hb3 hz2'
    go_wp2_with fail
    refine (zgInts_same _ _ _ _ _ _ (hG3.more hz3) hN3.is hGL).mono ?_
    rintro e w4 ⟨rfl, hb4⟩
    have hI4 := (hI3.more hz3).below hb4
    have hG4 := (hG3.more hz3).below hb4
    have hW4 := hW3.trans (hb4.mono hW3.size)
    have hz4 := hb4.size
    clear hI3 hG3 hN3 hW3 hb4 hz3
    go_wp2_with fail
    refine (octalOk_any V cv s w4 (hI4.more hz4) (by omega)).mono ?_
    rw [← HBB.out]
    rintro e w' ⟨rfl, rfl⟩
    go_wp2_with fail
    refine (specOctalOk_any V cv s w4 (hI4.more hz4) (by omega)).mono ?_
    rw [← HBB.out]
    rintro e w5 ⟨rfl, hb5⟩
    have hI5 := ((hI4.more hz4).below hb5).more hb5.size
    have hG5 := ((hG4.more hz4).below hb5).more hb5.size
    have hW5 := hW4.trans (hb5.mono hW4.size)
    have hz5 := hb5.size
    clear hI4 hG4 hW4 hb5 hz4 hz5
    go_wp2_with fail
  · refine (specOctalAll_any V cv s x w5 hI5 (by omega)).mono ?_
    rw [← HG.out]
    rintro e w6 ⟨A6, c6, rfl, hN6, hb6⟩
    have hI6 := (hI5.below hb6).more hb6.size
    have hG6 := (hG5.below hb6).more hb6.size
    have hW6 := hW5.trans (hb6.mono hW5.size)
    clear hI5 hG5 hW5 hb6
    go_wp2_with fail
    refine (zgInts_same _ _ _ _ _ _ hG6 hN6.is hGL).mono ?_
    rintro e w7 ⟨rfl, hb7⟩
    have hI7 := (hI6.below hb7).more hb7.size
    have hW7 := hW6.trans (hb7.mono hW6.size)
    clear hI6 hG6 hN6 hW6 hb7
    go_wp2_with fail
    refine (octalOk_any V cv s w7 hI7 (by omega)).mono ?_
    rw [← HBB.out]
    rintro e w' ⟨rfl, rfl⟩
    go_wp2_with fail
    refine (specOctalOk_any V cv s w7 hI7 (by omega)).mono ?_
    rw [← HBB.out]
    rintro e w8 ⟨rfl, hb8⟩
    have hW8 := hW7.trans (hb8.mono hW7.size)
    go_wp2_with fail
    go_ret
    exact ⟨rfl, hW8⟩
  · refine (specOctalAll_any V cv s x w5 hI5 (by omega)).mono ?_
    rw [← HG.out]
    rintro e w6 ⟨A6, c6, rfl, hN6, hb6⟩
    have hI6 := (hI5.below hb6).more hb6.size
    have hG6 := (hG5.below hb6).more hb6.size
    have hW6 := hW5.trans (hb6.mono hW5.size)
    clear hI5 hG5 hW5 hb6
    go_wp2_with fail
    refine (zgInts_same _ _ _ _ _ _ hG6 hN6.is hGL).mono ?_
    rintro e w7 ⟨rfl, hb7⟩
    have hI7 := (hI6.below hb7).more hb7.size
    have hW7 := hW6.trans (hb7.mono hW6.size)
    clear hI6 hG6 hN6 hW6 hb7
    go_wp2_with fail
    refine (octalOk_any V cv s w7 hI7 (by omega)).mono ?_
    rw [← HBB.out]
    rintro e w' ⟨rfl, rfl⟩
    go_wp2_with fail
    refine (specOctalOk_any V cv s w7 hI7 (by omega)).mono ?_
    rw [← HBB.out]
    rintro e w8 ⟨rfl, hb8⟩
    have hW8 := hW7.trans (hb8.mono hW7.size)
    go_wp2_with fail
    go_ret
    exact ⟨rfl, hW8⟩
  · have hyes : octB s = true ∧ 0 ≤ x ∧ x ≤ 60 := by
      by_cases hy : octB s = true ∧ 0 ≤ x ∧ x ≤ 60
      · exact hy
      · have e := HG.out
        rw [octalV_no hy] at e
        have e2 := H0.out
        rw [e] at e2
        exact absurd e2 (Nat.lt_irrefl 0)
    obtain ⟨hsb, hx2, hx3⟩ := hyes
    obtain ⟨m, rfl⟩ := Int.eq_ofNat_of_zero_le hx2
    have hm : m ≤ 60 := by omega
    have hGe : G = gruO s (m + 1) := by rw [HG.out, octalV_yes hsb hm]
    have HGL := Lib.hid (show G.length = m + 1 by rw [hGe, gruO_len])
    have HGE := Lib.hid hGe
    have HS := Lib.hid hsb
    have hsl := octB_len hsb
    obtain ⟨vb, rfl⟩ := hI5.some (by omega)
    obtain ⟨gb, rfl⟩ := hG5.some H0.out
    have HI := Lib.hid hI5
    have HGI := Lib.hid hG5
    have HW := Lib.hid hW5
    have hszw := hW5.size
    clear hI5 hG5 hW5 hGe hsb hx0 hx1 hx2 hx3 HG HBB h0i
    go_loopw [6] (fun iv wr => ∃ n : Nat, n ≤ m + 1 ∧ iv = .int .i64 n ∧ Below w5.heap.size w5 wr) (fun iv _ => m + 1 - (intOf iv).toNat)
    case atStart => exact ⟨0, by omega, rfl, Below.refl _ _⟩
    case round =>
      obtain ⟨n, hn, rfl, hbe⟩ := hrel
      have hsz := hbe.size
      by_cases hlt : n ≤ m
      · have hlt' : (n : Int) ≤ (m : Int) := by omega
        have HBE := Lib.hid hbe
        clear hbe
        go_wp2_with fail
        refine (octalMoves_any _ cv s (n : Int) wr ((HI.out.below HBE.out).more hsz) (by omega) hcap).mono ?_
        rw [octMV_yes HS.out (by omega)]
        have hfew := octM_few HS.out (n := n) (by omega)
        obtain ⟨ms, hms⟩ : ∃ ms, ms = octM s n := ⟨_, rfl⟩
        have HMS := Lib.hid hms
        have HPI := Lib.hid (show ∀ i, i < ms.length → PairIn n (prAt ms i) by rw [hms]; exact fun i h => octM_in h)
        rw [← hms] at hfew
        rw [← hms]
        clear hms
        rintro e w7 ⟨Am, cm, rfl, hM, hb7⟩
        have HMI := Lib.hid hM.is
        have HB := Lib.hid (HBE.out.trans (hb7.mono hsz))
        have hsz7 := HB.out.size
        have hO1 := Own.empty (base := w7.heap.size) (Nat.le_refl _) (Blk.new w7 #[] 3)
        have hb1 := below_of w7 (.cells #[] 3)
        clear hM hb7
        go_wp2_with fail
        generalize hW1 : w7.alloc _ = W1 at *
        clear hW1
        go_loopw [8, 9] (fun v i wr => ∃ (k : Nat) (B : Option Addr) (d : Nat), k ≤ ms.length ∧ i = .int .i64 k ∧ v = .slice B (kidK G ms k).length d ∧ In.Own wr w7.heap.size (.slice B (kidK G ms k).length d) (kidK G ms k) ∧ Below w7.heap.size w7 wr) (fun _ i _ => ms.length - (intOf i).toNat)
        case atStart => exact ⟨0, _, _, by omega, rfl, rfl, hO1, hb1⟩
        case round =>
          clear hO1 hb1
          obtain ⟨k, B, d, hk, rfl, rfl, hL, hbk⟩ := hrel
          have hol := kidK_len G ms k
          have hol2 : (kidK G ms k).length ≤ 128 := by omega
          clear hol
          have hszk := hbk.size
          have hbw := HB.out.trans (hbk.mono hsz7)
          by_cases hlk : k < ms.length
          · have hlkI : (k : Int) < (ms.length : Int) := by omega
            obtain ⟨x, y, hxy⟩ : ∃ x y, prAt ms k = (x, y) := ⟨_, _, rfl⟩
            have hin := HPI.out k hlk
            rw [hxy] at hin
            obtain ⟨⟨x0, x1⟩, y0, y1⟩ : (0 ≤ x ∧ x < n) ∧ 0 ≤ y ∧ y < n := hin
            obtain ⟨lb, hlbA, -, -⟩ := HMI.out.at hlk
            subst hlbA
            obtain ⟨hlb, c0, c1⟩ := (HMI.out.below hbk).atb hlk hxy
            have hix : x.toNat < G.length := by have := HGL.out; omega
            have hiy : y.toNat < G.length := by have := HGL.out; omega
            obtain ⟨hgB, g1⟩ := (HGI.out.below hbw).at hix
            obtain ⟨_, g2⟩ := (HGI.out.below hbw).at hiy
            have q1 : x < (G.length : Int) := by have := HGL.out; omega
            have q2 : y < (G.length : Int) := by have := HGL.out; omega
            have b1 := gruO_bd HS.out (n := m + 1) (i := x.toNat) (by omega) (by omega)
            have b2 := gruO_bd HS.out (n := m + 1) (i := y.toNat) (by omega) (by omega)
            rw [← HGE.out] at b1 b2
            obtain ⟨X, hX⟩ : ∃ X, X = xorV (iAt G x.toNat) (iAt G y.toNat) := ⟨_, rfl⟩
            have hx : bits .xor .i64 (iAt G x.toNat) (iAt G y.toNat) = X := by rw [hX]; exact bits_xor (by omega) (by omega)
            have HE := Lib.hid (show kidK G ms (k + 1) = kidK G ms k ++ [X] by rw [hX, show (kidK G ms (k + 1)) = kidK G ms k ++ [xorV (iAt G (prAt ms k).1.toNat) (iAt G (prAt ms k).2.toNat)] from rfl, hxy])
            have hmax : (kidK G ms k).length + 1 ≤ maxLen := by unfold maxLen; omega
            have hgB7 : gb < w7.heap.size := by omega
            have HCS := Lib.hid (show ∀ w' : World, Below w7.heap.size wr w' → (w'.cell? ⟨lb, k * 2, none⟩ = some (.int .i64 x) ∧ w'.cell? ⟨lb, k * 2 + 1, none⟩ = some (.int .i64 y) ∧ w'.cell? ⟨gb, x.toNat, none⟩ = some (.int .i64 (iAt G x.toNat)) ∧ w'.cell? ⟨gb, y.toNat, none⟩ = some (.int .i64 (iAt G y.toNat))) from fun w' hb => ⟨(hb.cell (p := ⟨lb, k * 2, none⟩) hlb).trans c0, (hb.cell (p := ⟨lb, k * 2 + 1, none⟩) hlb).trans c1, (hb.cell (p := ⟨gb, x.toNat, none⟩) hgB7).trans g1, (hb.cell (p := ⟨gb, y.toNat, none⟩) hgB7).trans g2⟩)
            have HL := Lib.hid hL
            have HK := Lib.hid hbk
            clear hX hxy b1 b2 hL hbk hbw
            go_wp2_with fail
            have hw : Below w7.heap.size wr wr.drew := (Below.refl _ _).drew
            go_region_held3 (fun w' => w'.cell? ⟨lb, k * 2, none⟩ = some (.int .i64 x) ∧ w'.cell? ⟨lb, k * 2 + 1, none⟩ = some (.int .i64 y) ∧ w'.cell? ⟨gb, x.toNat, none⟩ = some (.int .i64 (iAt G x.toNat)) ∧ w'.cell? ⟨gb, y.toNat, none⟩ = some (.int .i64 (iAt G y.toNat)))
              (first | exact HCS.out _ hw | exact hcell8 | exact HCS.out _ (hw.alloc (by have := hw.size; omega) _))
              (first
                | (refine step_append_own rfl _ _ _ rfl w7.heap.size 3 i0 (.int .i64 0) 1 8 Try.underlying23 hi hz0 hz1 hz2 rfl (by decide) _ _ _ rfl (show World.ownsRow (wr.drew.alloc (.cells #[.int .i64 X] 3)) w7.heap.size 3 1 (.slice B (kidK G ms k).length d) (kidK G ms k).length (nums (kidK G ms k)) from World.ownsRow.alloc HL.out _) ⟨wr.heap.size, 0, none⟩ 1 1 [.int .i64 X] rfl rfl (cell_one_new wr.drew _ _) (fun u hu => by simp at hu; subst hu; rfl) hmax (by omega) (by simp; omega) ?_; intro v' w8 hown' hgrow' hnil'; obtain ⟨B8, d8, rfl, hO8, hb8⟩ := app_after (w := wr.drew) HL.out HE.out hown' hgrow' hszk; have hcell8 := HCS.out _ (hw.trans hb8); have hb88 := HK.out.trans (hw.trans hb8); clear hown' hgrow' hnil'))
            all_goals
              clear hcell8
              go_wp2_with fail
              go_roundw
              case rel =>
                have R : k + 1 ≤ ms.length ∧ Value.int .i64 ((k : Int) + 1) = .int .i64 ((k + 1 : Nat) : Int) ∧ Value.slice B8 (kidK G ms (k + 1)).length d8 = .slice B8 (kidK G ms (k + 1)).length d8 ∧ In.Own w8 w7.heap.size (.slice B8 (kidK G ms (k + 1)).length d8) (kidK G ms (k + 1)) ∧ Below w7.heap.size w7 w8 := ⟨by omega, by go_num, rfl, hO8, hb88⟩
                first
                  | exact ⟨k + 1, B8, d8, R⟩
                  | ((repeat apply Exists.intro); exact ⟨⟨k + 1, B8, d8, R⟩, rfl⟩)
              case measure => simp [intOf]; omega
          · obtain rfl : k = ms.length := by omega
            have hnG : n < G.length := by have := HGL.out; omega
            obtain ⟨hgB, c1⟩ := (HGI.out.below hbw).at hnG
            have hval : iAt G n = mexV (kidK G ms ms.length) := by rw [kidK_all, HMS.out, HGE.out, gruO_val hlt]
            have hn1 : (n : Int) < (G.length : Int) := by omega
            have hn0 : (0 : Int) ≤ (n : Int) := by omega
            obtain ⟨t, ht⟩ : ∃ t : Nat, iAt G n = (t : Int) := Int.eq_ofNat_of_zero_le (by rw [hval]; exact (mexV_le _).1)
            have HOUT := Lib.hid (decide_eq_false (show ¬ ((t : Nat) : Int) ∈ kidK G ms ms.length by rw [← ht, hval]; exact mexV_out _))
            have HIN := Lib.hid (show ∀ j : Nat, j < t → decide (((j : Nat) : Int) ∈ kidK G ms ms.length) = true from fun j hj => decide_eq_true (mexV_in (by rw [← hval, ht]; omega)))
            have htl : t ≤ 128 := by have := (mexV_le (kidK G ms ms.length)).2; rw [← hval, ht] at this; omega
            rw [ht] at c1
            clear ht hval
            have HK := Lib.hid (own_is hL)
            clear hL
            generalize kidK G ms ms.length = K at *
            have HBW := Lib.hid hbw
            clear hbk hbw
            go_wp2_with fail
            refine (zgIn_any _ _ _ _ _ HK.out (by omega)).mono ?_
            rw [HOUT.out]
            rintro e w' ⟨rfl, rfl⟩
            go_wp2_with fail
            go_loopw [10] (fun iv wr2 => ∃ j : Nat, j ≤ t ∧ iv = .int .i64 j ∧ wr = wr2) (fun iv _ => t - (intOf iv).toNat)
            case atStart => exact ⟨0, by omega, rfl, rfl⟩
            case round =>
              obtain ⟨j, hj, rfl, rfl⟩ := hrel
              by_cases hjt : j < t
              · have hjt' : (j : Int) < (t : Int) := by omega
                have HJ := Lib.hid (HIN.out j hjt)
                go_wp2_with fail
                refine (zgIn_any _ _ _ _ _ HK.out (by omega)).mono ?_
                rw [HJ.out]
                rintro e w' ⟨rfl, rfl⟩
                go_wp2_with fail
                go_roundw
                case rel => exact ⟨j + 1, by omega, by go_num, by first | rfl | trivial⟩
                case measure => simp [intOf]; omega
              · obtain rfl : j = t := by omega
                go_wp2_with fail
                go_roundw
                case rel => exact ⟨n + 1, by omega, by go_num, HBW.out⟩
                case measure => simp [intOf]; omega
      · obtain rfl : n = m + 1 := by omega
        have hd : decide (((m + 1 : Nat) : Int) ≤ (m : Int)) = false := decide_eq_false (by omega)
        obtain ⟨hgB, c1⟩ := (HGI.out.below hbe).at H0.out
        rw [HGE.out, gruO_first] at c1
        have hG0 : (0 : Int) < (G.length : Int) := by have := HGL.out; omega
        have hGm : (G.length : Int) = (m : Int) + 1 := by have := HGL.out; omega
        have hGb : ((G.length : Int) == (m : Int) + 1) = true := by rw [beq_iff_eq]; exact hGm
        have HBE := Lib.hid hbe
        clear hbe hGm
        go_wp2_with fail
        go_ret
        exact ⟨rfl, HW.out.trans (HBE.out.mono hszw)⟩
end Go.Proofs.Ytjanalljaacnoaa.Laws
