/- The walk of the law FnPointsOf. -/
import Derived.Test.YtjanalljaacnoaaRy
import Derived.Test.YtjanalljaacnoaaZj
import Derived.Test.YtjanalljaacnoaaKt2
namespace Go.Proofs.Ytjanalljaacnoaa.Laws
open Go.ChangeShapes Go.WideShapes Go.ChangeAt Go.RowKit Base Sq In Ko Rd Rb Sd Ry
set_option linter.unusedVariables false
set_option maxRecDepth 20000
attribute [local irreducible] wpQuiet

def sumTo (f : Nat → Int) : Nat → Int
  | 0 => 0
  | p + 1 => sumTo f p + f p
theorem sumTo_add (f g h : Nat → Int) (p : Nat) : sumTo (fun a => f a + g a + h a) p = sumTo f p + sumTo g p + sumTo h p := by
  induction p with
  | zero => rfl
  | succ p ih => simp only [sumTo, ih]; omega
theorem sumTo_one {x c : Int} {p : Nat} (h : 0 ≤ x) : sumTo (fun a => if x = (a : Int) then c else 0) p = if x < (p : Int) then c else 0 := by
  induction p with
  | zero => simp only [sumTo]; rw [if_neg (by omega)]
  | succ p ih =>
    simp only [sumTo, ih]
    by_cases h1 : x < (p : Int)
    · rw [if_pos h1, if_neg (by omega), if_pos (by omega)]; omega
    · by_cases h2 : x = (p : Int)
      · rw [if_neg h1, if_pos h2, if_pos (by omega)]; omega
      · rw [if_neg h1, if_neg h2, if_neg (by omega)]; omega
theorem sumTo_zero (p : Nat) : sumTo (fun _ => 0) p = 0 := by
  induction p with
  | zero => rfl
  | succ p ih => simp only [sumTo, ih]; rfl
theorem pts_sum {p : Nat} {l : List St} (h : resB (p : Int) l = true) : ∀ k, k ≤ l.length → sumTo (fun a => ptK l a k) p = 2 * (k : Int) := by
  intro k
  induction k with
  | zero => intro _; exact sumTo_zero p
  | succ k ih =>
    intro hk
    obtain ⟨⟨a1, a2⟩, ⟨b1, b2⟩, _, _, _⟩ := resB_at h (show k < l.length by omega)
    have e : (fun a : Nat => ptK l a (k + 1)) = (fun a : Nat => ptK l a k + (if (stAt l k).dx = (a : Int) then (stAt l k).far else 0) + (if (stAt l k).dy = (a : Int) then 2 - (stAt l k).far else 0)) := rfl
    rw [e, sumTo_add, ih (by omega), sumTo_one a1, sumTo_one b1, if_pos a2, if_pos b2]
    omega
theorem sumTo_bd {f : Nat → Int} {b : Int} : ∀ p, (∀ a, a < p → 0 ≤ f a ∧ f a ≤ b) → 0 ≤ sumTo f p ∧ sumTo f p ≤ b * p := by
  intro p
  induction p with
  | zero => intro _; simp [sumTo]
  | succ p ih =>
    intro h
    have h1 := ih (fun a ha => h a (by omega))
    have h2 := h p (by omega)
    simp only [sumTo]
    have e : b * ((p + 1 : Nat) : Int) = b * p + b := by rw [Int.natCast_add, Int.mul_add]; simp
    rw [e]; omega

def NumRes (w w' : World) (e : Ending) : Prop := ∃ (x : Int) (A : Option Addr) (c : Nat) (z : List St), e = .returned (.tuple #[.int .i64 x, .slice A z.length c]) ∧ z.length ≤ 14 ∧ IsSteps w' w'.heap.size A z ∧ Below w.heap.size w w'
theorem nums19 (w : World) : NumsP (w.alloc (.cells #[.int .i64 1, .int .i64 9] 3)) w.heap.size 2 (fun _ => True) := fun i hi => by
  have hb := Blk.new w #[.int .i64 1, .int .i64 9] 3
  obtain rfl | rfl : i = 0 ∨ i = 1 := by omega
  · exact ⟨_, hb.cell 0, trivial⟩
  · exact ⟨_, hb.cell 1, trivial⟩
set_option maxHeartbeats 4000000 in
theorem drawResultsOk_any (A : Option Addr) (n c : Nat) (zs : List Int) (w : World) (h : IsRow .u8 w A n c zs) (hn : n ≤ 1048576) :
    Calls Try.prog 71 #[.slice A n c] w fun e w' => NumRes w w' e := by
  go_enter Try.func71, Try.ntmps71
  go_wp2_with fail
  refine (Rb.open_any _ _ _ _ _ h hn).mono ?_
  rintro e w1 ⟨g, rfl, hg, hR1, hb1⟩
  have hs1 := hb1.size
  have hgl := hR1.lt
  clear h
  go_wp2_with fail
  refine (pick_any _ g 0 7 _ hR1 (by omega) (by omega)).mono ?_
  rintro e w2 ⟨v, rfl, hv0, hv1, hR2, hb2⟩
  have hW2 := hb1.trans (hb2.below hs1 hg)
  have hs2 := hW2.size
  clear hb1 hb2 hR1
  go_wp2_with fail
  refine (pick_any _ g (0 + 1) 14 _ hR2 (by omega) (by omega)).mono ?_
  rintro e w3 ⟨u, rfl, hu0, hu1, hR3, hb3⟩
  have hW3 := hW2.trans (hb3.below hs2 hg)
  have hs3 := hW3.size
  clear hb3 hR2 hW2
  by_cases h0 : u = 0
  · subst h0
    have hN := nums19 w3
    have hb5 := below_of w3 (.cells #[.int .i64 1, .int .i64 9] 3)
    have hR5 := hR3.below hb5
    have hW5 := hW3.trans (hb5.mono hs3)
    have hgw : g < w3.heap.size := hR3.lt
    clear hR3 hW3 hb5
    go_wp2_with fail
    generalize hX : w3.alloc _ = W5 at *
    have hW5s : w3.heap.size < W5.heap.size := by rw [← hX]; simp
    clear hX
    refine (one_any (fun _ => True) _ g (0 + 1 + 1) w3.heap.size 2 2 _ hR5 (by omega) (by omega) (by omega) hW5s (by omega) hN).mono ?_
    rintro e w6 ⟨x, rfl, _, hR6, hb6⟩
    have hW6 := hW5.trans (hb6.below (by omega) hg)
    have hs6 := hW6.size
    clear hR5 hW5 hb6 hN
    go_wp2_with fail
    refine (l30Results_any _ g (0 + 1 + 1 + 1) 1 _ hR6 (by omega) (by omega) (by omega)).mono ?_
    rintro e w7 ⟨B, d, z, r, rfl, hz, hr, hO, hR7, hb7⟩
    have hW7 := hW6.trans (hb7.below hs6 hg)
    have hI7 := ownR_is hO
    clear hR6 hR7 hO hW6 hb7
    go_wp2_with fail
    go_ret2
    exact ⟨x, B, d, z, rfl, hz, hI7, hW7⟩
  · go_wp2_with fail
    refine (l30Results_any _ g (0 + 1 + 1) (2 + v) _ hR3 (by omega) (by omega) (by omega)).mono ?_
    rintro e w7 ⟨B, d, z, r, rfl, hz, hr, hO, hR7, hb7⟩
    have hW7 := hW3.trans (hb7.below hs3 hg)
    have hI7 := ownR_is hO
    clear hR3 hR7 hO hW3 hb7
    go_wp2_with fail
    go_ret2
    exact ⟨2 + v, B, d, z, rfl, hz, hI7, hW7⟩
theorem drawPointsOf_any (A : Option Addr) (n c : Nat) (zs : List Int) (w : World) (h : IsRow .u8 w A n c zs) (hn : n ≤ 1048576) :
    Calls Try.prog 40 #[.slice A n c] w fun e w' => NumRes w w' e := by
  go_enter Try.func40, Try.ntmps40
  go_wp2_with fail
  refine (drawResultsOk_any _ _ _ _ _ h hn).mono ?_
  rintro e w1 ⟨x, B, d, z, rfl, hz, hI, hb⟩
  go_wp2_with fail
  go_ret2
  exact ⟨x, B, d, z, rfl, hz, hI, hb⟩

set_option maxHeartbeats 8000000 in
theorem fnPointsOf_walk (w : World) (A : Option Addr) (n c : Nat) (zs : List Int) (h : IsRow .u8 w A n c zs) :
    Calls Try.prog 11 #[.slice A n c] w fun e w' => e = .returned (.bool true) ∧ Below w.heap.size w w' := by
  by_cases hn : 1048576 < n
  · have hd : decide (1048576 < (n : Int)) = true := decide_eq_true (by omega)
    clear h
    go_enter Try.func11, Try.ntmps11
    go_wp2_with fail
    go_ret
    exact ⟨rfl, Below.refl _ _⟩
  have hd : decide (1048576 < (n : Int)) = false := decide_eq_false (by omega)
  have hn2 : n ≤ 1048576 := by omega
  have HH := Lib.hid h
  clear h hn
  go_enter Try.func11, Try.ntmps11
  go_wp2_with fail
  refine (drawPointsOf_any _ _ _ _ _ HH.out hn2).mono ?_
  rintro e w1 ⟨x, V, cv, z, rfl, hz14, hI1, hW1⟩
  clear HH hd hn2
  obtain ⟨G, hG⟩ : ∃ G, G = pointsV x z := ⟨_, rfl⟩
  obtain ⟨bb, hbb⟩ : ∃ bb, bb = resB x z := ⟨_, rfl⟩
  have HG := Lib.hid hG
  have HBB := Lib.hid hbb
  have hc : (bb = false ∧ G.length = 0) ∨ (bb = true ∧ 0 < G.length ∧ G.length ≤ 8) := by
    cases bb
    · exact .inl ⟨rfl, by rw [hG, pointsV_no hbb.symm]; rfl⟩
    · have h2 := resB_len hbb.symm
      obtain ⟨p, rfl⟩ := Int.eq_ofNat_of_zero_le (show 0 ≤ x by omega)
      exact .inr ⟨rfl, by rw [hG, pointsV_yes hbb.symm, ptsL_len]; omega⟩
  have hGL : G.length ≤ 1048576 := by omega
  clear hG hbb
  rcases hc with ⟨rfl, h0⟩ | ⟨rfl, h0, h8⟩
  all_goals
    have H0 := Lib.hid h0
    first
      | (have h0i : ((G.length : Int) == 0) = true := by (rw [beq_iff_eq]; omega))
      | (have h0i : ((G.length : Int) == 0) = false := by (rw [beq_eq_false_iff_ne]; omega))
    clear h0
    go_wp2_with fail
    refine (pointsOf_any x V cv z w1 hI1 (by omega)).mono ?_
    rw [← HG.out]
    rintro e w2 ⟨A2, c2, rfl, hN2, hb2⟩
    have hI2 := (hI1.below hb2).more hb2.size
    have hG2 := hN2.is
    have hW2 := hW1.trans (hb2.mono hW1.size)
    clear hI1 hN2 hb2 hW1
    go_wp2_with fail
    refine (specPointsOf_any x V cv z w2 hI2 (by omega)).mono ?_
    rw [← HG.out]
    rintro e w3 ⟨A3, c3, rfl, hN3, hb3⟩
    have hI3 := (hI2.below hb3).more hb3.size
    have hG3 := (hG2.below hb3).more hb3.size
    have hW3 := hW2.trans (hb3.mono hW2.size)
    clear hI2 hG2 hW2 hb3
    go_wp2_with fail
    refine (zgInts_same _ _ _ _ _ _ hG3 hN3.is hGL).mono ?_
    rintro e w4 ⟨rfl, hb4⟩
    have hI4 := (hI3.below hb4).more hb4.size
    have hG4 := (hG3.below hb4).more hb4.size
    have hW4 := hW3.trans (hb4.mono hW3.size)
    clear hI3 hG3 hN3 hW3 hb4
    go_wp2_with fail
    refine (resultsOk_any x V cv z w4 hI4 (by omega)).mono ?_
    rw [← HBB.out]
    rintro e w5 ⟨rfl, hb5⟩
    have hI5 := (hI4.below hb5).more hb5.size
    have hG5 := (hG4.below hb5).more hb5.size
    have hW5 := hW4.trans (hb5.mono hW4.size)
    clear hI4 hG4 hW4 hb5
    go_wp2_with fail
    refine (specResultsOk_any x V cv z w5 hI5 (by omega)).mono ?_
    rw [← HBB.out]
    rintro e w6 ⟨rfl, hb6⟩
    have hI6 := (hI5.below hb6).more hb6.size
    have hG6 := (hG5.below hb6).more hb6.size
    have hW6 := hW5.trans (hb6.mono hW5.size)
    clear hI5 hG5 hW5 hb6
    go_wp2_with fail
  · refine (specPointsOf_any x V cv z w6 hI6 (by omega)).mono ?_
    rw [← HG.out]
    rintro e w7 ⟨A7, c7, rfl, hN7, hb7⟩
    have hI7 := (hI6.below hb7).more hb7.size
    have hG7 := (hG6.below hb7).more hb7.size
    have hW7 := hW6.trans (hb7.mono hW6.size)
    clear hI6 hG6 hW6 hb7
    go_wp2_with fail
    refine (zgInts_same _ _ _ _ _ _ hG7 hN7.is hGL).mono ?_
    rintro e w8 ⟨rfl, hb8⟩
    have hI8 := (hI7.below hb8).more hb8.size
    have hW8 := hW7.trans (hb8.mono hW7.size)
    clear hI7 hG7 hN7 hW7 hb8
    go_wp2_with fail
    refine (resultsOk_any x V cv z w8 hI8 (by omega)).mono ?_
    rw [← HBB.out]
    rintro e w9 ⟨rfl, hb9⟩
    have hI9 := (hI8.below hb9).more hb9.size
    have hW9 := hW8.trans (hb9.mono hW8.size)
    clear hI8 hW8 hb9
    go_wp2_with fail
    refine (specResultsOk_any x V cv z w9 hI9 (by omega)).mono ?_
    rw [← HBB.out]
    rintro e w10 ⟨rfl, hb10⟩
    have hW10 := hW9.trans (hb10.mono hW9.size)
    go_wp2_with fail
    go_ret
    exact ⟨rfl, hW10⟩
  · have hx := resB_len HBB.out.symm
    obtain ⟨p, rfl⟩ := Int.eq_ofNat_of_zero_le (show 0 ≤ x by omega)
    have hp8 : p ≤ 8 := by omega
    have hGe : G = ptsL p z z.length := by rw [HG.out, pointsV_yes HBB.out.symm]
    have HGL := Lib.hid (show G.length = p by rw [hGe, ptsL_len])
    have HAT := Lib.hid (show ∀ a, a < p → iAt G a = ptK z a z.length from fun a ha => by rw [hGe, ptsL_at ha])
    have HBD := Lib.hid (fun a : Nat => ptK_bd HBB.out.symm (a : Int) z.length (Nat.le_refl _))
    have HSUM := Lib.hid (pts_sum HBB.out.symm z.length (Nat.le_refl _))
    have HSB := Lib.hid (fun k : Nat => sumTo_bd (f := fun a => ptK z a z.length) (b := 2 * (z.length : Int)) k (fun a _ => ptK_bd HBB.out.symm (a : Int) z.length (Nat.le_refl _)))
    obtain ⟨gb, rfl⟩ := hG6.some H0.out
    have HGI := Lib.hid hG6
    have HW := Lib.hid hW6
    have hszw := hW6.size
    clear hG6 hI6 hW6 hGe hx HG HBB h0i
    go_loopw [6, 7] (fun sv iv wr => ∃ k : Nat, k ≤ p ∧ iv = .int .i64 k ∧ sv = .int .i64 (sumTo (fun a => ptK z a z.length) k) ∧ Below w6.heap.size w6 wr) (fun _ iv _ => p - (intOf iv).toNat)
    case atStart => exact ⟨0, by omega, rfl, rfl, Below.refl _ _⟩
    case round =>
      obtain ⟨k, hk, rfl, rfl, hbe⟩ := hrel
      have hsz := hbe.size
      have hsb := HSB.out k
      by_cases hlt : k < p
      · have hkG : k < G.length := by have := HGL.out; omega
        have hkG2 : (k : Int) < (G.length : Int) := by omega
        have hk0 : (0 : Int) ≤ (k : Int) := by omega
        obtain ⟨hgB, c0⟩ := (HGI.out.below hbe).at hkG
        obtain ⟨b1, b2⟩ := HBD.out k
        have HNX := Lib.hid (show sumTo (fun a => ptK z a z.length) (k + 1) = sumTo (fun a => ptK z a z.length) k + iAt G k by rw [HAT.out k hlt]; rfl)
        rw [← HAT.out k hlt] at b1 b2
        obtain ⟨y, hy⟩ : ∃ y, iAt G k = y := ⟨_, rfl⟩
        generalize hS : sumTo (fun a : Nat => ptK z (a : Int) z.length) k = S at hsb HNX ⊢
        rw [hy] at HNX b1 b2 c0
        have hbk : 2 * (z.length : Int) * k ≤ 2 * (z.length : Int) * 8 := Int.mul_le_mul_of_nonneg_left (by omega) (by omega)
        have hyn : decide (y < 0) = false := decide_eq_false (by omega)
        have hw1 : IntKind.i64.wrap (S + y) = S + y := IntWalk.i64_in _ (by omega)
        clear hS hy hsb hbk
        go_wp2_with fail
        go_roundw
        case rel => exact ⟨k + 1, by omega, by go_num, by rw [HNX.out], hbe⟩
        case measure => simp [intOf]; omega
      · obtain rfl : k = p := by omega
        have e := HSUM.out
        generalize sumTo (fun a : Nat => ptK z (a : Int) z.length) k = S at e hsb ⊢
        have hw1 : IntKind.i64.wrap (2 * (z.length : Int)) = 2 * (z.length : Int) := IntWalk.i64_in _ (by omega)
        have heb : (S == 2 * (z.length : Int)) = true := by rw [beq_iff_eq]; exact e
        have hGp : ((G.length : Int) == (k : Int)) = true := by rw [beq_iff_eq]; have := HGL.out; omega
        have hge : ¬ k < G.length := by have := HGL.out; omega
        have hgd : decide ((k : Int) < (G.length : Int)) = false := decide_eq_false (by omega)
        have HBE := Lib.hid hbe
        clear e hsb hbe hlt
        go_wp2_with fail
        go_ret
        exact ⟨rfl, HW.out.trans (HBE.out.mono hszw)⟩
end Go.Proofs.Ytjanalljaacnoaa.Laws
