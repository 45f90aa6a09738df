/- Draws of chapter 20: some results. -/
import Derived.Test.YtjanalljaacnoaaSd
import Derived.Test.YtjanalljaacnoaaRx
namespace Go.Proofs.Ytjanalljaacnoaa.Ry
open Go.ChangeShapes Go.WideShapes Go.ChangeAt Go.RowKit Base Sq In Rd Rb Ko Sd
set_option linter.unusedVariables false
set_option maxRecDepth 20000
attribute [local irreducible] wpQuiet

theorem ownR_but {g base n : Nat} {w w' : World} {v : Value} {l : List St} (h : OwnR w base v n l) (hb : But g w w') (hg : g < base) : OwnR w' base v n l := by
  refine ⟨h.1, ?_⟩
  rcases h.2 with h0 | ⟨g', cap, cur, hv, hB, hg', rest⟩
  · exact .inl h0
  · exact .inr ⟨g', cap, cur, hv, hB, (hb.block g' (lt_of_block hg') (by omega)).trans hg', rest⟩
theorem ownR_empty {w : World} {base g : Nat} (hB : base ≤ g) (hg : Blk w g #[] 76) : OwnR w base (.slice (some ⟨g, 0, none⟩) 0 0) 0 [] :=
  ⟨rfl, .inr ⟨g, 0, #[], rfl, hB, hg, Nat.le_refl _, Nat.zero_le _, rfl, rfl⟩⟩
theorem app_afterR {w w' : World} {base : Nat} {v v' : Value} {l L : List St} {x y z : Int} (hO : OwnR w base v l.length l) (hL : L = l ++ [⟨x, y, z⟩]) (hown : w'.ownsRow base 76 3 v' (l.length + 1) (cellsM l ++ [.int .i64 x, .int .i64 y, .int .i64 z])) (hg : (w.alloc (.cells #[.int .i64 x, .int .i64 y, .int .i64 z] 76)).grownBy w' v.ownBlock) (hs : base ≤ w.heap.size) :
    ∃ B d, v' = .slice B L.length d ∧ OwnR w' base (.slice B L.length d) L.length L ∧ Below base w w' := by
  subst hL
  have hO' := OwnR.snoc (s := ⟨x, y, z⟩) hown
  rw [show l.length + 1 = (l ++ [(⟨x, y, z⟩ : St)]).length by simp] at hO'
  obtain ⟨B, d, hv⟩ := hO'.slice
  have hb := OwnR.base (hO.alloc (.cells #[.int .i64 x, .int .i64 y, .int .i64 z] 76)) hg (Below.refl base _) (Nat.le_refl _) (by simp; omega)
  exact ⟨B, d, hv, hv ▸ hO', ((Below.refl base w).alloc hs _).trans hb⟩
theorem ownR_is {w : World} {base : Nat} {A : Option Addr} {c : Nat} {l : List St} (h : OwnR w base (.slice A l.length c) l.length l) : IsSteps w w.heap.size A l := by
  obtain ⟨A', c', hv, hI⟩ := RxA.of h
  simp only [Value.slice.injEq] at hv
  obtain ⟨rfl, _, rfl⟩ := hv
  exact hI.is
def DrawnR (B g q m : Nat) (w w' : World) (e : Ending) : Prop := ∃ (A : Option Addr) (c : Nat) (z : List St) (r : Nat), e = .returned (.slice A z.length c) ∧ z.length ≤ m ∧ r ≤ q + 60 ∧ OwnR w' w.heap.size (.slice A z.length c) z.length z ∧ RdB B w' g r ∧ But g w w'
theorem nums3r (w : World) (x : Int) : NumsP (w.alloc (.cells #[.int .i64 (-1), .int .i64 0, .int .i64 x] 3)) w.heap.size 3 (fun _ => True) := fun i hi => by
  have hb := Blk.new w #[.int .i64 (-1), .int .i64 0, .int .i64 x] 3
  obtain rfl | rfl | rfl : i = 0 ∨ i = 1 ∨ i = 2 := by omega
  · exact ⟨_, hb.cell 0, trivial⟩
  · exact ⟨_, hb.cell 1, trivial⟩
  · exact ⟨_, hb.cell 2, trivial⟩
theorem nums2r (w : World) : NumsP (w.alloc (.cells #[.int .i64 3, .int .i64 1] 3)) w.heap.size 2 (fun _ => True) := fun i hi => by
  have hb := Blk.new w #[.int .i64 3, .int .i64 1] 3
  obtain rfl | rfl : i = 0 ∨ i = 1 := by omega
  · exact ⟨_, hb.cell 0, trivial⟩
  · exact ⟨_, hb.cell 1, trivial⟩

set_option maxHeartbeats 8000000 in
theorem l30Results_any (B g q : Nat) (N : Int) (w : World) (h : RdB B w g q) (hq : q < 1000) (hB : B ≤ w.heap.size) (hN : N ≤ 1000) :
    Calls Try.prog 81 #[.pointer (some ⟨g, 0, none⟩), .int .i64 N] w fun e w' => DrawnR B g q 14 w w' e := by
  obtain ⟨j0, hj, hy0, hy1, hy2⟩ := info_parts resInfo
  have hgl := h.lt
  have hO0 := ownR_empty (base := w.heap.size) (Nat.le_refl _) (Blk.new w #[] 76)
  have hR0 := h.below (below_of w (.cells #[] 76))
  have hb0 : But g w (w.alloc (.cells #[] 76)) := But.of (below_of w _)
  clear h
  go_enter Try.func81, Try.ntmps81
  go_wp2_with fail
  generalize hW0 : w.alloc _ = W0 at *
  clear hW0
  refine (pick_any B g q 14 _ hR0 (by omega) (by omega)).mono ?_
  rintro e w1 ⟨n0, rfl, hn0, hn1, hR1, hb1⟩
  have hO1 := ownR_but hO0 hb1 hgl
  have hbut1 := hb0.trans hb1
  clear hO0 hR0 hb0 hb1
  obtain ⟨k0, rfl⟩ := Int.eq_ofNat_of_zero_le hn0
  have hk0 : k0 ≤ 13 := by omega
  clear hn0 hn1
  go_wp2_with fail
  go_loopw [5, 6] (fun v i wr => ∃ (k r : Nat) (A : Option Addr) (c : Nat) (z : List St), k ≤ 13 ∧ i = .int .i64 k ∧ v = .slice A z.length c ∧ z.length + k ≤ 13 ∧ r + 3 * k ≤ q + 40 ∧ OwnR wr w.heap.size (.slice A z.length c) z.length z ∧ RdB B wr g r ∧ But g w wr) (fun _ i _ => (intOf i).toNat)
  case atStart => exact ⟨k0, q + 1, _, _, [], hk0, rfl, rfl, by simp; omega, by omega, hO1, hR1, hbut1⟩
  case round =>
    clear hO1 hR1 hbut1
    obtain ⟨k, r, A, c, z, hk, rfl, rfl, hzl, hr, hO, hR, hbut⟩ := hrel
    have hsz := hbut.size
    by_cases hgo : (0 : Int) < (k : Int)
    · have HO := Lib.hid hO
      have HBu := Lib.hid hbut
      clear hO hbut
      go_wp2_with fail
      refine (pick_any B g r _ _ hR (by omega) (by omega)).mono ?_
      rintro e w2 ⟨x, rfl, _, _, hR2, hb2⟩
      clear hR
      go_wp2_with fail
      refine (pick_any B g (r + 1) _ _ hR2 (by omega) (by omega)).mono ?_
      rintro e w3 ⟨y, rfl, _, _, hR3, hb3⟩
      clear hR2
      go_wp2_with fail
      refine (pick_any B g (r + 1 + 1) 3 _ hR3 (by omega) (by omega)).mono ?_
      rintro e w4 ⟨p, rfl, hp0, hp1, hR4, hb4⟩
      have hO4 := ownR_but (ownR_but (ownR_but HO.out hb2 hgl) hb3 hgl) hb4 hgl
      have hbut4 := ((HBu.out.trans hb2).trans hb3).trans hb4
      have hb5 := below_of w4 (.cells #[.int .i64 x, .int .i64 y, .int .i64 p] 76)
      have HR5 := Lib.hid (hR4.below hb5)
      have HO5 := Lib.hid (hO4.below hb5)
      have HB5 := Lib.hid (hbut4.trans (But.of hb5))
      have hs5 := HB5.out.size
      have hnew := Blk.new (w4.alloc (.cells #[.int .i64 x, .int .i64 y, .int .i64 p] 76)) #[.int .i64 x, .int .i64 y, .int .i64 p] 76
      simp only [World.size_alloc] at hnew
      have HNW := Lib.hid hnew
      have hmax : z.length + 1 ≤ maxLen := by unfold maxLen; omega
      obtain ⟨L, hL⟩ : ∃ L, L = z ++ [(⟨x, y, p⟩ : St)] := ⟨_, rfl⟩
      have HE := Lib.hid hL
      have HLL := Lib.hid (show L.length = z.length + 1 by rw [hL]; simp)
      clear hR3 hR4 HO HBu hb2 hb3 hb4 hO4 hbut4 hb5 hnew hL
      cases hxy : (x == y)
      · go_wp2_with (at_builtin; refine wpList_append_own _ rfl _ _ 46 rfl w.heap.size 76 j0 (.agg #[.int .i64 0, .int .i64 0, .int .i64 0]) 3 24 Try.underlying46 hj hy0 hy1 hy2 rfl (by decide) _ _ _ rfl (HO5.out.alloc _) ⟨w4.heap.size + 1, 0, none⟩ 1 1 [.int .i64 x, .int .i64 y, .int .i64 p] rfl rfl (news3 HNW.out) (fun u hu => by simp at hu; rcases hu with rfl | rfl | rfl <;> rfl) hmax (by omega) (by simp; simp at hs5; omega) ?_; intro v' w7 hown' hgrow' hnil'; obtain ⟨B7, d7, rfl, hO7, hb7⟩ := app_afterR HO5.out HE.out hown' hgrow' hs5; clear hown' hgrow' hnil')
        have hR7 := HR5.out.over hb7 hgl hB
        have hbut7 := but_over HB5.out hb7 (Nat.le_refl _)
        clear hb7 HR5 HB5
        go_roundw
        case rel => exact ⟨k - 1, r + 1 + 1 + 1, B7, d7, L, by omega, by go_num, rfl, by rw [HLL.out]; omega, by omega, hO7, hR7, hbut7⟩
        case measure => simp [intOf]; omega
      · go_wp2_with fail
        go_roundw
        case rel => exact ⟨k - 1, r + 1 + 1 + 1, A, c, z, by omega, by go_num, rfl, by omega, by omega, HO5.out, HR5.out, HB5.out⟩
        case measure => simp [intOf]; omega
    · have HO := Lib.hid hO
      have HBu := Lib.hid hbut
      clear hO hbut
      go_wp2_with fail
      refine (pick_any B g r 14 _ hR (by omega) (by omega)).mono ?_
      rintro e w4 ⟨v, rfl, hv0, hv1, hR4, hb4⟩
      have hO4 := ownR_but HO.out hb4 hgl
      have hbut4 := HBu.out.trans hb4
      have hs4 := hbut4.size
      clear hR HO HBu hb4
      by_cases h0 : v = 0
      · subst h0
        have hN3 := nums3r w4 N
        have hb5 := below_of w4 (.cells #[.int .i64 (-1), .int .i64 0, .int .i64 N] 3)
        have hR5 := hR4.below hb5
        have hO5 := hO4.below hb5
        have hbut5 := hbut4.trans (But.of hb5)
        clear hR4 hO4 hbut4 hb5
        go_wp2_with fail
        generalize hW5 : w4.alloc _ = W5 at *
        have hW5s : w4.heap.size < W5.heap.size := by rw [← hW5]; simp
        clear hW5
        refine (one_any (fun _ => True) B g (r + 1) w4.heap.size 3 3 _ hR5 (by omega) (by omega) (by omega) hW5s (by omega) hN3).mono ?_
        rintro e w6 ⟨x, rfl, _, hR6, hb6⟩
        have hO6 := ownR_but hO5 hb6 hgl
        have hbut6 := hbut5.trans hb6
        have hs6 := hbut6.size
        clear hO5 hbut5 hR5 hb6 hN3
        have hN2 := nums2r w6
        have hb7 := below_of w6 (.cells #[.int .i64 3, .int .i64 1] 3)
        have hR7 := hR6.below hb7
        have hO7 := hO6.below hb7
        have hbut7 := hbut6.trans (But.of hb7)
        clear hR6 hO6 hbut6 hb7
        go_wp2_with fail
        generalize hW7 : w6.alloc _ = W7 at *
        have hW7s : w6.heap.size < W7.heap.size := by rw [← hW7]; simp
        clear hW7
        refine (one_any (fun _ => True) B g (r + 1 + 1) w6.heap.size 2 2 _ hR7 (by omega) (by omega) (by omega) hW7s (by omega) hN2).mono ?_
        rintro e w8 ⟨p, rfl, _, hR8, hb8⟩
        have HO := Lib.hid (ownR_but hO7 hb8 hgl)
        have HBu := Lib.hid (hbut7.trans hb8)
        have hs8 := HBu.out.size
        have HR := Lib.hid hR8
        have hmax : z.length + 1 ≤ maxLen := by unfold maxLen; omega
        obtain ⟨L, hL⟩ : ∃ L, L = z ++ [(⟨x, 0, p⟩ : St)] := ⟨_, rfl⟩
        have HE := Lib.hid hL
        have HLL := Lib.hid (show L.length = z.length + 1 by rw [hL]; simp)
        clear hO7 hbut7 hR7 hR8 hN2 hb8 hL
        go_wp2_with (at_builtin; refine wpList_append_own _ rfl _ _ 46 rfl w.heap.size 76 j0 (.agg #[.int .i64 0, .int .i64 0, .int .i64 0]) 3 24 Try.underlying46 hj hy0 hy1 hy2 rfl (by decide) _ _ _ rfl (HO.out.alloc _) ⟨w8.heap.size, 0, none⟩ 1 1 [.int .i64 x, .int .i64 0, .int .i64 p] rfl rfl (news3 (Blk.new w8 #[.int .i64 x, .int .i64 0, .int .i64 p] 76)) (fun u hu => by simp at hu; rcases hu with rfl | rfl | rfl <;> rfl) hmax (by omega) (by simp; omega) ?_; intro v' w9 hown' hgrow' hnil'; obtain ⟨B9, d9, rfl, hO9, hb9⟩ := app_afterR HO.out HE.out hown' hgrow' hs8; clear hown' hgrow' hnil')
        go_ret
        exact ⟨B9, d9, L, r + 1 + 1 + 1, rfl, by rw [HLL.out]; omega, by omega, hO9, HR.out.over hb9 hgl hB, but_over HBu.out hb9 (Nat.le_refl _)⟩
      · go_wp2_with fail
        go_ret
        exact ⟨A, c, z, r + 1, rfl, by omega, by omega, hO4, hR4, hbut4⟩
end Go.Proofs.Ytjanalljaacnoaa.Ry
