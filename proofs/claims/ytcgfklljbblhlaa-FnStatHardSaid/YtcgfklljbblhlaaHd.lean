/- StatHard: model and program. -/
import Derived.Test.YtcgfklljbblhlaaHb
namespace Go.Proofs.Ytcgfklljbblhlaa.Ko
open Go.ChangeShapes Go.WideShapes Go.ChangeAt Go.RowKit Base Sq In Sc
set_option linter.unusedVariables false
set_option maxRecDepth 20000
attribute [local irreducible] wpQuiet

theorem stW_bd (z : List Int) : 0 ≤ stW z ∧ stW z ≤ 2000 := by
  unfold stW; split
  · rename_i h; have := cntP_nn wonB z z.length; have := listB_len h; omega
  · omega
theorem stL_bd (z : List Int) : 0 ≤ stL z ∧ stL z ≤ 2000 := by
  unfold stL; split
  · rename_i h; have := cntP_nn lostB z z.length; have := listB_len h; omega
  · omega
theorem stWL_list {z : List Int} (h : ¬ stW z + stL z = 0) : listB z = true := by
  cases hl : listB z
  · have hn : ¬ listB z = true := by rw [hl]; decide
    unfold stW stL at h; rw [if_neg hn, if_neg hn] at h; omega
  · rfl
/-- a block of another type is not the list's own -/
theorem own_apart {w : World} {base : Nat} {v : Value} {l : List Int} (h : In.Own w base v l) {g : Nat} {vs : Array Value} {T : TypeId} (hg : Blk w g vs T) (hT : T ≠ 3) : v.ownBlock ≠ some g := by
  rcases h.2 with ⟨rfl, _⟩ | ⟨g', cap, cur, rfl, hb, hg', _⟩
  · simp [Value.ownBlock]
  · intro hk
    obtain rfl : g' = g := by simpa [Value.ownBlock] using hk
    have h1 : w.heap[g']? = some (.cells cur 3) := hg'
    have h2 : w.heap[g']? = some (.cells vs T) := hg
    rw [h1] at h2
    simp at h2
    exact hT h2.2.symm
theorem blk_grown5 {w w' : World} {b : Nat} {vs : Array Value} {T : TypeId} {row : Option Nat} (h : Blk w b vs T) (hg : w.grownBy w' row) (hne : row ≠ some b) : Blk w' b vs T := by
  unfold Blk at *; rw [hg.block b (lt_of_block h) (fun e => hne e.symm)]; exact h
def HardInv (w wr : World) (z : List Int) (g : Nat) (k : Nat) (v : Value) : Prop :=
  In.Own wr w.heap.size v (atV z (topV z z.length) k) ∧ Blk wr g (statC (stN z) (stD z) (stW z) (stL z) (stM z)) 24 ∧ Below w.heap.size w wr

set_option maxHeartbeats 8000000 in
theorem specStatHard_any (V : Option Addr) (cv : Nat) (z : List Int) (w : World) (hV : IsInts w w.heap.size V z) (hz : z.length ≤ 1048576) :
    Calls Try.prog 13 #[.slice V z.length cv] w fun e w' => LenNew w w' (hardV z) e := by
  have hb0 : Below w.heap.size w (w.alloc (.cells #[] 3)) := (by repeat (first | exact Below.refl _ _ | assumption | (refine Below.alloc ?_ (by first | omega | (simp; done) | (simp; omega)) _) | (refine Below.setCell ?_ (by first | omega | (simp; done) | (simp; omega)) _) | refine Below.drew ?_))
  have p0 := Blk.new w #[] 3
  have HW := Lib.hid (stW_bd z)
  have HL := Lib.hid (stL_bd z)
  go_enter Try.func13, Try.ntmps13
  go_wp2_with fail
  generalize hW0 : w.alloc _ = W0 at *
  clear hW0
  refine (specStatOf_any _ _ _ _ ((hV.below hb0).more hb0.size) hz).mono ?_
  rintro e w2 ⟨he, hb2⟩
  rw [show statV z = .agg (statC (stN z) (stD z) (stW z) (stL z) (stM z)) from rfl] at he
  subst he
  have hO2 := (Own.empty (Nat.le_refl _) p0).below hb2
  have hb := hb0.trans (hb2.mono hb0.size)
  have hO3 := hO2.below (below_of w2 (.cells (statC (stN z) (stD z) (stW z) (stL z) (stM z)) 24))
  have hb3 := hb.alloc hb.size (.cells (statC (stN z) (stD z) (stW z) (stL z) (stM z)) 24)
  have p3 := Blk.new w2 (statC (stN z) (stD z) (stW z) (stL z) (stM z)) 24
  have w1 := HW.out
  have w2' := HL.out
  obtain ⟨⟨q0, q1, q2, q3, q4⟩, _⟩ := p3.five
  clear hb2 hO2 hb0 p0
  by_cases hs : stW z + stL z = 0
  · have HN := Lib.hid (hardV_zero hs)
    go_wp2_with fail
    go_ret
    rw [HN.out]
    exact lenNew_of (l := []) hO3 hb3
  · have HLL := Lib.hid (stWL_list hs)
    have hsb : (stW z + stL z == 0) = false := by simp; exact hs
    have HLV : Hid (hardV z = atV z (topV z z.length) z.length) := Lib.hid (if_pos HLL.out)
    have HST := Lib.hid (show stM z = topV z z.length - 2 from if_pos HLL.out)
    have HT1 := Lib.hid (topV_ge z z.length)
    have HT2 := Lib.hid (topV_le (listB_range HLL.out) (Nat.le_refl z.length))
    have hI : HardInv w (w2.alloc (.cells (statC (stN z) (stD z) (stW z) (stL z) (stM z)) 24)) z w2.heap.size 0 (.slice (some ⟨w.heap.size, 0, none⟩) 0 0) := ⟨hO3, p3, hb3⟩
    go_wp2_with fail
    generalize hW3 : w2.alloc _ = W3 at *
    generalize hg3 : w2.heap.size = g at *
    have hgW : w.heap.size ≤ g := by have := hb.size; omega
    clear hs hW3 hg3 hO3 hb3 p3 q0 q1 q2 q3 q4 hb
    go_loopw [3, 5] (fun v i wr => ∃ (k : Nat) (A : Option Addr) (c : Nat), k ≤ z.length ∧ i = .int .i64 k ∧ v = .slice A (atV z (topV z z.length) k).length c ∧ HardInv w wr z g k (.slice A (atV z (topV z z.length) k).length c)) (fun _ i _ => z.length - (intOf i).toNat)
    case atStart => exact ⟨0, _, _, by omega, rfl, rfl, hI⟩
    case round =>
      clear hI
      obtain ⟨k, A, c, hk, rfl, rfl, hO, p3, hbe⟩ := hrel
      by_cases hlt : k < z.length
      · obtain ⟨b, rfl⟩ := hV.some (by omega)
        have hlt' : (k : Int) < (z.length : Int) := by omega
        obtain ⟨hBb, c0⟩ := (hV.below hbe).at hlt
        obtain ⟨⟨q0, q1, q2, q3, q4⟩, _⟩ := p3.five
        have hr := rangeB_at (listB_range HLL.out) hlt
        have hz3 := p3.lt
        have hsz := hbe.size
        have zb : b < wr.heap.size := by omega
        have hlen := atV_len z (topV z z.length) k
        have hr1 := hr.1
        have hr2 := hr.2
        have hm1 : 0 ≤ stM z ∧ stM z ≤ 98 := by have := HST.out; have := HT1.out; have := HT2.out; omega
        have hm2 := hm1.1
        have hm3 := hm1.2
        have WV : IntKind.i64.wrap (2 + stM z) = 2 + stM z := IntWalk.i64_in _ (by omega)
        have HO := Lib.hid hO
        have HP := Lib.hid p3
        have HB := Lib.hid hbe
        clear hr hm1 hO p3 hbe
        by_cases he : iAt z k = topV z z.length
        · have HE : Hid (atV z (topV z z.length) (k + 1) = atV z (topV z z.length) k ++ [(k : Int)]) := Lib.hid (if_pos he)
          have heq : (iAt z k == 2 + stM z) = true := by have := HST.out; simp; omega
          clear he
          go_wp2_with fail
          refine wp_region_below (W := wr) (by kernel_rfl) (by kernel_rfl) (Below.refl _ _) ?_
          repeat (first
            | (refine qs_skip (by rfl) ?_; simp only [Act.put, List.setIfInBounds_toArray, List.set_cons_zero, List.set_cons_succ])
            | (apply qs_take
               focus rfl
               focus (
                 intro wq hwq
                 obtain ⟨hcq, hfq⟩ := bcell hwq
                 go_simp
                 all_goals first
                   | exact rfl
                   | (exact ⟨trivial, rfl⟩))
               simp only [Act.put, List.setIfInBounds_toArray, List.set_cons_zero, List.set_cons_succ]))
          refine wpQuiet_nil ?_
          intro wq hwq
          have hO := HO.out.below hwq
          have p3 := HP.out.below hwq hz3
          have hbe := HB.out.trans (hwq.mono hsz)
          have hs2 := hwq.size
          clear hwq HO HP HB c0 q0 q1 q2 q3 q4
          obtain ⟨i0, hi, hz0, hz1, hz2⟩ := info_parts infoInt
          have hmax : (atV z (topV z z.length) k).length + 1 ≤ maxLen := by unfold maxLen; omega
          have HO := Lib.hid hO
          have HP := Lib.hid p3
          have HB := Lib.hid hbe
          have hsz2 := hbe.size
          clear hO p3 hbe heq WV
          go_wp2_with (at_builtin; refine wpList_append_own _ rfl _ _ 22 rfl w.heap.size 3 i0 (.int .i64 0) 1 8 Try.underlying22 hi hz0 hz1 hz2 rfl (by decide) _ _ _ rfl (World.ownsRow.alloc HO.out _) ⟨wq.heap.size, 0, none⟩ 1 1 [.int .i64 k] rfl rfl (cell_one_new _ _ _) (fun u hu => by simp at hu; subst hu; rfl) hmax (by omega) (by simp; omega) ?_; intro v' w7 hown' hgrow7 hnil7)
          have hbG := own_base (l := atV z (topV z z.length) k) (World.ownsRow.alloc HO.out (.cells #[.int .i64 (k : Int)] 3)) hgrow7 (Below.refl w.heap.size _) (Nat.le_refl _) (by simp; omega)
          have hO7 : In.Own w7 w.heap.size v' (atV z (topV z z.length) (k + 1)) := by rw [HE.out]; exact own_grown' hown'
          have hb7 : Below w.heap.size w w7 := (HB.out.alloc hsz2 _).trans hbG
          have p7 := blk_grown5 (HP.out.alloc (.cells #[.int .i64 (k : Int)] 3)) hgrow7 (own_apart (World.ownsRow.alloc HO.out (.cells #[.int .i64 (k : Int)] 3)) (HP.out.alloc (.cells #[.int .i64 (k : Int)] 3)) (by decide))
          obtain ⟨B7, d7, hv7⟩ := hO7.slice
          subst hv7
          clear hown' hgrow7 hnil7 HO HB HP hbG
          go_roundw
          case rel =>
            have R : k + 1 ≤ z.length ∧ Value.int .i64 ((k : Int) + 1) = .int .i64 ((k + 1 : Nat) : Int) ∧ Value.slice B7 (atV z (topV z z.length) (k + 1)).length d7 = .slice B7 (atV z (topV z z.length) (k + 1)).length d7 ∧ HardInv w w7 z g (k + 1) (.slice B7 (atV z (topV z z.length) (k + 1)).length d7) := ⟨by omega, by go_num, rfl, hO7, p7, hb7⟩
            first
              | exact ⟨k + 1, B7, d7, R⟩
              | ((repeat apply Exists.intro); exact ⟨⟨k + 1, B7, d7, R⟩, rfl⟩)
          case measure => simp [intOf]; omega
        · have HE : Hid (atV z (topV z z.length) (k + 1) = atV z (topV z z.length) k) := Lib.hid (if_neg he)
          have heq : (iAt z k == 2 + stM z) = false := by have := HST.out; simp; omega
          clear he
          go_wp2_with fail
          refine wp_region_below (W := wr) (by kernel_rfl) (by kernel_rfl) (Below.refl _ _) ?_
          repeat (first
            | (refine qs_skip (by rfl) ?_; simp only [Act.put, List.setIfInBounds_toArray, List.set_cons_zero, List.set_cons_succ])
            | (apply qs_take
               focus rfl
               focus (
                 intro wq hwq
                 obtain ⟨hcq, hfq⟩ := bcell hwq
                 go_simp
                 all_goals first
                   | exact rfl
                   | (exact ⟨trivial, rfl⟩))
               simp only [Act.put, List.setIfInBounds_toArray, List.set_cons_zero, List.set_cons_succ]))
          refine wpQuiet_nil ?_
          intro wq hwq
          have hO := HO.out.below hwq
          have p3 := HP.out.below hwq hz3
          have hbe := HB.out.trans (hwq.mono hsz)
          clear hwq HO HP HB c0 q0 q1 q2 q3 q4
          go_wp2_with fail
          go_roundw
          case rel =>
            have R : k + 1 ≤ z.length ∧ Value.int .i64 ((k : Int) + 1) = .int .i64 ((k + 1 : Nat) : Int) ∧ Value.slice A (atV z (topV z z.length) k).length c = .slice A (atV z (topV z z.length) (k + 1)).length c ∧ HardInv w wq z g (k + 1) (.slice A (atV z (topV z z.length) (k + 1)).length c) := ⟨by omega, by go_num, by rw [HE.out], by rw [HE.out]; exact hO, p3, hbe⟩
            first
              | exact ⟨k + 1, A, c, R⟩
              | ((repeat apply Exists.intro); exact ⟨⟨k + 1, A, c, R⟩, rfl⟩)
          case measure => simp [intOf]; omega
      · obtain rfl : k = z.length := by omega
        go_wp2_with fail
        go_ret
        rw [HLV.out]
        exact lenNew_of hO hbe
end Go.Proofs.Ytcgfklljbblhlaa.Ko
