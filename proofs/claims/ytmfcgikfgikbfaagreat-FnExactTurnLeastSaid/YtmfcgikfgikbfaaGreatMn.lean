/- The model's l4Put at no men. -/
import Derived.Test.YtmfcgikfgikbfaaGreatMp
namespace Go.Proofs.YtmfcgikfgikbfaaGreat.Ko
open Go.ChangeShapes Go.WideShapes Go.ChangeAt Go.RowKit Base Sq
set_option linter.unusedVariables false
set_option maxRecDepth 20000
attribute [local irreducible] wpQuiet

set_option maxHeartbeats 2000000 in
theorem l4Put_nil (dx dy far : Int) (w : World) :
    Calls Tryz.prog 53 #[.slice none 0 0, .agg #[.int .i64 dx, .int .i64 dy, .int .i64 far]] w fun e w' => ∃ A c', e = .returned (.slice A 1 c') ∧ MenA w.heap.size w'.heap.size w' A [⟨dx, dy, far⟩] ∧ Below w.heap.size w w' ∧ 1 ≤ c' ∧ c' ≤ maxLen := by
  obtain ⟨i0, hi0, hz0, hz1, hz2⟩ := info_parts manInfo
  have hp0 := Blk.new w #[.int .i64 dx, .int .i64 dy, .int .i64 far] 84
  have hb0 := below_of w (.cells #[.int .i64 dx, .int .i64 dy, .int .i64 far] 84)
  go_enter Tryz.func53, Tryz.ntmps53
  go_wp2_with fail
  go_loopw [5] (fun iv wr => iv = .int .i64 0 ∧ Blk wr w.heap.size #[.int .i64 dx, .int .i64 dy, .int .i64 far] 84 ∧ Below w.heap.size w wr) (fun iv _ => 0)
  case atStart => exact ⟨rfl, hp0, hb0⟩
  case round =>
    clear hp0 hb0
    obtain ⟨rfl, hp, hbe⟩ := hrel
    obtain ⟨⟨q0, q1, q2⟩, _⟩ := hp.at3
    have hz := hbe.size
    have zp := hp.lt
    go_wp2_with fail
    refine wp_region_below (W := wr) (by kernel_rfl) (by kernel_rfl) (Below.refl _ _) ?_
    repeat (first
      | (refine qs_skip (by rfl) ?_; simp only [Act.put, List.setIfInBounds_toArray, List.set_cons_zero, List.set_cons_succ])
      | (apply qs_take
         focus rfl
         focus (
           intro wq hwq
           obtain ⟨hcq, hfq⟩ := bcell hwq
           go_simp
           all_goals first
             | exact rfl
             | (exact ⟨trivial, rfl⟩))
         simp only [Act.put, List.setIfInBounds_toArray, List.set_cons_zero, List.set_cons_succ]))
    refine wpQuiet_nil ?_
    intro wq hwq
    have hpq := hp.below hwq zp
    have hbq := hbe.trans (hwq.mono hz)
    have hzq := hwq.size
    clear q0 q1 q2 hp hbe hwq
    obtain ⟨⟨q0, q1, q2⟩, _⟩ := hpq.at3
    have zq := hpq.lt
    have hO0 : OwnM (wq.alloc (.cells #[] 84)) (w.heap.size + 1) (.slice (some ⟨wq.heap.size, 0, none⟩) 0 0) 0 [] := ⟨rfl, .inr ⟨wq.heap.size, 0, #[], rfl, by omega, Blk.new wq #[] 84, Nat.le_refl _, Nat.zero_le _, rfl, rfl⟩⟩
    have hnew := Blk.new (wq.alloc (.cells #[] 84)) #[.int .i64 dx, .int .i64 dy, .int .i64 far] 84
    simp only [World.size_alloc] at hnew
    have HNEW := Lib.hid hnew
    have HO1 := Lib.hid (hO0.alloc (.cells #[.int .i64 dx, .int .i64 dy, .int .i64 far] 84))
    have HBA := Lib.hid ((Below.alloc (Below.refl (w.heap.size + 1) wq) (by omega) (.cells #[] 84)).alloc (by simp; omega) (.cells #[.int .i64 dx, .int .i64 dy, .int .i64 far] 84))
    have HBQ := Lib.hid hbq
    clear hO0 hnew hbq hpq
    have hmx : 0 + 1 ≤ maxLen := by unfold maxLen; omega
    go_wp2_with (at_builtin; refine wpList_append_own _ rfl _ _ 28 rfl (w.heap.size + 1) 84 i0 (.agg #[.int .i64 0, .int .i64 0, .int .i64 0]) 3 24 Tryz.underlying28 hi0 hz0 hz1 hz2 rfl (by decide) _ _ _ rfl HO1.out ⟨wq.heap.size + 1, 0, none⟩ 1 1 [.int .i64 dx, .int .i64 dy, .int .i64 far] rfl rfl (news3 HNEW.out) (fun u hu => by simp at hu; rcases hu with rfl | rfl | rfl <;> rfl) hmx (by omega) (by simp; omega) ?_; intro v2 w6 hown2 hgrow2 hnil2; have hb6 := HO1.out.base hgrow2 HBA.out (Nat.le_refl _) (by simp; omega); have hO2 : w6.ownsRow (w.heap.size + 1) 84 3 v2 1 (cellsM [⟨dx, dy, far⟩]) := (by simpa [cellsM] using hown2); obtain ⟨g2, c2, rfl, hc2, hcm2⟩ : ∃ g2 c2, v2 = .slice (some ⟨g2, 0, none⟩) 1 c2 ∧ 1 ≤ c2 ∧ c2 ≤ maxLen := (by rcases hO2.2 with ⟨he, _⟩ | ⟨g2, c2, _, he, _, _, h4, h5, _⟩; exact absurd (hnil2.1 he).2 (by omega); exact ⟨g2, c2, he, h4, h5⟩); clear hown2 hgrow2 hnil2 HO1 HBA HNEW)
    obtain ⟨A3, d3, he3, hm⟩ := MenA.of (l := [⟨dx, dy, far⟩]) hO2
    cases he3
    go_ret
    exact ⟨_, _, rfl, hm.more (by omega) (Nat.le_refl _), HBQ.out.trans (hb6.mono (by omega)), hc2, hcm2⟩
end Go.Proofs.YtmfcgikfgikbfaaGreat.Ko
