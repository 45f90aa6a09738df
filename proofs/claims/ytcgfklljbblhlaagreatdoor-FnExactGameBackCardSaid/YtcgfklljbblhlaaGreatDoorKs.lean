/- KindOk of the model. -/
import Derived.Test.YtcgfklljbblhlaaGreatDoorKo
namespace Go.Proofs.YtcgfklljbblhlaaGreatDoor.Ko
open Go.ChangeShapes Go.WideShapes Go.ChangeAt Go.RowKit Base Sq
set_option linter.unusedVariables false
set_option maxRecDepth 20000
attribute [local irreducible] wpQuiet

theorem sp_stepOk (dx dy far : Int) (w : World) :
    Calls Tryz.prog 111 #[.agg #[.int .i64 dx, .int .i64 dy, .int .i64 far]] w fun e w' => e = .returned (.bool (stOk ⟨dx, dy, far⟩)) ∧ Below w.heap.size w w' := by
  go_enter Tryz.func111, Tryz.ntmps111
  go_wp2_with (go_at_call 50; refine (in_any _ _ _ _).mono ?_; rintro e w' ⟨rfl, rfl⟩)
  all_goals
    go_ret
    exact ⟨rb (by first | (simp [stOk, *]; done) | (simp_all [stOk, inB]; done) | (rw [Bool.eq_iff_iff]; simp_all [stOk, inB]; omega) | (rw [Bool.eq_iff_iff]; simp [stOk, inB, *] at *; omega)), below_of _ _⟩
theorem sp_less (dx dy far dx' dy' far' : Int) (w : World) :
    Calls Tryz.prog 112 #[.agg #[.int .i64 dx, .int .i64 dy, .int .i64 far], .agg #[.int .i64 dx', .int .i64 dy', .int .i64 far']] w fun e w' => e = .returned (.bool (stLess ⟨dx, dy, far⟩ ⟨dx', dy', far'⟩)) ∧ Below w.heap.size w w' := by
  go_enter Tryz.func112, Tryz.ntmps112
  go_wp2
  all_goals
    go_ret
    exact ⟨rb (by first | (simp [stLess, *]; done) | (simp [stLess, *]; omega)), (below_of _ _).alloc (by simp) _⟩

theorem kindOk_end {name : Int} {l : List St} (hg : ∀ j, j < l.length → goodAt l j = true) : kindOk name l = (inB name 65 90 && inB l.length 1 8) := by
  unfold kindOk stepsOk
  rw [show (List.range l.length).all (goodAt l) = true from by simp only [List.all_eq_true]; intro j hj; exact hg j (by simpa using hj)]
  simp

set_option maxHeartbeats 1000000 in
theorem sp_kindOk (name : Int) (king : Bool) (A : Option Addr) (c : Nat) (l : List St) (w : World) (h : IsSteps w w.heap.size A l) (hl : l.length ≤ 1048576) :
    Calls Tryz.prog 92 #[.agg #[.int .i64 name, .bool king, .slice A l.length c]] w fun e w' => e = .returned (.bool (kindOk name l)) ∧ Below w.heap.size w w' := by
  have HB := Lib.hid (fun k => kindOk_bad (name := name) (l := l) (k := k))
  have HG := Lib.hid (kindOk_end (name := name) (l := l))
  go_enter Tryz.func92, Tryz.ntmps92
  go_wp2_with fail
  go_loopw [3] (fun i wr => ∃ k : Nat, k ≤ l.length ∧ i = .int .i64 k ∧ (∀ j, j < k → goodAt l j = true) ∧ Blk wr w.heap.size #[.int .i64 name, .bool king, .slice A l.length c] 98 ∧ Below w.heap.size w wr) (fun i _ => l.length - (intOf i).toNat)
  case atStart => exact ⟨0, by omega, rfl, fun j hj => absurd hj (by omega), Blk.new _ _ _, below_of _ _⟩
  case round =>
    obtain ⟨k, hk, rfl, hg, p0, hbe⟩ := hrel
    have z1 := p0.lt
    obtain ⟨⟨b0, b1, b2⟩, f0, f1, f2⟩ := p0.at3
    by_cases hlt : k < l.length
    · obtain ⟨b, off, rfl, hB, hc⟩ := h.below hbe (by omega)
      obtain ⟨c0, c1, c2⟩ := hc k hlt
      have z2 : b < wr.heap.size := by omega
      have hk1 : (k : Int) < (l.length : Int) := by omega
      have hk2 : (0 : Int) ≤ (k : Int) := by omega
      go_wp2_with fail
      by_cases ho : stOk ⟨(stAt l k).dx, (stAt l k).dy, (stAt l k).far⟩ = true
      · have HO := Lib.hid ho
        by_cases hk0 : 0 < k
        · obtain ⟨q0, q1, q2⟩ := hc (k - 1) (by omega)
          have hk1 : (0 : Int) < (k : Int) := by omega
          have g2 : (1 : Int) ≤ (k : Int) := by omega
          have g2' : (0 : Int) ≤ (k : Int) - 1 := by omega
          have g3 : (k : Int) - 1 < (l.length : Int) := by omega
          have g4 : ((k : Int) - 1).toNat = k - 1 := by omega
          have g1 : IntKind.i64.wrap ((k : Int) - 1) = (k : Int) - 1 := IntWalk.i64_in _ (by omega)
          clear hc ho
          cases hle : stLess ⟨(stAt l (k - 1)).dx, (stAt l (k - 1)).dy, (stAt l (k - 1)).far⟩ ⟨(stAt l k).dx, (stAt l k).dy, (stAt l k).far⟩
          · have HL := Lib.hid hle
            clear hle
            refine wp_region_below (W := wr) (by kernel_rfl) (by kernel_rfl) (Below.refl _ _) ?_
            repeat (first
              | (refine qs_skip (by rfl) ?_; simp only [Act.put, List.setIfInBounds_toArray, List.set_cons_zero, List.set_cons_succ])
              | (apply qs_take
                 focus rfl
                 focus (
                   intro wq hwq
                   obtain ⟨hcq, hfq⟩ := bcell hwq
                   go_simp
                   all_goals first
                     | exact rfl
                     | (go_at_call 111; refine (sp_stepOk _ _ _ _).mono ?_; rw [HO.out]; exact fun e w2 h => ⟨h.1, hwq.trans (h.2.mono hwq.size)⟩)
                     | (go_at_call 112; refine (sp_less _ _ _ _ _ _ _).mono ?_; rw [HL.out]; exact fun e w2 h => ⟨h.1, hwq.trans (h.2.mono hwq.size)⟩)
                     | (exact ⟨trivial, rfl⟩))
                 simp only [Act.put, List.setIfInBounds_toArray, List.set_cons_zero, List.set_cons_succ]))
            refine wpQuiet_nil ?_
            intro wq hwq
            clear g1 g4
            go_wp2_with fail
            go_ret
            exact ⟨rb (HB.out k hlt (goodAt_next hk0 HO.out HL.out)).symm, hbe.trans (hwq.mono (by omega))⟩
          · have HL := Lib.hid hle
            clear hle
            refine wp_region_below (W := wr) (by kernel_rfl) (by kernel_rfl) (Below.refl _ _) ?_
            repeat (first
              | (refine qs_skip (by rfl) ?_; simp only [Act.put, List.setIfInBounds_toArray, List.set_cons_zero, List.set_cons_succ])
              | (apply qs_take
                 focus rfl
                 focus (
                   intro wq hwq
                   obtain ⟨hcq, hfq⟩ := bcell hwq
                   go_simp
                   all_goals first
                     | exact rfl
                     | (go_at_call 111; refine (sp_stepOk _ _ _ _).mono ?_; rw [HO.out]; exact fun e w2 h => ⟨h.1, hwq.trans (h.2.mono hwq.size)⟩)
                     | (go_at_call 112; refine (sp_less _ _ _ _ _ _ _).mono ?_; rw [HL.out]; exact fun e w2 h => ⟨h.1, hwq.trans (h.2.mono hwq.size)⟩)
                     | (exact ⟨trivial, rfl⟩))
                 simp only [Act.put, List.setIfInBounds_toArray, List.set_cons_zero, List.set_cons_succ]))
            refine wpQuiet_nil ?_
            intro wq hwq
            clear g1 g4
            go_wp2_with fail
            go_roundw
            case rel => exact ⟨k + 1, by omega, by go_num, all_succ hg (goodAt_next hk0 HO.out HL.out), p0.below hwq z1, hbe.trans (hwq.mono (by omega))⟩
            case measure => simp [intOf]; omega
        · have hk1 : decide (0 < k) = false := decide_eq_false (by omega)
          have HK := Lib.hid hk0
          clear hc ho hk0
          refine wp_region_below (W := wr) (by kernel_rfl) (by kernel_rfl) (Below.refl _ _) ?_
          repeat (first
            | (refine qs_skip (by rfl) ?_; simp only [Act.put, List.setIfInBounds_toArray, List.set_cons_zero, List.set_cons_succ])
            | (apply qs_take
               focus rfl
               focus (
                 intro wq hwq
                 obtain ⟨hcq, hfq⟩ := bcell hwq
                 go_simp
                 all_goals first
                   | exact rfl
                   | (go_at_call 111; refine (sp_stepOk _ _ _ _).mono ?_; rw [HO.out]; exact fun e w2 h => ⟨h.1, hwq.trans (h.2.mono hwq.size)⟩)
                   | (exact ⟨trivial, rfl⟩))
               simp only [Act.put, List.setIfInBounds_toArray, List.set_cons_zero, List.set_cons_succ]))
          refine wpQuiet_nil ?_
          intro wq hwq
          go_wp2_with fail
          go_roundw
          case rel => exact ⟨k + 1, by omega, by go_num, all_succ hg (goodAt_first HK.out HO.out), p0.below hwq z1, hbe.trans (hwq.mono (by omega))⟩
          case measure => simp [intOf]; omega
      · have HO : Hid (stOk ⟨(stAt l k).dx, (stAt l k).dy, (stAt l k).far⟩ = false) := Lib.hid (by simpa using ho)
        clear hc ho
        refine wp_region_below (W := wr) (by kernel_rfl) (by kernel_rfl) (Below.refl _ _) ?_
        repeat (first
          | (refine qs_skip (by rfl) ?_; simp only [Act.put, List.setIfInBounds_toArray, List.set_cons_zero, List.set_cons_succ])
          | (apply qs_take
             focus rfl
             focus (
               intro wq hwq
               obtain ⟨hcq, hfq⟩ := bcell hwq
               go_simp
               all_goals first
                 | exact rfl
                 | (go_at_call 111; refine (sp_stepOk _ _ _ _).mono ?_; rw [HO.out]; exact fun e w2 h => ⟨h.1, hwq.trans (h.2.mono hwq.size)⟩)
                 | (exact ⟨trivial, rfl⟩))
             simp only [Act.put, List.setIfInBounds_toArray, List.set_cons_zero, List.set_cons_succ]))
        refine wpQuiet_nil ?_
        intro wq hwq
        go_wp2_with fail
        go_ret
        exact ⟨rb (HB.out k hlt (goodAt_bad HO.out)).symm, hbe.trans (hwq.mono (by omega))⟩
    · obtain rfl : k = l.length := by omega
      clear h
      have HR := Lib.hid (HG.out hg)
      clear hg hlt HG HB
      go_wp2_with (go_at_call 50; refine (in_any _ _ _ _).mono ?_; rintro e w' ⟨rfl, rfl⟩)
      all_goals
        go_ret
        exact ⟨rb (by rw [HR.out]; simp_all), hbe⟩
end Go.Proofs.YtcgfklljbblhlaaGreatDoor.Ko
