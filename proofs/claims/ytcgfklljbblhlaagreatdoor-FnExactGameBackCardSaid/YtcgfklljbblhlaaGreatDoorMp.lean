/- The model's position behind a move. -/
import Derived.Test.YtcgfklljbblhlaaGreatDoorMc
import Derived.Test.YtcgfklljbblhlaaGreatDoorDoM
import Derived.Maps.AppendAt
import Derived.Test.YtcgfklljbblhlaaGreatDoorMa
namespace Go.Proofs.YtcgfklljbblhlaaGreatDoor.Ko
open Go.ChangeShapes Go.WideShapes Go.ChangeAt Go.RowKit Base Sq
set_option linter.unusedVariables false
set_option maxRecDepth 20000
attribute [local irreducible] wpQuiet

theorem stAt_take {l : List St} {k i : Nat} (h : i < k) : stAt (l.take k) i = stAt l i := by
  unfold stAt; simp only [List.getD_eq_getElem?_getD, List.getElem?_take_of_lt h]
theorem stAt_drop (l : List St) (k i : Nat) : stAt (l.drop k) i = stAt l (k + i) := by
  unfold stAt; simp only [List.getD_eq_getElem?_getD, List.getElem?_drop]
theorem IsSteps.take {w : World} {B : Nat} {A : Option Addr} {l : List St} (h : IsSteps w B A l) (k : Nat) : IsSteps w B A (l.take k) := fun hn => by
  have hl : (l.take k).length ≤ l.length ∧ (l.take k).length ≤ k := by simp; omega
  obtain ⟨b, off, hA, hB, hc⟩ := h (by omega)
  exact ⟨b, off, hA, hB, fun i hi => by rw [stAt_take (show i < k by omega)]; exact hc i (by omega)⟩
theorem IsSteps.drop {w : World} {B b off : Nat} {l : List St} (h : IsSteps w B (some ⟨b, off, none⟩) l) (k : Nat) : IsSteps w B (some ⟨b, off + k * 3, none⟩) (l.drop k) := fun hn => by
  have hl : (l.drop k).length = l.length - k := by simp
  obtain ⟨b', off', hA, hB, hc⟩ := h (by omega)
  cases hA
  refine ⟨b, off + k * 3, rfl, hB, fun i hi => ?_⟩
  rw [stAt_drop, show off + k * 3 + i * 3 = off + (k + i) * 3 from by omega]
  exact hc (k + i) (by omega)
theorem putL_at {l : List St} {m : St} {k : Nat} (hk : k ≤ l.length) (h1 : ∀ j, j < k → (stAt l j).far < m.far) (h2 : k < l.length → ¬ (stAt l k).far < m.far) : putL l m = l.take k ++ m :: l.drop k := by
  induction l generalizing k with
  | nil => have : k = 0 := by simpa using hk
           subst this; rfl
  | cons s l ih =>
    cases k with
    | zero =>
      have h := h2 (by simp)
      simp only [putL]
      rw [if_neg (by simpa [stAt] using h)]
      rfl
    | succ k =>
      have h := h1 0 (by omega)
      simp only [putL]
      rw [if_pos (by simpa [stAt] using h), ih (k := k) (by simpa using hk) (fun j hj => by have := h1 (j + 1) (by omega); rwa [stAt_cons] at this) (fun hk' => by have := h2 (by simpa using hk'); rwa [stAt_cons] at this)]
      rfl

theorem MenA.of2 {w : World} {base : Nat} {v : Value} {l : List St} (h : w.ownsRow base 105 3 v l.length (cellsM l)) (hp : 0 < l.length) : ∃ A c, v = .slice A l.length c ∧ MenA base w.heap.size w A l ∧ l.length ≤ c ∧ c ≤ maxLen := by
  obtain ⟨A, c, rfl, hm⟩ := MenA.of h
  rcases h.2 with ⟨h', h0⟩ | ⟨g, cap, cur, h', _, _, hn, hm', _⟩
  · omega
  · simp only [Value.slice.injEq] at h'
    obtain ⟨rfl, _, rfl⟩ := h'
    exact ⟨_, _, rfl, hm, hn, hm'⟩
theorem cellsM_append (a b : List St) : cellsM (a ++ b) = cellsM a ++ cellsM b := by
  induction a with
  | nil => rfl
  | cons s a ih => simp only [List.cons_append, cellsM, ih]

set_option maxHeartbeats 4000000 in
theorem l4Put_any (b off c : Nat) (l : List St) (dx dy far : Int) (w : World) (h : IsSteps w w.heap.size (some ⟨b, off, none⟩) l) (hl : l.length ≤ 4) (hl0 : 1 ≤ l.length) (hc : l.length ≤ c) (hcm : c ≤ maxLen) :
    Calls Tryz.prog 78 #[.slice (some ⟨b, off, none⟩) l.length c, .agg #[.int .i64 dx, .int .i64 dy, .int .i64 far]] w fun e w' => ∃ A c', e = .returned (.slice A (putL l ⟨dx, dy, far⟩).length c') ∧ MenA w.heap.size w'.heap.size w' A (putL l ⟨dx, dy, far⟩) ∧ Below w.heap.size w w' ∧ (putL l ⟨dx, dy, far⟩).length ≤ c' ∧ c' ≤ maxLen := by
  obtain ⟨i0, hi0, hz0, hz1, hz2⟩ := info_parts manInfo
  have hp0 := Blk.new w #[.int .i64 dx, .int .i64 dy, .int .i64 far] 105
  have hb0 := below_of w (.cells #[.int .i64 dx, .int .i64 dy, .int .i64 far] 105)
  unfold maxLen at hcm
  go_enter Tryz.func78, Tryz.ntmps78
  go_wp2_with fail
  go_loopw [5] (fun iv wr => ∃ k : Nat, k ≤ l.length ∧ iv = .int .i64 k ∧ Hid (∀ j, j < k → (stAt l j).far < far) ∧ Blk wr w.heap.size #[.int .i64 dx, .int .i64 dy, .int .i64 far] 105 ∧ Below w.heap.size w wr) (fun iv _ => l.length - (intOf iv).toNat)
  case atStart => exact ⟨0, by omega, rfl, Lib.hid (fun j hj => absurd hj (by omega)), hp0, hb0⟩
  case round =>
    clear hp0 hb0
    obtain ⟨k, hk, rfl, hg, hp, hbe⟩ := hrel
    obtain ⟨⟨q0, q1, q2⟩, _⟩ := hp.at3
    have hz := hbe.size
    have zp := hp.lt
    have HG := Lib.hid hg.out
    by_cases hgo : k < l.length ∧ (stAt l k).far < far
    · obtain ⟨hlt, hf⟩ := hgo
      obtain ⟨b', off', hA, hB, hcc⟩ := h.below hbe (by omega)
      cases hA
      obtain ⟨s0, s1, s2⟩ := hcc k hlt
      have zb : b < wr.heap.size := by omega
      have hd : decide ((stAt l k).far < far) = true := decide_eq_true hf
      have HF := Lib.hid hf
      clear hcc hf
      go_wp2_with fail
      refine wp_region_below (W := wr) (by kernel_rfl) (by kernel_rfl) (Below.refl _ _) ?_
      repeat (first
        | (refine qs_skip (by rfl) ?_; simp only [Act.put, List.setIfInBounds_toArray, List.set_cons_zero, List.set_cons_succ])
        | (apply qs_take
           focus rfl
           focus (
             intro wq hwq
             obtain ⟨hcq, hfq⟩ := bcell hwq
             go_simp
             all_goals first
               | exact rfl
               | (exact ⟨trivial, rfl⟩))
           simp only [Act.put, List.setIfInBounds_toArray, List.set_cons_zero, List.set_cons_succ]))
      refine wpQuiet_nil ?_
      intro wq hwq
      go_wp2_with fail
      go_roundw
      case rel => exact ⟨k + 1, by omega, by go_num, Lib.hid (all_succ HG.out HF.out), hp.below hwq zp, hbe.trans (hwq.mono hz)⟩
      case measure => simp [intOf]; omega
    · have HE : Hid (putL l ⟨dx, dy, far⟩ = l.take k ++ ⟨dx, dy, far⟩ :: l.drop k) := Lib.hid (putL_at hk HG.out (fun hk' hf => hgo ⟨hk', hf⟩))
      by_cases hlt : k < l.length
      · obtain ⟨b', off', hA, hB, hcc⟩ := h.below hbe (by omega)
        cases hA
        obtain ⟨s0, s1, s2⟩ := hcc k hlt
        have zb : b < wr.heap.size := by omega
        have hd : decide ((stAt l k).far < far) = false := decide_eq_false (fun hf => hgo ⟨hlt, hf⟩)
        clear hcc hgo
        go_wp2_with fail
        refine wp_region_below (W := wr) (by kernel_rfl) (by kernel_rfl) (Below.refl _ _) ?_
        repeat (first
          | (refine qs_skip (by rfl) ?_; simp only [Act.put, List.setIfInBounds_toArray, List.set_cons_zero, List.set_cons_succ])
          | (apply qs_take
             focus rfl
             focus (
               intro wq hwq
               obtain ⟨hcq, hfq⟩ := bcell hwq
               go_simp
               all_goals first
                 | exact rfl
                 | (exact ⟨trivial, rfl⟩))
             simp only [Act.put, List.setIfInBounds_toArray, List.set_cons_zero, List.set_cons_succ]))
        refine wpQuiet_nil ?_
        intro wq hwq
        have hpq := hp.below hwq zp
        have hbq := hbe.trans (hwq.mono hz)
        have hzq := hwq.size
        clear s0 s1 s2 q0 q1 q2 hp hbe hwq hg
        obtain ⟨⟨q0, q1, q2⟩, _⟩ := hpq.at3
        have hO0 : OwnM (wq.alloc (.cells #[] 105)) (w.heap.size + 1) (.slice (some ⟨wq.heap.size, 0, none⟩) 0 0) 0 [] := ⟨rfl, .inr ⟨wq.heap.size, 0, #[], rfl, by omega, Blk.new wq #[] 105, Nat.le_refl _, Nat.zero_le _, rfl, rfl⟩⟩
        have hbA := Below.alloc (Below.refl (w.heap.size + 1) wq) (by omega) (.cells #[] 105)
        have HO0 := Lib.hid hO0
        have HBA := Lib.hid hbA
        have HN1 := Lib.hid (((h.below (hbq.alloc (by omega) (.cells #[] 105))).take k).news)
        have HL1 : Hid ((cellsM (l.take k)).length = k * 3) := Lib.hid (by rw [cellsM_len, List.length_take, Nat.min_eq_left hk])
        have HBQ := Lib.hid hbq
        have HPQ := Lib.hid hpq
        clear hO0 hbA hbq hpq
        have hmx : 0 + k ≤ maxLen := by unfold maxLen; omega
        have hmx2 : k + 1 ≤ maxLen := by unfold maxLen; omega
        have hmx3 : k + 1 + (l.length - k) ≤ maxLen := by unfold maxLen; omega
        go_wp2_with (at_builtin; first
          | (refine wpList_append_own _ rfl _ _ 33 rfl (w.heap.size + 1) 105 i0 (.agg #[.int .i64 0, .int .i64 0, .int .i64 0]) 3 24 Tryz.underlying33 hi0 hz0 hz1 hz2 rfl (by decide) _ _ _ rfl HO2.out ⟨b, off + k * 3, none⟩ (l.length - k) _ (cellsM (l.drop k)) rfl HL3.out HN3.out (cellsM_one _) hmx3 (by omega) (by omega) ?_; intro v3 w7 hown3 hgrow3 hnil3; have hb7 := HO2.out.base hgrow3 (Below.refl (w.heap.size + 1) w6) (Nat.le_refl _) (by omega))
          | (refine wpList_append_own _ rfl _ _ 33 rfl (w.heap.size + 1) 105 i0 (.agg #[.int .i64 0, .int .i64 0, .int .i64 0]) 3 24 Tryz.underlying33 hi0 hz0 hz1 hz2 rfl (by decide) _ _ _ rfl HO2.out ⟨b, off, none⟩ (l.length - k) _ (cellsM (l.drop k)) rfl HL3.out (fun j u hu => by have e : l.drop k = [] := List.drop_eq_nil_of_le (by omega); rw [e] at hu; simp [cellsM] at hu) (cellsM_one _) hmx3 (by omega) (by omega) ?_; intro v3 w7 hown3 hgrow3 hnil3; have hb7 := HO2.out.base hgrow3 (Below.refl (w.heap.size + 1) w6) (Nat.le_refl _) (by omega))
          | (refine wpList_append_own _ rfl _ _ 33 rfl (w.heap.size + 1) 105 i0 (.agg #[.int .i64 0, .int .i64 0, .int .i64 0]) 3 24 Tryz.underlying33 hi0 hz0 hz1 hz2 rfl (by decide) _ _ _ rfl HO2.out ⟨b, off, none⟩ 0 _ [] rfl rfl (fun j u hu => by simp at hu) (fun u hu => by simp at hu) (Nat.le_trans (Nat.le_add_right _ _) hmx3) (by omega) (by omega) ?_; intro v3 w7 hown3 hgrow3 hnil3; have hdr : l.drop k = [] := List.drop_eq_nil_of_le (by omega); have hlk : l.length - k = 0 := (by omega); have hce : ([] : List Value) = cellsM (l.drop k) := (by simp [hdr, cellsM]); have hke : k + 1 + 0 = k + 1 + (l.length - k) := (by omega); rw [hce, hke] at hown3; clear hdr hlk hce hke; have hb7 := HO2.out.base hgrow3 (Below.refl (w.heap.size + 1) w6) (Nat.le_refl _) (by omega))
          | (refine wpList_append_own _ rfl _ _ 33 rfl (w.heap.size + 1) 105 i0 (.agg #[.int .i64 0, .int .i64 0, .int .i64 0]) 3 24 Tryz.underlying33 hi0 hz0 hz1 hz2 rfl (by decide) _ _ _ rfl (HO1.out.alloc _) ⟨w5.heap.size, 0, none⟩ 1 1 [.int .i64 dx, .int .i64 dy, .int .i64 far] rfl rfl (news3 (Blk.new w5 #[.int .i64 dx, .int .i64 dy, .int .i64 far] 105)) (fun u hu => by simp at hu; rcases hu with rfl | rfl | rfl <;> rfl) hmx2 (by omega) (by simp; omega) ?_; intro v2 w6 hown2 hgrow2 hnil2; have hO2 := OwnM.snoc (s := ⟨dx, dy, far⟩) hown2; have hb6 := (HO1.out.alloc (.cells #[.int .i64 dx, .int .i64 dy, .int .i64 far] 105)).base hgrow2 ((Below.refl (w.heap.size + 1) w5).alloc (by omega) (.cells #[.int .i64 dx, .int .i64 dy, .int .i64 far] 105)) (Nat.le_refl _) (by simp; omega); have hz6 := hb6.size; have HO2 := Lib.hid hO2; have HN3 := Lib.hid (((h.below (HBQ.out.trans ((HB5.out.trans hb6).mono (by omega)))).drop k).news); have HB6 := Lib.hid (HB5.out.trans hb6); have HL3 : Hid ((cellsM (l.drop k)).length = (l.length - k) * 3) := Lib.hid (by rw [cellsM_len, List.length_drop]); clear hown2 hgrow2 hnil2 hO2 hb6 HO1)
          | (refine wpList_append_own _ rfl _ _ 33 rfl (w.heap.size + 1) 105 i0 (.agg #[.int .i64 0, .int .i64 0, .int .i64 0]) 3 24 Tryz.underlying33 hi0 hz0 hz1 hz2 rfl (by decide) _ _ _ rfl HO0.out ⟨b, off, none⟩ k _ (cellsM (l.take k)) rfl HL1.out HN1.out (cellsM_one _) hmx (by omega) (by simp; omega) ?_; intro v1 w5 hown1 hgrow1 hnil1; have hO1 : OwnM w5 (w.heap.size + 1) v1 k (l.take k) := (by have := hown1; simp only [Nat.zero_add, cellsM, List.nil_append] at this; exact this); have hb5 := HO0.out.base hgrow1 HBA.out (Nat.le_refl _) (by simp; omega); have hz5 := hb5.size; have hp5 := HPQ.out.below hb5 (by omega); have zp5 := hp5.lt; obtain ⟨⟨q0, q1, q2⟩, _⟩ := hp5.at3; obtain ⟨A1, d1, hv1⟩ := hO1.slice; subst hv1; have HO1 := Lib.hid hO1; have HB5 := Lib.hid hb5; clear hown1 hgrow1 hnil1 hO1 hb5 hp5 HO0 HBA HN1 HL1))
        have hO3 : w7.ownsRow (w.heap.size + 1) 105 3 v3 (putL l ⟨dx, dy, far⟩).length (cellsM (putL l ⟨dx, dy, far⟩)) := by
          have e1 : (putL l ⟨dx, dy, far⟩).length = k + 1 + (l.length - k) := by rw [putL_len]; omega
          rw [e1, HE.out, show l.take k ++ ⟨dx, dy, far⟩ :: l.drop k = (l.take k ++ [⟨dx, dy, far⟩]) ++ l.drop k by simp, cellsM_append]
          exact hown3
        obtain ⟨A3, d3, rfl, hm, hd1, hd2⟩ := MenA.of2 hO3 (by rw [putL_len]; omega)
        clear hown3 hgrow3 hnil3 hO3
        go_ret
        exact ⟨A3, d3, rfl, hm.more (by omega) (Nat.le_refl _), HBQ.out.trans ((HB6.out.trans hb7).mono (by omega)), hd1, hd2⟩
      · have hd0 : decide (k < l.length) = false := decide_eq_false hlt
        have hk2 : 1 ≤ k := by omega
        clear hgo hlt
        go_wp2_with fail
        refine wp_region_below (W := wr) (by kernel_rfl) (by kernel_rfl) (Below.refl _ _) ?_
        repeat (first
          | (refine qs_skip (by rfl) ?_; simp only [Act.put, List.setIfInBounds_toArray, List.set_cons_zero, List.set_cons_succ])
          | (apply qs_take
             focus rfl
             focus (
               intro wq hwq
               obtain ⟨hcq, hfq⟩ := bcell hwq
               go_simp
               all_goals first
                 | exact rfl
                 | (exact ⟨trivial, rfl⟩))
             simp only [Act.put, List.setIfInBounds_toArray, List.set_cons_zero, List.set_cons_succ]))
        refine wpQuiet_nil ?_
        intro wq hwq
        have hpq := hp.below hwq zp
        have hbq := hbe.trans (hwq.mono hz)
        have hzq := hwq.size
        clear q0 q1 q2 hp hbe hwq hg
        obtain ⟨⟨q0, q1, q2⟩, _⟩ := hpq.at3
        have hO0 : OwnM (wq.alloc (.cells #[] 105)) (w.heap.size + 1) (.slice (some ⟨wq.heap.size, 0, none⟩) 0 0) 0 [] := ⟨rfl, .inr ⟨wq.heap.size, 0, #[], rfl, by omega, Blk.new wq #[] 105, Nat.le_refl _, Nat.zero_le _, rfl, rfl⟩⟩
        have hbA := Below.alloc (Below.refl (w.heap.size + 1) wq) (by omega) (.cells #[] 105)
        have HO0 := Lib.hid hO0
        have HBA := Lib.hid hbA
        have HN1 := Lib.hid (((h.below (hbq.alloc (by omega) (.cells #[] 105))).take k).news)
        have HL1 : Hid ((cellsM (l.take k)).length = k * 3) := Lib.hid (by rw [cellsM_len, List.length_take, Nat.min_eq_left hk])
        have HBQ := Lib.hid hbq
        have HPQ := Lib.hid hpq
        clear hO0 hbA hbq hpq
        have hmx : 0 + k ≤ maxLen := by unfold maxLen; omega
        have hmx2 : k + 1 ≤ maxLen := by unfold maxLen; omega
        have hmx3 : k + 1 + (l.length - k) ≤ maxLen := by unfold maxLen; omega
        have hk1 : ¬ k = 0 := by omega
        by_cases hck : k = c
        · subst hck
          go_wp2_with (at_builtin; first
            | (refine wpList_append_own _ rfl _ _ 33 rfl (w.heap.size + 1) 105 i0 (.agg #[.int .i64 0, .int .i64 0, .int .i64 0]) 3 24 Tryz.underlying33 hi0 hz0 hz1 hz2 rfl (by decide) _ _ _ rfl HO2.out ⟨b, off + k * 3, none⟩ (l.length - k) _ (cellsM (l.drop k)) rfl HL3.out HN3.out (cellsM_one _) hmx3 (by omega) (by omega) ?_; intro v3 w7 hown3 hgrow3 hnil3; have hb7 := HO2.out.base hgrow3 (Below.refl (w.heap.size + 1) w6) (Nat.le_refl _) (by omega))
            | (refine wpList_append_own _ rfl _ _ 33 rfl (w.heap.size + 1) 105 i0 (.agg #[.int .i64 0, .int .i64 0, .int .i64 0]) 3 24 Tryz.underlying33 hi0 hz0 hz1 hz2 rfl (by decide) _ _ _ rfl HO2.out ⟨b, off, none⟩ (l.length - k) _ (cellsM (l.drop k)) rfl HL3.out (fun j u hu => by have e : l.drop k = [] := List.drop_eq_nil_of_le (by omega); rw [e] at hu; simp [cellsM] at hu) (cellsM_one _) hmx3 (by omega) (by omega) ?_; intro v3 w7 hown3 hgrow3 hnil3; have hb7 := HO2.out.base hgrow3 (Below.refl (w.heap.size + 1) w6) (Nat.le_refl _) (by omega))
            | (refine wpList_append_own _ rfl _ _ 33 rfl (w.heap.size + 1) 105 i0 (.agg #[.int .i64 0, .int .i64 0, .int .i64 0]) 3 24 Tryz.underlying33 hi0 hz0 hz1 hz2 rfl (by decide) _ _ _ rfl HO2.out ⟨b, off, none⟩ 0 _ [] rfl rfl (fun j u hu => by simp at hu) (fun u hu => by simp at hu) (Nat.le_trans (Nat.le_add_right _ _) hmx3) (by omega) (by omega) ?_; intro v3 w7 hown3 hgrow3 hnil3; have hdr : l.drop k = [] := List.drop_eq_nil_of_le (by omega); have hlk : l.length - k = 0 := (by omega); have hce : ([] : List Value) = cellsM (l.drop k) := (by simp [hdr, cellsM]); have hke : k + 1 + 0 = k + 1 + (l.length - k) := (by omega); rw [hce, hke] at hown3; clear hdr hlk hce hke; have hb7 := HO2.out.base hgrow3 (Below.refl (w.heap.size + 1) w6) (Nat.le_refl _) (by omega))
            | (refine wpList_append_own _ rfl _ _ 33 rfl (w.heap.size + 1) 105 i0 (.agg #[.int .i64 0, .int .i64 0, .int .i64 0]) 3 24 Tryz.underlying33 hi0 hz0 hz1 hz2 rfl (by decide) _ _ _ rfl (HO1.out.alloc _) ⟨w5.heap.size, 0, none⟩ 1 1 [.int .i64 dx, .int .i64 dy, .int .i64 far] rfl rfl (news3 (Blk.new w5 #[.int .i64 dx, .int .i64 dy, .int .i64 far] 105)) (fun u hu => by simp at hu; rcases hu with rfl | rfl | rfl <;> rfl) hmx2 (by omega) (by simp; omega) ?_; intro v2 w6 hown2 hgrow2 hnil2; have hO2 := OwnM.snoc (s := ⟨dx, dy, far⟩) hown2; have hb6 := (HO1.out.alloc (.cells #[.int .i64 dx, .int .i64 dy, .int .i64 far] 105)).base hgrow2 ((Below.refl (w.heap.size + 1) w5).alloc (by omega) (.cells #[.int .i64 dx, .int .i64 dy, .int .i64 far] 105)) (Nat.le_refl _) (by simp; omega); have hz6 := hb6.size; have HO2 := Lib.hid hO2; have HN3 := Lib.hid (((h.below (HBQ.out.trans ((HB5.out.trans hb6).mono (by omega)))).drop k).news); have HB6 := Lib.hid (HB5.out.trans hb6); have HL3 : Hid ((cellsM (l.drop k)).length = (l.length - k) * 3) := Lib.hid (by rw [cellsM_len, List.length_drop]); clear hown2 hgrow2 hnil2 hO2 hb6 HO1)
            | (refine wpList_append_own _ rfl _ _ 33 rfl (w.heap.size + 1) 105 i0 (.agg #[.int .i64 0, .int .i64 0, .int .i64 0]) 3 24 Tryz.underlying33 hi0 hz0 hz1 hz2 rfl (by decide) _ _ _ rfl HO0.out ⟨b, off, none⟩ k _ (cellsM (l.take k)) rfl HL1.out HN1.out (cellsM_one _) hmx (by omega) (by simp; omega) ?_; intro v1 w5 hown1 hgrow1 hnil1; have hO1 : OwnM w5 (w.heap.size + 1) v1 k (l.take k) := (by have := hown1; simp only [Nat.zero_add, cellsM, List.nil_append] at this; exact this); have hb5 := HO0.out.base hgrow1 HBA.out (Nat.le_refl _) (by simp; omega); have hz5 := hb5.size; have hp5 := HPQ.out.below hb5 (by omega); have zp5 := hp5.lt; obtain ⟨⟨q0, q1, q2⟩, _⟩ := hp5.at3; obtain ⟨A1, d1, hv1⟩ := hO1.slice; subst hv1; have HO1 := Lib.hid hO1; have HB5 := Lib.hid hb5; clear hown1 hgrow1 hnil1 hO1 hb5 hp5 HO0 HBA HN1 HL1))
          have hO3 : w7.ownsRow (w.heap.size + 1) 105 3 v3 (putL l ⟨dx, dy, far⟩).length (cellsM (putL l ⟨dx, dy, far⟩)) := by
            have e1 : (putL l ⟨dx, dy, far⟩).length = k + 1 + (l.length - k) := by rw [putL_len]; omega
            rw [e1, HE.out, show l.take k ++ ⟨dx, dy, far⟩ :: l.drop k = (l.take k ++ [⟨dx, dy, far⟩]) ++ l.drop k by simp, cellsM_append]
            exact hown3
          obtain ⟨A3, d3, rfl, hm, hd1, hd2⟩ := MenA.of2 hO3 (by rw [putL_len]; omega)
          clear hown3 hgrow3 hnil3 hO3
          go_ret
          exact ⟨A3, d3, rfl, hm.more (by omega) (Nat.le_refl _), HBQ.out.trans ((HB6.out.trans hb7).mono (by omega)), hd1, hd2⟩
        · have hck2 : ¬ c = k := fun he => hck he.symm
          go_wp2_with (at_builtin; first
            | (refine wpList_append_own _ rfl _ _ 33 rfl (w.heap.size + 1) 105 i0 (.agg #[.int .i64 0, .int .i64 0, .int .i64 0]) 3 24 Tryz.underlying33 hi0 hz0 hz1 hz2 rfl (by decide) _ _ _ rfl HO2.out ⟨b, off + k * 3, none⟩ (l.length - k) _ (cellsM (l.drop k)) rfl HL3.out HN3.out (cellsM_one _) hmx3 (by omega) (by omega) ?_; intro v3 w7 hown3 hgrow3 hnil3; have hb7 := HO2.out.base hgrow3 (Below.refl (w.heap.size + 1) w6) (Nat.le_refl _) (by omega))
            | (refine wpList_append_own _ rfl _ _ 33 rfl (w.heap.size + 1) 105 i0 (.agg #[.int .i64 0, .int .i64 0, .int .i64 0]) 3 24 Tryz.underlying33 hi0 hz0 hz1 hz2 rfl (by decide) _ _ _ rfl HO2.out ⟨b, off, none⟩ (l.length - k) _ (cellsM (l.drop k)) rfl HL3.out (fun j u hu => by have e : l.drop k = [] := List.drop_eq_nil_of_le (by omega); rw [e] at hu; simp [cellsM] at hu) (cellsM_one _) hmx3 (by omega) (by omega) ?_; intro v3 w7 hown3 hgrow3 hnil3; have hb7 := HO2.out.base hgrow3 (Below.refl (w.heap.size + 1) w6) (Nat.le_refl _) (by omega))
            | (refine wpList_append_own _ rfl _ _ 33 rfl (w.heap.size + 1) 105 i0 (.agg #[.int .i64 0, .int .i64 0, .int .i64 0]) 3 24 Tryz.underlying33 hi0 hz0 hz1 hz2 rfl (by decide) _ _ _ rfl HO2.out ⟨b, off, none⟩ 0 _ [] rfl rfl (fun j u hu => by simp at hu) (fun u hu => by simp at hu) (Nat.le_trans (Nat.le_add_right _ _) hmx3) (by omega) (by omega) ?_; intro v3 w7 hown3 hgrow3 hnil3; have hdr : l.drop k = [] := List.drop_eq_nil_of_le (by omega); have hlk : l.length - k = 0 := (by omega); have hce : ([] : List Value) = cellsM (l.drop k) := (by simp [hdr, cellsM]); have hke : k + 1 + 0 = k + 1 + (l.length - k) := (by omega); rw [hce, hke] at hown3; clear hdr hlk hce hke; have hb7 := HO2.out.base hgrow3 (Below.refl (w.heap.size + 1) w6) (Nat.le_refl _) (by omega))
            | (refine wpList_append_own _ rfl _ _ 33 rfl (w.heap.size + 1) 105 i0 (.agg #[.int .i64 0, .int .i64 0, .int .i64 0]) 3 24 Tryz.underlying33 hi0 hz0 hz1 hz2 rfl (by decide) _ _ _ rfl (HO1.out.alloc _) ⟨w5.heap.size, 0, none⟩ 1 1 [.int .i64 dx, .int .i64 dy, .int .i64 far] rfl rfl (news3 (Blk.new w5 #[.int .i64 dx, .int .i64 dy, .int .i64 far] 105)) (fun u hu => by simp at hu; rcases hu with rfl | rfl | rfl <;> rfl) hmx2 (by omega) (by simp; omega) ?_; intro v2 w6 hown2 hgrow2 hnil2; have hO2 := OwnM.snoc (s := ⟨dx, dy, far⟩) hown2; have hb6 := (HO1.out.alloc (.cells #[.int .i64 dx, .int .i64 dy, .int .i64 far] 105)).base hgrow2 ((Below.refl (w.heap.size + 1) w5).alloc (by omega) (.cells #[.int .i64 dx, .int .i64 dy, .int .i64 far] 105)) (Nat.le_refl _) (by simp; omega); have hz6 := hb6.size; have HO2 := Lib.hid hO2; have HN3 := Lib.hid (((h.below (HBQ.out.trans ((HB5.out.trans hb6).mono (by omega)))).drop k).news); have HB6 := Lib.hid (HB5.out.trans hb6); have HL3 : Hid ((cellsM (l.drop k)).length = (l.length - k) * 3) := Lib.hid (by rw [cellsM_len, List.length_drop]); clear hown2 hgrow2 hnil2 hO2 hb6 HO1)
            | (refine wpList_append_own _ rfl _ _ 33 rfl (w.heap.size + 1) 105 i0 (.agg #[.int .i64 0, .int .i64 0, .int .i64 0]) 3 24 Tryz.underlying33 hi0 hz0 hz1 hz2 rfl (by decide) _ _ _ rfl HO0.out ⟨b, off, none⟩ k _ (cellsM (l.take k)) rfl HL1.out HN1.out (cellsM_one _) hmx (by omega) (by simp; omega) ?_; intro v1 w5 hown1 hgrow1 hnil1; have hO1 : OwnM w5 (w.heap.size + 1) v1 k (l.take k) := (by have := hown1; simp only [Nat.zero_add, cellsM, List.nil_append] at this; exact this); have hb5 := HO0.out.base hgrow1 HBA.out (Nat.le_refl _) (by simp; omega); have hz5 := hb5.size; have hp5 := HPQ.out.below hb5 (by omega); have zp5 := hp5.lt; obtain ⟨⟨q0, q1, q2⟩, _⟩ := hp5.at3; obtain ⟨A1, d1, hv1⟩ := hO1.slice; subst hv1; have HO1 := Lib.hid hO1; have HB5 := Lib.hid hb5; clear hown1 hgrow1 hnil1 hO1 hb5 hp5 HO0 HBA HN1 HL1))
          have hO3 : w7.ownsRow (w.heap.size + 1) 105 3 v3 (putL l ⟨dx, dy, far⟩).length (cellsM (putL l ⟨dx, dy, far⟩)) := by
            have e1 : (putL l ⟨dx, dy, far⟩).length = k + 1 + (l.length - k) := by rw [putL_len]; omega
            rw [e1, HE.out, show l.take k ++ ⟨dx, dy, far⟩ :: l.drop k = (l.take k ++ [⟨dx, dy, far⟩]) ++ l.drop k by simp, cellsM_append]
            exact hown3
          obtain ⟨A3, d3, rfl, hm, hd1, hd2⟩ := MenA.of2 hO3 (by rw [putL_len]; omega)
          clear hown3 hgrow3 hnil3 hO3
          go_ret
          exact ⟨A3, d3, rfl, hm.more (by omega) (Nat.le_refl _), HBQ.out.trans ((HB6.out.trans hb7).mono (by omega)), hd1, hd2⟩
end Go.Proofs.YtcgfklljbblhlaaGreatDoor.Ko
