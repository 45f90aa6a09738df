/- RulesOk of the program and of the model. -/
import Derived.Test.YtcgfklljbblhlaaGreatDoorCv
namespace Go.Proofs.YtcgfklljbblhlaaGreatDoor.Ko
open Go.ChangeShapes Go.WideShapes Go.ChangeAt Go.RowKit Base Sq
set_option linter.unusedVariables false
set_option maxRecDepth 20000
attribute [local irreducible] wpQuiet

structure Kd where
  name : Int
  king : Bool
  steps : List St
def kAt (ks : List Kd) (i : Nat) : Kd := ks.getD i ⟨0, false, []⟩
/-- a slice of kinds -/
def IsKinds (w : World) (B : Nat) (A : Option Addr) (ks : List Kd) : Prop :=
  0 < ks.length → ∃ b off, A = some ⟨b, off, none⟩ ∧ b < B ∧ ∀ i, i < ks.length → ∃ S c,
    w.cell? ⟨b, off + i * 3, none⟩ = some (.int .i64 (kAt ks i).name) ∧ w.cell? ⟨b, off + i * 3 + 1, none⟩ = some (.bool (kAt ks i).king) ∧
    w.cell? ⟨b, off + i * 3 + 2, none⟩ = some (.slice S (kAt ks i).steps.length c) ∧ IsSteps w B S (kAt ks i).steps
theorem IsKinds.below {w w' : World} {B : Nat} {A : Option Addr} {ks : List Kd} (h : IsKinds w B A ks) (hb : Below B w w') : IsKinds w' B A ks := fun hn => by
  obtain ⟨b, off, rfl, hB, hc⟩ := h hn
  refine ⟨b, off, rfl, hB, fun i hi => ?_⟩
  obtain ⟨S, c, h1, h2, h3, h4⟩ := hc i hi
  have hk := fun o => hb.cell (p := ⟨b, o, none⟩) hB
  exact ⟨S, c, (hk _).trans h1, (hk _).trans h2, (hk _).trans h3, h4.below hb⟩
theorem IsKinds.more {w : World} {B B' : Nat} {A : Option Addr} {ks : List Kd} (h : IsKinds w B A ks) (hB : B ≤ B') : IsKinds w B' A ks := fun hn => by
  obtain ⟨b, off, rfl, hb, hc⟩ := h hn
  refine ⟨b, off, rfl, by omega, fun i hi => ?_⟩
  obtain ⟨S, c, h1, h2, h3, h4⟩ := hc i hi
  exact ⟨S, c, h1, h2, h3, h4.more hB⟩
/-- no list is too long -/
def Small (ks : List Kd) : Prop := ks.length ≤ 1048576 ∧ ∀ i, i < ks.length → (kAt ks i).steps.length ≤ 1048576
def kOk (k : Kd) : Bool := kindOk k.name k.steps
def goodK (ks : List Kd) (i : Nat) : Bool := kOk (kAt ks i) && (decide (i = 0) || decide ((kAt ks (i - 1)).name < (kAt ks i).name))
def kings (ks : List Kd) : Nat → Int
  | 0 => 0
  | k + 1 => kings ks k + if (kAt ks k).king then 1 else 0
def rulesOk (side : Int) (ks : List Kd) : Bool := sideB side && inB ks.length 1 4 && (List.range ks.length).all (goodK ks) && decide (kings ks ks.length = 1)
theorem kings_bd (ks : List Kd) (k : Nat) : 0 ≤ kings ks k ∧ kings ks k ≤ k := by
  induction k with
  | zero => exact ⟨Int.le_refl _, Int.le_refl _⟩
  | succ k ih => simp only [kings]; split <;> omega
theorem kings_yes {ks : List Kd} {k : Nat} (h : (kAt ks k).king = true) : kings ks k + 1 = kings ks (k + 1) := by simp [kings, h]
theorem kings_no {ks : List Kd} {k : Nat} (h : (kAt ks k).king = false) : kings ks k = kings ks (k + 1) := by simp [kings, h]
theorem rulesOk_bad {side : Int} {ks : List Kd} {k : Nat} (hk : k < ks.length) (hg : goodK ks k = false) : rulesOk side ks = false := by
  unfold rulesOk
  rw [show (List.range ks.length).all (goodK ks) = false from by rw [List.all_eq_false]; exact ⟨k, by simpa using hk, by simp [hg]⟩]
  simp
theorem rulesOk_end {side : Int} {ks : List Kd} (hg : ∀ j, j < ks.length → goodK ks j = true) : rulesOk side ks = (sideB side && inB ks.length 1 4 && decide (kings ks ks.length = 1)) := by
  unfold rulesOk
  rw [show (List.range ks.length).all (goodK ks) = true from by simp only [List.all_eq_true]; intro j hj; exact hg j (by simpa using hj)]
  simp
theorem goodK_bad {ks : List Kd} {k : Nat} (h : kindOk (kAt ks k).name (kAt ks k).steps = false) : goodK ks k = false := by
  unfold goodK kOk; rw [h]; rfl
theorem goodK_first {ks : List Kd} {k : Nat} (hk : ¬ 0 < k) (h : kindOk (kAt ks k).name (kAt ks k).steps = true) : goodK ks k = true := by
  unfold goodK kOk; rw [h, decide_eq_true (by omega)]; rfl
theorem goodK_next {ks : List Kd} {k : Nat} {b : Bool} (hk : 0 < k) (h : kindOk (kAt ks k).name (kAt ks k).steps = true)
    (h2 : decide ((kAt ks (k - 1)).name < (kAt ks k).name) = b) : goodK ks k = b := by
  unfold goodK kOk; rw [h, h2, decide_eq_false (by omega)]; simp
theorem rulesOk_out {side : Int} {ks : List Kd} (h : ¬ (sideB side = true ∧ 1 ≤ ks.length ∧ ks.length ≤ 4)) : rulesOk side ks = false := by
  unfold rulesOk
  by_cases h1 : sideB side = true
  · rw [inB_no (by intro ⟨a, b⟩; exact h ⟨h1, by omega, by omega⟩)]; simp
  · rw [show sideB side = false from by simpa using h1]; simp

set_option maxHeartbeats 2000000 in
theorem rulesOk_in (side : Int) (A : Option Addr) (c : Nat) (ks : List Kd) (w : World) (h : IsKinds w w.heap.size A ks) (hsm : Small ks) (h1 : sideB side = true) (h3 : 1 ≤ ks.length) (h4 : ks.length ≤ 4) :
    Calls Tryz.prog 81 #[.agg #[.int .i64 side, .slice A ks.length c]] w fun e w' => e = .returned (.bool (rulesOk side ks)) ∧ Below w.heap.size w w' := by
  have H1 := Lib.hid h1
  have d3 : decide ((ks.length : Int) < 1) = false := decide_eq_false (by omega)
  have d4 : decide (4 < (ks.length : Int)) = false := decide_eq_false (by omega)
  have HB := Lib.hid (fun k => rulesOk_bad (side := side) (ks := ks) (k := k))
  have HG := Lib.hid (rulesOk_end (side := side) (ks := ks))
  have HSM := Lib.hid hsm
  clear hsm h1
  go_enter Tryz.func81, Tryz.ntmps81
  go_wp2_with (go_at_call 99; refine (sideOk_any _ _).mono ?_; rw [H1.out]; rintro e w' ⟨rfl, rfl⟩)
  go_loopw [3, 25] (fun n i wr => ∃ k : Nat, k ≤ ks.length ∧ i = .int .i64 k ∧ n = .int .i64 (kings ks k) ∧ (∀ j, j < k → goodK ks j = true) ∧ Blk wr w.heap.size #[.int .i64 side, .slice A ks.length c] 40 ∧ Below w.heap.size w wr) (fun _ i _ => ks.length - (intOf i).toNat)
  case atStart => exact ⟨0, by omega, rfl, rfl, fun j hj => absurd hj (by omega), Blk.new _ _ _, below_of _ _⟩
  case round =>
    obtain ⟨k, hk, rfl, rfl, hg, hb, hbe⟩ := hrel
    obtain ⟨hkb1, hkb2⟩ := kings_bd ks k
    by_cases hlt : k < ks.length
    · obtain ⟨b, off, rfl, hB, hc⟩ := h.below hbe (by omega)
      obtain ⟨S, cc, c0, c1, c2, hst⟩ := hc k hlt
      have hz := hb.lt
      obtain ⟨⟨e0, e1⟩, f0, f1⟩ := hb.at2
      go_wp2_with fail
      have s0 := Blk.new wr #[.int .i64 (kAt ks k).name, .bool (kAt ks k).king, .slice S (kAt ks k).steps.length cc] 98
      have p0 := hb.alloc (.cells #[.int .i64 (kAt ks k).name, .bool (kAt ks k).king, .slice S (kAt ks k).steps.length cc] 98)
      have hw0 := hbe.alloc (by omega) (.cells #[.int .i64 (kAt ks k).name, .bool (kAt ks k).king, .slice S (kAt ks k).steps.length cc] 98)
      have t0 := (hst.more hbe.size).below (below_of wr (.cells #[.int .i64 (kAt ks k).name, .bool (kAt ks k).king, .slice S (kAt ks k).steps.length cc] 98))
      have t1 := t0.more (B' := (wr.alloc (.cells #[.int .i64 (kAt ks k).name, .bool (kAt ks k).king, .slice S (kAt ks k).steps.length cc] 98)).heap.size) (by first | (simp; done) | (simp; omega) | omega)
      have l0 := h.below hw0
      have hlen := HSM.out.2 k hlt
      generalize hW1 : wr.alloc _ = W1 at *
      have z0 := s0.lt
      have z1 := p0.lt
      have z2 : b < W1.heap.size := by omega
      obtain ⟨⟨a0, a1, a2⟩, _⟩ := s0.at3
      obtain ⟨⟨b0, b1⟩, _⟩ := p0.at2
      clear hW1 c0 c1 c2 e0 e1 f0 f1 hb t0 hst hc
      cases ho : kindOk (kAt ks k).name (kAt ks k).steps
      · have HO := Lib.hid ho
        clear l0 ho
        refine wp_region_below (W := W1) (by kernel_rfl) (by kernel_rfl) (Below.refl _ _) ?_
        repeat (first
          | (refine qs_skip (by rfl) ?_; simp only [Act.put, List.setIfInBounds_toArray, List.set_cons_zero, List.set_cons_succ])
          | (apply qs_take
             focus rfl
             focus (
               intro wq hwq
               obtain ⟨hcq, hfq⟩ := bcell hwq
               go_simp
               all_goals first
                 | exact rfl
                 | (go_at_call 100; refine (kindOk_any _ _ _ _ _ _ ((t1.below hwq).more hwq.size) hlen).mono ?_; rw [HO.out]; exact fun e w2 h => ⟨h.1, hwq.trans (h.2.mono hwq.size)⟩)
                 | (exact ⟨trivial, rfl⟩))
             simp only [Act.put, List.setIfInBounds_toArray, List.set_cons_zero, List.set_cons_succ]))
        refine wpQuiet_nil ?_
        intro wq hwq
        go_wp2_with fail
        go_ret
        exact ⟨rb (HB.out k hlt (goodK_bad HO.out)).symm, hw0.trans (hwq.mono (by omega))⟩
      · have HO := Lib.hid ho
        by_cases hk0 : 0 < k
        · obtain ⟨b', off', hA, hB', hc'⟩ := l0 (by omega)
          obtain ⟨S', cc', q0, q1, q2, _⟩ := hc' (k - 1) (by omega)
          have hk1 : (0 : Int) < (k : Int) := by omega
          have g2 : (1 : Int) ≤ (k : Int) := by omega
          have g2' : (0 : Int) ≤ (k : Int) - 1 := by omega
          have g3 : (k : Int) - 1 < (ks.length : Int) := by omega
          have g4 : ((k : Int) - 1).toNat = k - 1 := by omega
          have g1 : IntKind.i64.wrap ((k : Int) - 1) = (k : Int) - 1 := IntWalk.i64_in _ (by omega)
          obtain ⟨rfl, rfl⟩ : b = b' ∧ off = off' := by injection hA with hA; injection hA with hA hB; exact ⟨hA, hB⟩
          clear hc' hA l0 ho
          by_cases hle : (kAt ks (k - 1)).name < (kAt ks k).name
          · have HL := Lib.hid (goodK_next hk0 HO.out (decide_eq_true hle))
            have hd : decide ((kAt ks k).name ≤ (kAt ks (k - 1)).name) = false := decide_eq_false (by omega)
            clear hle
            refine wp_region_below (W := W1) (by kernel_rfl) (by kernel_rfl) (Below.refl _ _) ?_
            repeat (first
              | (refine qs_skip (by rfl) ?_; simp only [Act.put, List.setIfInBounds_toArray, List.set_cons_zero, List.set_cons_succ])
              | (apply qs_take
                 focus rfl
                 focus (
                   intro wq hwq
                   obtain ⟨hcq, hfq⟩ := bcell hwq
                   go_simp
                   all_goals first
                     | exact rfl
                     | (go_at_call 100; refine (kindOk_any _ _ _ _ _ _ ((t1.below hwq).more hwq.size) hlen).mono ?_; rw [HO.out]; exact fun e w2 h => ⟨h.1, hwq.trans (h.2.mono hwq.size)⟩)
                     | (exact ⟨trivial, rfl⟩))
                 simp only [Act.put, List.setIfInBounds_toArray, List.set_cons_zero, List.set_cons_succ]))
            refine wpQuiet_nil ?_
            intro wq hwq
            clear g1 g4
            obtain ⟨⟨a0, a1, a2⟩, _⟩ := (s0.below hwq z0).at3
            cases hking : (kAt ks k).king
            · have HK := Lib.hid (kings_no hking)
              go_wp2_with fail
              go_roundw
              case rel => exact ⟨k + 1, by omega, by go_num, by rw [HK.out], all_succ hg HL.out, p0.below hwq z1, hw0.trans (hwq.mono (by omega))⟩
              case measure => simp [intOf]; omega
            · have HK := Lib.hid (kings_yes hking)
              go_wp2_with fail
              go_roundw
              case rel => exact ⟨k + 1, by omega, by go_num, by rw [← HK.out], all_succ hg HL.out, p0.below hwq z1, hw0.trans (hwq.mono (by omega))⟩
              case measure => simp [intOf]; omega
          · have HL := Lib.hid (goodK_next hk0 HO.out (decide_eq_false hle))
            have hd : decide ((kAt ks k).name ≤ (kAt ks (k - 1)).name) = true := decide_eq_true (by omega)
            clear hle
            refine wp_region_below (W := W1) (by kernel_rfl) (by kernel_rfl) (Below.refl _ _) ?_
            repeat (first
              | (refine qs_skip (by rfl) ?_; simp only [Act.put, List.setIfInBounds_toArray, List.set_cons_zero, List.set_cons_succ])
              | (apply qs_take
                 focus rfl
                 focus (
                   intro wq hwq
                   obtain ⟨hcq, hfq⟩ := bcell hwq
                   go_simp
                   all_goals first
                     | exact rfl
                     | (go_at_call 100; refine (kindOk_any _ _ _ _ _ _ ((t1.below hwq).more hwq.size) hlen).mono ?_; rw [HO.out]; exact fun e w2 h => ⟨h.1, hwq.trans (h.2.mono hwq.size)⟩)
                     | (exact ⟨trivial, rfl⟩))
                 simp only [Act.put, List.setIfInBounds_toArray, List.set_cons_zero, List.set_cons_succ]))
            refine wpQuiet_nil ?_
            intro wq hwq
            clear g1 g4
            go_wp2_with fail
            go_ret
            exact ⟨rb (HB.out k hlt HL.out).symm, hw0.trans (hwq.mono (by omega))⟩
        · have hk1 : decide (0 < k) = false := decide_eq_false (by omega)
          have HL := Lib.hid (goodK_first hk0 HO.out)
          clear l0 ho hk0
          refine wp_region_below (W := W1) (by kernel_rfl) (by kernel_rfl) (Below.refl _ _) ?_
          repeat (first
            | (refine qs_skip (by rfl) ?_; simp only [Act.put, List.setIfInBounds_toArray, List.set_cons_zero, List.set_cons_succ])
            | (apply qs_take
               focus rfl
               focus (
                 intro wq hwq
                 obtain ⟨hcq, hfq⟩ := bcell hwq
                 go_simp
                 all_goals first
                   | exact rfl
                   | (go_at_call 100; refine (kindOk_any _ _ _ _ _ _ ((t1.below hwq).more hwq.size) hlen).mono ?_; rw [HO.out]; exact fun e w2 h => ⟨h.1, hwq.trans (h.2.mono hwq.size)⟩)
                   | (exact ⟨trivial, rfl⟩))
               simp only [Act.put, List.setIfInBounds_toArray, List.set_cons_zero, List.set_cons_succ]))
          refine wpQuiet_nil ?_
          intro wq hwq
          obtain ⟨⟨a0, a1, a2⟩, _⟩ := (s0.below hwq z0).at3
          cases hking : (kAt ks k).king
          · have HK := Lib.hid (kings_no hking)
            go_wp2_with fail
            go_roundw
            case rel => exact ⟨k + 1, by omega, by go_num, by rw [HK.out], all_succ hg HL.out, p0.below hwq z1, hw0.trans (hwq.mono (by omega))⟩
            case measure => simp [intOf]; omega
          · have HK := Lib.hid (kings_yes hking)
            go_wp2_with fail
            go_roundw
            case rel => exact ⟨k + 1, by omega, by go_num, by rw [← HK.out], all_succ hg HL.out, p0.below hwq z1, hw0.trans (hwq.mono (by omega))⟩
            case measure => simp [intOf]; omega
    · obtain rfl : k = ks.length := by omega
      have HR := Lib.hid (HG.out hg)
      have HI := Lib.hid (inB_yes (n := ks.length) (lo := 1) (hi := 4) (by omega))
      clear hg hlt h HG HB
      go_wp2_with fail
      go_ret
      exact ⟨rb (by rw [HR.out, H1.out, HI.out, Bool.eq_iff_iff]; simp), hbe⟩
theorem rulesOk_any (side : Int) (A : Option Addr) (c : Nat) (ks : List Kd) (w : World) (h : IsKinds w w.heap.size A ks) (hsm : Small ks) :
    Calls Tryz.prog 81 #[.agg #[.int .i64 side, .slice A ks.length c]] w fun e w' => e = .returned (.bool (rulesOk side ks)) ∧ Below w.heap.size w w' := by
  have hlen := hsm.1
  by_cases h1 : sideB side = true
  · by_cases h3 : 1 ≤ ks.length
    · by_cases h4 : ks.length ≤ 4
      · exact rulesOk_in side A c ks w h hsm h1 h3 h4
      · rw [rulesOk_out (by omega)]
        have H1 := Lib.hid h1
        have d3 : decide ((ks.length : Int) < 1) = false := decide_eq_false (by omega)
        have d4 : decide (4 < (ks.length : Int)) = true := decide_eq_true (by omega)
        clear h hsm h1
        go_enter Tryz.func81, Tryz.ntmps81
        go_wp2_with (go_at_call 99; refine (sideOk_any _ _).mono ?_; rw [H1.out]; rintro e w' ⟨rfl, rfl⟩)
        go_ret
        exact ⟨rfl, below_of _ _⟩
    · rw [rulesOk_out (by omega)]
      have H1 := Lib.hid h1
      have d3 : decide ((ks.length : Int) < 1) = true := decide_eq_true (by omega)
      clear h hsm h1
      go_enter Tryz.func81, Tryz.ntmps81
      go_wp2_with (go_at_call 99; refine (sideOk_any _ _).mono ?_; rw [H1.out]; rintro e w' ⟨rfl, rfl⟩)
      go_ret
      exact ⟨rfl, below_of _ _⟩
  · rw [rulesOk_out (fun h => h1 h.1)]
    have H1 : Hid (sideB side = false) := Lib.hid (by simpa using h1)
    clear h hsm h1
    go_enter Tryz.func81, Tryz.ntmps81
    go_wp2_with (go_at_call 99; refine (sideOk_any _ _).mono ?_; rw [H1.out]; rintro e w' ⟨rfl, rfl⟩)
    go_ret
    exact ⟨rfl, below_of _ _⟩

set_option maxHeartbeats 2000000 in
theorem sp_rulesOk (side : Int) (A : Option Addr) (c : Nat) (ks : List Kd) (w : World) (h : IsKinds w w.heap.size A ks) (hsm : Small ks) :
    Calls Tryz.prog 69 #[.agg #[.int .i64 side, .slice A ks.length c]] w fun e w' => e = .returned (.bool (rulesOk side ks)) ∧ Below w.heap.size w w' := by
  have HB := Lib.hid (fun k => rulesOk_bad (side := side) (ks := ks) (k := k))
  have HG := Lib.hid (rulesOk_end (side := side) (ks := ks))
  have HSM := Lib.hid hsm
  have hlen1 := hsm.1
  clear hsm
  go_enter Tryz.func69, Tryz.ntmps69
  go_wp2_with fail
  go_loopw [3, 4] (fun n i wr => ∃ k : Nat, k ≤ ks.length ∧ i = .int .i64 k ∧ n = .int .i64 (kings ks k) ∧ (∀ j, j < k → goodK ks j = true) ∧ Blk wr w.heap.size #[.int .i64 side, .slice A ks.length c] 40 ∧ Below w.heap.size w wr) (fun _ i _ => ks.length - (intOf i).toNat)
  case atStart => exact ⟨0, by omega, rfl, rfl, fun j hj => absurd hj (by omega), Blk.new _ _ _, below_of _ _⟩
  case round =>
    obtain ⟨k, hk, rfl, rfl, hg, p0, hbe⟩ := hrel
    obtain ⟨hkb1, hkb2⟩ := kings_bd ks k
    have z1 := p0.lt
    obtain ⟨⟨b0, b1⟩, f0, f1⟩ := p0.at2
    by_cases hlt : k < ks.length
    · obtain ⟨b, off, rfl, hB, hc⟩ := h.below hbe (by omega)
      obtain ⟨S, cc, c0, c1, c2, hst⟩ := hc k hlt
      have z2 : b < wr.heap.size := by omega
      have hk1 : (k : Int) < (ks.length : Int) := by omega
      have hk2 : (0 : Int) ≤ (k : Int) := by omega
      have t1 := hst.more hbe.size
      have hlen := HSM.out.2 k hlt
      clear hst
      go_wp2_with fail
      cases ho : kindOk (kAt ks k).name (kAt ks k).steps
      · have HO := Lib.hid ho
        clear hc ho
        refine wp_region_below (W := wr) (by kernel_rfl) (by kernel_rfl) (Below.refl _ _) ?_
        repeat (first
          | (refine qs_skip (by rfl) ?_; simp only [Act.put, List.setIfInBounds_toArray, List.set_cons_zero, List.set_cons_succ])
          | (apply qs_take
             focus rfl
             focus (
               intro wq hwq
               obtain ⟨hcq, hfq⟩ := bcell hwq
               go_simp
               all_goals first
                 | exact rfl
                 | (go_at_call 92; refine (sp_kindOk _ _ _ _ _ _ ((t1.below hwq).more hwq.size) hlen).mono ?_; rw [HO.out]; exact fun e w2 h => ⟨h.1, hwq.trans (h.2.mono hwq.size)⟩)
                 | (exact ⟨trivial, rfl⟩))
             simp only [Act.put, List.setIfInBounds_toArray, List.set_cons_zero, List.set_cons_succ]))
        refine wpQuiet_nil ?_
        intro wq hwq
        go_wp2_with fail
        go_ret
        exact ⟨rb (HB.out k hlt (goodK_bad HO.out)).symm, hbe.trans (hwq.mono (by omega))⟩
      · have HO := Lib.hid ho
        by_cases hk0 : 0 < k
        · obtain ⟨S', cc', q0, q1, q2, _⟩ := hc (k - 1) (by omega)
          have hk1 : (0 : Int) < (k : Int) := by omega
          have g2 : (1 : Int) ≤ (k : Int) := by omega
          have g2' : (0 : Int) ≤ (k : Int) - 1 := by omega
          have g3 : (k : Int) - 1 < (ks.length : Int) := by omega
          have g4 : ((k : Int) - 1).toNat = k - 1 := by omega
          have g1 : IntKind.i64.wrap ((k : Int) - 1) = (k : Int) - 1 := IntWalk.i64_in _ (by omega)
          clear hc ho
          by_cases hle : (kAt ks (k - 1)).name < (kAt ks k).name
          · have HL := Lib.hid (goodK_next hk0 HO.out (decide_eq_true hle))
            have hd : decide ((kAt ks k).name ≤ (kAt ks (k - 1)).name) = false := decide_eq_false (by omega)
            clear hle
            refine wp_region_below (W := wr) (by kernel_rfl) (by kernel_rfl) (Below.refl _ _) ?_
            repeat (first
              | (refine qs_skip (by rfl) ?_; simp only [Act.put, List.setIfInBounds_toArray, List.set_cons_zero, List.set_cons_succ])
              | (apply qs_take
                 focus rfl
                 focus (
                   intro wq hwq
                   obtain ⟨hcq, hfq⟩ := bcell hwq
                   go_simp
                   all_goals first
                     | exact rfl
                     | (go_at_call 92; refine (sp_kindOk _ _ _ _ _ _ ((t1.below hwq).more hwq.size) hlen).mono ?_; rw [HO.out]; exact fun e w2 h => ⟨h.1, hwq.trans (h.2.mono hwq.size)⟩)
                     | (exact ⟨trivial, rfl⟩))
                 simp only [Act.put, List.setIfInBounds_toArray, List.set_cons_zero, List.set_cons_succ]))
            refine wpQuiet_nil ?_
            intro wq hwq
            clear g1 g4
            have hx := hwq.size
            have d0 := (hwq.cell (p := ⟨b, off + k * 3, none⟩) z2).trans c0
            have d1 := (hwq.cell (p := ⟨b, off + k * 3 + 1, none⟩) z2).trans c1
            have d2 := (hwq.cell (p := ⟨b, off + k * 3 + 2, none⟩) z2).trans c2
            obtain ⟨⟨b0, b1⟩, _⟩ := (p0.below hwq z1).at2
            cases hking : (kAt ks k).king
            · have HK := Lib.hid (kings_no hking)
              go_wp2_with fail
              go_roundw
              case rel => exact ⟨k + 1, by omega, by go_num, by rw [HK.out], all_succ hg HL.out, p0.below hwq z1, hbe.trans (hwq.mono (by omega))⟩
              case measure => simp [intOf]; omega
            · have HK := Lib.hid (kings_yes hking)
              go_wp2_with fail
              go_roundw
              case rel => exact ⟨k + 1, by omega, by go_num, by rw [← HK.out], all_succ hg HL.out, p0.below hwq z1, hbe.trans (hwq.mono (by omega))⟩
              case measure => simp [intOf]; omega
          · have HL := Lib.hid (goodK_next hk0 HO.out (decide_eq_false hle))
            have hd : decide ((kAt ks k).name ≤ (kAt ks (k - 1)).name) = true := decide_eq_true (by omega)
            clear hle
            refine wp_region_below (W := wr) (by kernel_rfl) (by kernel_rfl) (Below.refl _ _) ?_
            repeat (first
              | (refine qs_skip (by rfl) ?_; simp only [Act.put, List.setIfInBounds_toArray, List.set_cons_zero, List.set_cons_succ])
              | (apply qs_take
                 focus rfl
                 focus (
                   intro wq hwq
                   obtain ⟨hcq, hfq⟩ := bcell hwq
                   go_simp
                   all_goals first
                     | exact rfl
                     | (go_at_call 92; refine (sp_kindOk _ _ _ _ _ _ ((t1.below hwq).more hwq.size) hlen).mono ?_; rw [HO.out]; exact fun e w2 h => ⟨h.1, hwq.trans (h.2.mono hwq.size)⟩)
                     | (exact ⟨trivial, rfl⟩))
                 simp only [Act.put, List.setIfInBounds_toArray, List.set_cons_zero, List.set_cons_succ]))
            refine wpQuiet_nil ?_
            intro wq hwq
            clear g1 g4
            go_wp2_with fail
            go_ret
            exact ⟨rb (HB.out k hlt HL.out).symm, hbe.trans (hwq.mono (by omega))⟩
        · have hk1 : decide (0 < k) = false := decide_eq_false (by omega)
          have HL := Lib.hid (goodK_first hk0 HO.out)
          clear hc ho hk0
          refine wp_region_below (W := wr) (by kernel_rfl) (by kernel_rfl) (Below.refl _ _) ?_
          repeat (first
            | (refine qs_skip (by rfl) ?_; simp only [Act.put, List.setIfInBounds_toArray, List.set_cons_zero, List.set_cons_succ])
            | (apply qs_take
               focus rfl
               focus (
                 intro wq hwq
                 obtain ⟨hcq, hfq⟩ := bcell hwq
                 go_simp
                 all_goals first
                   | exact rfl
                   | (go_at_call 92; refine (sp_kindOk _ _ _ _ _ _ ((t1.below hwq).more hwq.size) hlen).mono ?_; rw [HO.out]; exact fun e w2 h => ⟨h.1, hwq.trans (h.2.mono hwq.size)⟩)
                   | (exact ⟨trivial, rfl⟩))
               simp only [Act.put, List.setIfInBounds_toArray, List.set_cons_zero, List.set_cons_succ]))
          refine wpQuiet_nil ?_
          intro wq hwq
          have hx := hwq.size
          have d0 := (hwq.cell (p := ⟨b, off + k * 3, none⟩) z2).trans c0
          have d1 := (hwq.cell (p := ⟨b, off + k * 3 + 1, none⟩) z2).trans c1
          have d2 := (hwq.cell (p := ⟨b, off + k * 3 + 2, none⟩) z2).trans c2
          obtain ⟨⟨b0, b1⟩, _⟩ := (p0.below hwq z1).at2
          cases hking : (kAt ks k).king
          · have HK := Lib.hid (kings_no hking)
            go_wp2_with fail
            go_roundw
            case rel => exact ⟨k + 1, by omega, by go_num, by rw [HK.out], all_succ hg HL.out, p0.below hwq z1, hbe.trans (hwq.mono (by omega))⟩
            case measure => simp [intOf]; omega
          · have HK := Lib.hid (kings_yes hking)
            go_wp2_with fail
            go_roundw
            case rel => exact ⟨k + 1, by omega, by go_num, by rw [← HK.out], all_succ hg HL.out, p0.below hwq z1, hbe.trans (hwq.mono (by omega))⟩
            case measure => simp [intOf]; omega
    · obtain rfl : k = ks.length := by omega
      have HR := Lib.hid (HG.out hg)
      clear hg hlt h HG HB
      go_wp2_with (first | (go_at_call 93; refine (l1Side_any _ _).mono ?_; rintro e w' ⟨rfl, rfl⟩) | (go_at_call 50; refine (in_any _ _ _ _).mono ?_; rintro e w' ⟨rfl, rfl⟩))
      all_goals
        go_ret
        exact ⟨rb (by rw [HR.out]; first | (simp_all; done) | (rw [Bool.eq_iff_iff]; simp_all; done) | (rw [Bool.eq_iff_iff]; simp_all; omega)), hbe⟩
end Go.Proofs.YtcgfklljbblhlaaGreatDoor.Ko
