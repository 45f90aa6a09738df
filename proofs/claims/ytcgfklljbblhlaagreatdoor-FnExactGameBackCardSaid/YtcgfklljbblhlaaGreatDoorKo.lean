/- KindOk and RulesOk. -/
import Derived.Test.YtcgfklljbblhlaaGreatDoorSu
namespace Go.Proofs.YtcgfklljbblhlaaGreatDoor.Ko
open Go.ChangeShapes Go.WideShapes Go.ChangeAt Go.RowKit Base Sq
set_option linter.unusedVariables false
set_option maxRecDepth 20000
attribute [local irreducible] wpQuiet

structure St where
  dx : Int
  dy : Int
  far : Int
def stV (s : St) : Value := .agg #[.int .i64 s.dx, .int .i64 s.dy, .int .i64 s.far]
def stOk (s : St) : Bool := (decide (s.dx ≠ 0) || decide (s.dy ≠ 0)) && inB s.dx (-2) 2 && inB s.dy (-2) 2 && inB s.far 1 3
def stLess (s t : St) : Bool := decide (s.dx < t.dx) || (decide (s.dx = t.dx) && decide (s.dy < t.dy))

theorem stepOk_any (dx dy far : Int) (w : World) :
    Calls Tryz.prog 113 #[.agg #[.int .i64 dx, .int .i64 dy, .int .i64 far]] w fun e w' => e = .returned (.bool (stOk ⟨dx, dy, far⟩)) ∧ Below w.heap.size w w' := by
  go_enter Tryz.func113, Tryz.ntmps113
  go_wp2_with (go_at_call 130; refine (within_any _ _ _ (by omega)).mono ?_; rintro e w' ⟨rfl, rfl⟩)
  all_goals
    go_ret
    exact ⟨rb (by first | (simp [stOk, *]; done) | (simp_all [stOk, inB]; done) | (rw [Bool.eq_iff_iff]; simp_all [stOk, inB]; omega) | (rw [Bool.eq_iff_iff]; simp [stOk, inB, *] at *; omega)), below_of _ _⟩
theorem before_any (dx dy far dx' dy' far' : Int) (w : World) :
    Calls Tryz.prog 114 #[.agg #[.int .i64 dx, .int .i64 dy, .int .i64 far], .agg #[.int .i64 dx', .int .i64 dy', .int .i64 far']] w fun e w' => e = .returned (.bool (stLess ⟨dx, dy, far⟩ ⟨dx', dy', far'⟩)) ∧ Below w.heap.size w w' := by
  go_enter Tryz.func114, Tryz.ntmps114
  go_wp2
  all_goals
    go_ret
    exact ⟨rb (by first | (simp [stLess, *]; done) | (simp [stLess, *]; omega)), (below_of _ _).alloc (by simp) _⟩

def stAt (l : List St) (i : Nat) : St := l.getD i ⟨0, 0, 0⟩
/-- a slice of steps that came in, or that the call made: in blocks below B -/
def IsSteps (w : World) (B : Nat) (A : Option Addr) (l : List St) : Prop :=
  0 < l.length → ∃ b off, A = some ⟨b, off, none⟩ ∧ b < B ∧ ∀ i, i < l.length →
    w.cell? ⟨b, off + i * 3, none⟩ = some (.int .i64 (stAt l i).dx) ∧ w.cell? ⟨b, off + i * 3 + 1, none⟩ = some (.int .i64 (stAt l i).dy) ∧ w.cell? ⟨b, off + i * 3 + 2, none⟩ = some (.int .i64 (stAt l i).far)
theorem IsSteps.keep {w w' : World} {B : Nat} {A : Option Addr} {l : List St} (h : IsSteps w B A l) (hk : ∀ b o, b < B → w'.cell? ⟨b, o, none⟩ = w.cell? ⟨b, o, none⟩) : IsSteps w' B A l := fun hn => by
  obtain ⟨b, off, rfl, hB, hc⟩ := h hn
  exact ⟨b, off, rfl, hB, fun i hi => by simp only [hk b _ hB]; exact hc i hi⟩
theorem IsSteps.below {w w' : World} {B : Nat} {A : Option Addr} {l : List St} (h : IsSteps w B A l) (hb : Below B w w') : IsSteps w' B A l :=
  h.keep fun b o hlt => hb.cell (p := ⟨b, o, none⟩) hlt
theorem IsSteps.more {w : World} {B B' : Nat} {A : Option Addr} {l : List St} (h : IsSteps w B A l) (hB : B ≤ B') : IsSteps w B' A l := fun hn => by
  obtain ⟨b, off, rfl, hb, hc⟩ := h hn
  exact ⟨b, off, rfl, by omega, hc⟩
def goodAt (l : List St) (i : Nat) : Bool := stOk (stAt l i) && (decide (i = 0) || stLess (stAt l (i - 1)) (stAt l i))
def stepsOk (l : List St) : Bool := (List.range l.length).all (goodAt l)
def kindOk (name : Int) (l : List St) : Bool := inB name 65 90 && inB l.length 1 8 && stepsOk l

theorem kindOk_bad {name : Int} {l : List St} {k : Nat} (hk : k < l.length) (hg : goodAt l k = false) : kindOk name l = false := by
  unfold kindOk stepsOk
  rw [Bool.and_eq_false_iff]; right
  rw [List.all_eq_false]
  exact ⟨k, by simpa using hk, by simp [hg]⟩
theorem kindOk_good {name : Int} {l : List St} (h1 : 65 ≤ name ∧ name ≤ 90) (h2 : 1 ≤ l.length ∧ l.length ≤ 8) (hg : ∀ j, j < l.length → goodAt l j = true) : kindOk name l = true := by
  unfold kindOk stepsOk
  rw [inB_yes h1, inB_yes (by omega)]
  simp only [Bool.true_and, List.all_eq_true]
  intro j hj
  exact hg j (by simpa using hj)
theorem kindOk_out {name : Int} {l : List St} (h : ¬ ((65 ≤ name ∧ name ≤ 90) ∧ 1 ≤ l.length ∧ l.length ≤ 8)) : kindOk name l = false := by
  unfold kindOk
  rw [Bool.and_eq_false_iff]; left
  rw [Bool.and_eq_false_iff]
  by_cases h1 : 65 ≤ name ∧ name ≤ 90
  · right; exact inB_no (by omega)
  · left; exact inB_no h1
theorem goodAt_bad {l : List St} {k : Nat} (h : stOk ⟨(stAt l k).dx, (stAt l k).dy, (stAt l k).far⟩ = false) : goodAt l k = false := by
  unfold goodAt; rw [show stOk (stAt l k) = false from h]; rfl
theorem goodAt_first {l : List St} {k : Nat} (hk : ¬ 0 < k) (h : stOk ⟨(stAt l k).dx, (stAt l k).dy, (stAt l k).far⟩ = true) : goodAt l k = true := by
  unfold goodAt; rw [show stOk (stAt l k) = true from h, decide_eq_true (by omega)]; rfl
theorem goodAt_next {l : List St} {k : Nat} {b : Bool} (hk : 0 < k) (h : stOk ⟨(stAt l k).dx, (stAt l k).dy, (stAt l k).far⟩ = true)
    (h2 : stLess ⟨(stAt l (k - 1)).dx, (stAt l (k - 1)).dy, (stAt l (k - 1)).far⟩ ⟨(stAt l k).dx, (stAt l k).dy, (stAt l k).far⟩ = b) : goodAt l k = b := by
  unfold goodAt; rw [show stOk (stAt l k) = true from h, show stLess (stAt l (k - 1)) (stAt l k) = b from h2, decide_eq_false (by omega)]; simp

set_option maxHeartbeats 1000000 in
theorem kindOk_in (name : Int) (king : Bool) (A : Option Addr) (c : Nat) (l : List St) (w : World) (h : IsSteps w w.heap.size A l) (h1 : 65 ≤ name) (h2 : name ≤ 90) (h3 : 1 ≤ l.length) (h4 : l.length ≤ 8) :
    Calls Tryz.prog 100 #[.agg #[.int .i64 name, .bool king, .slice A l.length c]] w fun e w' => e = .returned (.bool (kindOk name l)) ∧ Below w.heap.size w w' := by
  have d1 : decide (name < 65) = false := decide_eq_false (by omega)
  have d2 : decide (90 < name) = false := decide_eq_false (by omega)
  have d3 : decide ((l.length : Int) < 1) = false := decide_eq_false (by omega)
  have d4 : decide (8 < (l.length : Int)) = false := decide_eq_false (by omega)
  have hbad := fun k => kindOk_bad (name := name) (l := l) (k := k)
  have hgood := kindOk_good (name := name) (l := l) ⟨h1, h2⟩ ⟨h3, h4⟩
  have HB := Lib.hid hbad
  have HG := Lib.hid hgood
  clear hbad hgood
  go_enter Tryz.func100, Tryz.ntmps100
  go_wp2_with fail
  go_loopw [28] (fun i wr => ∃ k : Nat, k ≤ l.length ∧ i = .int .i64 k ∧ (∀ j, j < k → goodAt l j = true) ∧ Blk wr w.heap.size #[.int .i64 name, .bool king, .slice A l.length c] 98 ∧ Below w.heap.size w wr) (fun i _ => l.length - (intOf i).toNat)
  case atStart => exact ⟨0, by omega, rfl, fun j hj => absurd hj (by omega), Blk.new _ _ _, below_of _ _⟩
  case round =>
    obtain ⟨k, hk, rfl, hg, hb, hbe⟩ := hrel
    by_cases hlt : k < l.length
    · obtain ⟨b, off, rfl, hB, hc⟩ := h.below hbe (by omega)
      obtain ⟨c0, c1, c2⟩ := hc k hlt
      have hz := hb.lt
      obtain ⟨⟨e0, e1, e2⟩, f0, f1, f2⟩ := hb.at3
      clear hc
      go_wp2_with fail
      have s0 := Blk.new wr #[.int .i64 (stAt l k).dx, .int .i64 (stAt l k).dy, .int .i64 (stAt l k).far] 129
      have p0 := hb.alloc (.cells #[.int .i64 (stAt l k).dx, .int .i64 (stAt l k).dy, .int .i64 (stAt l k).far] 129)
      have hw0 := hbe.alloc (by omega) (.cells #[.int .i64 (stAt l k).dx, .int .i64 (stAt l k).dy, .int .i64 (stAt l k).far] 129)
      have l0 := h.below hw0
      generalize hW1 : wr.alloc _ = W1 at *
      have z0 := s0.lt
      have z1 := p0.lt
      have z2 : b < W1.heap.size := by omega
      obtain ⟨⟨a0, a1, a2⟩, _⟩ := s0.at3
      obtain ⟨⟨b0, b1, b2⟩, _⟩ := p0.at3
      clear hW1 c0 c1 c2 e0 e1 e2 f0 f1 f2 hb
      by_cases ho : stOk ⟨(stAt l k).dx, (stAt l k).dy, (stAt l k).far⟩ = true
      · have HO := Lib.hid ho
        by_cases hk0 : 0 < k
        · obtain ⟨b', off', hA, hB', hc'⟩ := l0 (by omega)
          obtain ⟨q0, q1, q2⟩ := hc' (k - 1) (by omega)
          have hk1 : (0 : Int) < (k : Int) := by omega
          have g2 : (1 : Int) ≤ (k : Int) := by omega
          have g2' : (0 : Int) ≤ (k : Int) - 1 := by omega
          have g3 : (k : Int) - 1 < (l.length : Int) := by omega
          have g4 : ((k : Int) - 1).toNat = k - 1 := by omega
          have g1 : IntKind.i64.wrap ((k : Int) - 1) = (k : Int) - 1 := IntWalk.i64_in _ (by omega)
          obtain ⟨rfl, rfl⟩ : b = b' ∧ off = off' := by injection hA with hA; injection hA with hA hB; exact ⟨hA, hB⟩
          clear hc' hA l0 ho
          cases hle : stLess ⟨(stAt l (k - 1)).dx, (stAt l (k - 1)).dy, (stAt l (k - 1)).far⟩ ⟨(stAt l k).dx, (stAt l k).dy, (stAt l k).far⟩
          · have HL := Lib.hid hle
            clear hle
            refine wp_region_below (W := W1) (by kernel_rfl) (by kernel_rfl) (Below.refl _ _) ?_
            repeat (first
              | (refine qs_skip (by rfl) ?_; simp only [Act.put, List.setIfInBounds_toArray, List.set_cons_zero, List.set_cons_succ])
              | (apply qs_take
                 focus rfl
                 focus (
                   intro wq hwq
                   obtain ⟨hcq, hfq⟩ := bcell hwq
                   go_simp
                   all_goals first
                     | exact rfl
                     | (go_at_call 113; refine (stepOk_any _ _ _ _).mono ?_; rw [HO.out]; exact fun e w2 h => ⟨h.1, hwq.trans (h.2.mono hwq.size)⟩)
                     | (go_at_call 114; refine (before_any _ _ _ _ _ _ _).mono ?_; rw [HL.out]; exact fun e w2 h => ⟨h.1, hwq.trans (h.2.mono hwq.size)⟩)
                     | (exact ⟨trivial, rfl⟩))
                 simp only [Act.put, List.setIfInBounds_toArray, List.set_cons_zero, List.set_cons_succ]))
            refine wpQuiet_nil ?_
            intro wq hwq
            clear g1 g4
            go_wp2_with fail
            go_ret
            exact ⟨rb (HB.out k hlt (goodAt_next hk0 HO.out HL.out)).symm, hw0.trans (hwq.mono (by omega))⟩
          · have HL := Lib.hid hle
            clear hle
            refine wp_region_below (W := W1) (by kernel_rfl) (by kernel_rfl) (Below.refl _ _) ?_
            repeat (first
              | (refine qs_skip (by rfl) ?_; simp only [Act.put, List.setIfInBounds_toArray, List.set_cons_zero, List.set_cons_succ])
              | (apply qs_take
                 focus rfl
                 focus (
                   intro wq hwq
                   obtain ⟨hcq, hfq⟩ := bcell hwq
                   go_simp
                   all_goals first
                     | exact rfl
                     | (go_at_call 113; refine (stepOk_any _ _ _ _).mono ?_; rw [HO.out]; exact fun e w2 h => ⟨h.1, hwq.trans (h.2.mono hwq.size)⟩)
                     | (go_at_call 114; refine (before_any _ _ _ _ _ _ _).mono ?_; rw [HL.out]; exact fun e w2 h => ⟨h.1, hwq.trans (h.2.mono hwq.size)⟩)
                     | (exact ⟨trivial, rfl⟩))
                 simp only [Act.put, List.setIfInBounds_toArray, List.set_cons_zero, List.set_cons_succ]))
            refine wpQuiet_nil ?_
            intro wq hwq
            clear g1 g4
            go_wp2_with fail
            go_roundw
            case rel => exact ⟨k + 1, by omega, by go_num, all_succ hg (goodAt_next hk0 HO.out HL.out), p0.below hwq z1, hw0.trans (hwq.mono (by omega))⟩
            case measure => simp [intOf]; omega
        · have hk1 : decide (0 < k) = false := decide_eq_false (by omega)
          have HK := Lib.hid hk0
          clear l0 ho hk0
          refine wp_region_below (W := W1) (by kernel_rfl) (by kernel_rfl) (Below.refl _ _) ?_
          repeat (first
            | (refine qs_skip (by rfl) ?_; simp only [Act.put, List.setIfInBounds_toArray, List.set_cons_zero, List.set_cons_succ])
            | (apply qs_take
               focus rfl
               focus (
                 intro wq hwq
                 obtain ⟨hcq, hfq⟩ := bcell hwq
                 go_simp
                 all_goals first
                   | exact rfl
                   | (go_at_call 113; refine (stepOk_any _ _ _ _).mono ?_; rw [HO.out]; exact fun e w2 h => ⟨h.1, hwq.trans (h.2.mono hwq.size)⟩)
                   | (exact ⟨trivial, rfl⟩))
               simp only [Act.put, List.setIfInBounds_toArray, List.set_cons_zero, List.set_cons_succ]))
          refine wpQuiet_nil ?_
          intro wq hwq
          go_wp2_with fail
          go_roundw
          case rel => exact ⟨k + 1, by omega, by go_num, all_succ hg (goodAt_first HK.out HO.out), p0.below hwq z1, hw0.trans (hwq.mono (by omega))⟩
          case measure => simp [intOf]; omega
      · have HO : Hid (stOk ⟨(stAt l k).dx, (stAt l k).dy, (stAt l k).far⟩ = false) := Lib.hid (by simpa using ho)
        clear l0 ho
        refine wp_region_below (W := W1) (by kernel_rfl) (by kernel_rfl) (Below.refl _ _) ?_
        repeat (first
          | (refine qs_skip (by rfl) ?_; simp only [Act.put, List.setIfInBounds_toArray, List.set_cons_zero, List.set_cons_succ])
          | (apply qs_take
             focus rfl
             focus (
               intro wq hwq
               obtain ⟨hcq, hfq⟩ := bcell hwq
               go_simp
               all_goals first
                 | exact rfl
                 | (go_at_call 113; refine (stepOk_any _ _ _ _).mono ?_; rw [HO.out]; exact fun e w2 h => ⟨h.1, hwq.trans (h.2.mono hwq.size)⟩)
                 | (exact ⟨trivial, rfl⟩))
             simp only [Act.put, List.setIfInBounds_toArray, List.set_cons_zero, List.set_cons_succ]))
        refine wpQuiet_nil ?_
        intro wq hwq
        go_wp2_with fail
        go_ret
        exact ⟨rb (HB.out k hlt (goodAt_bad HO.out)).symm, hw0.trans (hwq.mono (by omega))⟩
    · obtain rfl : k = l.length := by omega
      go_wp2_with fail
      go_ret
      exact ⟨rb (HG.out hg).symm, hbe⟩
theorem kindOk_any (name : Int) (king : Bool) (A : Option Addr) (c : Nat) (l : List St) (w : World) (h : IsSteps w w.heap.size A l) (hl : l.length ≤ 1048576) :
    Calls Tryz.prog 100 #[.agg #[.int .i64 name, .bool king, .slice A l.length c]] w fun e w' => e = .returned (.bool (kindOk name l)) ∧ Below w.heap.size w w' := by
  by_cases h1 : 65 ≤ name
  · by_cases h2 : name ≤ 90
    · by_cases h3 : 1 ≤ l.length
      · by_cases h4 : l.length ≤ 8
        · exact kindOk_in name king A c l w h h1 h2 h3 h4
        · rw [kindOk_out (by omega)]
          have d1 : decide (name < 65) = false := decide_eq_false (by omega)
          have d2 : decide (90 < name) = false := decide_eq_false (by omega)
          have d3 : decide ((l.length : Int) < 1) = false := decide_eq_false (by omega)
          have d4 : decide (8 < (l.length : Int)) = true := decide_eq_true (by omega)
          clear h
          go_enter Tryz.func100, Tryz.ntmps100
          go_wp2_with fail
          go_ret
          exact ⟨rfl, below_of _ _⟩
      · rw [kindOk_out (by omega)]
        have d1 : decide (name < 65) = false := decide_eq_false (by omega)
        have d2 : decide (90 < name) = false := decide_eq_false (by omega)
        have d3 : decide ((l.length : Int) < 1) = true := decide_eq_true (by omega)
        clear h
        go_enter Tryz.func100, Tryz.ntmps100
        go_wp2_with fail
        go_ret
        exact ⟨rfl, below_of _ _⟩
    · rw [kindOk_out (by omega)]
      have d1 : decide (name < 65) = false := decide_eq_false (by omega)
      have d2 : decide (90 < name) = true := decide_eq_true (by omega)
      clear h
      go_enter Tryz.func100, Tryz.ntmps100
      go_wp2_with fail
      go_ret
      exact ⟨rfl, below_of _ _⟩
  · rw [kindOk_out (by omega)]
    have d1 : decide (name < 65) = true := decide_eq_true (by omega)
    clear h
    go_enter Tryz.func100, Tryz.ntmps100
    go_wp2_with fail
    go_ret
    exact ⟨rfl, below_of _ _⟩
end Go.Proofs.YtcgfklljbblhlaaGreatDoor.Ko
