/- Whether men are in order and each player has one king: the model. -/
import Derived.Test.YtcgfklljbblhlaaGreatDoorMo
import Derived.StillTailTactics
namespace Go.Proofs.YtcgfklljbblhlaaGreatDoor.Ko
open Go.ChangeShapes Go.WideShapes Go.ChangeAt Go.RowKit Base Sq
set_option linter.unusedVariables false
set_option maxRecDepth 20000
attribute [local irreducible] wpQuiet

theorem goodM_in {side : Int} {ks : List Kd} {l : List St} {i : Nat} {b1 b2 b3 : Bool} (h1 : inB (stAt l i).dx 0 (ks.length - 1) = b1) (h2 : inB (stAt l i).dy 0 1 = b2) (h3 : inB (stAt l i).far 0 (side * side - 1) = b3) :
    goodM side ks l i = (b1 && b2 && b3 && (decide (i = 0) || decide ((stAt l (i - 1)).far < (stAt l i).far))) := by unfold goodM; rw [h1, h2, h3]
theorem inB_facts {n lo hi : Int} (h : inB n lo hi = true) : lo ≤ n ∧ n ≤ hi := of_decide_eq_true h
theorem shapeB_bad {side t : Int} {ks : List Kd} {l : List St} {k : Nat} (hk : k < l.length) (h : goodM side ks l k = false) : shapeB side ks t l = false := by rw [shape_men, menB_bad hk h]; simp
theorem shapeB_end {side t : Int} {ks : List Kd} {l : List St} (h : ∀ j, j < l.length → goodM side ks l j = true) :
    shapeB side ks t l = (inB t 0 1 && decide (l.length ≤ 4) && decide (cntK ks l 0 l.length = 1) && decide (cntK ks l 1 l.length = 1)) := by
  unfold shapeB
  rw [show (List.range l.length).all (goodM side ks l) = true from by rw [List.all_eq_true]; intro j hj; exact h j (by simpa using hj)]; simp

set_option maxHeartbeats 8000000 in
theorem l3Shape_any (side : Int) (A : Option Addr) (c : Nat) (ks : List Kd) (t : Int) (M : Option Addr) (cm : Nat) (l : List St) (w : World) (hR : IsKinds w w.heap.size A ks) (hM : IsSteps w w.heap.size M l)
    (hok : rulesOk side ks = true) (hl : l.length ≤ 1048576) :
    Calls Tryz.prog 94 #[.agg #[.int .i64 side, .slice A ks.length c], .agg #[.int .i64 t, .slice M l.length cm]] w fun e w' => e = .returned (.bool (shapeB side ks t l)) ∧ Below w.heap.size w w' := by
  obtain ⟨hs, hk1, hk4, hkk, _⟩ := rulesOk_facts hok
  have hss : 4 ≤ side * side ∧ side * side ≤ 16 := by rcases hs with rfl | rfl | rfl <;> omega
  obtain ⟨hss1, hss2⟩ := hss
  have hw1 : IntKind.i64.wrap (side * side) = side * side := IntWalk.i64_in _ (by omega)
  have hw2 : IntKind.i64.wrap (side * side - 1) = side * side - 1 := IntWalk.i64_in _ (by omega)
  have HW := Lib.hid (And.intro hw1 hw2)
  have HB := Lib.hid (fun k => shapeB_bad (side := side) (ks := ks) (l := l) (t := t) (k := k))
  have HE := Lib.hid (shapeB_end (side := side) (ks := ks) (l := l) (t := t))
  clear hs hkk hok hw1 hw2
  go_enter Tryz.func94, Tryz.ntmps94
  go_wp2_with fail
  have p1 := ((Blk.new w #[.int .i64 side, .slice A ks.length c] 40).alloc (.cells #[.int .i64 t, .slice M l.length cm] 35)).alloc (.cells #[.int .i64 0, .int .i64 0] 3)
  have p2 := (Blk.new (w.alloc (.cells #[.int .i64 side, .slice A ks.length c] 40)) #[.int .i64 t, .slice M l.length cm] 35).alloc (.cells #[.int .i64 0, .int .i64 0] 3)
  have p3 := Blk.new ((w.alloc (.cells #[.int .i64 side, .slice A ks.length c] 40)).alloc (.cells #[.int .i64 t, .slice M l.length cm] 35)) #[.int .i64 0, .int .i64 0] 3
  simp only [World.size_alloc] at p2 p3
  go_loopw [6] (fun i wr => ∃ k : Nat, k ≤ l.length ∧ i = .int .i64 k ∧ Hid (∀ j, j < k → goodM side ks l j = true) ∧ Blk wr w.heap.size #[.int .i64 side, .slice A ks.length c] 40 ∧
    Blk wr (w.heap.size + 1) #[.int .i64 t, .slice M l.length cm] 35 ∧ Blk wr (w.heap.size + 1 + 1) #[.int .i64 (cntK ks l 0 k), .int .i64 (cntK ks l 1 k)] 3 ∧ Below w.heap.size w wr) (fun i _ => l.length - (intOf i).toNat)
  case atStart => exact ⟨0, by omega, rfl, Lib.hid (fun j hj => absurd hj (by omega)), p1, p2, p3, (by repeat (first | exact Below.refl _ _ | assumption | (refine Below.alloc ?_ (by first | omega | (simp; done) | (simp; omega)) _) | (refine Below.setCell ?_ (by first | omega | (simp; done) | (simp; omega)) _) | refine Below.drew ?_))⟩
  case round =>
    clear p1 p2 p3
    obtain ⟨k, hk, rfl, hg, p1, p2, p3, hbe⟩ := hrel
    obtain ⟨⟨r0, r1⟩, _⟩ := p1.at2
    obtain ⟨⟨o0, o1⟩, _⟩ := p2.at2
    obtain ⟨⟨c0, c1⟩, f0, f1⟩ := p3.at2
    have z1 := p1.lt
    have z2 := p2.lt
    have z3 := p3.lt
    have hz := hbe.size
    by_cases hlt : k < l.length
    · obtain ⟨b, off, rfl, hB, hc⟩ := hM.below hbe (by omega)
      obtain ⟨s0, s1, s2⟩ := hc k hlt
      have z4 : b < wr.heap.size := by omega
      go_wp2_with fail
      have q1 := Blk.new wr #[.int .i64 (stAt l k).dx, .int .i64 (stAt l k).dy, .int .i64 (stAt l k).far] 105
      have p4 := p1.alloc (.cells #[.int .i64 (stAt l k).dx, .int .i64 (stAt l k).dy, .int .i64 (stAt l k).far] 105)
      have p5 := p2.alloc (.cells #[.int .i64 (stAt l k).dx, .int .i64 (stAt l k).dy, .int .i64 (stAt l k).far] 105)
      have p6 := p3.alloc (.cells #[.int .i64 (stAt l k).dx, .int .i64 (stAt l k).dy, .int .i64 (stAt l k).far] 105)
      have hb2 := hbe.alloc hz (.cells #[.int .i64 (stAt l k).dx, .int .i64 (stAt l k).dy, .int .i64 (stAt l k).far] 105)
      have y5' : w.heap.size + 1 + 1 < wr.heap.size := z3
      generalize hW2 : wr.alloc _ = W2 at *
      generalize hbk : wr.heap.size = bk at *
      obtain ⟨b', off', hA, hB', hc'⟩ := hM.below hb2 (by omega)
      obtain ⟨rfl, rfl⟩ : b = b' ∧ off = off' := by injection hA with hA; injection hA with h1 h2; exact ⟨h1, h2⟩
      have t1 := (hR.below hb2).more hb2.size
      clear hW2 hbk hA hc s0 s1 s2 p1 p2 p3 r0 r1 o0 o1 c0 c1 f0 f1 hbe
      obtain ⟨⟨a0, a1, a2⟩, _⟩ := q1.at3
      obtain ⟨⟨r0, r1⟩, _⟩ := p4.at2
      obtain ⟨⟨o0, o1⟩, _⟩ := p5.at2
      have y1 := p4.lt
      have y2 := p5.lt
      have y3 := p6.lt
      have y6 := q1.lt
      have hz2 := hb2.size
      have y4 : b < W2.heap.size := by omega
      obtain ⟨hw1, hw2⟩ := HW.out
      have hw3 : IntKind.i64.wrap ((ks.length : Int) - 1) = (ks.length : Int) - 1 := IntWalk.i64_in _ (by omega)
      have HG0 := Lib.hid (fun b1 b2 b3 => goodM_in (side := side) (ks := ks) (l := l) (i := k) (b1 := b1) (b2 := b2) (b3 := b3))
      cases e1 : inB (stAt l k).dx 0 (ks.length - 1)
      · have E1 := Lib.hid e1
        have HG := Lib.hid (show goodM side ks l k = false by rw [HG0.out _ _ _ e1 rfl rfl]; simp)
        clear e1 hc'
        refine wp_region_below (W := W2) (by kernel_rfl) (by kernel_rfl) (Below.refl _ _) ?_
        repeat (first
          | (refine qs_skip (by rfl) ?_; simp only [Act.put, List.setIfInBounds_toArray, List.set_cons_zero, List.set_cons_succ])
          | (apply qs_take
             focus rfl
             focus (
               intro wq hwq
               obtain ⟨hcq, hfq⟩ := bcell hwq
               go_simp
               all_goals first
                 | exact rfl
                 | (go_at_call 50; refine (in_any _ _ _ _).mono ?_; rw [E1.out]; exact fun e w2 h => ⟨h.1, h.2 ▸ hwq⟩)
                 | (exact ⟨trivial, rfl⟩))
             simp only [Act.put, List.setIfInBounds_toArray, List.set_cons_zero, List.set_cons_succ]))
        refine wpQuiet_nil ?_
        intro wq hwq
        go_wp2_with fail
        go_ret
        exact ⟨rb (HB.out k hlt HG.out).symm, hb2.trans (hwq.mono hz2)⟩
      · cases e2 : inB (stAt l k).dy 0 1
        · have E1 := Lib.hid e1
          have E2 := Lib.hid e2
          have HG := Lib.hid (show goodM side ks l k = false by rw [HG0.out _ _ _ e1 e2 rfl]; simp)
          clear e1 e2 hc'
          refine wp_region_below (W := W2) (by kernel_rfl) (by kernel_rfl) (Below.refl _ _) ?_
          repeat (first
            | (refine qs_skip (by rfl) ?_; simp only [Act.put, List.setIfInBounds_toArray, List.set_cons_zero, List.set_cons_succ])
            | (apply qs_take
               focus rfl
               focus (
                 intro wq hwq
                 obtain ⟨hcq, hfq⟩ := bcell hwq
                 go_simp
                 all_goals first
                   | exact rfl
                   | (go_at_call 50; refine (in_any _ _ _ _).mono ?_; rw [E1.out]; exact fun e w2 h => ⟨h.1, h.2 ▸ hwq⟩)
                   | (go_at_call 50; refine (in_any _ _ _ _).mono ?_; rw [E2.out]; exact fun e w2 h => ⟨h.1, h.2 ▸ hwq⟩)
                   | (exact ⟨trivial, rfl⟩))
               simp only [Act.put, List.setIfInBounds_toArray, List.set_cons_zero, List.set_cons_succ]))
          refine wpQuiet_nil ?_
          intro wq hwq
          go_wp2_with fail
          go_ret
          exact ⟨rb (HB.out k hlt HG.out).symm, hb2.trans (hwq.mono hz2)⟩
        · cases e3 : inB (stAt l k).far 0 (side * side - 1)
          · have E1 := Lib.hid e1
            have E2 := Lib.hid e2
            have E3 := Lib.hid e3
            have HG := Lib.hid (show goodM side ks l k = false by rw [HG0.out _ _ _ e1 e2 e3]; simp)
            clear e1 e2 e3 hc'
            refine wp_region_below (W := W2) (by kernel_rfl) (by kernel_rfl) (Below.refl _ _) ?_
            repeat (first
              | (refine qs_skip (by rfl) ?_; simp only [Act.put, List.setIfInBounds_toArray, List.set_cons_zero, List.set_cons_succ])
              | (apply qs_take
                 focus rfl
                 focus (
                   intro wq hwq
                   obtain ⟨hcq, hfq⟩ := bcell hwq
                   go_simp
                   all_goals first
                     | exact rfl
                     | (go_at_call 50; refine (in_any _ _ _ _).mono ?_; rw [E1.out]; exact fun e w2 h => ⟨h.1, h.2 ▸ hwq⟩)
                     | (go_at_call 50; refine (in_any _ _ _ _).mono ?_; rw [E2.out]; exact fun e w2 h => ⟨h.1, h.2 ▸ hwq⟩)
                     | (go_at_call 50; refine (in_any _ _ _ _).mono ?_; rw [E3.out]; exact fun e w2 h => ⟨h.1, h.2 ▸ hwq⟩)
                     | (exact ⟨trivial, rfl⟩))
                 simp only [Act.put, List.setIfInBounds_toArray, List.set_cons_zero, List.set_cons_succ]))
            refine wpQuiet_nil ?_
            intro wq hwq
            go_wp2_with fail
            go_ret
            exact ⟨rb (HB.out k hlt HG.out).symm, hb2.trans (hwq.mono hz2)⟩
          · have E1 := Lib.hid e1
            have E2 := Lib.hid e2
            have E3 := Lib.hid e3
            obtain ⟨n1, n2⟩ := inB_facts e1
            obtain ⟨n3, n4⟩ := inB_facts e2
            by_cases hk0 : 0 < k
            · obtain ⟨q0, q1', q2⟩ := hc' (k - 1) (by omega)
              have hk1' : (0 : Int) < (k : Int) := by omega
              have g2 : (1 : Int) ≤ (k : Int) := by omega
              have g2' : (0 : Int) ≤ (k : Int) - 1 := by omega
              have g3 : (k : Int) - 1 < (l.length : Int) := by omega
              have g4 : ((k : Int) - 1).toNat = k - 1 := by omega
              have g1 : IntKind.i64.wrap ((k : Int) - 1) = (k : Int) - 1 := IntWalk.i64_in _ (by omega)
              by_cases hle : (stAt l (k - 1)).far < (stAt l k).far
              · have HG := Lib.hid (show goodM side ks l k = true by rw [HG0.out _ _ _ e1 e2 e3, decide_eq_false (show ¬ k = 0 by omega), decide_eq_true hle]; rfl)
                have hd3 : decide ((stAt l k).far ≤ (stAt l (k - 1)).far) = false := decide_eq_false (by omega)
                clear hle e1 e2 e3 hc'
                refine wp_region_below (W := W2) (by kernel_rfl) (by kernel_rfl) (Below.refl _ _) ?_
                repeat (first
                  | (refine qs_skip (by rfl) ?_; simp only [Act.put, List.setIfInBounds_toArray, List.set_cons_zero, List.set_cons_succ])
                  | (apply qs_take
                     focus rfl
                     focus (
                       intro wq hwq
                       obtain ⟨hcq, hfq⟩ := bcell hwq
                       go_simp
                       all_goals first
                         | exact rfl
                         | (go_at_call 50; refine (in_any _ _ _ _).mono ?_; rw [E1.out]; exact fun e w2 h => ⟨h.1, h.2 ▸ hwq⟩)
                         | (go_at_call 50; refine (in_any _ _ _ _).mono ?_; rw [E2.out]; exact fun e w2 h => ⟨h.1, h.2 ▸ hwq⟩)
                         | (go_at_call 50; refine (in_any _ _ _ _).mono ?_; rw [E3.out]; exact fun e w2 h => ⟨h.1, h.2 ▸ hwq⟩)
                         | (exact ⟨trivial, rfl⟩))
                     simp only [Act.put, List.setIfInBounds_toArray, List.set_cons_zero, List.set_cons_succ]))
                refine wpQuiet_nil ?_
                intro wq hwq
                clear g1 g4 hw1 hw2 hw3
                have p4 := p4.below hwq y1
                have p5 := p5.below hwq y2
                have p6 := p6.below hwq y3
                have q1 := q1.below hwq y6
                have hb3 := hb2.trans (hwq.mono hz2)
                have t3 := (t1.below hwq).more hwq.size
                obtain ⟨⟨r0, r1⟩, _⟩ := p4.at2
                obtain ⟨⟨a0, a1, a2⟩, _⟩ := q1.at3
                have y1 := p4.lt
                have y2 := p5.lt
                have y3 := p6.lt
                have y6 := q1.lt
                have hz3 := hb3.size
                clear hwq hb2 t1
                obtain ⟨cb1, cb2⟩ := cntK_bd ks l 0 k
                obtain ⟨cb3, cb4⟩ := cntK_bd ks l 1 k
                go_wp2_with fail
                by_cases hkg : (stAt l k).dx = kingV ks
                · have hd4 : ((stAt l k).dx == kingV ks) = true := by simp [hkg]
                  have HK2 := Lib.hid hkg
                  clear hkg
                  refine wp_region_below (W := wq) (by kernel_rfl) (by kernel_rfl) (Below.refl _ _) ?_
                  repeat (first
                    | (refine qs_skip (by rfl) ?_; simp only [Act.put, List.setIfInBounds_toArray, List.set_cons_zero, List.set_cons_succ])
                    | (apply qs_take
                       focus rfl
                       focus (
                         intro wq hwq
                         obtain ⟨hcq, hfq⟩ := bcell hwq
                         go_simp
                         all_goals first
                           | exact rfl
                           | (go_at_call 72; refine (l2King_any _ _ _ _ _ ((t3.below hwq).more hwq.size) (by omega)).mono ?_; exact fun e w2 h => ⟨h.1, hwq.trans (h.2.mono hwq.size)⟩)
                           | (exact ⟨trivial, rfl⟩))
                       simp only [Act.put, List.setIfInBounds_toArray, List.set_cons_zero, List.set_cons_succ]))
                  refine wpQuiet_nil ?_
                  intro wq hwq
                  have p4 := p4.below hwq y1
                  have p5 := p5.below hwq y2
                  have p6 := p6.below hwq y3
                  have q1 := q1.below hwq y6
                  have hb3 := hb3.trans (hwq.mono hz3)
                  have hz3 := hb3.size
                  obtain ⟨⟨c0, c1⟩, f0, f1⟩ := p6.at2
                  obtain ⟨⟨a0, a1, a2⟩, _⟩ := q1.at3
                  clear hwq
                  go_wp2_with fail
                  rcases (show (stAt l k).dy = 0 ∨ (stAt l k).dy = 1 by omega) with hdy | hdy
                  · have e0 := cntK_hit (ks := ks) (l := l) hdy HK2.out
                    have e1 := cntK_other (ks := ks) (l := l) (o := 1) (k := k) (by omega)
                    have E := Lib.hid (And.intro e0 e1)
                    clear e0 e1
                    go_still_tail 10, (by kernel_rfl)
                    change wpList _ _ _ _ _ wq.drew
                    have p4 := p4.drew
                    have p5 := p5.drew
                    have p6 := p6.drew
                    have hb3 := hb3.drew
                    generalize wq.drew = wd at *
                    obtain ⟨⟨c0, c1⟩, f0, f1⟩ := p6.at2
                    go_wp2_with fail
                    go_roundw
                    case rel => exact ⟨k + 1, by omega, by go_num, Lib.hid (all_succ hg.out HG.out), p4.other _ _ (by first | (simp; done) | (simp; omega) | omega), p5.other _ _ (by first | (simp; done) | (simp; omega) | omega), by rw [E.out.1, E.out.2]; exact p6.set 0 _, hb3.setCell (by simp; omega) _⟩
                    case measure => simp [intOf]; omega
                  · have e0 := cntK_hit (ks := ks) (l := l) hdy HK2.out
                    have e1 := cntK_other (ks := ks) (l := l) (o := 0) (k := k) (by omega)
                    have E := Lib.hid (And.intro e0 e1)
                    clear e0 e1
                    go_still_tail 10, (by kernel_rfl)
                    change wpList _ _ _ _ _ wq.drew
                    have p4 := p4.drew
                    have p5 := p5.drew
                    have p6 := p6.drew
                    have hb3 := hb3.drew
                    generalize wq.drew = wd at *
                    obtain ⟨⟨c0, c1⟩, f0, f1⟩ := p6.at2
                    go_wp2_with fail
                    go_roundw
                    case rel => exact ⟨k + 1, by omega, by go_num, Lib.hid (all_succ hg.out HG.out), p4.other _ _ (by first | (simp; done) | (simp; omega) | omega), p5.other _ _ (by first | (simp; done) | (simp; omega) | omega), by rw [E.out.1, E.out.2]; exact p6.set 1 _, hb3.setCell (by simp; omega) _⟩
                    case measure => simp [intOf]; omega
                · have hd4 : ((stAt l k).dx == kingV ks) = false := by simp [hkg]
                  have HNK := Lib.hid hkg
                  clear hkg
                  refine wp_region_below (W := wq) (by kernel_rfl) (by kernel_rfl) (Below.refl _ _) ?_
                  repeat (first
                    | (refine qs_skip (by rfl) ?_; simp only [Act.put, List.setIfInBounds_toArray, List.set_cons_zero, List.set_cons_succ])
                    | (apply qs_take
                       focus rfl
                       focus (
                         intro wq hwq
                         obtain ⟨hcq, hfq⟩ := bcell hwq
                         go_simp
                         all_goals first
                           | exact rfl
                           | (go_at_call 72; refine (l2King_any _ _ _ _ _ ((t3.below hwq).more hwq.size) (by omega)).mono ?_; exact fun e w2 h => ⟨h.1, hwq.trans (h.2.mono hwq.size)⟩)
                           | (exact ⟨trivial, rfl⟩))
                       simp only [Act.put, List.setIfInBounds_toArray, List.set_cons_zero, List.set_cons_succ]))
                  refine wpQuiet_nil ?_
                  intro wq hwq
                  go_wp2_with fail
                  go_roundw
                  case rel => exact ⟨k + 1, by omega, by go_num, Lib.hid (all_succ hg.out HG.out), p4.below hwq y1, p5.below hwq y2, by rw [cntK_no HNK.out, cntK_no HNK.out]; exact p6.below hwq y3, hb3.trans (hwq.mono hz3)⟩
                  case measure => simp [intOf]; omega
              · have HG := Lib.hid (show goodM side ks l k = false by rw [HG0.out _ _ _ e1 e2 e3, decide_eq_false (show ¬ k = 0 by omega), decide_eq_false hle]; rfl)
                have hd3 : decide ((stAt l k).far ≤ (stAt l (k - 1)).far) = true := decide_eq_true (by omega)
                clear hle e1 e2 e3 hc'
                refine wp_region_below (W := W2) (by kernel_rfl) (by kernel_rfl) (Below.refl _ _) ?_
                repeat (first
                  | (refine qs_skip (by rfl) ?_; simp only [Act.put, List.setIfInBounds_toArray, List.set_cons_zero, List.set_cons_succ])
                  | (apply qs_take
                     focus rfl
                     focus (
                       intro wq hwq
                       obtain ⟨hcq, hfq⟩ := bcell hwq
                       go_simp
                       all_goals first
                         | exact rfl
                         | (go_at_call 50; refine (in_any _ _ _ _).mono ?_; rw [E1.out]; exact fun e w2 h => ⟨h.1, h.2 ▸ hwq⟩)
                         | (go_at_call 50; refine (in_any _ _ _ _).mono ?_; rw [E2.out]; exact fun e w2 h => ⟨h.1, h.2 ▸ hwq⟩)
                         | (go_at_call 50; refine (in_any _ _ _ _).mono ?_; rw [E3.out]; exact fun e w2 h => ⟨h.1, h.2 ▸ hwq⟩)
                         | (exact ⟨trivial, rfl⟩))
                     simp only [Act.put, List.setIfInBounds_toArray, List.set_cons_zero, List.set_cons_succ]))
                refine wpQuiet_nil ?_
                intro wq hwq
                clear g1 g4 hw1 hw2 hw3
                go_wp2_with fail
                go_ret
                exact ⟨rb (HB.out k hlt HG.out).symm, hb2.trans (hwq.mono hz2)⟩
            · have HG := Lib.hid (show goodM side ks l k = true by rw [HG0.out _ _ _ e1 e2 e3, decide_eq_true (show k = 0 by omega)]; rfl)
              have hk1' : decide (0 < k) = false := decide_eq_false (by omega)
              clear e1 e2 e3 hc' hk0
              refine wp_region_below (W := W2) (by kernel_rfl) (by kernel_rfl) (Below.refl _ _) ?_
              repeat (first
                | (refine qs_skip (by rfl) ?_; simp only [Act.put, List.setIfInBounds_toArray, List.set_cons_zero, List.set_cons_succ])
                | (apply qs_take
                   focus rfl
                   focus (
                     intro wq hwq
                     obtain ⟨hcq, hfq⟩ := bcell hwq
                     go_simp
                     all_goals first
                       | exact rfl
                       | (go_at_call 50; refine (in_any _ _ _ _).mono ?_; rw [E1.out]; exact fun e w2 h => ⟨h.1, h.2 ▸ hwq⟩)
                       | (go_at_call 50; refine (in_any _ _ _ _).mono ?_; rw [E2.out]; exact fun e w2 h => ⟨h.1, h.2 ▸ hwq⟩)
                       | (go_at_call 50; refine (in_any _ _ _ _).mono ?_; rw [E3.out]; exact fun e w2 h => ⟨h.1, h.2 ▸ hwq⟩)
                       | (exact ⟨trivial, rfl⟩))
                   simp only [Act.put, List.setIfInBounds_toArray, List.set_cons_zero, List.set_cons_succ]))
              refine wpQuiet_nil ?_
              intro wq hwq
              clear hw1 hw2 hw3
              have p4 := p4.below hwq y1
              have p5 := p5.below hwq y2
              have p6 := p6.below hwq y3
              have q1 := q1.below hwq y6
              have hb3 := hb2.trans (hwq.mono hz2)
              have t3 := (t1.below hwq).more hwq.size
              obtain ⟨⟨r0, r1⟩, _⟩ := p4.at2
              obtain ⟨⟨a0, a1, a2⟩, _⟩ := q1.at3
              have y1 := p4.lt
              have y2 := p5.lt
              have y3 := p6.lt
              have y6 := q1.lt
              have hz3 := hb3.size
              clear hwq hb2 t1
              obtain ⟨cb1, cb2⟩ := cntK_bd ks l 0 k
              obtain ⟨cb3, cb4⟩ := cntK_bd ks l 1 k
              go_wp2_with fail
              by_cases hkg : (stAt l k).dx = kingV ks
              · have hd4 : ((stAt l k).dx == kingV ks) = true := by simp [hkg]
                have HK2 := Lib.hid hkg
                clear hkg
                refine wp_region_below (W := wq) (by kernel_rfl) (by kernel_rfl) (Below.refl _ _) ?_
                repeat (first
                  | (refine qs_skip (by rfl) ?_; simp only [Act.put, List.setIfInBounds_toArray, List.set_cons_zero, List.set_cons_succ])
                  | (apply qs_take
                     focus rfl
                     focus (
                       intro wq hwq
                       obtain ⟨hcq, hfq⟩ := bcell hwq
                       go_simp
                       all_goals first
                         | exact rfl
                         | (go_at_call 72; refine (l2King_any _ _ _ _ _ ((t3.below hwq).more hwq.size) (by omega)).mono ?_; exact fun e w2 h => ⟨h.1, hwq.trans (h.2.mono hwq.size)⟩)
                         | (exact ⟨trivial, rfl⟩))
                     simp only [Act.put, List.setIfInBounds_toArray, List.set_cons_zero, List.set_cons_succ]))
                refine wpQuiet_nil ?_
                intro wq hwq
                have p4 := p4.below hwq y1
                have p5 := p5.below hwq y2
                have p6 := p6.below hwq y3
                have q1 := q1.below hwq y6
                have hb3 := hb3.trans (hwq.mono hz3)
                have hz3 := hb3.size
                obtain ⟨⟨c0, c1⟩, f0, f1⟩ := p6.at2
                obtain ⟨⟨a0, a1, a2⟩, _⟩ := q1.at3
                clear hwq
                go_wp2_with fail
                rcases (show (stAt l k).dy = 0 ∨ (stAt l k).dy = 1 by omega) with hdy | hdy
                · have e0 := cntK_hit (ks := ks) (l := l) hdy HK2.out
                  have e1 := cntK_other (ks := ks) (l := l) (o := 1) (k := k) (by omega)
                  have E := Lib.hid (And.intro e0 e1)
                  clear e0 e1
                  go_still_tail 10, (by kernel_rfl)
                  change wpList _ _ _ _ _ wq.drew
                  have p4 := p4.drew
                  have p5 := p5.drew
                  have p6 := p6.drew
                  have hb3 := hb3.drew
                  generalize wq.drew = wd at *
                  obtain ⟨⟨c0, c1⟩, f0, f1⟩ := p6.at2
                  go_wp2_with fail
                  go_roundw
                  case rel => exact ⟨k + 1, by omega, by go_num, Lib.hid (all_succ hg.out HG.out), p4.other _ _ (by first | (simp; done) | (simp; omega) | omega), p5.other _ _ (by first | (simp; done) | (simp; omega) | omega), by rw [E.out.1, E.out.2]; exact p6.set 0 _, hb3.setCell (by simp; omega) _⟩
                  case measure => simp [intOf]; omega
                · have e0 := cntK_hit (ks := ks) (l := l) hdy HK2.out
                  have e1 := cntK_other (ks := ks) (l := l) (o := 0) (k := k) (by omega)
                  have E := Lib.hid (And.intro e0 e1)
                  clear e0 e1
                  go_still_tail 10, (by kernel_rfl)
                  change wpList _ _ _ _ _ wq.drew
                  have p4 := p4.drew
                  have p5 := p5.drew
                  have p6 := p6.drew
                  have hb3 := hb3.drew
                  generalize wq.drew = wd at *
                  obtain ⟨⟨c0, c1⟩, f0, f1⟩ := p6.at2
                  go_wp2_with fail
                  go_roundw
                  case rel => exact ⟨k + 1, by omega, by go_num, Lib.hid (all_succ hg.out HG.out), p4.other _ _ (by first | (simp; done) | (simp; omega) | omega), p5.other _ _ (by first | (simp; done) | (simp; omega) | omega), by rw [E.out.1, E.out.2]; exact p6.set 1 _, hb3.setCell (by simp; omega) _⟩
                  case measure => simp [intOf]; omega
              · have hd4 : ((stAt l k).dx == kingV ks) = false := by simp [hkg]
                have HNK := Lib.hid hkg
                clear hkg
                refine wp_region_below (W := wq) (by kernel_rfl) (by kernel_rfl) (Below.refl _ _) ?_
                repeat (first
                  | (refine qs_skip (by rfl) ?_; simp only [Act.put, List.setIfInBounds_toArray, List.set_cons_zero, List.set_cons_succ])
                  | (apply qs_take
                     focus rfl
                     focus (
                       intro wq hwq
                       obtain ⟨hcq, hfq⟩ := bcell hwq
                       go_simp
                       all_goals first
                         | exact rfl
                         | (go_at_call 72; refine (l2King_any _ _ _ _ _ ((t3.below hwq).more hwq.size) (by omega)).mono ?_; exact fun e w2 h => ⟨h.1, hwq.trans (h.2.mono hwq.size)⟩)
                         | (exact ⟨trivial, rfl⟩))
                     simp only [Act.put, List.setIfInBounds_toArray, List.set_cons_zero, List.set_cons_succ]))
                refine wpQuiet_nil ?_
                intro wq hwq
                go_wp2_with fail
                go_roundw
                case rel => exact ⟨k + 1, by omega, by go_num, Lib.hid (all_succ hg.out HG.out), p4.below hwq y1, p5.below hwq y2, by rw [cntK_no HNK.out, cntK_no HNK.out]; exact p6.below hwq y3, hb3.trans (hwq.mono hz3)⟩
                case measure => simp [intOf]; omega
    · obtain rfl : k = l.length := by omega
      have HR := Lib.hid (HE.out hg.out)
      clear hg
      cases e1 : inB t 0 1
      · have E1 := Lib.hid e1
        go_wp2_with (go_at_call 50; refine (in_any _ _ _ _).mono ?_; rw [E1.out]; rintro e w' ⟨rfl, rfl⟩)
        go_ret
        exact ⟨rb (by rw [HR.out, E1.out]; rfl), hbe⟩
      · have E1 := Lib.hid e1
        clear e1
        go_wp2_with (go_at_call 50; refine (in_any _ _ _ _).mono ?_; rw [E1.out]; rintro e w' ⟨rfl, rfl⟩)
        all_goals
          go_ret
          exact ⟨rb (by rw [HR.out, E1.out]; first | (simp_all; done) | (rw [Bool.eq_iff_iff]; simp_all; done) | (rw [Bool.eq_iff_iff]; simp_all; omega)), hbe⟩
end Go.Proofs.YtcgfklljbblhlaaGreatDoor.Ko
