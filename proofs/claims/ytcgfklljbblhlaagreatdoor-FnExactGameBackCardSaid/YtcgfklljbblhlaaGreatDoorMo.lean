/- Whether men are in order and each player has one king: the program. -/
import Derived.Test.YtcgfklljbblhlaaGreatDoorCk
import Derived.ChangeKeysEq
namespace Go.Proofs.YtcgfklljbblhlaaGreatDoor.Ko
open Go.ChangeShapes Go.WideShapes Go.ChangeAt Go.RowKit Base Sq
set_option linter.unusedVariables false
set_option maxRecDepth 20000
attribute [local irreducible] wpQuiet

theorem okB_in {side far : Int} (hs : side = 2 ∨ side = 3 ∨ side = 4) : okB side far = inB far 0 (side * side - 1) := by
  unfold okB inB
  rw [Bool.eq_iff_iff, decide_eq_true_iff, decide_eq_true_iff]
  omega
theorem goodM_man {side : Int} {ks : List Kd} {l : List St} {i : Nat} (hs : side = 2 ∨ side = 3 ∨ side = 4) :
    goodM side ks l i = (manOk side ks.length ⟨(stAt l i).dx, (stAt l i).dy, (stAt l i).far⟩ && (decide (i = 0) || decide ((stAt l (i - 1)).far < (stAt l i).far))) := by
  unfold goodM manOk
  rw [okB_in hs]
def menB (side : Int) (ks : List Kd) (l : List St) : Bool := decide (l.length ≤ 4) && (List.range l.length).all (goodM side ks l) && decide (cntK ks l 0 l.length = 1) && decide (cntK ks l 1 l.length = 1)
theorem shape_men {side t : Int} {ks : List Kd} {l : List St} : shapeB side ks t l = (inB t 0 1 && menB side ks l) := by
  unfold shapeB menB; simp [Bool.and_assoc]
theorem menB_long {side : Int} {ks : List Kd} {l : List St} (h : 4 < l.length) : menB side ks l = false := by unfold menB; rw [decide_eq_false (by omega)]; rfl
theorem menB_bad {side : Int} {ks : List Kd} {l : List St} {k : Nat} (hk : k < l.length) (h : goodM side ks l k = false) : menB side ks l = false := by
  unfold menB
  rw [show (List.range l.length).all (goodM side ks l) = false from by rw [List.all_eq_false]; exact ⟨k, by simpa using hk, by simp [h]⟩]; simp
theorem menB_end {side : Int} {ks : List Kd} {l : List St} (hl : l.length ≤ 4) (h : ∀ j, j < l.length → goodM side ks l j = true) : menB side ks l = (decide (cntK ks l 0 l.length = 1) && decide (cntK ks l 1 l.length = 1)) := by
  unfold menB
  rw [show (List.range l.length).all (goodM side ks l) = true from by rw [List.all_eq_true]; intro j hj; exact h j (by simpa using hj), decide_eq_true hl]; rfl
theorem cntK_hit {ks : List Kd} {l : List St} {o : Int} {k : Nat} (h : (stAt l k).dy = o) (h2 : (stAt l k).dx = kingV ks) : cntK ks l o (k + 1) = cntK ks l o k + 1 := by simp [cntK, h, h2]
theorem cntK_other {ks : List Kd} {l : List St} {o : Int} {k : Nat} (h : ¬ (stAt l k).dy = o) : cntK ks l o (k + 1) = cntK ks l o k := by simp [cntK, h]
theorem cntK_no {ks : List Kd} {l : List St} {o : Int} {k : Nat} (h : ¬ (stAt l k).dx = kingV ks) : cntK ks l o (k + 1) = cntK ks l o k := by simp [cntK, h]
theorem goodM_bad {side : Int} {ks : List Kd} {l : List St} {i : Nat} (hs : side = 2 ∨ side = 3 ∨ side = 4) (h : manOk side ks.length ⟨(stAt l i).dx, (stAt l i).dy, (stAt l i).far⟩ = false) : goodM side ks l i = false := by rw [goodM_man hs, h]; rfl
theorem goodM_first {side : Int} {ks : List Kd} {l : List St} {i : Nat} (hs : side = 2 ∨ side = 3 ∨ side = 4) (hi : ¬ 0 < i) (h : manOk side ks.length ⟨(stAt l i).dx, (stAt l i).dy, (stAt l i).far⟩ = true) : goodM side ks l i = true := by
  rw [goodM_man hs, h, decide_eq_true (by omega)]; rfl
theorem goodM_next {side : Int} {ks : List Kd} {l : List St} {i : Nat} {b : Bool} (hs : side = 2 ∨ side = 3 ∨ side = 4) (hi : 0 < i) (h : manOk side ks.length ⟨(stAt l i).dx, (stAt l i).dy, (stAt l i).far⟩ = true) (h2 : decide ((stAt l (i - 1)).far < (stAt l i).far) = b) : goodM side ks l i = b := by
  rw [goodM_man hs, h, decide_eq_false (by omega), h2]; simp
theorem manOk_facts {side : Int} {n : Nat} {m : St} (h : manOk side n m = true) : (0 ≤ m.dx ∧ m.dx < n) ∧ (0 ≤ m.dy ∧ m.dy ≤ 1) := by
  unfold manOk at h
  simp only [Bool.and_eq_true] at h
  have h1 := of_decide_eq_true h.1.1
  have h2 := of_decide_eq_true h.1.2
  omega

theorem int1 : Tryz.prog.cellsOf 3 = 1 := by kernel_rfl
theorem intPlain : Tryz.prog.plainKey 3 = true := by kernel_rfl
theorem intInfo : ∃ i, Tryz.prog.info? 3 = some i := by
  have h : (Tryz.prog.info? 3).isSome = true := by kernel_rfl
  exact Option.isSome_iff_exists.1 h
theorem eq_arr2 (a b c d : Int) (w : World) : (Op.equalIn 10000 138 (.agg #[.int .i64 a, .int .i64 b]) (.agg #[.int .i64 c, .int .i64 d])).run Tryz.prog w = .ok (a == c && b == d) w := by
  obtain ⟨i, hi⟩ := intInfo
  rw [show (10000 : Nat) = 9999 + 1 from rfl, run_equalIn_array w 9999 _ _ Tryz.underlying138 hi, int1, show List.range 2 = [0, 1] from rfl]
  have a0 : (part 3 #[.int .i64 a, .int .i64 b] 0).run Tryz.prog w = .ok (.int .i64 a) w := run_part_plain w intPlain rfl
  have a1 : (part 3 #[.int .i64 a, .int .i64 b] 1).run Tryz.prog w = .ok (.int .i64 b) w := run_part_plain w intPlain rfl
  have c0 : (part 3 #[.int .i64 c, .int .i64 d] 0).run Tryz.prog w = .ok (.int .i64 c) w := run_part_plain w intPlain rfl
  have c1 : (part 3 #[.int .i64 c, .int .i64 d] 1).run Tryz.prog w = .ok (.int .i64 d) w := run_part_plain w intPlain rfl
  have e0 : (Op.equalIn 9999 3 (.int .i64 a) (.int .i64 c)).run Tryz.prog w = .ok (a == c) w := run_equalIn_int w 9998 3 .i64 .i64 a c Tryz.underlying3
  have e1 : (Op.equalIn 9999 3 (.int .i64 b) (.int .i64 d)).run Tryz.prog w = .ok (b == d) w := run_equalIn_int w 9998 3 .i64 .i64 b d Tryz.underlying3
  simp only [Op.eqItems, Sem.run_bind, Nat.zero_mul, Nat.one_mul, a0, c0, e0, Result.andThen_ok]
  cases (a == c)
  · simp
  · simp only [Bool.not_true, Bool.false_eq_true, if_false, Sem.run_bind, a1, c1, e1, Result.andThen_ok]
    cases (b == d) <;> simp

set_option maxHeartbeats 4000000 in
theorem menOk_any (side : Int) (A : Option Addr) (c : Nat) (ks : List Kd) (M : Option Addr) (cm : Nat) (l : List St) (w : World) (hR : IsKinds w w.heap.size A ks) (hM : IsSteps w w.heap.size M l)
    (hok : rulesOk side ks = true) (hl : l.length ≤ 1048576) :
    Calls Tryz.prog 83 #[.agg #[.int .i64 side, .slice A ks.length c], .slice M l.length cm] w fun e w' => e = .returned (.bool (menB side ks l)) ∧ Below w.heap.size w w' := by
  obtain ⟨hs, hk1, hk4, hkk, _⟩ := rulesOk_facts hok
  by_cases hl4 : 4 < l.length
  · rw [menB_long hl4]
    have hd : decide (4 < (l.length : Int)) = true := decide_eq_true (by omega)
    clear hok hkk hs
    go_enter Tryz.func83, Tryz.ntmps83
    go_wp2_with fail
    go_ret
    exact ⟨rfl, below_of _ _⟩
  have hd : decide (4 < (l.length : Int)) = false := decide_eq_false (by omega)
  have hl4' : l.length ≤ 4 := by omega
  have HKK := Lib.hid hkk
  have HS := Lib.hid hs
  have HB := Lib.hid (fun k => menB_bad (side := side) (ks := ks) (l := l) (k := k))
  have HE := Lib.hid (menB_end (side := side) (ks := ks) hl4')
  clear hs hkk hok hl4
  obtain ⟨b0, off0, rfl, hB0, hcK⟩ := hR (by omega)
  have HCK := Lib.hid hcK
  clear hcK
  go_enter Tryz.func83, Tryz.ntmps83
  go_wp2_with fail
  have p1 := (Blk.new w #[.int .i64 side, .slice (some ⟨b0, off0, none⟩) ks.length c] 40).alloc (.cells #[.int .i64 0, .int .i64 0] 138)
  have p2 := Blk.new (w.alloc (.cells #[.int .i64 side, .slice (some ⟨b0, off0, none⟩) ks.length c] 40)) #[.int .i64 0, .int .i64 0] 138
  simp only [World.size_alloc] at p2
  go_loopw [13] (fun i wr => ∃ k : Nat, k ≤ l.length ∧ i = .int .i64 k ∧ Hid (∀ j, j < k → goodM side ks l j = true) ∧ Blk wr w.heap.size #[.int .i64 side, .slice (some ⟨b0, off0, none⟩) ks.length c] 40 ∧
    Blk wr (w.heap.size + 1) #[.int .i64 (cntK ks l 0 k), .int .i64 (cntK ks l 1 k)] 138 ∧ Below w.heap.size w wr) (fun i _ => l.length - (intOf i).toNat)
  case atStart => exact ⟨0, by omega, rfl, Lib.hid (fun j hj => absurd hj (by omega)), p1, p2, (by repeat (first | exact Below.refl _ _ | assumption | (refine Below.alloc ?_ (by first | omega | (simp; done) | (simp; omega)) _) | (refine Below.setCell ?_ (by first | omega | (simp; done) | (simp; omega)) _) | refine Below.drew ?_))⟩
  case round =>
    clear p1 p2
    obtain ⟨k, hk, rfl, hg, p1, p2, hbe⟩ := hrel
    obtain ⟨⟨r0, r1⟩, _⟩ := p1.at2
    obtain ⟨⟨o0, o1⟩, _⟩ := p2.at2
    have z1 := p1.lt
    have z2 := p2.lt
    have hz := hbe.size
    by_cases hlt : k < l.length
    · obtain ⟨b, off, rfl, hB, hc⟩ := hM.below hbe (by omega)
      obtain ⟨s0, s1, s2⟩ := hc k hlt
      have z3 : b < wr.heap.size := by omega
      go_wp2_with fail
      have q1 := Blk.new wr #[.int .i64 (stAt l k).dx, .int .i64 (stAt l k).dy, .int .i64 (stAt l k).far] 105
      have p3 := p1.alloc (.cells #[.int .i64 (stAt l k).dx, .int .i64 (stAt l k).dy, .int .i64 (stAt l k).far] 105)
      have p4 := p2.alloc (.cells #[.int .i64 (stAt l k).dx, .int .i64 (stAt l k).dy, .int .i64 (stAt l k).far] 105)
      have hb2 := hbe.alloc hz (.cells #[.int .i64 (stAt l k).dx, .int .i64 (stAt l k).dy, .int .i64 (stAt l k).far] 105)
      generalize hW2 : wr.alloc _ = W2 at *
      generalize hbk : wr.heap.size = bk at *
      obtain ⟨b', off', hA, hB', hc'⟩ := hM.below hb2 (by omega)
      obtain ⟨rfl, rfl⟩ : b = b' ∧ off = off' := by injection hA with hA; injection hA with h1 h2; exact ⟨h1, h2⟩
      clear hW2 hbk hA hc s0 s1 s2 p1 p2 r0 r1 o0 o1 hbe
      obtain ⟨⟨a0, a1, a2⟩, _⟩ := q1.at3
      obtain ⟨⟨r0, r1⟩, _⟩ := p3.at2
      have y1 := p3.lt
      have y2 := p4.lt
      have y3 := q1.lt
      have hz2 := hb2.size
      have y4 : b < W2.heap.size := by omega
      cases hmo : manOk side ks.length ⟨(stAt l k).dx, (stAt l k).dy, (stAt l k).far⟩
      · have HM := Lib.hid hmo
        clear hmo hc'
        refine wp_region_below (W := W2) (by kernel_rfl) (by kernel_rfl) (Below.refl _ _) ?_
        repeat (first
          | (refine qs_skip (by rfl) ?_; simp only [Act.put, List.setIfInBounds_toArray, List.set_cons_zero, List.set_cons_succ])
          | (apply qs_take
             focus rfl
             focus (
               intro wq hwq
               obtain ⟨hcq, hfq⟩ := bcell hwq
               go_simp
               all_goals first
                 | exact rfl
                 | (go_at_call 101; refine (manOk_any _ _ _ _ _ _ _ _).mono ?_; rw [HM.out]; exact fun e w2 h => ⟨h.1, hwq.trans (h.2.mono hwq.size)⟩)
                 | (exact ⟨trivial, rfl⟩))
             simp only [Act.put, List.setIfInBounds_toArray, List.set_cons_zero, List.set_cons_succ]))
        refine wpQuiet_nil ?_
        intro wq hwq
        go_wp2_with fail
        go_ret
        exact ⟨rb (HB.out k hlt (goodM_bad HS.out HM.out)).symm, hb2.trans (hwq.mono hz2)⟩
      · have HM := Lib.hid hmo
        obtain ⟨⟨n1, n2⟩, n3, n4⟩ := manOk_facts hmo
        dsimp only at n1 n2 n3 n4
        obtain ⟨S, cc, _, kc1, _, _⟩ := HCK.out (stAt l k).dx.toNat (by omega)
        clear hmo
        by_cases hk0 : 0 < k
        · obtain ⟨q0, q1', q2⟩ := hc' (k - 1) (by omega)
          have hk1' : (0 : Int) < (k : Int) := by omega
          have g2 : (1 : Int) ≤ (k : Int) := by omega
          have g2' : (0 : Int) ≤ (k : Int) - 1 := by omega
          have g3 : (k : Int) - 1 < (l.length : Int) := by omega
          have g4 : ((k : Int) - 1).toNat = k - 1 := by omega
          have g1 : IntKind.i64.wrap ((k : Int) - 1) = (k : Int) - 1 := IntWalk.i64_in _ (by omega)
          clear hc'
          by_cases hle : (stAt l (k - 1)).far < (stAt l k).far
          · have HG := Lib.hid (goodM_next HS.out hk0 HM.out (decide_eq_true hle))
            have hd3 : decide ((stAt l k).far ≤ (stAt l (k - 1)).far) = false := decide_eq_false (by omega)
            clear hle
            refine wp_region_below (W := W2) (by kernel_rfl) (by kernel_rfl) (Below.refl _ _) ?_
            repeat (first
              | (refine qs_skip (by rfl) ?_; simp only [Act.put, List.setIfInBounds_toArray, List.set_cons_zero, List.set_cons_succ])
              | (apply qs_take
                 focus rfl
                 focus (
                   intro wq hwq
                   obtain ⟨hcq, hfq⟩ := bcell hwq
                   go_simp
                   all_goals first
                     | exact rfl
                     | (go_at_call 101; refine (manOk_any _ _ _ _ _ _ _ _).mono ?_; rw [HM.out]; exact fun e w2 h => ⟨h.1, hwq.trans (h.2.mono hwq.size)⟩)
                     | (exact ⟨trivial, rfl⟩))
                 simp only [Act.put, List.setIfInBounds_toArray, List.set_cons_zero, List.set_cons_succ]))
            refine wpQuiet_nil ?_
            intro wq hwq
            have p3 := p3.below hwq y1
            have p4 := p4.below hwq y2
            have q1 := q1.below hwq y3
            have hb3 := hb2.trans (hwq.mono hz2)
            have kc1 := (hb3.cell (p := ⟨b0, _, none⟩) hB0).trans kc1
            obtain ⟨⟨r0, r1⟩, _⟩ := p3.at2
            obtain ⟨⟨o0, o1⟩, f0, f1⟩ := p4.at2
            obtain ⟨⟨a0, a1, a2⟩, _⟩ := q1.at3
            obtain ⟨cb1, cb2⟩ := cntK_bd ks l 0 k
            obtain ⟨cb3, cb4⟩ := cntK_bd ks l 1 k
            have hz3 := hb3.size
            clear hwq g1 g4
            cases hkg : (kAt ks (stAt l k).dx.toNat).king
            · rw [hkg] at kc1
              have HNK : Hid (¬ (stAt l k).dx = kingV ks) := Lib.hid (fun h => by
                have h2 := (king_iff HKK.out (k := (stAt l k).dx.toNat) (by omega)).2 (by rw [Int.toNat_of_nonneg n1]; exact h)
                rw [hkg] at h2; cases h2)
              clear hkg
              go_wp2_with fail
              go_roundw
              case rel => exact ⟨k + 1, by omega, by go_num, Lib.hid (all_succ hg.out HG.out), p3, by rw [cntK_no HNK.out, cntK_no HNK.out]; exact p4, hb3⟩
              case measure => simp [intOf]; omega
            · rw [hkg] at kc1
              have hk2 : (stAt l k).dx = kingV ks := by
                have h2 := (king_iff HKK.out (k := (stAt l k).dx.toNat) (by omega)).1 hkg
                rwa [Int.toNat_of_nonneg n1] at h2
              have HK2 := Lib.hid hk2
              clear hkg hk2
              rcases (show (stAt l k).dy = 0 ∨ (stAt l k).dy = 1 by omega) with hdy | hdy
              · have e0 := cntK_hit (ks := ks) (l := l) hdy HK2.out
                have e1 := cntK_other (ks := ks) (l := l) (o := 1) (k := k) (by omega)
                have E := Lib.hid (And.intro e0 e1)
                clear e0 e1
                go_wp2_with fail
                go_roundw
                case rel => exact ⟨k + 1, by omega, by go_num, Lib.hid (all_succ hg.out HG.out), p3.other _ _ (by simp), by rw [E.out.1, E.out.2]; exact p4.set 0 _, hb3.setCell (by simp) _⟩
                case measure => simp [intOf]; omega
              · have e0 := cntK_hit (ks := ks) (l := l) hdy HK2.out
                have e1 := cntK_other (ks := ks) (l := l) (o := 0) (k := k) (by omega)
                have E := Lib.hid (And.intro e0 e1)
                clear e0 e1
                go_wp2_with fail
                go_roundw
                case rel => exact ⟨k + 1, by omega, by go_num, Lib.hid (all_succ hg.out HG.out), p3.other _ _ (by simp), by rw [E.out.1, E.out.2]; exact p4.set 1 _, hb3.setCell (by simp) _⟩
                case measure => simp [intOf]; omega
          · have HG := Lib.hid (goodM_next HS.out hk0 HM.out (decide_eq_false hle))
            have hd3 : decide ((stAt l k).far ≤ (stAt l (k - 1)).far) = true := decide_eq_true (by omega)
            clear hle
            refine wp_region_below (W := W2) (by kernel_rfl) (by kernel_rfl) (Below.refl _ _) ?_
            repeat (first
              | (refine qs_skip (by rfl) ?_; simp only [Act.put, List.setIfInBounds_toArray, List.set_cons_zero, List.set_cons_succ])
              | (apply qs_take
                 focus rfl
                 focus (
                   intro wq hwq
                   obtain ⟨hcq, hfq⟩ := bcell hwq
                   go_simp
                   all_goals first
                     | exact rfl
                     | (go_at_call 101; refine (manOk_any _ _ _ _ _ _ _ _).mono ?_; rw [HM.out]; exact fun e w2 h => ⟨h.1, hwq.trans (h.2.mono hwq.size)⟩)
                     | (exact ⟨trivial, rfl⟩))
                 simp only [Act.put, List.setIfInBounds_toArray, List.set_cons_zero, List.set_cons_succ]))
            refine wpQuiet_nil ?_
            intro wq hwq
            clear g1 g4
            go_wp2_with fail
            go_ret
            exact ⟨rb (HB.out k hlt HG.out).symm, hb2.trans (hwq.mono hz2)⟩
        · have HG := Lib.hid (goodM_first HS.out hk0 HM.out)
          have hk1' : decide (0 < k) = false := decide_eq_false (by omega)
          clear hc' hk0
          refine wp_region_below (W := W2) (by kernel_rfl) (by kernel_rfl) (Below.refl _ _) ?_
          repeat (first
            | (refine qs_skip (by rfl) ?_; simp only [Act.put, List.setIfInBounds_toArray, List.set_cons_zero, List.set_cons_succ])
            | (apply qs_take
               focus rfl
               focus (
                 intro wq hwq
                 obtain ⟨hcq, hfq⟩ := bcell hwq
                 go_simp
                 all_goals first
                   | exact rfl
                   | (go_at_call 101; refine (manOk_any _ _ _ _ _ _ _ _).mono ?_; rw [HM.out]; exact fun e w2 h => ⟨h.1, hwq.trans (h.2.mono hwq.size)⟩)
                   | (exact ⟨trivial, rfl⟩))
               simp only [Act.put, List.setIfInBounds_toArray, List.set_cons_zero, List.set_cons_succ]))
          refine wpQuiet_nil ?_
          intro wq hwq
          have p3 := p3.below hwq y1
          have p4 := p4.below hwq y2
          have q1 := q1.below hwq y3
          have hb3 := hb2.trans (hwq.mono hz2)
          have kc1 := (hb3.cell (p := ⟨b0, _, none⟩) hB0).trans kc1
          obtain ⟨⟨r0, r1⟩, _⟩ := p3.at2
          obtain ⟨⟨o0, o1⟩, f0, f1⟩ := p4.at2
          obtain ⟨⟨a0, a1, a2⟩, _⟩ := q1.at3
          obtain ⟨cb1, cb2⟩ := cntK_bd ks l 0 k
          obtain ⟨cb3, cb4⟩ := cntK_bd ks l 1 k
          have hz3 := hb3.size
          clear hwq
          cases hkg : (kAt ks (stAt l k).dx.toNat).king
          · rw [hkg] at kc1
            have HNK : Hid (¬ (stAt l k).dx = kingV ks) := Lib.hid (fun h => by
              have h2 := (king_iff HKK.out (k := (stAt l k).dx.toNat) (by omega)).2 (by rw [Int.toNat_of_nonneg n1]; exact h)
              rw [hkg] at h2; cases h2)
            clear hkg
            go_wp2_with fail
            go_roundw
            case rel => exact ⟨k + 1, by omega, by go_num, Lib.hid (all_succ hg.out HG.out), p3, by rw [cntK_no HNK.out, cntK_no HNK.out]; exact p4, hb3⟩
            case measure => simp [intOf]; omega
          · rw [hkg] at kc1
            have hk2 : (stAt l k).dx = kingV ks := by
              have h2 := (king_iff HKK.out (k := (stAt l k).dx.toNat) (by omega)).1 hkg
              rwa [Int.toNat_of_nonneg n1] at h2
            have HK2 := Lib.hid hk2
            clear hkg hk2
            rcases (show (stAt l k).dy = 0 ∨ (stAt l k).dy = 1 by omega) with hdy | hdy
            · have e0 := cntK_hit (ks := ks) (l := l) hdy HK2.out
              have e1 := cntK_other (ks := ks) (l := l) (o := 1) (k := k) (by omega)
              have E := Lib.hid (And.intro e0 e1)
              clear e0 e1
              go_wp2_with fail
              go_roundw
              case rel => exact ⟨k + 1, by omega, by go_num, Lib.hid (all_succ hg.out HG.out), p3.other _ _ (by simp), by rw [E.out.1, E.out.2]; exact p4.set 0 _, hb3.setCell (by simp) _⟩
              case measure => simp [intOf]; omega
            · have e0 := cntK_hit (ks := ks) (l := l) hdy HK2.out
              have e1 := cntK_other (ks := ks) (l := l) (o := 0) (k := k) (by omega)
              have E := Lib.hid (And.intro e0 e1)
              clear e0 e1
              go_wp2_with fail
              go_roundw
              case rel => exact ⟨k + 1, by omega, by go_num, Lib.hid (all_succ hg.out HG.out), p3.other _ _ (by simp), by rw [E.out.1, E.out.2]; exact p4.set 1 _, hb3.setCell (by simp) _⟩
              case measure => simp [intOf]; omega
    · obtain rfl : k = l.length := by omega
      have HR := Lib.hid (HE.out hg.out)
      clear hg
      have hEq := eq_arr2
      go_wp2_with fail
      go_ret
      exact ⟨rb (by rw [HR.out, Bool.eq_iff_iff]; simp), hbe⟩
end Go.Proofs.YtcgfklljbblhlaaGreatDoor.Ko
