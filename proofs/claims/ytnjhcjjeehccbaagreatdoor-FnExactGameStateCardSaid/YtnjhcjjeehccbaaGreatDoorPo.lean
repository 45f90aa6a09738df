/- Whether pieces are a material: the model. -/
import Derived.Test.YtnjhcjjeehccbaaGreatDoorPn
import Derived.Test.YtnjhcjjeehccbaaGreatDoorSh
namespace Go.Proofs.YtnjhcjjeehccbaaGreatDoor.Ko
open Go.ChangeShapes Go.WideShapes Go.ChangeAt Go.RowKit Base Sq
set_option linter.unusedVariables false
set_option maxRecDepth 20000
attribute [local irreducible] wpQuiet

/-- how many of the first pieces are kings of a player -/
def cntO (ks : List Kd) (l : List Pc) (o : Int) : Nat → Int
  | 0 => 0
  | k + 1 => cntO ks l o k + if (pcAt l k).kd = kingV ks ∧ (pcAt l k).ow = o then 1 else 0
theorem cntO_bd (ks : List Kd) (l : List Pc) (o : Int) (k : Nat) : 0 ≤ cntO ks l o k ∧ cntO ks l o k ≤ k := by
  induction k with
  | zero => exact ⟨Int.le_refl _, Int.le_refl _⟩
  | succ k ih => simp only [cntO]; split <;> omega
theorem cntO_hit {ks : List Kd} {l : List Pc} {o : Int} {k : Nat} (h : (pcAt l k).ow = o) (h2 : (pcAt l k).kd = kingV ks) : cntO ks l o (k + 1) = cntO ks l o k + 1 := by simp [cntO, h, h2]
theorem cntO_other {ks : List Kd} {l : List Pc} {o : Int} {k : Nat} (h : ¬ (pcAt l k).ow = o) : cntO ks l o (k + 1) = cntO ks l o k := by simp [cntO, h]
theorem cntO_no {ks : List Kd} {l : List Pc} {o : Int} {k : Nat} (h : ¬ (pcAt l k).kd = kingV ks) : cntO ks l o (k + 1) = cntO ks l o k := by simp [cntO, h]
theorem pcLess_iff (a b : Pc) : pcLess a b = true ↔ a.kd < b.kd ∨ (a.kd = b.kd ∧ a.ow < b.ow) := by unfold pcLess; simp
theorem goodP_facts {n : Nat} {l : List Pc} {i : Nat} (h : goodP n l i = true) : (0 ≤ (pcAt l i).kd ∧ (pcAt l i).kd ≤ n - 1) ∧ (0 ≤ (pcAt l i).ow ∧ (pcAt l i).ow ≤ 1) ∧ (i = 0 ∨ pcLess (pcAt l (i - 1)) (pcAt l i) = true) := by
  unfold goodP at h
  simp only [Bool.and_eq_true, Bool.or_eq_true, decide_eq_true_eq] at h
  exact ⟨inB_facts h.1.1, inB_facts h.1.2, h.2⟩
theorem asc_pcs {n m : Nat} {l : List Pc} (h : ∀ j, j < m → goodP n l j = true) : ∀ j, j < m → ∀ i, i < j → pcLess (pcAt l i) (pcAt l j) = true := by
  intro j
  induction j with
  | zero => intro _ i hi; omega
  | succ j ih =>
    intro hj i hi
    have hlast : pcLess (pcAt l j) (pcAt l (j + 1)) = true := by
      rcases (goodP_facts (h (j + 1) hj)).2.2 with h0 | h0
      · omega
      · exact h0
    by_cases he : i = j
    · subst he; exact hlast
    · have h1 := ih (by omega) i (by omega)
      rw [pcLess_iff] at *
      omega
theorem cntO_one {ks : List Kd} {l : List Pc} {o : Int} {n m : Nat} (h : ∀ j, j < m → goodP n l j = true) : ∀ k, k ≤ m → cntO ks l o k ≤ 1 ∧ (1 ≤ cntO ks l o k → ∃ j, j < k ∧ (pcAt l j).kd = kingV ks ∧ (pcAt l j).ow = o) := by
  intro k
  induction k with
  | zero => intro _; exact ⟨by simp [cntO], fun h => by simp [cntO] at h⟩
  | succ k ih =>
    intro hk
    obtain ⟨h1, h2⟩ := ih (by omega)
    by_cases hh : (pcAt l k).kd = kingV ks ∧ (pcAt l k).ow = o
    · have e := cntO_hit hh.2 hh.1
      have hz : ¬ 1 ≤ cntO ks l o k := fun hc => by
        obtain ⟨j, hj, e1, e2⟩ := h2 hc
        have := asc_pcs h k (by omega) j hj
        rw [pcLess_iff] at this
        omega
      exact ⟨by omega, fun _ => ⟨k, by omega, hh.1, hh.2⟩⟩
    · have e : cntO ks l o (k + 1) = cntO ks l o k := by simp only [cntO, if_neg hh]; omega
      rw [e]
      exact ⟨h1, fun hc => by obtain ⟨j, hj, e1⟩ := h2 hc; exact ⟨j, by omega, e1⟩⟩
theorem cnt_sum {ks : List Kd} {l : List Pc} {n m : Nat} (h : ∀ j, j < m → goodP n l j = true) : ∀ k, k ≤ m → cntA ks l k = cntO ks l 0 k + cntO ks l 1 k := by
  intro k
  induction k with
  | zero => intro _; rfl
  | succ k ih =>
    intro hk
    have h1 := ih (by omega)
    obtain ⟨_, ⟨h2, h3⟩, _⟩ := goodP_facts (h k (by omega))
    by_cases hh : (pcAt l k).kd = kingV ks
    · rcases (show (pcAt l k).ow = 0 ∨ (pcAt l k).ow = 1 by omega) with ho | ho
      · rw [cntA_hit hh, cntO_hit ho hh, cntO_other (o := 1) (by omega)]; omega
      · rw [cntA_hit hh, cntO_hit ho hh, cntO_other (o := 0) (by omega)]; omega
    · rw [cntA_no hh, cntO_no hh, cntO_no hh]; exact h1
/-- whether pieces are a material of rules that are ok -/
def matB (side : Int) (ks : List Kd) (l : List Pc) : Bool := knownB ks l && decide (l.length ≤ 4) && decide (numV side l.length ≤ 2000)
theorem matB_bad {side : Int} {ks : List Kd} {l : List Pc} {k : Nat} (hk : k < l.length) (h : goodP ks.length l k = false) : matB side ks l = false := by unfold matB; rw [knownB_bad hk h]; rfl
theorem matB_end {side : Int} {ks : List Kd} {l : List Pc} (h : ∀ j, j < l.length → goodP ks.length l j = true) :
    matB side ks l = (decide (cntO ks l 0 l.length = 1) && decide (cntO ks l 1 l.length = 1) && inB l.length 2 4 && decide (numV side l.length ≤ 2000)) := by
  unfold matB
  rw [knownB_end h, cnt_sum h _ (Nat.le_refl _)]
  obtain ⟨a1, _⟩ := cntO_one (ks := ks) (o := 0) h l.length (Nat.le_refl _)
  obtain ⟨b1, _⟩ := cntO_one (ks := ks) (o := 1) h l.length (Nat.le_refl _)
  have a2 := cntO_bd ks l 0 l.length
  have b2 := cntO_bd ks l 1 l.length
  have c := cntA_bd ks l l.length
  rw [cnt_sum h _ (Nat.le_refl _)] at c
  have hA : (decide (cntO ks l 0 l.length + cntO ks l 1 l.length = 2) && decide (l.length ≤ 4)) = (decide (cntO ks l 0 l.length = 1) && decide (cntO ks l 1 l.length = 1) && inB l.length 2 4) := by
    unfold inB
    rw [Bool.eq_iff_iff]
    simp only [Bool.and_eq_true, decide_eq_true_eq]
    omega
  rw [hA]

set_option maxHeartbeats 8000000 in
theorem l7Mat_any (side : Int) (A : Option Addr) (c : Nat) (ks : List Kd) (M : Option Addr) (cm : Nat) (l : List Pc) (w : World) (hR : IsKinds w w.heap.size A ks) (hM : IsPcs w w.heap.size M l)
    (hok : rulesOk side ks = true) (hl : l.length ≤ 1048576) :
    Calls Tryz.prog 172 #[.agg #[.int .i64 side, .slice A ks.length c], .slice M l.length cm] w fun e w' => e = .returned (.bool (matB side ks l)) ∧ Below w.heap.size w w' := by
  obtain ⟨hs, hk1, hk4, hkk, _⟩ := rulesOk_facts hok
  have HSM := Lib.hid hs
  have HB := Lib.hid (fun k => matB_bad (side := side) (ks := ks) (l := l) (k := k))
  have HE := Lib.hid (matB_end (side := side) (ks := ks) (l := l))
  clear hs hkk hok
  go_enter Tryz.func172, Tryz.ntmps172
  go_wp2_with fail
  have p1 := (Blk.new w #[.int .i64 side, .slice A ks.length c] 36).alloc (.cells #[.int .i64 0, .int .i64 0] 3)
  have p2 := Blk.new (w.alloc (.cells #[.int .i64 side, .slice A ks.length c] 36)) #[.int .i64 0, .int .i64 0] 3
  simp only [World.size_alloc] at p2
  go_loopw [6] (fun i wr => ∃ k : Nat, k ≤ l.length ∧ i = .int .i64 k ∧ Hid (∀ j, j < k → goodP ks.length l j = true) ∧ Blk wr w.heap.size #[.int .i64 side, .slice A ks.length c] 36 ∧
    Blk wr (w.heap.size + 1) #[.int .i64 (cntO ks l 0 k), .int .i64 (cntO ks l 1 k)] 3 ∧ Below w.heap.size w wr) (fun i _ => l.length - (intOf i).toNat)
  case atStart => exact ⟨0, by omega, rfl, Lib.hid (fun j hj => absurd hj (by omega)), p1, p2, (by repeat (first | exact Below.refl _ _ | assumption | (refine Below.alloc ?_ (by first | omega | (simp; done) | (simp; omega)) _) | (refine Below.setCell ?_ (by first | omega | (simp; done) | (simp; omega)) _) | refine Below.drew ?_))⟩
  case round =>
    clear p1 p2
    obtain ⟨k, hk, rfl, hg, p1, p2, hbe⟩ := hrel
    obtain ⟨⟨r0, r1⟩, _⟩ := p1.at2
    obtain ⟨⟨c0, c1⟩, f0, f1⟩ := p2.at2
    have z1 := p1.lt
    have z2 := p2.lt
    have hz := hbe.size
    by_cases hlt : k < l.length
    · obtain ⟨b, off, rfl, hB, hc⟩ := hM.below hbe (by omega)
      obtain ⟨s0, s1⟩ := hc k hlt
      have z4 : b < wr.heap.size := by omega
      go_wp2_with fail
      have q1 := Blk.new wr #[.int .i64 (pcAt l k).kd, .int .i64 (pcAt l k).ow] 128
      have p4 := p1.alloc (.cells #[.int .i64 (pcAt l k).kd, .int .i64 (pcAt l k).ow] 128)
      have p6 := p2.alloc (.cells #[.int .i64 (pcAt l k).kd, .int .i64 (pcAt l k).ow] 128)
      have hb2 := hbe.alloc hz (.cells #[.int .i64 (pcAt l k).kd, .int .i64 (pcAt l k).ow] 128)
      have y5' : w.heap.size + 1 < wr.heap.size := z2
      generalize hW2 : wr.alloc _ = W2 at *
      generalize hbk : wr.heap.size = bk at *
      obtain ⟨b', off', hA, hB', hc'⟩ := hM.below hb2 (by omega)
      obtain ⟨rfl, rfl⟩ : b = b' ∧ off = off' := by injection hA with hA; injection hA with h1 h2; exact ⟨h1, h2⟩
      have t1 := (hR.below hb2).more hb2.size
      clear hW2 hbk hA hc s0 s1 p1 p2 r0 r1 c0 c1 f0 f1 hbe
      obtain ⟨⟨a0, a1⟩, _⟩ := q1.at2
      obtain ⟨⟨r0, r1⟩, _⟩ := p4.at2
      have y1 := p4.lt
      have y3 := p6.lt
      have y6 := q1.lt
      have hz2 := hb2.size
      have y4 : b < W2.heap.size := by omega
      have hw3 : IntKind.i64.wrap ((ks.length : Int) - 1) = (ks.length : Int) - 1 := IntWalk.i64_in _ (by omega)
      cases e1 : inB (pcAt l k).kd 0 (ks.length - 1)
      · have E1 := Lib.hid e1
        have HG := Lib.hid (goodP_kind e1)
        clear e1 hc'
        refine wp_region_below (W := W2) (by kernel_rfl) (by kernel_rfl) (Below.refl _ _) ?_
        repeat (first
          | (refine qs_skip (by rfl) ?_; simp only [Act.put, List.setIfInBounds_toArray, List.set_cons_zero, List.set_cons_succ])
          | (apply qs_take
             focus rfl
             focus (
               intro wq hwq
               obtain ⟨hcq, hfq⟩ := bcell hwq
               go_simp
               all_goals first
                 | exact rfl
                 | (go_at_call 104; refine (in_any _ _ _ _).mono ?_; rw [E1.out]; exact fun e w2 h => ⟨h.1, h.2 ▸ hwq⟩)
                 | (exact ⟨trivial, rfl⟩))
             simp only [Act.put, List.setIfInBounds_toArray, List.set_cons_zero, List.set_cons_succ]))
        refine wpQuiet_nil ?_
        intro wq hwq
        go_wp2_with fail
        go_ret
        exact ⟨rb (HB.out k hlt HG.out).symm, hb2.trans (hwq.mono hz2)⟩
      · cases e2 : inB (pcAt l k).ow 0 1
        · have E1 := Lib.hid e1
          have E2 := Lib.hid e2
          have HG := Lib.hid (goodP_owner (n := ks.length) e2)
          clear e1 e2 hc'
          refine wp_region_below (W := W2) (by kernel_rfl) (by kernel_rfl) (Below.refl _ _) ?_
          repeat (first
            | (refine qs_skip (by rfl) ?_; simp only [Act.put, List.setIfInBounds_toArray, List.set_cons_zero, List.set_cons_succ])
            | (apply qs_take
               focus rfl
               focus (
                 intro wq hwq
                 obtain ⟨hcq, hfq⟩ := bcell hwq
                 go_simp
                 all_goals first
                   | exact rfl
                   | (go_at_call 104; refine (in_any _ _ _ _).mono ?_; rw [E1.out]; exact fun e w2 h => ⟨h.1, h.2 ▸ hwq⟩)
                   | (go_at_call 104; refine (in_any _ _ _ _).mono ?_; rw [E2.out]; exact fun e w2 h => ⟨h.1, h.2 ▸ hwq⟩)
                   | (exact ⟨trivial, rfl⟩))
               simp only [Act.put, List.setIfInBounds_toArray, List.set_cons_zero, List.set_cons_succ]))
          refine wpQuiet_nil ?_
          intro wq hwq
          go_wp2_with fail
          go_ret
          exact ⟨rb (HB.out k hlt HG.out).symm, hb2.trans (hwq.mono hz2)⟩
        · have E1 := Lib.hid e1
          have E2 := Lib.hid e2
          obtain ⟨n1, n2⟩ := inB_facts e1
          obtain ⟨n3, n4⟩ := inB_facts e2
          by_cases hk0 : 0 < k
          · obtain ⟨q0, q1'⟩ := hc' (k - 1) (by omega)
            have hk1' : (0 : Int) < (k : Int) := by omega
            have g2 : (1 : Int) ≤ (k : Int) := by omega
            have g2' : (0 : Int) ≤ (k : Int) - 1 := by omega
            have g3 : (k : Int) - 1 < (l.length : Int) := by omega
            have g4 : ((k : Int) - 1).toNat = k - 1 := by omega
            have g1 : IntKind.i64.wrap ((k : Int) - 1) = (k : Int) - 1 := IntWalk.i64_in _ (by omega)
            clear hc'
            by_cases hle : pcLess ⟨(pcAt l (k - 1)).kd, (pcAt l (k - 1)).ow⟩ ⟨(pcAt l k).kd, (pcAt l k).ow⟩ = true
            · have HG := Lib.hid (goodP_next hk0 e1 e2 hle)
              rw [pcLess_iff] at hle
              dsimp only at hle
              have d1 : decide ((pcAt l k).kd < (pcAt l (k - 1)).kd) = false := decide_eq_false (by omega)
              by_cases hq : (pcAt l k).kd = (pcAt l (k - 1)).kd
              · have d2 : ((pcAt l k).kd == (pcAt l (k - 1)).kd) = true := by simp [hq]
                have d3 : decide ((pcAt l k).ow ≤ (pcAt l (k - 1)).ow) = false := decide_eq_false (by omega)
                clear hle hq e1 e2
                refine wp_region_below (W := W2) (by kernel_rfl) (by kernel_rfl) (Below.refl _ _) ?_
                repeat (first
                  | (refine qs_skip (by rfl) ?_; simp only [Act.put, List.setIfInBounds_toArray, List.set_cons_zero, List.set_cons_succ])
                  | (apply qs_take
                     focus rfl
                     focus (
                       intro wq hwq
                       obtain ⟨hcq, hfq⟩ := bcell hwq
                       go_simp
                       all_goals first
                         | exact rfl
                         | (go_at_call 104; refine (in_any _ _ _ _).mono ?_; rw [E1.out]; exact fun e w2 h => ⟨h.1, h.2 ▸ hwq⟩)
                         | (go_at_call 104; refine (in_any _ _ _ _).mono ?_; rw [E2.out]; exact fun e w2 h => ⟨h.1, h.2 ▸ hwq⟩)
                         | (exact ⟨trivial, rfl⟩))
                     simp only [Act.put, List.setIfInBounds_toArray, List.set_cons_zero, List.set_cons_succ]))
                refine wpQuiet_nil ?_
                intro wq hwq
                clear g1 g2 g2' g3 g4 q0 q1' hw3 d1 d2 d3
                have p4 := p4.below hwq y1
                have p6 := p6.below hwq y3
                have q1 := q1.below hwq y6
                have hb3 := hb2.trans (hwq.mono hz2)
                have t3 := (t1.below hwq).more hwq.size
                obtain ⟨⟨r0, r1⟩, _⟩ := p4.at2
                obtain ⟨⟨a0, a1⟩, _⟩ := q1.at2
                have y1 := p4.lt
                have y3 := p6.lt
                have y6 := q1.lt
                have hz3 := hb3.size
                clear hwq hb2 t1
                obtain ⟨cb1, cb2⟩ := cntO_bd ks l 0 k
                obtain ⟨cb3, cb4⟩ := cntO_bd ks l 1 k
                go_wp2_with fail
                by_cases hkg : (pcAt l k).kd = kingV ks
                · have hd4 : ((pcAt l k).kd == kingV ks) = true := by simp [hkg]
                  have HK2 := Lib.hid hkg
                  clear hkg
                  refine wp_region_below (W := wq) (by kernel_rfl) (by kernel_rfl) (Below.refl _ _) ?_
                  repeat (first
                    | (refine qs_skip (by rfl) ?_; simp only [Act.put, List.setIfInBounds_toArray, List.set_cons_zero, List.set_cons_succ])
                    | (apply qs_take
                       focus rfl
                       focus (
                         intro wq hwq
                         obtain ⟨hcq, hfq⟩ := bcell hwq
                         go_simp
                         all_goals first
                           | exact rfl
                           | (go_at_call 158; refine (l2King_any _ _ _ _ _ ((t3.below hwq).more hwq.size) (by omega)).mono ?_; exact fun e w2 h => ⟨h.1, hwq.trans (h.2.mono hwq.size)⟩)
                           | (exact ⟨trivial, rfl⟩))
                       simp only [Act.put, List.setIfInBounds_toArray, List.set_cons_zero, List.set_cons_succ]))
                  refine wpQuiet_nil ?_
                  intro wq hwq
                  have p4 := p4.below hwq y1
                  have p6 := p6.below hwq y3
                  have q1 := q1.below hwq y6
                  have hb3 := hb3.trans (hwq.mono hz3)
                  have hz3 := hb3.size
                  obtain ⟨⟨c0, c1⟩, f0, f1⟩ := p6.at2
                  obtain ⟨⟨a0, a1⟩, _⟩ := q1.at2
                  clear hwq
                  go_wp2_with fail
                  rcases (show (pcAt l k).ow = 0 ∨ (pcAt l k).ow = 1 by omega) with hdy | hdy
                  · have e0 := cntO_hit (ks := ks) (l := l) hdy HK2.out
                    have e1 := cntO_other (ks := ks) (l := l) (o := 1) (k := k) (by omega)
                    have E := Lib.hid (And.intro e0 e1)
                    clear e0 e1
                    go_still_tail 10, (by kernel_rfl)
                    change wpList _ _ _ _ _ wq.drew
                    have p4 := p4.drew
                    have p6 := p6.drew
                    have hb3 := hb3.drew
                    generalize wq.drew = wd at *
                    obtain ⟨⟨c0, c1⟩, f0, f1⟩ := p6.at2
                    go_wp2_with fail
                    go_roundw
                    case rel => exact ⟨k + 1, by omega, by go_num, Lib.hid (all_succ hg.out HG.out), p4.other _ _ (by first | (simp; done) | (simp; omega) | omega), by rw [E.out.1, E.out.2]; exact p6.set 0 _, hb3.setCell (by simp) _⟩
                    case measure => simp [intOf]; omega
                  · have e0 := cntO_hit (ks := ks) (l := l) hdy HK2.out
                    have e1 := cntO_other (ks := ks) (l := l) (o := 0) (k := k) (by omega)
                    have E := Lib.hid (And.intro e0 e1)
                    clear e0 e1
                    go_still_tail 10, (by kernel_rfl)
                    change wpList _ _ _ _ _ wq.drew
                    have p4 := p4.drew
                    have p6 := p6.drew
                    have hb3 := hb3.drew
                    generalize wq.drew = wd at *
                    obtain ⟨⟨c0, c1⟩, f0, f1⟩ := p6.at2
                    go_wp2_with fail
                    go_roundw
                    case rel => exact ⟨k + 1, by omega, by go_num, Lib.hid (all_succ hg.out HG.out), p4.other _ _ (by first | (simp; done) | (simp; omega) | omega), by rw [E.out.1, E.out.2]; exact p6.set 1 _, hb3.setCell (by simp) _⟩
                    case measure => simp [intOf]; omega
                · have hd4 : ((pcAt l k).kd == kingV ks) = false := by simp [hkg]
                  have HNK := Lib.hid hkg
                  clear hkg
                  refine wp_region_below (W := wq) (by kernel_rfl) (by kernel_rfl) (Below.refl _ _) ?_
                  repeat (first
                    | (refine qs_skip (by rfl) ?_; simp only [Act.put, List.setIfInBounds_toArray, List.set_cons_zero, List.set_cons_succ])
                    | (apply qs_take
                       focus rfl
                       focus (
                         intro wq hwq
                         obtain ⟨hcq, hfq⟩ := bcell hwq
                         go_simp
                         all_goals first
                           | exact rfl
                           | (go_at_call 158; refine (l2King_any _ _ _ _ _ ((t3.below hwq).more hwq.size) (by omega)).mono ?_; exact fun e w2 h => ⟨h.1, hwq.trans (h.2.mono hwq.size)⟩)
                           | (exact ⟨trivial, rfl⟩))
                       simp only [Act.put, List.setIfInBounds_toArray, List.set_cons_zero, List.set_cons_succ]))
                  refine wpQuiet_nil ?_
                  intro wq hwq
                  go_wp2_with fail
                  go_roundw
                  case rel => exact ⟨k + 1, by omega, by go_num, Lib.hid (all_succ hg.out HG.out), p4.below hwq y1, by rw [cntO_no HNK.out, cntO_no HNK.out]; exact p6.below hwq y3, hb3.trans (hwq.mono hz3)⟩
                  case measure => simp [intOf]; omega
              · have d2 : ((pcAt l k).kd == (pcAt l (k - 1)).kd) = false := by simp [hq]
                clear hle hq e1 e2
                refine wp_region_below (W := W2) (by kernel_rfl) (by kernel_rfl) (Below.refl _ _) ?_
                repeat (first
                  | (refine qs_skip (by rfl) ?_; simp only [Act.put, List.setIfInBounds_toArray, List.set_cons_zero, List.set_cons_succ])
                  | (apply qs_take
                     focus rfl
                     focus (
                       intro wq hwq
                       obtain ⟨hcq, hfq⟩ := bcell hwq
                       go_simp
                       all_goals first
                         | exact rfl
                         | (go_at_call 104; refine (in_any _ _ _ _).mono ?_; rw [E1.out]; exact fun e w2 h => ⟨h.1, h.2 ▸ hwq⟩)
                         | (go_at_call 104; refine (in_any _ _ _ _).mono ?_; rw [E2.out]; exact fun e w2 h => ⟨h.1, h.2 ▸ hwq⟩)
                         | (exact ⟨trivial, rfl⟩))
                     simp only [Act.put, List.setIfInBounds_toArray, List.set_cons_zero, List.set_cons_succ]))
                refine wpQuiet_nil ?_
                intro wq hwq
                clear g1 g2 g2' g3 g4 q0 q1' hw3 d1 d2
                have p4 := p4.below hwq y1
                have p6 := p6.below hwq y3
                have q1 := q1.below hwq y6
                have hb3 := hb2.trans (hwq.mono hz2)
                have t3 := (t1.below hwq).more hwq.size
                obtain ⟨⟨r0, r1⟩, _⟩ := p4.at2
                obtain ⟨⟨a0, a1⟩, _⟩ := q1.at2
                have y1 := p4.lt
                have y3 := p6.lt
                have y6 := q1.lt
                have hz3 := hb3.size
                clear hwq hb2 t1
                obtain ⟨cb1, cb2⟩ := cntO_bd ks l 0 k
                obtain ⟨cb3, cb4⟩ := cntO_bd ks l 1 k
                go_wp2_with fail
                by_cases hkg : (pcAt l k).kd = kingV ks
                · have hd4 : ((pcAt l k).kd == kingV ks) = true := by simp [hkg]
                  have HK2 := Lib.hid hkg
                  clear hkg
                  refine wp_region_below (W := wq) (by kernel_rfl) (by kernel_rfl) (Below.refl _ _) ?_
                  repeat (first
                    | (refine qs_skip (by rfl) ?_; simp only [Act.put, List.setIfInBounds_toArray, List.set_cons_zero, List.set_cons_succ])
                    | (apply qs_take
                       focus rfl
                       focus (
                         intro wq hwq
                         obtain ⟨hcq, hfq⟩ := bcell hwq
                         go_simp
                         all_goals first
                           | exact rfl
                           | (go_at_call 158; refine (l2King_any _ _ _ _ _ ((t3.below hwq).more hwq.size) (by omega)).mono ?_; exact fun e w2 h => ⟨h.1, hwq.trans (h.2.mono hwq.size)⟩)
                           | (exact ⟨trivial, rfl⟩))
                       simp only [Act.put, List.setIfInBounds_toArray, List.set_cons_zero, List.set_cons_succ]))
                  refine wpQuiet_nil ?_
                  intro wq hwq
                  have p4 := p4.below hwq y1
                  have p6 := p6.below hwq y3
                  have q1 := q1.below hwq y6
                  have hb3 := hb3.trans (hwq.mono hz3)
                  have hz3 := hb3.size
                  obtain ⟨⟨c0, c1⟩, f0, f1⟩ := p6.at2
                  obtain ⟨⟨a0, a1⟩, _⟩ := q1.at2
                  clear hwq
                  go_wp2_with fail
                  rcases (show (pcAt l k).ow = 0 ∨ (pcAt l k).ow = 1 by omega) with hdy | hdy
                  · have e0 := cntO_hit (ks := ks) (l := l) hdy HK2.out
                    have e1 := cntO_other (ks := ks) (l := l) (o := 1) (k := k) (by omega)
                    have E := Lib.hid (And.intro e0 e1)
                    clear e0 e1
                    go_still_tail 10, (by kernel_rfl)
                    change wpList _ _ _ _ _ wq.drew
                    have p4 := p4.drew
                    have p6 := p6.drew
                    have hb3 := hb3.drew
                    generalize wq.drew = wd at *
                    obtain ⟨⟨c0, c1⟩, f0, f1⟩ := p6.at2
                    go_wp2_with fail
                    go_roundw
                    case rel => exact ⟨k + 1, by omega, by go_num, Lib.hid (all_succ hg.out HG.out), p4.other _ _ (by first | (simp; done) | (simp; omega) | omega), by rw [E.out.1, E.out.2]; exact p6.set 0 _, hb3.setCell (by simp) _⟩
                    case measure => simp [intOf]; omega
                  · have e0 := cntO_hit (ks := ks) (l := l) hdy HK2.out
                    have e1 := cntO_other (ks := ks) (l := l) (o := 0) (k := k) (by omega)
                    have E := Lib.hid (And.intro e0 e1)
                    clear e0 e1
                    go_still_tail 10, (by kernel_rfl)
                    change wpList _ _ _ _ _ wq.drew
                    have p4 := p4.drew
                    have p6 := p6.drew
                    have hb3 := hb3.drew
                    generalize wq.drew = wd at *
                    obtain ⟨⟨c0, c1⟩, f0, f1⟩ := p6.at2
                    go_wp2_with fail
                    go_roundw
                    case rel => exact ⟨k + 1, by omega, by go_num, Lib.hid (all_succ hg.out HG.out), p4.other _ _ (by first | (simp; done) | (simp; omega) | omega), by rw [E.out.1, E.out.2]; exact p6.set 1 _, hb3.setCell (by simp) _⟩
                    case measure => simp [intOf]; omega
                · have hd4 : ((pcAt l k).kd == kingV ks) = false := by simp [hkg]
                  have HNK := Lib.hid hkg
                  clear hkg
                  refine wp_region_below (W := wq) (by kernel_rfl) (by kernel_rfl) (Below.refl _ _) ?_
                  repeat (first
                    | (refine qs_skip (by rfl) ?_; simp only [Act.put, List.setIfInBounds_toArray, List.set_cons_zero, List.set_cons_succ])
                    | (apply qs_take
                       focus rfl
                       focus (
                         intro wq hwq
                         obtain ⟨hcq, hfq⟩ := bcell hwq
                         go_simp
                         all_goals first
                           | exact rfl
                           | (go_at_call 158; refine (l2King_any _ _ _ _ _ ((t3.below hwq).more hwq.size) (by omega)).mono ?_; exact fun e w2 h => ⟨h.1, hwq.trans (h.2.mono hwq.size)⟩)
                           | (exact ⟨trivial, rfl⟩))
                       simp only [Act.put, List.setIfInBounds_toArray, List.set_cons_zero, List.set_cons_succ]))
                  refine wpQuiet_nil ?_
                  intro wq hwq
                  go_wp2_with fail
                  go_roundw
                  case rel => exact ⟨k + 1, by omega, by go_num, Lib.hid (all_succ hg.out HG.out), p4.below hwq y1, by rw [cntO_no HNK.out, cntO_no HNK.out]; exact p6.below hwq y3, hb3.trans (hwq.mono hz3)⟩
                  case measure => simp [intOf]; omega
            · have HG := Lib.hid (goodP_next hk0 e1 e2 (by simpa using hle))
              rw [pcLess_iff] at hle
              dsimp only at hle
              by_cases hq1 : (pcAt l k).kd < (pcAt l (k - 1)).kd
              · have d1 : decide ((pcAt l k).kd < (pcAt l (k - 1)).kd) = true := decide_eq_true hq1
                clear hle hq1 e1 e2
                refine wp_region_below (W := W2) (by kernel_rfl) (by kernel_rfl) (Below.refl _ _) ?_
                repeat (first
                  | (refine qs_skip (by rfl) ?_; simp only [Act.put, List.setIfInBounds_toArray, List.set_cons_zero, List.set_cons_succ])
                  | (apply qs_take
                     focus rfl
                     focus (
                       intro wq hwq
                       obtain ⟨hcq, hfq⟩ := bcell hwq
                       go_simp
                       all_goals first
                         | exact rfl
                         | (go_at_call 104; refine (in_any _ _ _ _).mono ?_; rw [E1.out]; exact fun e w2 h => ⟨h.1, h.2 ▸ hwq⟩)
                         | (go_at_call 104; refine (in_any _ _ _ _).mono ?_; rw [E2.out]; exact fun e w2 h => ⟨h.1, h.2 ▸ hwq⟩)
                         | (exact ⟨trivial, rfl⟩))
                     simp only [Act.put, List.setIfInBounds_toArray, List.set_cons_zero, List.set_cons_succ]))
                refine wpQuiet_nil ?_
                intro wq hwq
                go_wp2_with fail
                go_ret
                exact ⟨rb (HB.out k hlt HG.out).symm, hb2.trans (hwq.mono hz2)⟩
              · have d1 : decide ((pcAt l k).kd < (pcAt l (k - 1)).kd) = false := decide_eq_false hq1
                have d2 : ((pcAt l k).kd == (pcAt l (k - 1)).kd) = true := by simp; omega
                have d3 : decide ((pcAt l k).ow ≤ (pcAt l (k - 1)).ow) = true := decide_eq_true (by omega)
                clear hle hq1 e1 e2
                refine wp_region_below (W := W2) (by kernel_rfl) (by kernel_rfl) (Below.refl _ _) ?_
                repeat (first
                  | (refine qs_skip (by rfl) ?_; simp only [Act.put, List.setIfInBounds_toArray, List.set_cons_zero, List.set_cons_succ])
                  | (apply qs_take
                     focus rfl
                     focus (
                       intro wq hwq
                       obtain ⟨hcq, hfq⟩ := bcell hwq
                       go_simp
                       all_goals first
                         | exact rfl
                         | (go_at_call 104; refine (in_any _ _ _ _).mono ?_; rw [E1.out]; exact fun e w2 h => ⟨h.1, h.2 ▸ hwq⟩)
                         | (go_at_call 104; refine (in_any _ _ _ _).mono ?_; rw [E2.out]; exact fun e w2 h => ⟨h.1, h.2 ▸ hwq⟩)
                         | (exact ⟨trivial, rfl⟩))
                     simp only [Act.put, List.setIfInBounds_toArray, List.set_cons_zero, List.set_cons_succ]))
                refine wpQuiet_nil ?_
                intro wq hwq
                go_wp2_with fail
                go_ret
                exact ⟨rb (HB.out k hlt HG.out).symm, hb2.trans (hwq.mono hz2)⟩
          · have HG := Lib.hid (goodP_first hk0 e1 e2)
            have hk1' : decide (0 < k) = false := decide_eq_false (by omega)
            clear e1 e2 hc' hk0
            refine wp_region_below (W := W2) (by kernel_rfl) (by kernel_rfl) (Below.refl _ _) ?_
            repeat (first
              | (refine qs_skip (by rfl) ?_; simp only [Act.put, List.setIfInBounds_toArray, List.set_cons_zero, List.set_cons_succ])
              | (apply qs_take
                 focus rfl
                 focus (
                   intro wq hwq
                   obtain ⟨hcq, hfq⟩ := bcell hwq
                   go_simp
                   all_goals first
                     | exact rfl
                     | (go_at_call 104; refine (in_any _ _ _ _).mono ?_; rw [E1.out]; exact fun e w2 h => ⟨h.1, h.2 ▸ hwq⟩)
                     | (go_at_call 104; refine (in_any _ _ _ _).mono ?_; rw [E2.out]; exact fun e w2 h => ⟨h.1, h.2 ▸ hwq⟩)
                     | (exact ⟨trivial, rfl⟩))
                 simp only [Act.put, List.setIfInBounds_toArray, List.set_cons_zero, List.set_cons_succ]))
            refine wpQuiet_nil ?_
            intro wq hwq
            clear hw3
            have p4 := p4.below hwq y1
            have p6 := p6.below hwq y3
            have q1 := q1.below hwq y6
            have hb3 := hb2.trans (hwq.mono hz2)
            have t3 := (t1.below hwq).more hwq.size
            obtain ⟨⟨r0, r1⟩, _⟩ := p4.at2
            obtain ⟨⟨a0, a1⟩, _⟩ := q1.at2
            have y1 := p4.lt
            have y3 := p6.lt
            have y6 := q1.lt
            have hz3 := hb3.size
            clear hwq hb2 t1
            obtain ⟨cb1, cb2⟩ := cntO_bd ks l 0 k
            obtain ⟨cb3, cb4⟩ := cntO_bd ks l 1 k
            go_wp2_with fail
            by_cases hkg : (pcAt l k).kd = kingV ks
            · have hd4 : ((pcAt l k).kd == kingV ks) = true := by simp [hkg]
              have HK2 := Lib.hid hkg
              clear hkg
              refine wp_region_below (W := wq) (by kernel_rfl) (by kernel_rfl) (Below.refl _ _) ?_
              repeat (first
                | (refine qs_skip (by rfl) ?_; simp only [Act.put, List.setIfInBounds_toArray, List.set_cons_zero, List.set_cons_succ])
                | (apply qs_take
                   focus rfl
                   focus (
                     intro wq hwq
                     obtain ⟨hcq, hfq⟩ := bcell hwq
                     go_simp
                     all_goals first
                       | exact rfl
                       | (go_at_call 158; refine (l2King_any _ _ _ _ _ ((t3.below hwq).more hwq.size) (by omega)).mono ?_; exact fun e w2 h => ⟨h.1, hwq.trans (h.2.mono hwq.size)⟩)
                       | (exact ⟨trivial, rfl⟩))
                   simp only [Act.put, List.setIfInBounds_toArray, List.set_cons_zero, List.set_cons_succ]))
              refine wpQuiet_nil ?_
              intro wq hwq
              have p4 := p4.below hwq y1
              have p6 := p6.below hwq y3
              have q1 := q1.below hwq y6
              have hb3 := hb3.trans (hwq.mono hz3)
              have hz3 := hb3.size
              obtain ⟨⟨c0, c1⟩, f0, f1⟩ := p6.at2
              obtain ⟨⟨a0, a1⟩, _⟩ := q1.at2
              clear hwq
              go_wp2_with fail
              rcases (show (pcAt l k).ow = 0 ∨ (pcAt l k).ow = 1 by omega) with hdy | hdy
              · have e0 := cntO_hit (ks := ks) (l := l) hdy HK2.out
                have e1 := cntO_other (ks := ks) (l := l) (o := 1) (k := k) (by omega)
                have E := Lib.hid (And.intro e0 e1)
                clear e0 e1
                go_still_tail 10, (by kernel_rfl)
                change wpList _ _ _ _ _ wq.drew
                have p4 := p4.drew
                have p6 := p6.drew
                have hb3 := hb3.drew
                generalize wq.drew = wd at *
                obtain ⟨⟨c0, c1⟩, f0, f1⟩ := p6.at2
                go_wp2_with fail
                go_roundw
                case rel => exact ⟨k + 1, by omega, by go_num, Lib.hid (all_succ hg.out HG.out), p4.other _ _ (by first | (simp; done) | (simp; omega) | omega), by rw [E.out.1, E.out.2]; exact p6.set 0 _, hb3.setCell (by simp) _⟩
                case measure => simp [intOf]; omega
              · have e0 := cntO_hit (ks := ks) (l := l) hdy HK2.out
                have e1 := cntO_other (ks := ks) (l := l) (o := 0) (k := k) (by omega)
                have E := Lib.hid (And.intro e0 e1)
                clear e0 e1
                go_still_tail 10, (by kernel_rfl)
                change wpList _ _ _ _ _ wq.drew
                have p4 := p4.drew
                have p6 := p6.drew
                have hb3 := hb3.drew
                generalize wq.drew = wd at *
                obtain ⟨⟨c0, c1⟩, f0, f1⟩ := p6.at2
                go_wp2_with fail
                go_roundw
                case rel => exact ⟨k + 1, by omega, by go_num, Lib.hid (all_succ hg.out HG.out), p4.other _ _ (by first | (simp; done) | (simp; omega) | omega), by rw [E.out.1, E.out.2]; exact p6.set 1 _, hb3.setCell (by simp) _⟩
                case measure => simp [intOf]; omega
            · have hd4 : ((pcAt l k).kd == kingV ks) = false := by simp [hkg]
              have HNK := Lib.hid hkg
              clear hkg
              refine wp_region_below (W := wq) (by kernel_rfl) (by kernel_rfl) (Below.refl _ _) ?_
              repeat (first
                | (refine qs_skip (by rfl) ?_; simp only [Act.put, List.setIfInBounds_toArray, List.set_cons_zero, List.set_cons_succ])
                | (apply qs_take
                   focus rfl
                   focus (
                     intro wq hwq
                     obtain ⟨hcq, hfq⟩ := bcell hwq
                     go_simp
                     all_goals first
                       | exact rfl
                       | (go_at_call 158; refine (l2King_any _ _ _ _ _ ((t3.below hwq).more hwq.size) (by omega)).mono ?_; exact fun e w2 h => ⟨h.1, hwq.trans (h.2.mono hwq.size)⟩)
                       | (exact ⟨trivial, rfl⟩))
                   simp only [Act.put, List.setIfInBounds_toArray, List.set_cons_zero, List.set_cons_succ]))
              refine wpQuiet_nil ?_
              intro wq hwq
              go_wp2_with fail
              go_roundw
              case rel => exact ⟨k + 1, by omega, by go_num, Lib.hid (all_succ hg.out HG.out), p4.below hwq y1, by rw [cntO_no HNK.out, cntO_no HNK.out]; exact p6.below hwq y3, hb3.trans (hwq.mono hz3)⟩
              case measure => simp [intOf]; omega
    · obtain rfl : k = l.length := by omega
      have HR := Lib.hid (HE.out hg.out)
      clear hg
      by_cases h0 : cntO ks l 0 l.length = 1
      · by_cases h1 : cntO ks l 1 l.length = 1
        · rw [h0] at c0
          rw [h1] at c1
          cases e1 : inB l.length 2 4
          · have E1 := Lib.hid e1
            clear e1
            go_wp2_with (go_at_call 104; refine (in_any _ _ _ _).mono ?_; rw [E1.out]; rintro e w' ⟨rfl, rfl⟩)
            go_ret
            exact ⟨rb (by rw [HR.out, E1.out]; simp), hbe⟩
          · have E1 := Lib.hid e1
            have hl4 : l.length ≤ 4 := by have := inB_facts e1; omega
            clear e1
            go_wp2_with (first | (go_at_call 104; refine (in_any _ _ _ _).mono ?_; rw [E1.out]; rintro e w' ⟨rfl, rfl⟩) | (go_at_call 137; refine (l7Many_any _ _ _ _ _ _ _ _ HSM.out hl4).mono ?_; rintro e w' ⟨rfl, hw⟩))
            all_goals
              go_ret
              exact ⟨rb (by rw [HR.out, E1.out, decide_eq_true h0, decide_eq_true h1]; first | rfl | (simp; done) | (simp_all; done)), hbe.trans (hw.mono hz)⟩
        · have h1' : (cntO ks l 1 l.length == 1) = false := by simp [h1]
          rw [h0] at c0
          go_wp2_with fail
          go_ret
          exact ⟨rb (by rw [HR.out, decide_eq_false h1]; simp), hbe⟩
      · have h0' : (cntO ks l 0 l.length == 1) = false := by simp [h0]
        go_wp2_with fail
        go_ret
        exact ⟨rb (by rw [HR.out, decide_eq_false h0]; simp), hbe⟩
end Go.Proofs.YtnjhcjjeehccbaaGreatDoor.Ko
