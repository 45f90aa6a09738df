/- Whether a player is in check: the model. -/
import Derived.Test.YtcgfklljbblhlaaGreatDoorCk
namespace Go.Proofs.YtcgfklljbblhlaaGreatDoor.Ko
open Go.ChangeShapes Go.WideShapes Go.ChangeAt Go.RowKit Base Sq
set_option linter.unusedVariables false
set_option maxRecDepth 20000
attribute [local irreducible] wpQuiet

set_option maxHeartbeats 4000000 in
theorem l3King_any (side : Int) (A : Option Addr) (c : Nat) (ks : List Kd) (t : Int) (M : Option Addr) (cm : Nat) (l : List St) (o : Int) (w : World) (hR : IsKinds w w.heap.size A ks) (hM : IsSteps w w.heap.size M l)
    (hkl : ks.length ≤ 1048576) (hl : l.length ≤ 1048576) :
    Calls Tryz.prog 96 #[.agg #[.int .i64 side, .slice A ks.length c], .agg #[.int .i64 t, .slice M l.length cm], .int .i64 o] w fun e w' => e = .returned (.int .i64 (kingAt ks l o)) ∧ Below w.heap.size w w' := by
  have HH := Lib.hid (fun k => kingAt_hit (ks := ks) (l := l) (o := o) (k := k))
  have HN := Lib.hid (kingAt_none (ks := ks) (l := l) (o := o))
  go_enter Tryz.func96, Tryz.ntmps96
  go_wp2_with fail
  have p1 := (Blk.new w #[.int .i64 side, .slice A ks.length c] 40).alloc (.cells #[.int .i64 t, .slice M l.length cm] 35)
  have p2 := Blk.new (w.alloc (.cells #[.int .i64 side, .slice A ks.length c] 40)) #[.int .i64 t, .slice M l.length cm] 35
  simp only [World.size_alloc] at p2
  go_loopw [7] (fun i wr => ∃ k : Nat, k ≤ l.length ∧ i = .int .i64 k ∧ Hid (∀ j, j < k → ¬ ((stAt l j).dy = o ∧ (stAt l j).dx = kingV ks)) ∧
    Blk wr w.heap.size #[.int .i64 side, .slice A ks.length c] 40 ∧ Blk wr (w.heap.size + 1) #[.int .i64 t, .slice M l.length cm] 35 ∧ Below w.heap.size w wr) (fun i _ => l.length - (intOf i).toNat)
  case atStart => exact ⟨0, by omega, rfl, Lib.hid (fun j hj => absurd hj (by omega)), p1, p2, (by repeat (first | exact Below.refl _ _ | assumption | (refine Below.alloc ?_ (by first | omega | (simp; done) | (simp; omega)) _) | (refine Below.setCell ?_ (by first | omega | (simp; done) | (simp; omega)) _) | refine Below.drew ?_))⟩
  case round =>
    clear p1 p2
    obtain ⟨k, hk, rfl, hg, p1, p2, hbe⟩ := hrel
    obtain ⟨⟨r0, r1⟩, _⟩ := p1.at2
    obtain ⟨⟨o0, o1⟩, _⟩ := p2.at2
    have z1 := p1.lt
    have z2 := p2.lt
    have hz := hbe.size
    by_cases hlt : k < l.length
    · obtain ⟨b, off, rfl, hB, hc⟩ := hM.below hbe (by omega)
      obtain ⟨s0, s1, s2⟩ := hc k hlt
      have z3 : b < wr.heap.size := by omega
      have hk0 : (0 : Int) ≤ (k : Int) := by omega
      have hk3 : (k : Int) < (l.length : Int) := by omega
      have t1 := (hR.below hbe).more hz
      clear hc
      go_wp2_with fail
      by_cases hown : (stAt l k).dy = o
      · have hd : ((stAt l k).dy == o) = true := by simp [hown]
        by_cases hkg : (stAt l k).dx = kingV ks
        · have hd2 : ((stAt l k).dx == kingV ks) = true := by simp [hkg]
          have HK := Lib.hid (HH.out k hlt hg.out ⟨hown, hkg⟩)
          clear hown hkg
          refine wp_region_below (W := wr) (by kernel_rfl) (by kernel_rfl) (Below.refl _ _) ?_
          repeat (first
            | (refine qs_skip (by rfl) ?_; simp only [Act.put, List.setIfInBounds_toArray, List.set_cons_zero, List.set_cons_succ])
            | (apply qs_take
               focus rfl
               focus (
                 intro wq hwq
                 obtain ⟨hcq, hfq⟩ := bcell hwq
                 go_simp
                 all_goals first
                   | exact rfl
                   | (go_at_call 72; refine (l2King_any _ _ _ _ _ ((t1.below hwq).more hwq.size) hkl).mono ?_; exact fun e w2 h => ⟨h.1, hwq.trans (h.2.mono hwq.size)⟩)
                   | (exact ⟨trivial, rfl⟩))
               simp only [Act.put, List.setIfInBounds_toArray, List.set_cons_zero, List.set_cons_succ]))
          refine wpQuiet_nil ?_
          intro wq hwq
          have q2 := p2.below hwq z2
          obtain ⟨⟨o0, o1⟩, _⟩ := q2.at2
          have s2 := (hwq.cell (p := ⟨b, _, none⟩) z3).trans s2
          go_wp2_with fail
          go_ret
          exact ⟨ri HK.out.symm, hbe.trans (hwq.mono hz)⟩
        · have hd2 : ((stAt l k).dx == kingV ks) = false := by simp [hkg]
          have HK := Lib.hid hkg
          clear hown hkg
          refine wp_region_below (W := wr) (by kernel_rfl) (by kernel_rfl) (Below.refl _ _) ?_
          repeat (first
            | (refine qs_skip (by rfl) ?_; simp only [Act.put, List.setIfInBounds_toArray, List.set_cons_zero, List.set_cons_succ])
            | (apply qs_take
               focus rfl
               focus (
                 intro wq hwq
                 obtain ⟨hcq, hfq⟩ := bcell hwq
                 go_simp
                 all_goals first
                   | exact rfl
                   | (go_at_call 72; refine (l2King_any _ _ _ _ _ ((t1.below hwq).more hwq.size) hkl).mono ?_; exact fun e w2 h => ⟨h.1, hwq.trans (h.2.mono hwq.size)⟩)
                   | (exact ⟨trivial, rfl⟩))
               simp only [Act.put, List.setIfInBounds_toArray, List.set_cons_zero, List.set_cons_succ]))
          refine wpQuiet_nil ?_
          intro wq hwq
          go_wp2_with fail
          go_roundw
          case rel => exact ⟨k + 1, by omega, by go_num, Lib.hid (all_succ hg.out (fun h => absurd h.2 HK.out)), p1.below hwq z1, p2.below hwq z2, hbe.trans (hwq.mono hz)⟩
          case measure => simp [intOf]; omega
      · have hd : ((stAt l k).dy == o) = false := by simp [hown]
        have HK := Lib.hid hown
        clear hown
        refine wp_region_below (W := wr) (by kernel_rfl) (by kernel_rfl) (Below.refl _ _) ?_
        repeat (first
          | (refine qs_skip (by rfl) ?_; simp only [Act.put, List.setIfInBounds_toArray, List.set_cons_zero, List.set_cons_succ])
          | (apply qs_take
             focus rfl
             focus (
               intro wq hwq
               obtain ⟨hcq, hfq⟩ := bcell hwq
               go_simp
               all_goals first
                 | exact rfl
                 | (go_at_call 72; refine (l2King_any _ _ _ _ _ ((t1.below hwq).more hwq.size) hkl).mono ?_; exact fun e w2 h => ⟨h.1, hwq.trans (h.2.mono hwq.size)⟩)
                 | (exact ⟨trivial, rfl⟩))
             simp only [Act.put, List.setIfInBounds_toArray, List.set_cons_zero, List.set_cons_succ]))
        refine wpQuiet_nil ?_
        intro wq hwq
        go_wp2_with fail
        go_roundw
        case rel => exact ⟨k + 1, by omega, by go_num, Lib.hid (all_succ hg.out (fun h => absurd h.1 HK.out)), p1.below hwq z1, p2.below hwq z2, hbe.trans (hwq.mono hz)⟩
        case measure => simp [intOf]; omega
    · obtain rfl : k = l.length := by omega
      go_wp2_with fail
      go_ret
      exact ⟨ri (HN.out hg.out).symm, hbe⟩

set_option maxHeartbeats 4000000 in
theorem l3Check_any (side : Int) (A : Option Addr) (c : Nat) (ks : List Kd) (t t0 : Int) (M : Option Addr) (cm : Nat) (l : List St) (o : Int) (w : World) (hR : IsKinds w w.heap.size A ks) (hM : IsSteps w w.heap.size M l)
    (hok : rulesOk side ks = true) (hsh : shapeB side ks t0 l = true) (ho : o = 0 ∨ o = 1) :
    Calls Tryz.prog 74 #[.agg #[.int .i64 side, .slice A ks.length c], .agg #[.int .i64 t, .slice M l.length cm], .int .i64 o] w fun e w' => e = .returned (.bool (checkB side ks l o)) ∧ Below w.heap.size w w' := by
  obtain ⟨hs, hk1, hk4, hkk, _⟩ := rulesOk_facts hok
  obtain ⟨_, hl4, hc0, hc1, hmen⟩ := shapeB_facts hsh
  have hcnt : cntK ks l o l.length = 1 := by rcases ho with rfl | rfl <;> assumption
  obtain ⟨kk, hkk1, hkk2⟩ := kingAt_some hcnt
  have hka : 0 ≤ kingAt ks l o := by rw [kingAt_one hcnt hkk1 hkk2]; exact (hmen kk hkk1).2.2.1.1
  have HMEN := Lib.hid hmen
  have HOK := Lib.hid hok
  have HY := Lib.hid (fun i => checkB_yes (side := side) (o := o) (ks := ks) (l := l) (i := i))
  have HN := Lib.hid (checkB_no (side := side) (o := o) (ks := ks) (l := l))
  clear hs hkk hc0 hc1 hmen hcnt hok hsh ho hkk1 hkk2
  go_enter Tryz.func74, Tryz.ntmps74
  go_wp2_with fail
  have hb0 : Below w.heap.size w ((w.alloc (.cells #[.int .i64 side, .slice A ks.length c] 40)).alloc (.cells #[.int .i64 t, .slice M l.length cm] 35)) := (by repeat (first | exact Below.refl _ _ | assumption | (refine Below.alloc ?_ (by first | omega | (simp; done) | (simp; omega)) _) | (refine Below.setCell ?_ (by first | omega | (simp; done) | (simp; omega)) _) | refine Below.drew ?_))
  have p1 := (Blk.new w #[.int .i64 side, .slice A ks.length c] 40).alloc (.cells #[.int .i64 t, .slice M l.length cm] 35)
  have p2 := Blk.new (w.alloc (.cells #[.int .i64 side, .slice A ks.length c] 40)) #[.int .i64 t, .slice M l.length cm] 35
  simp only [World.size_alloc] at p2
  refine (l3King_any _ _ _ _ _ _ _ _ _ _ ((hR.below hb0).more hb0.size) ((hM.below hb0).more hb0.size) (by omega) (by omega)).mono ?_
  rintro e w2 ⟨rfl, hb2⟩
  have p1' := p1.below hb2 p1.lt
  have p2' := p2.below hb2 p2.lt
  have hb0' := hb0.trans (hb2.mono hb0.size)
  clear hb2 p1 p2 hb0
  go_wp2_with fail
  go_loopw [8] (fun i wr => ∃ k : Nat, k ≤ l.length ∧ i = .int .i64 k ∧ Hid (∀ j, j < k → attB side ks l o j = false) ∧
    Blk wr w.heap.size #[.int .i64 side, .slice A ks.length c] 40 ∧ Blk wr (w.heap.size + 1) #[.int .i64 t, .slice M l.length cm] 35 ∧ Below w.heap.size w wr) (fun i _ => l.length - (intOf i).toNat)
  case atStart => exact ⟨0, by omega, rfl, Lib.hid (fun j hj => absurd hj (by omega)), p1', p2', hb0'⟩
  case round =>
    clear p1' p2' hb0'
    obtain ⟨k, hk, rfl, hg, p1, p2, hbe⟩ := hrel
    obtain ⟨⟨r0, r1⟩, _⟩ := p1.at2
    obtain ⟨⟨o0, o1⟩, _⟩ := p2.at2
    have z1 := p1.lt
    have z2 := p2.lt
    have hz := hbe.size
    by_cases hlt : k < l.length
    · obtain ⟨b, off, rfl, hB, hc⟩ := hM.below hbe (by omega)
      obtain ⟨s0, s1, s2⟩ := hc k hlt
      obtain ⟨⟨n1, n2⟩, ⟨n3, n4⟩, ⟨n5, n6⟩, _⟩ := HMEN.out k hlt
      have z3 : b < wr.heap.size := by omega
      have hk0 : (0 : Int) ≤ (k : Int) := by omega
      have hk3 : (k : Int) < (l.length : Int) := by omega
      have t1 := (hR.below hbe).more hz
      have t2 := (hM.below hbe).more hz
      clear hc
      go_wp2_with fail
      by_cases hown : (stAt l k).dy = o
      · have hd : ((stAt l k).dy != o) = false := by simp [hown]
        have HA := Lib.hid (attB_own (side := side) (ks := ks) hown)
        clear hown
        refine wp_region_below (W := wr) (by kernel_rfl) (by kernel_rfl) (Below.refl _ _) ?_
        repeat (first
          | (refine qs_skip (by rfl) ?_; simp only [Act.put, List.setIfInBounds_toArray, List.set_cons_zero, List.set_cons_succ])
          | (apply qs_take
             focus rfl
             focus (
               intro wq hwq
               obtain ⟨hcq, hfq⟩ := bcell hwq
               go_simp
               all_goals first
                 | exact rfl
                 | (exact ⟨trivial, rfl⟩))
             simp only [Act.put, List.setIfInBounds_toArray, List.set_cons_zero, List.set_cons_succ]))
        refine wpQuiet_nil ?_
        intro wq hwq
        go_wp2_with fail
        go_roundw
        case rel => exact ⟨k + 1, by omega, by go_num, Lib.hid (all_succ hg.out HA.out), p1.below hwq z1, p2.below hwq z2, hbe.trans (hwq.mono hz)⟩
        case measure => simp [intOf]; omega
      · have hd : ((stAt l k).dy != o) = true := by simp [hown]
        cases hhit : hitsB side l (kOf ks ⟨(stAt l k).dx, (stAt l k).dy, (stAt l k).far⟩).steps (stAt l k).far (kingAt ks l o)
        · have HA := Lib.hid (attB_hit (side := side) (ks := ks) (b := false) hown hhit)
          have HI := Lib.hid hhit
          clear hown hhit
          refine wp_region_below (W := wr) (by kernel_rfl) (by kernel_rfl) (Below.refl _ _) ?_
          repeat (first
            | (refine qs_skip (by rfl) ?_; simp only [Act.put, List.setIfInBounds_toArray, List.set_cons_zero, List.set_cons_succ])
            | (apply qs_take
               focus rfl
               focus (
                 intro wq hwq
                 obtain ⟨hcq, hfq⟩ := bcell hwq
                 go_simp
                 all_goals first
                   | exact rfl
                   | (go_at_call 73; refine (l3Hits_any _ _ _ _ _ _ _ _ _ _ _ _ _ ((t1.below hwq).more hwq.size) ((t2.below hwq).more hwq.size) HOK.out ⟨n1, n2⟩ ⟨n5, n6⟩ (by omega) hka).mono ?_; rw [HI.out]; exact fun e w2 h => ⟨h.1, hwq.trans (h.2.mono hwq.size)⟩)
                   | (exact ⟨trivial, rfl⟩))
               simp only [Act.put, List.setIfInBounds_toArray, List.set_cons_zero, List.set_cons_succ]))
          refine wpQuiet_nil ?_
          intro wq hwq
          go_wp2_with fail
          go_roundw
          case rel => exact ⟨k + 1, by omega, by go_num, Lib.hid (all_succ hg.out HA.out), p1.below hwq z1, p2.below hwq z2, hbe.trans (hwq.mono hz)⟩
          case measure => simp [intOf]; omega
        · have HA := Lib.hid (HY.out k hlt (attB_hit (side := side) (ks := ks) (b := true) hown hhit))
          have HI := Lib.hid hhit
          clear hown hhit
          refine wp_region_below (W := wr) (by kernel_rfl) (by kernel_rfl) (Below.refl _ _) ?_
          repeat (first
            | (refine qs_skip (by rfl) ?_; simp only [Act.put, List.setIfInBounds_toArray, List.set_cons_zero, List.set_cons_succ])
            | (apply qs_take
               focus rfl
               focus (
                 intro wq hwq
                 obtain ⟨hcq, hfq⟩ := bcell hwq
                 go_simp
                 all_goals first
                   | exact rfl
                   | (go_at_call 73; refine (l3Hits_any _ _ _ _ _ _ _ _ _ _ _ _ _ ((t1.below hwq).more hwq.size) ((t2.below hwq).more hwq.size) HOK.out ⟨n1, n2⟩ ⟨n5, n6⟩ (by omega) hka).mono ?_; rw [HI.out]; exact fun e w2 h => ⟨h.1, hwq.trans (h.2.mono hwq.size)⟩)
                   | (exact ⟨trivial, rfl⟩))
               simp only [Act.put, List.setIfInBounds_toArray, List.set_cons_zero, List.set_cons_succ]))
          refine wpQuiet_nil ?_
          intro wq hwq
          go_wp2_with fail
          go_ret
          exact ⟨rb HA.out.symm, hbe.trans (hwq.mono hz)⟩
    · obtain rfl : k = l.length := by omega
      go_wp2_with fail
      go_ret
      exact ⟨rb (HN.out hg.out).symm, hbe⟩
end Go.Proofs.YtcgfklljbblhlaaGreatDoor.Ko
