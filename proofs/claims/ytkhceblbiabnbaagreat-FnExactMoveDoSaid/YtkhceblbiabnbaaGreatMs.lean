/- Whether a move is legal: the program. -/
import Derived.Test.YtkhceblbiabnbaaGreatMg
namespace Go.Proofs.YtkhceblbiabnbaaGreat.Ko
open Go.ChangeShapes Go.WideShapes Go.ChangeAt Go.RowKit Base Sq
set_option linter.unusedVariables false
set_option maxRecDepth 20000
attribute [local irreducible] wpQuiet

theorem canB_none {side : Int} {ks : List Kd} {t : Int} {l : List St} {f q : Int} (h : manV l f = -1) : canB side ks t l f q = false := by unfold canB; rw [h]; rfl
theorem canB_some {side : Int} {ks : List Kd} {t : Int} {l : List St} {f q : Int} {n : Nat} (h : manV l f = (n : Int)) :
    canB side ks t l f q = (decide ((stAt l n).dy = t) && hitsB side l (kOf ks (stAt l n)).steps (stAt l n).far q && mayB side ks t l n q) := by
  unfold canB; rw [h, decide_eq_true (p := ((n : Int) ≠ -1)) (by omega), Int.toNat_natCast]; rfl
theorem canB_other {side : Int} {ks : List Kd} {t : Int} {l : List St} {f q : Int} {n : Nat} (h : manV l f = (n : Int)) (ho : ¬ (stAt l n).dy = t) : canB side ks t l f q = false := by
  rw [canB_some h, decide_eq_false ho]; rfl
theorem canB_miss {side : Int} {ks : List Kd} {t : Int} {l : List St} {f q : Int} {n : Nat} (h : manV l f = (n : Int)) (hh : hitsB side l (kOf ks (stAt l n)).steps (stAt l n).far q = false) : canB side ks t l f q = false := by
  rw [canB_some h, hh]; simp
theorem canB_hit {side : Int} {ks : List Kd} {t : Int} {l : List St} {f q : Int} {n : Nat} (h : manV l f = (n : Int)) (ho : (stAt l n).dy = t) (hh : hitsB side l (kOf ks (stAt l n)).steps (stAt l n).far q = true) : canB side ks t l f q = mayB side ks t l n q := by
  rw [canB_some h, hh, decide_eq_true ho]; simp

set_option maxHeartbeats 4000000 in
theorem isMove_any (side : Int) (A : Option Addr) (c : Nat) (ks : List Kd) (t : Int) (M : Option Addr) (cm : Nat) (l : List St) (f q : Int) (w : World) (hR : IsKinds w w.heap.size A ks) (hM : IsSteps w w.heap.size M l)
    (hok : rulesOk side ks = true) (hsh : shapeB side ks t l = true) :
    Calls Tryz.prog 25 #[.agg #[.int .i64 side, .slice A ks.length c], .agg #[.int .i64 t, .slice M l.length cm], .agg #[.int .i64 f, .int .i64 q]] w fun e w' => e = .returned (.bool (canB side ks t l f q)) ∧ Below w.heap.size w w' := by
  obtain ⟨hs, hk1, hk4, hkk, _⟩ := rulesOk_facts hok
  obtain ⟨⟨ht0, ht1⟩, hl4, _, _, hmen⟩ := shapeB_facts hsh
  have HMEN := Lib.hid hmen
  have HOK := Lib.hid hok
  have HSH := Lib.hid hsh
  have HSS := Lib.hid hs
  clear hs hkk hmen hok hsh
  go_enter Tryz.func25, Tryz.ntmps25
  go_wp2_with fail
  have hb0 : Below w.heap.size w (((w.alloc (.cells #[.int .i64 side, .slice A ks.length c] 39)).alloc (.cells #[.int .i64 t, .slice M l.length cm] 34)).alloc (.cells #[.int .i64 f, .int .i64 q] 42)) := (by repeat (first | exact Below.refl _ _ | assumption | (refine Below.alloc ?_ (by first | omega | (simp; done) | (simp; omega)) _) | (refine Below.setCell ?_ (by first | omega | (simp; done) | (simp; omega)) _) | refine Below.drew ?_))
  have p1 := ((Blk.new w #[.int .i64 side, .slice A ks.length c] 39).alloc (.cells #[.int .i64 t, .slice M l.length cm] 34)).alloc (.cells #[.int .i64 f, .int .i64 q] 42)
  have p2 := (Blk.new (w.alloc (.cells #[.int .i64 side, .slice A ks.length c] 39)) #[.int .i64 t, .slice M l.length cm] 34).alloc (.cells #[.int .i64 f, .int .i64 q] 42)
  have p3 := Blk.new ((w.alloc (.cells #[.int .i64 side, .slice A ks.length c] 39)).alloc (.cells #[.int .i64 t, .slice M l.length cm] 34)) #[.int .i64 f, .int .i64 q] 42
  simp only [World.size_alloc] at p2 p3
  generalize hW0 : ((w.alloc _).alloc _).alloc _ = W0 at *
  clear hW0
  refine (manAt_any _ _ _ _ _ ((hM.below hb0).more hb0.size) (by omega)).mono ?_
  rintro e w2 ⟨rfl, hb2⟩
  have p1' := p1.below hb2 p1.lt
  have p2' := p2.below hb2 p2.lt
  have p3' := p3.below hb2 p3.lt
  have hb0' := hb0.trans (hb2.mono hb0.size)
  have hR2 := (hR.below hb0').more hb0'.size
  have hM2 := (hM.below hb0').more hb0'.size
  obtain ⟨⟨r0, r1⟩, _⟩ := p1'.at2
  obtain ⟨⟨o0, o1⟩, _⟩ := p2'.at2
  obtain ⟨⟨m0, m1⟩, _⟩ := p3'.at2
  have z1 := p1'.lt
  have z2 := p2'.lt
  have z3 := p3'.lt
  have hz := hb0'.size
  clear p1 p2 p3 hb0 hb2
  by_cases hm : manV l f = -1
  · have HN := Lib.hid (canB_none (side := side) (ks := ks) (t := t) (q := q) hm)
    rw [hm]
    clear hm
    go_wp2_with fail
    refine wp_region_below (W := w2) (by kernel_rfl) (by kernel_rfl) (Below.refl _ _) ?_
    repeat (first
      | (refine qs_skip (by rfl) ?_; simp only [Act.put, List.setIfInBounds_toArray, List.set_cons_zero, List.set_cons_succ])
      | (apply qs_take
         focus rfl
         focus (
           intro wq hwq
           obtain ⟨hcq, hfq⟩ := bcell hwq
           go_simp
           all_goals first
             | exact rfl
             | (exact ⟨trivial, rfl⟩))
         simp only [Act.put, List.setIfInBounds_toArray, List.set_cons_zero, List.set_cons_succ]))
    refine wpQuiet_nil ?_
    intro wq hwq
    go_wp2_with fail
    go_ret
    exact ⟨rb HN.out.symm, hb0'.trans (hwq.mono hz)⟩
  · obtain ⟨h1, h2, h3⟩ := manV_far hm
    obtain ⟨n, hn⟩ : ∃ n : Nat, manV l f = (n : Int) := ⟨(manV l f).toNat, by omega⟩
    rw [hn] at h1 h2 hm
    simp only [Int.toNat_natCast] at h1 h2
    have HNN := Lib.hid hn
    rw [hn]
    clear hn hm h2 h3
    obtain ⟨b, off, rfl, hB, hc⟩ := hM2 (by omega)
    obtain ⟨s0, s1, s2⟩ := hc n h1
    obtain ⟨⟨x1, x2⟩, ⟨x3, x4⟩, ⟨x5, x6⟩, _⟩ := HMEN.out n h1
    have hne : ((n : Int) == -1) = false := by simp
    have HS2 : Hid (IsSteps w2 w2.heap.size (some ⟨b, off, none⟩) l) := Lib.hid hM2
    have HR2 := Lib.hid hR2
    clear hc hM2 hR2 hM hR
    by_cases hown : (stAt l n).dy = t
    · have hd : ((stAt l n).dy != t) = false := by simp [hown]
      have HOWN := Lib.hid hown
      clear hown
      go_wp2_with fail
      refine wp_region_below (W := w2) (by kernel_rfl) (by kernel_rfl) (Below.refl _ _) ?_
      repeat (first
        | (refine qs_skip (by rfl) ?_; simp only [Act.put, List.setIfInBounds_toArray, List.set_cons_zero, List.set_cons_succ])
        | (apply qs_take
           focus rfl
           focus (
             intro wq hwq
             obtain ⟨hcq, hfq⟩ := bcell hwq
             go_simp
             all_goals first
               | exact rfl
               | (exact ⟨trivial, rfl⟩))
           simp only [Act.put, List.setIfInBounds_toArray, List.set_cons_zero, List.set_cons_succ]))
      refine wpQuiet_nil ?_
      intro wq hwq
      have hbq := hb0'.trans (hwq.mono hz)
      have p1q := p1'.below hwq z1
      have p2q := p2'.below hwq z2
      have p3q := p3'.below hwq z3
      have hRq := (HR2.out.below hwq).more hwq.size
      have hMq := (HS2.out.below hwq).more hwq.size
      have hzq := hwq.size
      obtain ⟨b', off', hA, hB', hc'⟩ := hMq (by omega)
      obtain ⟨rfl, rfl⟩ : b = b' ∧ off = off' := by injection hA with hA; injection hA with h1 h2; exact ⟨h1, h2⟩
      obtain ⟨s0, s1, s2⟩ := hc' n h1
      obtain ⟨⟨r0, r1⟩, _⟩ := p1q.at2
      obtain ⟨⟨o0, o1⟩, _⟩ := p2q.at2
      obtain ⟨⟨m0, m1⟩, _⟩ := p3q.at2
      have y1 := p1q.lt
      have y2 := p2q.lt
      have y3 := p3q.lt
      have HRQ := Lib.hid hRq
      have HMQ : Hid (IsSteps wq wq.heap.size (some ⟨b, off, none⟩) l) := Lib.hid hMq
      have HBQ := Lib.hid hbq
      have hzz : w.heap.size ≤ wq.heap.size := by omega
      clear hc' hA hwq p1' p2' p3' p1q p2q p3q hRq hMq hbq hb0' z1 z2 z3 hz hzq hB HS2 HR2
      generalize hWQ : wq = W3 at *
      clear hWQ
      cases hh : hitsB side l (kOf ks ⟨(stAt l n).dx, (stAt l n).dy, (stAt l n).far⟩).steps (stAt l n).far q
      · have HH := Lib.hid hh
        have HN := Lib.hid (canB_miss (t := t) HNN.out hh)
        clear hh
        go_wp2_with fail
        refine wp_region_below (W := W3) (by kernel_rfl) (by kernel_rfl) (Below.refl _ _) ?_
        repeat (first
          | (refine qs_skip (by rfl) ?_; simp only [Act.put, List.setIfInBounds_toArray, List.set_cons_zero, List.set_cons_succ])
          | (apply qs_take
             focus rfl
             focus (
               intro wq hwq
               obtain ⟨hcq, hfq⟩ := bcell hwq
               go_simp
               all_goals first
                 | exact rfl
                 | (go_at_call 49; refine (hits_any _ _ _ _ _ _ _ _ _ _ _ _ ((HRQ.out.below hwq).more hwq.size) ((HMQ.out.below hwq).more hwq.size) HOK.out ⟨x1, x2⟩ ⟨x5, x6⟩ (by omega)).mono ?_; rw [HH.out]; exact fun e w2 h => ⟨h.1, hwq.trans (h.2.mono hwq.size)⟩)
                 | (exact ⟨trivial, rfl⟩))
             simp only [Act.put, List.setIfInBounds_toArray, List.set_cons_zero, List.set_cons_succ]))
        refine wpQuiet_nil ?_
        intro wq hwq
        go_wp2_with fail
        go_ret
        exact ⟨rb HN.out.symm, HBQ.out.trans (hwq.mono hzz)⟩
      · have HH := Lib.hid hh
        have HN := Lib.hid (canB_hit HNN.out HOWN.out hh)
        have HQ := Lib.hid (hitsB_in HSS.out ⟨x5, x6⟩ hh)
        clear hh
        go_wp2_with fail
        refine wp_region_below (W := W3) (by kernel_rfl) (by kernel_rfl) (Below.refl _ _) ?_
        repeat (first
          | (refine qs_skip (by rfl) ?_; simp only [Act.put, List.setIfInBounds_toArray, List.set_cons_zero, List.set_cons_succ])
          | (apply qs_take
             focus rfl
             focus (
               intro wq hwq
               obtain ⟨hcq, hfq⟩ := bcell hwq
               go_simp
               all_goals first
                 | exact rfl
                 | (go_at_call 49; refine (hits_any _ _ _ _ _ _ _ _ _ _ _ _ ((HRQ.out.below hwq).more hwq.size) ((HMQ.out.below hwq).more hwq.size) HOK.out ⟨x1, x2⟩ ⟨x5, x6⟩ (by omega)).mono ?_; rw [HH.out]; exact fun e w2 h => ⟨h.1, hwq.trans (h.2.mono hwq.size)⟩)
                 | (go_at_call 50; refine (mayGo_any _ _ _ _ _ _ _ _ _ _ _ ((HRQ.out.below hwq).more hwq.size) ((HMQ.out.below hwq).more hwq.size) HOK.out HSH.out h1 HQ.out).mono ?_; exact fun e w2 h => ⟨h.1, hwq.trans (h.2.mono hwq.size)⟩)
                 | (exact ⟨trivial, rfl⟩))
             simp only [Act.put, List.setIfInBounds_toArray, List.set_cons_zero, List.set_cons_succ]))
        refine wpQuiet_nil ?_
        intro wq hwq
        go_wp2_with fail
        go_ret
        exact ⟨rb HN.out.symm, HBQ.out.trans (hwq.mono hzz)⟩
    · have hd : ((stAt l n).dy != t) = true := by simp [hown]
      have HN := Lib.hid (canB_other (side := side) (ks := ks) (q := q) HNN.out hown)
      clear hown
      go_wp2_with fail
      refine wp_region_below (W := w2) (by kernel_rfl) (by kernel_rfl) (Below.refl _ _) ?_
      repeat (first
        | (refine qs_skip (by rfl) ?_; simp only [Act.put, List.setIfInBounds_toArray, List.set_cons_zero, List.set_cons_succ])
        | (apply qs_take
           focus rfl
           focus (
             intro wq hwq
             obtain ⟨hcq, hfq⟩ := bcell hwq
             go_simp
             all_goals first
               | exact rfl
               | (exact ⟨trivial, rfl⟩))
           simp only [Act.put, List.setIfInBounds_toArray, List.set_cons_zero, List.set_cons_succ]))
      refine wpQuiet_nil ?_
      intro wq hwq
      go_wp2_with fail
      go_ret
      exact ⟨rb HN.out.symm, hb0'.trans (hwq.mono hz)⟩

end Go.Proofs.YtkhceblbiabnbaaGreat.Ko
