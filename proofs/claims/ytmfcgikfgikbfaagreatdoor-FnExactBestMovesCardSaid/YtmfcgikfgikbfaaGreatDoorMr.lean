/- Whether a move is legal: the model. -/
import Derived.Test.YtmfcgikfgikbfaaGreatDoorMq
import Derived.Test.YtmfcgikfgikbfaaGreatDoorCs
import Derived.Test.YtmfcgikfgikbfaaGreatDoorCb
namespace Go.Proofs.YtmfcgikfgikbfaaGreatDoor.Ko
open Go.ChangeShapes Go.WideShapes Go.ChangeAt Go.RowKit Base Sq
set_option linter.unusedVariables false
set_option maxRecDepth 20000
attribute [local irreducible] wpQuiet

theorem canB_blocked {side : Int} {ks : List Kd} {t : Int} {l : List St} {f q : Int} {n m : Nat} (h : manV l f = (n : Int)) (h2 : manV l q = (m : Int)) (hb : (stAt l m).dy = t ∨ (stAt l m).dx = kingV ks) : canB side ks t l f q = false := by
  rw [canB_some h, mayB_no (by rw [freeB_some h2]; rcases hb with hb | hb <;> simp [hb])]; simp
theorem canB_may {side : Int} {ks : List Kd} {t : Int} {l : List St} {f q : Int} {n : Nat} (h : manV l f = (n : Int)) (ho : (stAt l n).dy = t) (hh : hitsB side l (kOf ks (stAt l n)).steps (stAt l n).far q = true) (hf : freeB ks t l q = true) : canB side ks t l f q = !checkB side ks (doL l n q) t := by
  rw [canB_hit h ho hh, mayB_yes hf]

set_option maxHeartbeats 8000000 in
theorem l4Can_any (side : Int) (A : Option Addr) (c : Nat) (ks : List Kd) (t : Int) (M : Option Addr) (cm : Nat) (l : List St) (f q : Int) (w : World) (hR : IsKinds w w.heap.size A ks) (hM : IsSteps w w.heap.size M l)
    (hok : rulesOk side ks = true) (hsh : shapeB side ks t l = true) (hq0 : 0 ≤ q ∧ q < side * side) :
    Calls Tryz.prog 118 #[.agg #[.int .i64 side, .slice A ks.length c], .agg #[.int .i64 t, .slice M l.length cm], .agg #[.int .i64 f, .int .i64 q]] w fun e w' => e = .returned (.bool (canB side ks t l f q)) ∧ Below w.heap.size w w' := by
  obtain ⟨hs, hk1, hk4, hkk, _⟩ := rulesOk_facts hok
  obtain ⟨⟨ht0, ht1⟩, hl4, _, _, hmen⟩ := shapeB_facts hsh
  have HMEN := Lib.hid hmen
  have HOK := Lib.hid hok
  have HSH := Lib.hid hsh
  have HU := Lib.hid (shapeB_up hsh)
  have HQ := Lib.hid hq0
  have HT : Hid (0 ≤ t ∧ t ≤ 1) := Lib.hid ⟨ht0, ht1⟩
  clear hs hkk hmen hok hsh
  obtain ⟨hq0, hq1⟩ := hq0
  go_enter Tryz.func118, Tryz.ntmps118
  go_wp2_with fail
  have hb0 : Below w.heap.size w (((w.alloc (.cells #[.int .i64 side, .slice A ks.length c] 34)).alloc (.cells #[.int .i64 t, .slice M l.length cm] 58)).alloc (.cells #[.int .i64 f, .int .i64 q] 98)) := (by repeat (first | exact Below.refl _ _ | assumption | (refine Below.alloc ?_ (by first | omega | (simp; done) | (simp; omega)) _) | (refine Below.setCell ?_ (by first | omega | (simp; done) | (simp; omega)) _) | refine Below.drew ?_))
  have p1 := ((Blk.new w #[.int .i64 side, .slice A ks.length c] 34).alloc (.cells #[.int .i64 t, .slice M l.length cm] 58)).alloc (.cells #[.int .i64 f, .int .i64 q] 98)
  have p2 := (Blk.new (w.alloc (.cells #[.int .i64 side, .slice A ks.length c] 34)) #[.int .i64 t, .slice M l.length cm] 58).alloc (.cells #[.int .i64 f, .int .i64 q] 98)
  have p3 := Blk.new ((w.alloc (.cells #[.int .i64 side, .slice A ks.length c] 34)).alloc (.cells #[.int .i64 t, .slice M l.length cm] 58)) #[.int .i64 f, .int .i64 q] 98
  simp only [World.size_alloc] at p2 p3
  generalize hW0 : ((w.alloc _).alloc _).alloc _ = W0 at *
  clear hW0
  refine (l3Man_any _ _ _ _ _ _ ((hM.below hb0).more hb0.size) (by omega)).mono ?_
  rintro e w1 ⟨rfl, hb1⟩
  have p1' := p1.below hb1 p1.lt
  have p2' := p2.below hb1 p2.lt
  have p3' := p3.below hb1 p3.lt
  have hb0' := hb0.trans (hb1.mono hb0.size)
  obtain ⟨⟨o0, o1⟩, _⟩ := p2'.at2
  obtain ⟨⟨m0, m1⟩, _⟩ := p3'.at2
  clear p1 p2 p3 hb0 hb1
  go_wp2_with fail
  refine (l3Man_any _ _ _ _ _ _ ((hM.below hb0').more hb0'.size) (by omega)).mono ?_
  rintro e w2 ⟨rfl, hb2⟩
  have p1 := p1'.below hb2 p1'.lt
  have p2 := p2'.below hb2 p2'.lt
  have p3 := p3'.below hb2 p3'.lt
  have hbe := hb0'.trans (hb2.mono hb0'.size)
  have hR2 := (hR.below hbe).more hbe.size
  have hM2 := (hM.below hbe).more hbe.size
  clear p1' p2' p3' hb0' hb2 o0 o1 m0 m1
  obtain ⟨⟨r0, r1⟩, _⟩ := p1.at2
  obtain ⟨⟨o0, o1⟩, _⟩ := p2.at2
  obtain ⟨⟨m0, m1⟩, _⟩ := p3.at2
  have z1 := p1.lt
  have z2 := p2.lt
  have z3 := p3.lt
  have hz := hbe.size
  have HP1 := Lib.hid p1
  have HP2 := Lib.hid p2
  have HP3 := Lib.hid p3
  have HBE := Lib.hid hbe
  clear p1 p2 p3 hbe hR hM
  by_cases hm : manV l f = -1
  · have HN := Lib.hid (canB_none (side := side) (ks := ks) (t := t) (q := q) hm)
    rw [hm]
    clear hm
    go_wp2_with fail
    refine wp_region_below (W := w2) (by kernel_rfl) (by kernel_rfl) (Below.refl _ _) ?_
    repeat (first
      | (refine qs_skip (by rfl) ?_; simp only [Act.put, List.setIfInBounds_toArray, List.set_cons_zero, List.set_cons_succ])
      | (apply qs_take
         focus rfl
         focus (
           intro wq hwq
           obtain ⟨hcq, hfq⟩ := bcell hwq
           go_simp
           all_goals first
             | exact rfl
             | (exact ⟨trivial, rfl⟩))
         simp only [Act.put, List.setIfInBounds_toArray, List.set_cons_zero, List.set_cons_succ]))
    refine wpQuiet_nil ?_
    intro wq hwq
    go_wp2_with fail
    go_ret
    exact ⟨rb HN.out.symm, HBE.out.trans (hwq.mono hz)⟩
  obtain ⟨h1, h2, h3⟩ := manV_far hm
  obtain ⟨n, hn⟩ : ∃ n : Nat, manV l f = (n : Int) := ⟨(manV l f).toNat, by omega⟩
  rw [hn] at h1 h2 hm
  simp only [Int.toNat_natCast] at h1 h2
  have HNN := Lib.hid hn
  have HFAR := Lib.hid h2
  rw [hn]
  clear hn hm h2 h3
  obtain ⟨b, off, rfl, hB, hc⟩ := hM2 (by omega)
  obtain ⟨s0, s1, s2⟩ := hc n h1
  obtain ⟨⟨x1, x2⟩, ⟨x3, x4⟩, ⟨x5, x6⟩, _⟩ := HMEN.out n h1
  have HM2 : Hid (IsSteps w2 w2.heap.size (some ⟨b, off, none⟩) l) := Lib.hid hM2
  have HC := Lib.hid hc
  have HR2 := Lib.hid hR2
  clear hc hM2 hR2
  by_cases hown : (stAt l n).dy = t
  case neg =>
    have hd : ((stAt l n).dy != t) = true := by simp [hown]
    have HN := Lib.hid (canB_other (side := side) (ks := ks) (q := q) HNN.out hown)
    clear hown
    go_wp2_with fail
    refine wp_region_below (W := w2) (by kernel_rfl) (by kernel_rfl) (Below.refl _ _) ?_
    repeat (first
      | (refine qs_skip (by rfl) ?_; simp only [Act.put, List.setIfInBounds_toArray, List.set_cons_zero, List.set_cons_succ])
      | (apply qs_take
         focus rfl
         focus (
           intro wq hwq
           obtain ⟨hcq, hfq⟩ := bcell hwq
           go_simp
           all_goals first
             | exact rfl
             | (exact ⟨trivial, rfl⟩))
         simp only [Act.put, List.setIfInBounds_toArray, List.set_cons_zero, List.set_cons_succ]))
    refine wpQuiet_nil ?_
    intro wq hwq
    go_wp2_with fail
    go_ret
    exact ⟨rb HN.out.symm, HBE.out.trans (hwq.mono hz)⟩
  case pos =>
    have hd : ((stAt l n).dy != t) = false := by simp [hown]
    have HOWN := Lib.hid hown
    clear hown
    by_cases hmq : manV l q = -1
    · have HF := Lib.hid (freeB_none (ks := ks) (t := t) hmq)
      rw [hmq]
      clear hmq
      cases hh : hitsB side l (kOf ks ⟨(stAt l n).dx, (stAt l n).dy, (stAt l n).far⟩).steps (stAt l n).far q
      · have HH := Lib.hid hh
        have HN := Lib.hid (canB_miss (t := t) HNN.out hh)
        clear hh
        go_wp2_with fail
        refine wp_region_below (W := w2) (by kernel_rfl) (by kernel_rfl) (Below.refl _ _) ?_
        repeat (first
          | (refine qs_skip (by rfl) ?_; simp only [Act.put, List.setIfInBounds_toArray, List.set_cons_zero, List.set_cons_succ])
          | (apply qs_take
             focus rfl
             focus (
               intro wq hwq
               obtain ⟨hcq, hfq⟩ := bcell hwq
               go_simp
               all_goals first
                 | exact rfl
                 | (go_at_call 134; refine (l3Hits_any _ _ _ _ _ _ _ _ _ _ _ _ _ ((HR2.out.below hwq).more hwq.size) ((HM2.out.below hwq).more hwq.size) HOK.out ⟨x1, x2⟩ ⟨x5, x6⟩ (by omega) hq0).mono ?_; rw [HH.out]; exact fun e w2 h => ⟨h.1, hwq.trans (h.2.mono hwq.size)⟩)
                 | (exact ⟨trivial, rfl⟩))
             simp only [Act.put, List.setIfInBounds_toArray, List.set_cons_zero, List.set_cons_succ]))
        refine wpQuiet_nil ?_
        intro wq hwq
        go_wp2_with fail
        go_ret
        exact ⟨rb HN.out.symm, HBE.out.trans (hwq.mono hz)⟩
      · have HH := Lib.hid hh
        have HN := Lib.hid (canB_may HNN.out HOWN.out hh HF.out)
        clear hh
        go_wp2_with fail
        refine wp_region_below (W := w2) (by kernel_rfl) (by kernel_rfl) (Below.refl _ _) ?_
        repeat (first
          | (refine qs_skip (by rfl) ?_; simp only [Act.put, List.setIfInBounds_toArray, List.set_cons_zero, List.set_cons_succ])
          | (apply qs_take
             focus rfl
             focus (
               intro wq hwq
               obtain ⟨hcq, hfq⟩ := bcell hwq
               go_simp
               all_goals first
                 | exact rfl
                 | (go_at_call 134; refine (l3Hits_any _ _ _ _ _ _ _ _ _ _ _ _ _ ((HR2.out.below hwq).more hwq.size) ((HM2.out.below hwq).more hwq.size) HOK.out ⟨x1, x2⟩ ⟨x5, x6⟩ (by omega) hq0).mono ?_; rw [HH.out]; exact fun e w2 h => ⟨h.1, hwq.trans (h.2.mono hwq.size)⟩)
                 | (exact ⟨trivial, rfl⟩))
             simp only [Act.put, List.setIfInBounds_toArray, List.set_cons_zero, List.set_cons_succ]))
        refine wpQuiet_nil ?_
        intro wq hwq
        have hbq := HBE.out.trans (hwq.mono hz)
        have HBQ := Lib.hid hbq
        have HRQ := Lib.hid ((HR2.out.below hwq).more hwq.size)
        have HMQ := Lib.hid ((HM2.out.below hwq).more hwq.size)
        have HQ1 := Lib.hid (HP1.out.below hwq z1)
        have HQ2 := Lib.hid (HP2.out.below hwq z2)
        have HQ3 := Lib.hid (HP3.out.below hwq z3)
        have HZQ := Lib.hid hbq.size
        clear hbq hwq r0 r1 o0 o1 m0 m1 s0 s1 s2 HC HR2 HM2 HP1 HP2 HP3 HBE z1 z2 z3 hz hB
        generalize hWQ : wq = W3 at *
        clear hWQ
        obtain ⟨⟨r0, r1⟩, _⟩ := HQ1.out.at2
        obtain ⟨⟨o0, o1⟩, _⟩ := HQ2.out.at2
        obtain ⟨⟨m0, m1⟩, _⟩ := HQ3.out.at2
        go_wp2_with fail
        have HS : Hid (∀ w', Below W3.heap.size W3 w' → (w'.cell? ⟨w.heap.size, 0, none⟩ = some (.int .i64 side) ∧ w'.cell? ⟨w.heap.size, 1, none⟩ = some (.slice A ks.length c) ∧ w'.cell? ⟨w.heap.size + 1, 0, none⟩ = some (.int .i64 t) ∧ w'.cell? ⟨w.heap.size + 1, 1, none⟩ = some (.slice (some ⟨b, off, none⟩) l.length cm) ∧ w'.cell? ⟨w.heap.size + 1 + 1, 0, none⟩ = some (.int .i64 f) ∧ w'.cell? ⟨w.heap.size + 1 + 1, 1, none⟩ = some (.int .i64 q))) := Lib.hid (fun w' hb => by
          obtain ⟨⟨a0, a1⟩, _⟩ := (HQ1.out.below hb HQ1.out.lt).at2
          obtain ⟨⟨b0, b1⟩, _⟩ := (HQ2.out.below hb HQ2.out.lt).at2
          obtain ⟨⟨c0, c1⟩, _⟩ := (HQ3.out.below hb HQ3.out.lt).at2
          exact ⟨a0, a1, b0, b1, c0, c1⟩)
        clear r0 r1 o0 o1 m0 m1
        have hw : Below W3.heap.size W3 W3.drew := (Below.refl _ _).drew
        go_region_held3 (fun w' => w'.cell? ⟨w.heap.size, 0, none⟩ = some (.int .i64 side) ∧ w'.cell? ⟨w.heap.size, 1, none⟩ = some (.slice A ks.length c) ∧ w'.cell? ⟨w.heap.size + 1, 0, none⟩ = some (.int .i64 t) ∧ w'.cell? ⟨w.heap.size + 1, 1, none⟩ = some (.slice (some ⟨b, off, none⟩) l.length cm) ∧ w'.cell? ⟨w.heap.size + 1 + 1, 0, none⟩ = some (.int .i64 f) ∧ w'.cell? ⟨w.heap.size + 1 + 1, 1, none⟩ = some (.int .i64 q))
          (exact HS.out _ hw)
          (first
            | (go_at_call 82; refine (l4Do_any _ _ _ _ _ _ _ _ ((HMQ.out.below hw).more hw.size) HT.out hl4 h1 HFAR.out HU.out (resL_pos HSH.out (freeB_king HU.out HF.out))).mono ?_; rintro e wa ⟨Aa, ca, rfl, hna, hba⟩; have hw := hw.trans (hba.mono hw.size))
            | (go_at_call 102; refine (l3Check_any _ _ _ _ _ t _ _ _ _ _ ((HRQ.out.below hw).more hw.size) hna.is HOK.out (doL_shape HSH.out HT.out h1 HQ.out (freeB_king HU.out HF.out)) (by omega)).mono ?_; rintro e wc ⟨rfl, hbc⟩; have hw := hw.trans (hbc.mono hw.size)))
        all_goals
          go_wp2_with fail
          go_ret
          exact ⟨rb (by rw [HN.out]), HBQ.out.trans (hw.mono HZQ.out)⟩
    · obtain ⟨h1q, h2q, h3q⟩ := manV_far hmq
      obtain ⟨m, hmm⟩ : ∃ m : Nat, manV l q = (m : Int) := ⟨(manV l q).toNat, by omega⟩
      rw [hmm] at h1q hmq
      simp only [Int.toNat_natCast] at h1q
      have HMM := Lib.hid hmm
      rw [hmm]
      clear hmm hmq h2q h3q
      obtain ⟨y0, y1, y2⟩ := HC.out m h1q
      by_cases hownq : (stAt l m).dy = t
      · have hd2 : ((stAt l m).dy == t) = true := by simp [hownq]
        have HN := Lib.hid (canB_blocked (side := side) (ks := ks) HNN.out HMM.out (.inl hownq))
        clear hownq
        go_wp2_with fail
        refine wp_region_below (W := w2) (by kernel_rfl) (by kernel_rfl) (Below.refl _ _) ?_
        repeat (first
          | (refine qs_skip (by rfl) ?_; simp only [Act.put, List.setIfInBounds_toArray, List.set_cons_zero, List.set_cons_succ])
          | (apply qs_take
             focus rfl
             focus (
               intro wq hwq
               obtain ⟨hcq, hfq⟩ := bcell hwq
               go_simp
               all_goals first
                 | exact rfl
                 | (exact ⟨trivial, rfl⟩))
             simp only [Act.put, List.setIfInBounds_toArray, List.set_cons_zero, List.set_cons_succ]))
        refine wpQuiet_nil ?_
        intro wq hwq
        go_wp2_with fail
        go_ret
        exact ⟨rb HN.out.symm, HBE.out.trans (hwq.mono hz)⟩
      · have hd2 : ((stAt l m).dy == t) = false := by simp [hownq]
        by_cases hkq : (stAt l m).dx = kingV ks
        · have hd3 : ((stAt l m).dx == kingV ks) = true := by simp [hkq]
          have HN := Lib.hid (canB_blocked (side := side) (t := t) HNN.out HMM.out (.inr hkq))
          clear hownq hkq
          go_wp2_with fail
          refine wp_region_below (W := w2) (by kernel_rfl) (by kernel_rfl) (Below.refl _ _) ?_
          repeat (first
            | (refine qs_skip (by rfl) ?_; simp only [Act.put, List.setIfInBounds_toArray, List.set_cons_zero, List.set_cons_succ])
            | (apply qs_take
               focus rfl
               focus (
                 intro wq hwq
                 obtain ⟨hcq, hfq⟩ := bcell hwq
                 go_simp
                 all_goals first
                   | exact rfl
                   | (go_at_call 98; refine (l2King_any _ _ _ _ _ ((HR2.out.below hwq).more hwq.size) (by omega)).mono ?_; exact fun e w2 h => ⟨h.1, hwq.trans (h.2.mono hwq.size)⟩)
                   | (exact ⟨trivial, rfl⟩))
               simp only [Act.put, List.setIfInBounds_toArray, List.set_cons_zero, List.set_cons_succ]))
          refine wpQuiet_nil ?_
          intro wq hwq
          go_wp2_with fail
          go_ret
          exact ⟨rb HN.out.symm, HBE.out.trans (hwq.mono hz)⟩
        · have hd3 : ((stAt l m).dx == kingV ks) = false := by simp [hkq]
          have HF : Hid (freeB ks t l q = true) := Lib.hid (by rw [freeB_some HMM.out, decide_eq_true hownq, decide_eq_true (p := (stAt l m).dx ≠ kingV ks) hkq]; rfl)
          clear hownq hkq
          cases hh : hitsB side l (kOf ks ⟨(stAt l n).dx, (stAt l n).dy, (stAt l n).far⟩).steps (stAt l n).far q
          · have HH := Lib.hid hh
            have HN := Lib.hid (canB_miss (t := t) HNN.out hh)
            clear hh
            go_wp2_with fail
            refine wp_region_below (W := w2) (by kernel_rfl) (by kernel_rfl) (Below.refl _ _) ?_
            repeat (first
              | (refine qs_skip (by rfl) ?_; simp only [Act.put, List.setIfInBounds_toArray, List.set_cons_zero, List.set_cons_succ])
              | (apply qs_take
                 focus rfl
                 focus (
                   intro wq hwq
                   obtain ⟨hcq, hfq⟩ := bcell hwq
                   go_simp
                   all_goals first
                     | exact rfl
                     | (go_at_call 134; refine (l3Hits_any _ _ _ _ _ _ _ _ _ _ _ _ _ ((HR2.out.below hwq).more hwq.size) ((HM2.out.below hwq).more hwq.size) HOK.out ⟨x1, x2⟩ ⟨x5, x6⟩ (by omega) hq0).mono ?_; rw [HH.out]; exact fun e w2 h => ⟨h.1, hwq.trans (h.2.mono hwq.size)⟩)
                     | (go_at_call 98; refine (l2King_any _ _ _ _ _ ((HR2.out.below hwq).more hwq.size) (by omega)).mono ?_; exact fun e w2 h => ⟨h.1, hwq.trans (h.2.mono hwq.size)⟩)
                     | (exact ⟨trivial, rfl⟩))
                 simp only [Act.put, List.setIfInBounds_toArray, List.set_cons_zero, List.set_cons_succ]))
            refine wpQuiet_nil ?_
            intro wq hwq
            go_wp2_with fail
            go_ret
            exact ⟨rb HN.out.symm, HBE.out.trans (hwq.mono hz)⟩
          · have HH := Lib.hid hh
            have HN := Lib.hid (canB_may HNN.out HOWN.out hh HF.out)
            clear hh
            go_wp2_with fail
            refine wp_region_below (W := w2) (by kernel_rfl) (by kernel_rfl) (Below.refl _ _) ?_
            repeat (first
              | (refine qs_skip (by rfl) ?_; simp only [Act.put, List.setIfInBounds_toArray, List.set_cons_zero, List.set_cons_succ])
              | (apply qs_take
                 focus rfl
                 focus (
                   intro wq hwq
                   obtain ⟨hcq, hfq⟩ := bcell hwq
                   go_simp
                   all_goals first
                     | exact rfl
                     | (go_at_call 134; refine (l3Hits_any _ _ _ _ _ _ _ _ _ _ _ _ _ ((HR2.out.below hwq).more hwq.size) ((HM2.out.below hwq).more hwq.size) HOK.out ⟨x1, x2⟩ ⟨x5, x6⟩ (by omega) hq0).mono ?_; rw [HH.out]; exact fun e w2 h => ⟨h.1, hwq.trans (h.2.mono hwq.size)⟩)
                     | (go_at_call 98; refine (l2King_any _ _ _ _ _ ((HR2.out.below hwq).more hwq.size) (by omega)).mono ?_; exact fun e w2 h => ⟨h.1, hwq.trans (h.2.mono hwq.size)⟩)
                     | (exact ⟨trivial, rfl⟩))
                 simp only [Act.put, List.setIfInBounds_toArray, List.set_cons_zero, List.set_cons_succ]))
            refine wpQuiet_nil ?_
            intro wq hwq
            have hbq := HBE.out.trans (hwq.mono hz)
            have HBQ := Lib.hid hbq
            have HRQ := Lib.hid ((HR2.out.below hwq).more hwq.size)
            have HMQ := Lib.hid ((HM2.out.below hwq).more hwq.size)
            have HQ1 := Lib.hid (HP1.out.below hwq z1)
            have HQ2 := Lib.hid (HP2.out.below hwq z2)
            have HQ3 := Lib.hid (HP3.out.below hwq z3)
            have HZQ := Lib.hid hbq.size
            clear hbq hwq r0 r1 o0 o1 m0 m1 s0 s1 s2 y0 y1 y2 HC HR2 HM2 HP1 HP2 HP3 HBE z1 z2 z3 hz hB
            generalize hWQ : wq = W3 at *
            clear hWQ
            obtain ⟨⟨r0, r1⟩, _⟩ := HQ1.out.at2
            obtain ⟨⟨o0, o1⟩, _⟩ := HQ2.out.at2
            obtain ⟨⟨m0, m1⟩, _⟩ := HQ3.out.at2
            go_wp2_with fail
            have HS : Hid (∀ w', Below W3.heap.size W3 w' → (w'.cell? ⟨w.heap.size, 0, none⟩ = some (.int .i64 side) ∧ w'.cell? ⟨w.heap.size, 1, none⟩ = some (.slice A ks.length c) ∧ w'.cell? ⟨w.heap.size + 1, 0, none⟩ = some (.int .i64 t) ∧ w'.cell? ⟨w.heap.size + 1, 1, none⟩ = some (.slice (some ⟨b, off, none⟩) l.length cm) ∧ w'.cell? ⟨w.heap.size + 1 + 1, 0, none⟩ = some (.int .i64 f) ∧ w'.cell? ⟨w.heap.size + 1 + 1, 1, none⟩ = some (.int .i64 q))) := Lib.hid (fun w' hb => by
              obtain ⟨⟨a0, a1⟩, _⟩ := (HQ1.out.below hb HQ1.out.lt).at2
              obtain ⟨⟨b0, b1⟩, _⟩ := (HQ2.out.below hb HQ2.out.lt).at2
              obtain ⟨⟨c0, c1⟩, _⟩ := (HQ3.out.below hb HQ3.out.lt).at2
              exact ⟨a0, a1, b0, b1, c0, c1⟩)
            clear r0 r1 o0 o1 m0 m1
            have hw : Below W3.heap.size W3 W3.drew := (Below.refl _ _).drew
            go_region_held3 (fun w' => w'.cell? ⟨w.heap.size, 0, none⟩ = some (.int .i64 side) ∧ w'.cell? ⟨w.heap.size, 1, none⟩ = some (.slice A ks.length c) ∧ w'.cell? ⟨w.heap.size + 1, 0, none⟩ = some (.int .i64 t) ∧ w'.cell? ⟨w.heap.size + 1, 1, none⟩ = some (.slice (some ⟨b, off, none⟩) l.length cm) ∧ w'.cell? ⟨w.heap.size + 1 + 1, 0, none⟩ = some (.int .i64 f) ∧ w'.cell? ⟨w.heap.size + 1 + 1, 1, none⟩ = some (.int .i64 q))
              (exact HS.out _ hw)
              (first
                | (go_at_call 82; refine (l4Do_any _ _ _ _ _ _ _ _ ((HMQ.out.below hw).more hw.size) HT.out hl4 h1 HFAR.out HU.out (resL_pos HSH.out (freeB_king HU.out HF.out))).mono ?_; rintro e wa ⟨Aa, ca, rfl, hna, hba⟩; have hw := hw.trans (hba.mono hw.size))
                | (go_at_call 102; refine (l3Check_any _ _ _ _ _ t _ _ _ _ _ ((HRQ.out.below hw).more hw.size) hna.is HOK.out (doL_shape HSH.out HT.out h1 HQ.out (freeB_king HU.out HF.out)) (by omega)).mono ?_; rintro e wc ⟨rfl, hbc⟩; have hw := hw.trans (hbc.mono hw.size)))
            all_goals
              go_wp2_with fail
              go_ret
              exact ⟨rb (by rw [HN.out]), HBQ.out.trans (hw.mono HZQ.out)⟩
end Go.Proofs.YtmfcgikfgikbfaaGreatDoor.Ko
