/- GenOk of the model and of the program. -/
import Derived.Test.YtmfcgikfgikbfaaGv
import Derived.Test.YtmfcgikfgikbfaaPx
namespace Go.Proofs.Ytmfcgikfgikbfaa.Ko
open Go.ChangeShapes Go.WideShapes Go.ChangeAt Go.RowKit Base Sq In
set_option linter.unusedVariables false
set_option maxRecDepth 20000
attribute [local irreducible] wpQuiet

/-- GenOk -/
def genOkV (side : Int) (ks : List Kd) (m : List Pc) (ply idle : Int) (z : List Int) : Bool := matV side ks m && inB ply 0 100 && inB idle 0 2 && decide ((z.length : Int) = numV side m.length) && rangeB z

set_option maxHeartbeats 4000000 in
theorem l12Ok_any (side : Int) (A : Option Addr) (c : Nat) (ks : List Kd) (M : Option Addr) (cm : Nat) (m : List Pc) (ply idle : Int) (V : Option Addr) (cv : Nat) (z : List Int) (w : World) (hR : IsKinds w w.heap.size A ks) (hM : IsPcs w w.heap.size M m) (hV : IsInts w w.heap.size V z)
    (hsm : Small ks) (hm : m.length ≤ 1048576) (hz : z.length ≤ 1048576) :
    Calls Try.prog 41 #[.agg #[.int .i64 side, .slice A ks.length c], .slice M m.length cm, .agg #[.int .i64 ply, .int .i64 idle, .slice V z.length cv]] w fun e w' => e = .returned (.bool (genOkV side ks m ply idle z)) ∧ Below w.heap.size w w' := by
  have hb0 : Below w.heap.size w ((w.alloc (.cells #[.int .i64 side, .slice A ks.length c] 36)).alloc (.cells #[.int .i64 ply, .int .i64 idle, .slice V z.length cv] 54)) := (by repeat (first | exact Below.refl _ _ | assumption | (refine Below.alloc ?_ (by first | omega | (simp; done) | (simp; omega)) _) | (refine Below.setCell ?_ (by first | omega | (simp; done) | (simp; omega)) _) | refine Below.drew ?_))
  have p1 := (Blk.new w #[.int .i64 side, .slice A ks.length c] 36).alloc (.cells #[.int .i64 ply, .int .i64 idle, .slice V z.length cv] 54)
  have p2 := Blk.new (w.alloc (.cells #[.int .i64 side, .slice A ks.length c] 36)) #[.int .i64 ply, .int .i64 idle, .slice V z.length cv] 54
  simp only [World.size_alloc] at p2
  have HU := Lib.hid (show genOkV side ks m ply idle z = (matV side ks m && inB ply 0 100 && inB idle 0 2 && decide ((z.length : Int) = numV side m.length) && rangeB z) from rfl)
  cases hok : matV side ks m
  · have HK := Lib.hid hok
    have HV := Lib.hid (show genOkV side ks m ply idle z = false by rw [HU.out, hok]; rfl)
    clear hok HU
    go_enter Try.func41, Try.ntmps41
    go_wp2_with fail
    generalize hW0 : (w.alloc _).alloc _ = W0 at *
    clear hW0
    have hR1 := (hR.below hb0).more hb0.size
    have hM1 := (hM.below hb0).more hb0.size
    have hV1 := (hV.below hb0).more hb0.size
    have y1 := p1.lt
    have y2 := p2.lt
    obtain ⟨⟨r0, r1⟩, _⟩ := p1.at2
    obtain ⟨⟨s0, s1, s2⟩, _⟩ := p2.at3
    refine wp_region_below (W := W0) (by kernel_rfl) (by kernel_rfl) (Below.refl _ _) ?_
    repeat (first
      | (refine qs_skip (by rfl) ?_; simp only [Act.put, List.setIfInBounds_toArray, List.set_cons_zero, List.set_cons_succ])
      | (apply qs_take
         focus rfl
         focus (
           intro wq hwq
           obtain ⟨hcq, hfq⟩ := bcell hwq
           go_simp
           all_goals first
             | exact rfl
             | (go_at_call 47; refine (specMatOk_any _ _ _ _ _ _ _ _ ((hR1.below hwq).more hwq.size) ((hM1.below hwq).more hwq.size) hsm hm).mono ?_; rw [HK.out]; exact fun e w2 h => ⟨h.1, hwq.trans (h.2.mono hwq.size)⟩)
             | (exact ⟨trivial, rfl⟩))
         simp only [Act.put, List.setIfInBounds_toArray, List.set_cons_zero, List.set_cons_succ]))
    refine wpQuiet_nil ?_
    intro wq hwq
    go_wp2_with fail
    go_ret
    exact ⟨by rw [HV.out]; first | rfl | simp, hb0.trans (hwq.mono hb0.size)⟩
  · have HK := Lib.hid hok
    obtain ⟨hro, hm4⟩ := matV_facts hok
    obtain ⟨hs, _⟩ := rulesOk_facts hro
    have HS := Lib.hid hs
    clear hro hs
    cases e1 : inB ply 0 100
    · have E1 := Lib.hid e1
      have HV := Lib.hid (show genOkV side ks m ply idle z = false by rw [HU.out, hok, e1]; rfl)
      clear hok HU e1
      go_enter Try.func41, Try.ntmps41
      go_wp2_with fail
      generalize hW0 : (w.alloc _).alloc _ = W0 at *
      clear hW0
      have hR1 := (hR.below hb0).more hb0.size
      have hM1 := (hM.below hb0).more hb0.size
      have hV1 := (hV.below hb0).more hb0.size
      have y1 := p1.lt
      have y2 := p2.lt
      obtain ⟨⟨r0, r1⟩, _⟩ := p1.at2
      obtain ⟨⟨s0, s1, s2⟩, _⟩ := p2.at3
      refine wp_region_below (W := W0) (by kernel_rfl) (by kernel_rfl) (Below.refl _ _) ?_
      repeat (first
        | (refine qs_skip (by rfl) ?_; simp only [Act.put, List.setIfInBounds_toArray, List.set_cons_zero, List.set_cons_succ])
        | (apply qs_take
           focus rfl
           focus (
             intro wq hwq
             obtain ⟨hcq, hfq⟩ := bcell hwq
             go_simp
             all_goals first
               | exact rfl
               | (go_at_call 47; refine (specMatOk_any _ _ _ _ _ _ _ _ ((hR1.below hwq).more hwq.size) ((hM1.below hwq).more hwq.size) hsm hm).mono ?_; rw [HK.out]; exact fun e w2 h => ⟨h.1, hwq.trans (h.2.mono hwq.size)⟩)
               | (go_at_call 59; refine (in_any _ _ _ _).mono ?_; rw [E1.out]; exact fun e w2 h => ⟨h.1, h.2 ▸ hwq⟩)
               | (exact ⟨trivial, rfl⟩))
           simp only [Act.put, List.setIfInBounds_toArray, List.set_cons_zero, List.set_cons_succ]))
      refine wpQuiet_nil ?_
      intro wq hwq
      go_wp2_with fail
      go_ret
      exact ⟨by rw [HV.out]; first | rfl | simp, hb0.trans (hwq.mono hb0.size)⟩
    · have E1 := Lib.hid e1
      cases e2 : inB idle 0 2
      · have E2 := Lib.hid e2
        have HV := Lib.hid (show genOkV side ks m ply idle z = false by rw [HU.out, hok, e1, e2]; rfl)
        clear hok HU e1 e2
        go_enter Try.func41, Try.ntmps41
        go_wp2_with fail
        generalize hW0 : (w.alloc _).alloc _ = W0 at *
        clear hW0
        have hR1 := (hR.below hb0).more hb0.size
        have hM1 := (hM.below hb0).more hb0.size
        have hV1 := (hV.below hb0).more hb0.size
        have y1 := p1.lt
        have y2 := p2.lt
        obtain ⟨⟨r0, r1⟩, _⟩ := p1.at2
        obtain ⟨⟨s0, s1, s2⟩, _⟩ := p2.at3
        refine wp_region_below (W := W0) (by kernel_rfl) (by kernel_rfl) (Below.refl _ _) ?_
        repeat (first
          | (refine qs_skip (by rfl) ?_; simp only [Act.put, List.setIfInBounds_toArray, List.set_cons_zero, List.set_cons_succ])
          | (apply qs_take
             focus rfl
             focus (
               intro wq hwq
               obtain ⟨hcq, hfq⟩ := bcell hwq
               go_simp
               all_goals first
                 | exact rfl
                 | (go_at_call 47; refine (specMatOk_any _ _ _ _ _ _ _ _ ((hR1.below hwq).more hwq.size) ((hM1.below hwq).more hwq.size) hsm hm).mono ?_; rw [HK.out]; exact fun e w2 h => ⟨h.1, hwq.trans (h.2.mono hwq.size)⟩)
                 | (go_at_call 59; refine (in_any _ _ _ _).mono ?_; rw [E1.out]; exact fun e w2 h => ⟨h.1, h.2 ▸ hwq⟩)
                 | (go_at_call 59; refine (in_any _ _ _ _).mono ?_; rw [E2.out]; exact fun e w2 h => ⟨h.1, h.2 ▸ hwq⟩)
                 | (exact ⟨trivial, rfl⟩))
             simp only [Act.put, List.setIfInBounds_toArray, List.set_cons_zero, List.set_cons_succ]))
        refine wpQuiet_nil ?_
        intro wq hwq
        go_wp2_with fail
        go_ret
        exact ⟨by rw [HV.out]; first | rfl | simp, hb0.trans (hwq.mono hb0.size)⟩
      · have E2 := Lib.hid e2
        by_cases he : (z.length : Int) = numV side m.length
        · have HV := Lib.hid (show genOkV side ks m ply idle z = rangeB z by rw [HU.out, hok, e1, e2, decide_eq_true he]; simp)
          have hd : ((z.length : Int) == numV side m.length) = true := by simp [he]
          clear hok HU e1 e2 he
          go_enter Try.func41, Try.ntmps41
          go_wp2_with fail
          generalize hW0 : (w.alloc _).alloc _ = W0 at *
          clear hW0
          have hR1 := (hR.below hb0).more hb0.size
          have hM1 := (hM.below hb0).more hb0.size
          have hV1 := (hV.below hb0).more hb0.size
          have y1 := p1.lt
          have y2 := p2.lt
          obtain ⟨⟨r0, r1⟩, _⟩ := p1.at2
          obtain ⟨⟨s0, s1, s2⟩, _⟩ := p2.at3
          refine wp_region_below (W := W0) (by kernel_rfl) (by kernel_rfl) (Below.refl _ _) ?_
          repeat (first
            | (refine qs_skip (by rfl) ?_; simp only [Act.put, List.setIfInBounds_toArray, List.set_cons_zero, List.set_cons_succ])
            | (apply qs_take
               focus rfl
               focus (
                 intro wq hwq
                 obtain ⟨hcq, hfq⟩ := bcell hwq
                 go_simp
                 all_goals first
                   | exact rfl
                   | (go_at_call 47; refine (specMatOk_any _ _ _ _ _ _ _ _ ((hR1.below hwq).more hwq.size) ((hM1.below hwq).more hwq.size) hsm hm).mono ?_; rw [HK.out]; exact fun e w2 h => ⟨h.1, hwq.trans (h.2.mono hwq.size)⟩)
                   | (go_at_call 59; refine (in_any _ _ _ _).mono ?_; rw [E1.out]; exact fun e w2 h => ⟨h.1, h.2 ▸ hwq⟩)
                   | (go_at_call 59; refine (in_any _ _ _ _).mono ?_; rw [E2.out]; exact fun e w2 h => ⟨h.1, h.2 ▸ hwq⟩)
                   | (go_at_call 31; refine (l7Many_any _ _ _ _ _ _ _ _ HS.out hm4).mono ?_; exact fun e w2 h => ⟨h.1, hwq.trans (h.2.mono hwq.size)⟩)
                   | (go_at_call 60; refine (l9Range_any _ _ _ _ ((hV1.below hwq).more hwq.size) hz).mono ?_; exact fun e w2 h => ⟨h.1, h.2 ▸ hwq⟩)
                   | (exact ⟨trivial, rfl⟩))
               simp only [Act.put, List.setIfInBounds_toArray, List.set_cons_zero, List.set_cons_succ]))
          refine wpQuiet_nil ?_
          intro wq hwq
          go_wp2_with fail
          go_ret
          exact ⟨by rw [HV.out]; first | rfl | simp, hb0.trans (hwq.mono hb0.size)⟩
        · have HV := Lib.hid (show genOkV side ks m ply idle z = false by rw [HU.out, hok, e1, e2, decide_eq_false he]; rfl)
          have hd : ((z.length : Int) == numV side m.length) = false := by simp [he]
          clear hok HU e1 e2 he
          go_enter Try.func41, Try.ntmps41
          go_wp2_with fail
          generalize hW0 : (w.alloc _).alloc _ = W0 at *
          clear hW0
          have hR1 := (hR.below hb0).more hb0.size
          have hM1 := (hM.below hb0).more hb0.size
          have hV1 := (hV.below hb0).more hb0.size
          have y1 := p1.lt
          have y2 := p2.lt
          obtain ⟨⟨r0, r1⟩, _⟩ := p1.at2
          obtain ⟨⟨s0, s1, s2⟩, _⟩ := p2.at3
          refine wp_region_below (W := W0) (by kernel_rfl) (by kernel_rfl) (Below.refl _ _) ?_
          repeat (first
            | (refine qs_skip (by rfl) ?_; simp only [Act.put, List.setIfInBounds_toArray, List.set_cons_zero, List.set_cons_succ])
            | (apply qs_take
               focus rfl
               focus (
                 intro wq hwq
                 obtain ⟨hcq, hfq⟩ := bcell hwq
                 go_simp
                 all_goals first
                   | exact rfl
                   | (go_at_call 47; refine (specMatOk_any _ _ _ _ _ _ _ _ ((hR1.below hwq).more hwq.size) ((hM1.below hwq).more hwq.size) hsm hm).mono ?_; rw [HK.out]; exact fun e w2 h => ⟨h.1, hwq.trans (h.2.mono hwq.size)⟩)
                   | (go_at_call 59; refine (in_any _ _ _ _).mono ?_; rw [E1.out]; exact fun e w2 h => ⟨h.1, h.2 ▸ hwq⟩)
                   | (go_at_call 59; refine (in_any _ _ _ _).mono ?_; rw [E2.out]; exact fun e w2 h => ⟨h.1, h.2 ▸ hwq⟩)
                   | (go_at_call 31; refine (l7Many_any _ _ _ _ _ _ _ _ HS.out hm4).mono ?_; exact fun e w2 h => ⟨h.1, hwq.trans (h.2.mono hwq.size)⟩)
                   | (exact ⟨trivial, rfl⟩))
               simp only [Act.put, List.setIfInBounds_toArray, List.set_cons_zero, List.set_cons_succ]))
          refine wpQuiet_nil ?_
          intro wq hwq
          go_wp2_with fail
          go_ret
          exact ⟨by rw [HV.out]; first | rfl | simp, hb0.trans (hwq.mono hb0.size)⟩
theorem specGenOk_any (side : Int) (A : Option Addr) (c : Nat) (ks : List Kd) (M : Option Addr) (cm : Nat) (m : List Pc) (ply idle : Int) (V : Option Addr) (cv : Nat) (z : List Int) (w : World) (hR : IsKinds w w.heap.size A ks) (hM : IsPcs w w.heap.size M m) (hV : IsInts w w.heap.size V z)
    (hsm : Small ks) (hm : m.length ≤ 1048576) (hz : z.length ≤ 1048576) :
    Calls Try.prog 21 #[.agg #[.int .i64 side, .slice A ks.length c], .slice M m.length cm, .agg #[.int .i64 ply, .int .i64 idle, .slice V z.length cv]] w fun e w' => e = .returned (.bool (genOkV side ks m ply idle z)) ∧ Below w.heap.size w w' := by
  have hb0 : Below w.heap.size w ((w.alloc (.cells #[.int .i64 side, .slice A ks.length c] 36)).alloc (.cells #[.int .i64 ply, .int .i64 idle, .slice V z.length cv] 54)) := (by repeat (first | exact Below.refl _ _ | assumption | (refine Below.alloc ?_ (by first | omega | (simp; done) | (simp; omega)) _) | (refine Below.setCell ?_ (by first | omega | (simp; done) | (simp; omega)) _) | refine Below.drew ?_))
  go_enter Try.func21, Try.ntmps21
  go_wp2_with fail
  refine (l12Ok_any _ _ _ _ _ _ _ _ _ _ _ _ _ ((hR.below hb0).more hb0.size) ((hM.below hb0).more hb0.size) ((hV.below hb0).more hb0.size) hsm hm hz).mono ?_
  rintro e w2 ⟨rfl, hb2⟩
  go_wp2_with fail
  go_ret
  exact ⟨rfl, hb0.trans (hb2.mono hb0.size)⟩
end Go.Proofs.Ytmfcgikfgikbfaa.Ko
