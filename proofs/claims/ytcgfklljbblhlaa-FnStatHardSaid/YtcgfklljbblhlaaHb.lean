/- Statistics by the model: StatOf, StatHard. -/
import Derived.Test.YtcgfklljbblhlaaHv
import Derived.Test.YtcgfklljbblhlaaSp
namespace Go.Proofs.Ytcgfklljbblhlaa.Ko
open Go.ChangeShapes Go.WideShapes Go.ChangeAt Go.RowKit Base Sq In Sc
set_option linter.unusedVariables false
set_option maxRecDepth 20000
attribute [local irreducible] wpQuiet

/-- the cells of statistics -/
abbrev statC (a b c d m : Int) : Array Value := #[.int .i64 a, .int .i64 b, .int .i64 c, .int .i64 d, .int .i64 m]
/-- what StatOf answers -/
def statV (z : List Int) : Value := .agg (statC (stN z) (stD z) (stW z) (stL z) (stM z))
theorem _root_.Go.Proofs.Ytcgfklljbblhlaa.Base.Blk.five {w : World} {b : Nat} {x y z u v : Value} {T : TypeId} (h : Blk w b #[x, y, z, u, v] T) :
    (w.cell? ⟨b, 0, none⟩ = some x ∧ w.cell? ⟨b, 1, none⟩ = some y ∧ w.cell? ⟨b, 2, none⟩ = some z ∧ w.cell? ⟨b, 3, none⟩ = some u ∧ w.cell? ⟨b, 4, none⟩ = some v) ∧
    (w.frozen? ⟨b, 0, none⟩ = false ∧ w.frozen? ⟨b, 1, none⟩ = false ∧ w.frozen? ⟨b, 2, none⟩ = false ∧ w.frozen? ⟨b, 3, none⟩ = false ∧ w.frozen? ⟨b, 4, none⟩ = false) :=
  ⟨⟨h.cell 0, h.cell 1, h.cell 2, h.cell 3, h.cell 4⟩, h.free 0, h.free 1, h.free 2, h.free 3, h.free 4⟩
theorem _root_.Go.Proofs.Ytcgfklljbblhlaa.Base.Blk.sets5 {w : World} {b : Nat} {x y z u v : Value} {T : TypeId} (h : Blk w b #[x, y, z, u, v] T) (x' y' z' u' v' : Value) :
    Blk (((((w.setCell ⟨b, 0, none⟩ x').setCell ⟨b, 1, none⟩ y').setCell ⟨b, 2, none⟩ z').setCell ⟨b, 3, none⟩ u').setCell ⟨b, 4, none⟩ v') b #[x', y', z', u', v'] T :=
  ((((h.set 0 x').set 1 y').set 2 z').set 3 u').set 4 v'
theorem _root_.Go.Proofs.Ytcgfklljbblhlaa.Base.Blk.others5 {w : World} {b g : Nat} {vs : Array Value} {T : TypeId} (h : Blk w b vs T) (x y z u v : Value) (hg : b ≠ g) :
    Blk (((((w.setCell ⟨g, 0, none⟩ x).setCell ⟨g, 1, none⟩ y).setCell ⟨g, 2, none⟩ z).setCell ⟨g, 3, none⟩ u).setCell ⟨g, 4, none⟩ v) b vs T :=
  ((((h.other ⟨g, 0, none⟩ x hg).other ⟨g, 1, none⟩ y hg).other ⟨g, 2, none⟩ z hg).other ⟨g, 3, none⟩ u hg).other ⟨g, 4, none⟩ v hg
theorem below_sets5 {B : Nat} {w w' : World} (h : Below B w w') {b : Nat} (hb : B ≤ b) (x y z u v : Value) :
    Below B w (((((w'.setCell ⟨b, 0, none⟩ x).setCell ⟨b, 1, none⟩ y).setCell ⟨b, 2, none⟩ z).setCell ⟨b, 3, none⟩ u).setCell ⟨b, 4, none⟩ v) :=
  ((((h.setCell (p := ⟨b, 0, none⟩) hb _).setCell (p := ⟨b, 1, none⟩) hb _).setCell (p := ⟨b, 2, none⟩) hb _).setCell (p := ⟨b, 3, none⟩) hb _).setCell (p := ⟨b, 4, none⟩) hb _
theorem statV_no {z : List Int} (h : listB z = false) : statV z = .agg (statC 0 0 0 0 0) := by
  have hn : ¬ listB z = true := by rw [h]; decide
  unfold statV stN stD stW stL stM; rw [if_neg hn, if_neg hn, if_neg hn, if_neg hn, if_neg hn]
theorem statV_yes {z : List Int} (h : listB z = true) : statV z = .agg (statC (cntP isN z z.length) (cntP isD z z.length) (cntP wonB z z.length) (cntP lostB z z.length) (topV z z.length - 2)) := by
  unfold statV stN stD stW stL stM; rw [if_pos h, if_pos h, if_pos h, if_pos h, if_pos h]









theorem _root_.Go.Proofs.Ytcgfklljbblhlaa.In.IsInts.at {w : World} {B b : Nat} {l : List Int} (h : IsInts w B (some ⟨b, 0, none⟩) l) {i : Nat} (hi : i < l.length) : b < B ∧ w.cell? ⟨b, i, none⟩ = some (.int .i64 (iAt l i)) := by
  obtain ⟨b', hb, hB, hc⟩ := h (by omega)
  obtain rfl : b = b' := by simpa using hb
  exact ⟨hB, hc i hi⟩
theorem _root_.Go.Proofs.Ytcgfklljbblhlaa.In.IsInts.some {w : World} {B : Nat} {A : Option Addr} {l : List Int} (h : IsInts w B A l) (hp : 0 < l.length) : ∃ b, A = some ⟨b, 0, none⟩ := by
  obtain ⟨b, hb, _⟩ := h hp; exact ⟨b, hb⟩
def StatInv (w wr : World) (z : List Int) (k : Nat) : Prop :=
  Blk wr w.heap.size (statC 0 0 0 0 0) 24 ∧ Blk wr (w.heap.size + 1) (statC (cntP isN z k) (cntP isD z k) (cntP wonB z k) (cntP lostB z k) (topV z k - 2)) 24 ∧ Below w.heap.size w wr

set_option maxHeartbeats 8000000 in
theorem specStatOf_any (V : Option Addr) (cv : Nat) (z : List Int) (w : World) (hV : IsInts w w.heap.size V z) (hz : z.length ≤ 1048576) :
    Calls Try.prog 8 #[.slice V z.length cv] w fun e w' => e = .returned (statV z) ∧ Below w.heap.size w w' := by
  have hb0 : Below w.heap.size w ((w.alloc (.cells (statC 0 0 0 0 0) 24)).alloc (.cells (statC 0 0 0 0 0) 24)) := (by repeat (first | exact Below.refl _ _ | assumption | (refine Below.alloc ?_ (by first | omega | (simp; done) | (simp; omega)) _) | (refine Below.setCell ?_ (by first | omega | (simp; done) | (simp; omega)) _) | refine Below.drew ?_))
  have p0 := (Blk.new w (statC 0 0 0 0 0) 24).alloc (.cells (statC 0 0 0 0 0) 24)
  have p1 := Blk.new (w.alloc (.cells (statC 0 0 0 0 0) 24)) (statC 0 0 0 0 0) 24
  simp only [World.size_alloc] at p1
  by_cases hbig : (2000 : Int) < (z.length : Int)
  · have HN := Lib.hid (statV_no (z := z) (by unfold listB; rw [decide_eq_false (by omega)]; rfl))
    go_enter Try.func8, Try.ntmps8
    go_wp2_with fail
    have hq : Ending.returned (.agg (statC 0 0 0 0 0)) = Ending.returned (statV z) ∧ Below w.heap.size w ((w.alloc (.cells (statC 0 0 0 0 0) 24)).alloc (.cells (statC 0 0 0 0 0) 24)) := ⟨by rw [HN.out], hb0⟩
    refine bodyPost_ret (R := fun e w' => e = Ending.returned (statV z) ∧ Below w.heap.size w w') (v := .agg (statC 0 0 0 0 0)) ?_ rfl hq
    obtain ⟨⟨d0, d1, d2, d3, d4⟩, _⟩ := p0.five
    simp [results, Try.results8, go_sem, d0, d1, d2, d3, d4]
  · go_enter Try.func8, Try.ntmps8
    go_wp2_with fail
    have hle : z.length ≤ 2000 := by omega
    generalize hW0 : (w.alloc _).alloc _ = W0 at *
    clear hW0
    refine (l9Range_any _ _ _ _ ((hV.below hb0).more hb0.size) hz).mono ?_
    rintro e w' ⟨rfl, rfl⟩
    cases hr : rangeB z
    · have HN := Lib.hid (statV_no (z := z) (by unfold listB; rw [hr]; simp))
      clear hr hbig
      obtain ⟨⟨q0, q1, q2, q3, q4⟩, _⟩ := p1.five
      obtain ⟨⟨a0, a1, a2, a3, a4⟩, ⟨f0, f1, f2, f3, f4⟩⟩ := p0.five
      go_wp2_with fail
      refine bodyPost_ret (v := .agg (statC 0 0 0 0 0)) ?_ rfl ⟨by rw [HN.out], below_sets5 hb0 (Nat.le_refl _) _ _ _ _ _⟩
      obtain ⟨⟨d0, d1, d2, d3, d4⟩, _⟩ := (p0.sets5 (.int .i64 0) (.int .i64 0) (.int .i64 0) (.int .i64 0) (.int .i64 0)).five
      simp [results, Try.results8, go_sem, d0, d1, d2, d3, d4]
    · have HN := Lib.hid (statV_yes (z := z) (by unfold listB; rw [hr, decide_eq_true hle]; rfl))
      have HR := Lib.hid hr
      have hI : StatInv w W0 z 0 := ⟨p0, p1, hb0⟩
      clear hr hbig p0 p1 hb0
      go_wp2_with fail
      go_loopw [4] (fun i wr => ∃ k : Nat, k ≤ z.length ∧ i = .int .i64 k ∧ StatInv w wr z k) (fun i _ => z.length - (intOf i).toNat)
      case atStart => exact ⟨0, by omega, rfl, hI⟩
      case round =>
        clear hI
        obtain ⟨k, hk, rfl, hI⟩ := hrel
        by_cases hlt : k < z.length
        · have hr := rangeB_at HR.out hlt
          obtain ⟨p0, p1, hbe⟩ := hI
          obtain ⟨b, rfl⟩ := hV.some (by omega)
          have hlt' : (k : Int) < (z.length : Int) := by omega
          have hA := cntP_nn isN z k
          have hBn := cntP_nn isD z k
          have hC := cntP_nn wonB z k
          have hD := cntP_nn lostB z k
          have hM := topV_ge z k
          have hM2 := topV_le HR.out (k := k) (by omega)
          have EA := Lib.hid (show cntP isN z (k + 1) = cntP isN z k + (if isN (iAt z k) = true then 1 else 0) from rfl)
          have EB := Lib.hid (show cntP isD z (k + 1) = cntP isD z k + (if isD (iAt z k) = true then 1 else 0) from rfl)
          have EC := Lib.hid (show cntP wonB z (k + 1) = cntP wonB z k + (if wonB (iAt z k) = true then 1 else 0) from rfl)
          have ED := Lib.hid (show cntP lostB z (k + 1) = cntP lostB z k + (if lostB (iAt z k) = true then 1 else 0) from rfl)
          have ET := Lib.hid (show topV z (k + 1) = max (topV z k) (iAt z k) from rfl)
          have hnext : ∀ w' : World, Blk w' w.heap.size (statC 0 0 0 0 0) 24 → Blk w' (w.heap.size + 1) (statC (cntP isN z (k + 1)) (cntP isD z (k + 1)) (cntP wonB z (k + 1)) (cntP lostB z (k + 1)) (topV z (k + 1) - 2)) 24 → Below w.heap.size w w' → StatInv w w' z (k + 1) := fun _ a b c => ⟨a, b, c⟩
          have HX := Lib.hid hnext
          obtain ⟨hBb, c0⟩ := (hV.below hbe).at hlt
          clear hnext
          obtain ⟨v, hv⟩ : ∃ v, iAt z k = v := ⟨_, rfl⟩
          rw [hv] at EA EB EC ED ET hr c0
          have HVV := Lib.hid hv
          clear hv
          generalize cntP isN z k = na at *
          generalize cntP isD z k = nb at *
          generalize cntP wonB z k = nc at *
          generalize cntP lostB z k = nd at *
          generalize hm0 : topV z k - 2 = m at *
          have HM0 := Lib.hid hm0
          have hm1 : 0 ≤ m ∧ m ≤ 98 := by omega
          clear hm0 hM hM2
          rcases one_of hr.1 with ⟨e1, e2, e3, e4, e5⟩ | ⟨e1, e2, e3, e4, e5⟩ | ⟨e1, e2, e3, e4, e5⟩ | ⟨e1, e2, e3, e4, e5⟩
          · have HEE := Lib.hid (And.intro e1 (And.intro e2 (And.intro e3 e4)))
            subst e5
            clear e1 e2 e3 e4
            obtain ⟨⟨q0, q1, q2, q3, q4⟩, ⟨f0, f1, f2, f3, f4⟩⟩ := p1.five
            go_wp2_with fail
            have p1' := p1.set 0 (.int .i64 (na + 1))
            have p0' := p0.other ⟨w.heap.size + 1, 0, none⟩ (.int .i64 (na + 1)) (by show w.heap.size ≠ w.heap.size + 1; omega)
            have hbe' := hbe.setCell (p := ⟨w.heap.size + 1, 0, none⟩) (show w.heap.size ≤ w.heap.size + 1 by omega) (.int .i64 (na + 1))
            clear p0 p1 hbe c0 q0 q1 q2 q3 q4 f0 f1 f2 f3 f4
            have q1 : Blk _ (w.heap.size + 1) (statC (na + 1) (nb) (nc) (nd) m) 24 := p1'
            generalize hW1 : World.setCell _ _ _ = W1 at *
            clear hW1 p1'
            obtain ⟨_, c0⟩ := (hV.below hbe').at hlt
            rw [HVV.out] at c0
            obtain ⟨⟨d0, d1, d2, d3, d4⟩, ⟨f0, f1, f2, f3, f4⟩⟩ := q1.five
            have z1 := q1.lt
            have hzz := hbe'.size
            have zb : b < W1.heap.size := by omega
            have HS5 := Lib.hid q1
            have HP0 := Lib.hid p0'
            have HBE := Lib.hid hbe'
            clear q1 p0' hbe'
            have hmm : ¬ m < -2 := by omega
            refine wp_region_below (W := W1) (by kernel_rfl) (by kernel_rfl) (Below.refl _ _) ?_
            repeat (first
              | (refine qs_skip (by rfl) ?_; simp only [Act.put, List.setIfInBounds_toArray, List.set_cons_zero, List.set_cons_succ])
              | (apply qs_take
                 focus rfl
                 focus (
                   intro wq hwq
                   obtain ⟨hcq, hfq⟩ := bcell hwq
                   go_simp
                   all_goals first
                     | exact rfl
                     | (exact ⟨trivial, rfl⟩))
                 simp only [Act.put, List.setIfInBounds_toArray, List.set_cons_zero, List.set_cons_succ]))
            refine wpQuiet_nil ?_
            intro wq hwq
            have q2 := HS5.out.below hwq z1
            have p2 := HP0.out.below hwq (by omega)
            have hb2 := HBE.out.trans (hwq.mono hzz)
            obtain ⟨⟨d0, d1, d2, d3, d4⟩, ⟨f0, f1, f2, f3, f4⟩⟩ := q2.five
            obtain ⟨_, c0⟩ := (hV.below hb2).at hlt
            rw [HVV.out] at c0
            clear hwq
            go_wp2_with fail
            go_roundw
            case rel =>
              refine ⟨k + 1, by omega, by go_num, HX.out _ (p2) ?_ (hb2)⟩
              rw [EA.out, EB.out, EC.out, ED.out, HEE.out.1, HEE.out.2.1, HEE.out.2.2.1, HEE.out.2.2.2, show topV z (k + 1) - 2 = m from by have h1 := ET.out; have h2 := HM0.out; omega]
              simpa using (q2)
            case measure => simp [intOf]; omega
          · have HEE := Lib.hid (And.intro e1 (And.intro e2 (And.intro e3 e4)))
            subst e5
            clear e1 e2 e3 e4
            obtain ⟨⟨q0, q1, q2, q3, q4⟩, ⟨f0, f1, f2, f3, f4⟩⟩ := p1.five
            go_wp2_with fail
            have p1' := p1.set 1 (.int .i64 (nb + 1))
            have p0' := p0.other ⟨w.heap.size + 1, 1, none⟩ (.int .i64 (nb + 1)) (by show w.heap.size ≠ w.heap.size + 1; omega)
            have hbe' := hbe.setCell (p := ⟨w.heap.size + 1, 1, none⟩) (show w.heap.size ≤ w.heap.size + 1 by omega) (.int .i64 (nb + 1))
            clear p0 p1 hbe c0 q0 q1 q2 q3 q4 f0 f1 f2 f3 f4
            have q1 : Blk _ (w.heap.size + 1) (statC (na) (nb + 1) (nc) (nd) m) 24 := p1'
            generalize hW1 : World.setCell _ _ _ = W1 at *
            clear hW1 p1'
            obtain ⟨_, c0⟩ := (hV.below hbe').at hlt
            rw [HVV.out] at c0
            obtain ⟨⟨d0, d1, d2, d3, d4⟩, ⟨f0, f1, f2, f3, f4⟩⟩ := q1.five
            have z1 := q1.lt
            have hzz := hbe'.size
            have zb : b < W1.heap.size := by omega
            have HS5 := Lib.hid q1
            have HP0 := Lib.hid p0'
            have HBE := Lib.hid hbe'
            clear q1 p0' hbe'
            have hmm : ¬ m < -1 := by omega
            refine wp_region_below (W := W1) (by kernel_rfl) (by kernel_rfl) (Below.refl _ _) ?_
            repeat (first
              | (refine qs_skip (by rfl) ?_; simp only [Act.put, List.setIfInBounds_toArray, List.set_cons_zero, List.set_cons_succ])
              | (apply qs_take
                 focus rfl
                 focus (
                   intro wq hwq
                   obtain ⟨hcq, hfq⟩ := bcell hwq
                   go_simp
                   all_goals first
                     | exact rfl
                     | (exact ⟨trivial, rfl⟩))
                 simp only [Act.put, List.setIfInBounds_toArray, List.set_cons_zero, List.set_cons_succ]))
            refine wpQuiet_nil ?_
            intro wq hwq
            have q2 := HS5.out.below hwq z1
            have p2 := HP0.out.below hwq (by omega)
            have hb2 := HBE.out.trans (hwq.mono hzz)
            obtain ⟨⟨d0, d1, d2, d3, d4⟩, ⟨f0, f1, f2, f3, f4⟩⟩ := q2.five
            obtain ⟨_, c0⟩ := (hV.below hb2).at hlt
            rw [HVV.out] at c0
            clear hwq
            go_wp2_with fail
            go_roundw
            case rel =>
              refine ⟨k + 1, by omega, by go_num, HX.out _ (p2) ?_ (hb2)⟩
              rw [EA.out, EB.out, EC.out, ED.out, HEE.out.1, HEE.out.2.1, HEE.out.2.2.1, HEE.out.2.2.2, show topV z (k + 1) - 2 = m from by have h1 := ET.out; have h2 := HM0.out; omega]
              simpa using (q2)
            case measure => simp [intOf]; omega
          · have HEE := Lib.hid (And.intro e1 (And.intro e2 (And.intro e3 e4)))
            have hv0 : (v == 0) = false := by simp; omega
            have hv1 : (v == 1) = false := by simp; omega
            have WV : IntKind.i64.wrap (v - 2) = v - 2 := IntWalk.i64_in _ (by omega)
            have hr1 := hr.1
            have hr2 := hr.2
            clear e1 e2 e3 e4
            obtain ⟨⟨q0, q1, q2, q3, q4⟩, ⟨f0, f1, f2, f3, f4⟩⟩ := p1.five
            go_wp2_with (go_at_call 33; refine (l8Won_any _ _ (by omega)).mono ?_; rw [HEE.out.2.2.1]; rintro e w' ⟨rfl, rfl⟩)
            have p1' := p1.set 2 (.int .i64 (nc + 1))
            have p0' := p0.other ⟨w.heap.size + 1, 2, none⟩ (.int .i64 (nc + 1)) (by show w.heap.size ≠ w.heap.size + 1; omega)
            have hbe' := hbe.setCell (p := ⟨w.heap.size + 1, 2, none⟩) (show w.heap.size ≤ w.heap.size + 1 by omega) (.int .i64 (nc + 1))
            clear p0 p1 hbe c0 q0 q1 q2 q3 q4 f0 f1 f2 f3 f4
            have q1 : Blk _ (w.heap.size + 1) (statC (na) (nb) (nc + 1) (nd) m) 24 := p1'
            generalize hW1 : World.setCell _ _ _ = W1 at *
            clear hW1 p1'
            obtain ⟨_, c0⟩ := (hV.below hbe').at hlt
            rw [HVV.out] at c0
            obtain ⟨⟨d0, d1, d2, d3, d4⟩, ⟨f0, f1, f2, f3, f4⟩⟩ := q1.five
            have z1 := q1.lt
            have hzz := hbe'.size
            have zb : b < W1.heap.size := by omega
            have HS5 := Lib.hid q1
            have HP0 := Lib.hid p0'
            have HBE := Lib.hid hbe'
            clear q1 p0' hbe'
            by_cases hmm : m < v - 2
            · skip
              refine wp_region_below (W := W1) (by kernel_rfl) (by kernel_rfl) (Below.refl _ _) ?_
              repeat (first
                | (refine qs_skip (by rfl) ?_; simp only [Act.put, List.setIfInBounds_toArray, List.set_cons_zero, List.set_cons_succ])
                | (apply qs_take
                   focus rfl
                   focus (
                     intro wq hwq
                     obtain ⟨hcq, hfq⟩ := bcell hwq
                     go_simp
                     all_goals first
                       | exact rfl
                       | (exact ⟨trivial, rfl⟩))
                   simp only [Act.put, List.setIfInBounds_toArray, List.set_cons_zero, List.set_cons_succ]))
              refine wpQuiet_nil ?_
              intro wq hwq
              have q2 := HS5.out.below hwq z1
              have p2 := HP0.out.below hwq (by omega)
              have hb2 := HBE.out.trans (hwq.mono hzz)
              obtain ⟨⟨d0, d1, d2, d3, d4⟩, ⟨f0, f1, f2, f3, f4⟩⟩ := q2.five
              obtain ⟨_, c0⟩ := (hV.below hb2).at hlt
              rw [HVV.out] at c0
              clear hwq
              go_wp2_with fail
              go_roundw
              case rel =>
                refine ⟨k + 1, by omega, by go_num, HX.out _ (p2.other ⟨w.heap.size + 1, 4, none⟩ (.int .i64 (v - 2)) (by show w.heap.size ≠ w.heap.size + 1; omega)) ?_ (hb2.setCell (p := ⟨w.heap.size + 1, 4, none⟩) (show w.heap.size ≤ w.heap.size + 1 by omega) (.int .i64 (v - 2)))⟩
                rw [EA.out, EB.out, EC.out, ED.out, HEE.out.1, HEE.out.2.1, HEE.out.2.2.1, HEE.out.2.2.2, show topV z (k + 1) - 2 = v - 2 from by have h1 := ET.out; have h2 := HM0.out; omega]
                simpa using (q2.set 4 (.int .i64 (v - 2)))
              case measure => simp [intOf]; omega
            · skip
              refine wp_region_below (W := W1) (by kernel_rfl) (by kernel_rfl) (Below.refl _ _) ?_
              repeat (first
                | (refine qs_skip (by rfl) ?_; simp only [Act.put, List.setIfInBounds_toArray, List.set_cons_zero, List.set_cons_succ])
                | (apply qs_take
                   focus rfl
                   focus (
                     intro wq hwq
                     obtain ⟨hcq, hfq⟩ := bcell hwq
                     go_simp
                     all_goals first
                       | exact rfl
                       | (exact ⟨trivial, rfl⟩))
                   simp only [Act.put, List.setIfInBounds_toArray, List.set_cons_zero, List.set_cons_succ]))
              refine wpQuiet_nil ?_
              intro wq hwq
              have q2 := HS5.out.below hwq z1
              have p2 := HP0.out.below hwq (by omega)
              have hb2 := HBE.out.trans (hwq.mono hzz)
              obtain ⟨⟨d0, d1, d2, d3, d4⟩, ⟨f0, f1, f2, f3, f4⟩⟩ := q2.five
              obtain ⟨_, c0⟩ := (hV.below hb2).at hlt
              rw [HVV.out] at c0
              clear hwq
              go_wp2_with fail
              go_roundw
              case rel =>
                refine ⟨k + 1, by omega, by go_num, HX.out _ (p2) ?_ (hb2)⟩
                rw [EA.out, EB.out, EC.out, ED.out, HEE.out.1, HEE.out.2.1, HEE.out.2.2.1, HEE.out.2.2.2, show topV z (k + 1) - 2 = m from by have h1 := ET.out; have h2 := HM0.out; omega]
                simpa using (q2)
              case measure => simp [intOf]; omega
          · have HEE := Lib.hid (And.intro e1 (And.intro e2 (And.intro e3 e4)))
            have hv0 : (v == 0) = false := by simp; omega
            have hv1 : (v == 1) = false := by simp; omega
            have WV : IntKind.i64.wrap (v - 2) = v - 2 := IntWalk.i64_in _ (by omega)
            have hr1 := hr.1
            have hr2 := hr.2
            clear e1 e2 e3 e4
            obtain ⟨⟨q0, q1, q2, q3, q4⟩, ⟨f0, f1, f2, f3, f4⟩⟩ := p1.five
            go_wp2_with (go_at_call 33; refine (l8Won_any _ _ (by omega)).mono ?_; rw [HEE.out.2.2.1]; rintro e w' ⟨rfl, rfl⟩)
            have p1' := p1.set 3 (.int .i64 (nd + 1))
            have p0' := p0.other ⟨w.heap.size + 1, 3, none⟩ (.int .i64 (nd + 1)) (by show w.heap.size ≠ w.heap.size + 1; omega)
            have hbe' := hbe.setCell (p := ⟨w.heap.size + 1, 3, none⟩) (show w.heap.size ≤ w.heap.size + 1 by omega) (.int .i64 (nd + 1))
            clear p0 p1 hbe c0 q0 q1 q2 q3 q4 f0 f1 f2 f3 f4
            have q1 : Blk _ (w.heap.size + 1) (statC (na) (nb) (nc) (nd + 1) m) 24 := p1'
            generalize hW1 : World.setCell _ _ _ = W1 at *
            clear hW1 p1'
            obtain ⟨_, c0⟩ := (hV.below hbe').at hlt
            rw [HVV.out] at c0
            obtain ⟨⟨d0, d1, d2, d3, d4⟩, ⟨f0, f1, f2, f3, f4⟩⟩ := q1.five
            have z1 := q1.lt
            have hzz := hbe'.size
            have zb : b < W1.heap.size := by omega
            have HS5 := Lib.hid q1
            have HP0 := Lib.hid p0'
            have HBE := Lib.hid hbe'
            clear q1 p0' hbe'
            by_cases hmm : m < v - 2
            · skip
              refine wp_region_below (W := W1) (by kernel_rfl) (by kernel_rfl) (Below.refl _ _) ?_
              repeat (first
                | (refine qs_skip (by rfl) ?_; simp only [Act.put, List.setIfInBounds_toArray, List.set_cons_zero, List.set_cons_succ])
                | (apply qs_take
                   focus rfl
                   focus (
                     intro wq hwq
                     obtain ⟨hcq, hfq⟩ := bcell hwq
                     go_simp
                     all_goals first
                       | exact rfl
                       | (exact ⟨trivial, rfl⟩))
                   simp only [Act.put, List.setIfInBounds_toArray, List.set_cons_zero, List.set_cons_succ]))
              refine wpQuiet_nil ?_
              intro wq hwq
              have q2 := HS5.out.below hwq z1
              have p2 := HP0.out.below hwq (by omega)
              have hb2 := HBE.out.trans (hwq.mono hzz)
              obtain ⟨⟨d0, d1, d2, d3, d4⟩, ⟨f0, f1, f2, f3, f4⟩⟩ := q2.five
              obtain ⟨_, c0⟩ := (hV.below hb2).at hlt
              rw [HVV.out] at c0
              clear hwq
              go_wp2_with fail
              go_roundw
              case rel =>
                refine ⟨k + 1, by omega, by go_num, HX.out _ (p2.other ⟨w.heap.size + 1, 4, none⟩ (.int .i64 (v - 2)) (by show w.heap.size ≠ w.heap.size + 1; omega)) ?_ (hb2.setCell (p := ⟨w.heap.size + 1, 4, none⟩) (show w.heap.size ≤ w.heap.size + 1 by omega) (.int .i64 (v - 2)))⟩
                rw [EA.out, EB.out, EC.out, ED.out, HEE.out.1, HEE.out.2.1, HEE.out.2.2.1, HEE.out.2.2.2, show topV z (k + 1) - 2 = v - 2 from by have h1 := ET.out; have h2 := HM0.out; omega]
                simpa using (q2.set 4 (.int .i64 (v - 2)))
              case measure => simp [intOf]; omega
            · skip
              refine wp_region_below (W := W1) (by kernel_rfl) (by kernel_rfl) (Below.refl _ _) ?_
              repeat (first
                | (refine qs_skip (by rfl) ?_; simp only [Act.put, List.setIfInBounds_toArray, List.set_cons_zero, List.set_cons_succ])
                | (apply qs_take
                   focus rfl
                   focus (
                     intro wq hwq
                     obtain ⟨hcq, hfq⟩ := bcell hwq
                     go_simp
                     all_goals first
                       | exact rfl
                       | (exact ⟨trivial, rfl⟩))
                   simp only [Act.put, List.setIfInBounds_toArray, List.set_cons_zero, List.set_cons_succ]))
              refine wpQuiet_nil ?_
              intro wq hwq
              have q2 := HS5.out.below hwq z1
              have p2 := HP0.out.below hwq (by omega)
              have hb2 := HBE.out.trans (hwq.mono hzz)
              obtain ⟨⟨d0, d1, d2, d3, d4⟩, ⟨f0, f1, f2, f3, f4⟩⟩ := q2.five
              obtain ⟨_, c0⟩ := (hV.below hb2).at hlt
              rw [HVV.out] at c0
              clear hwq
              go_wp2_with fail
              go_roundw
              case rel =>
                refine ⟨k + 1, by omega, by go_num, HX.out _ (p2) ?_ (hb2)⟩
                rw [EA.out, EB.out, EC.out, ED.out, HEE.out.1, HEE.out.2.1, HEE.out.2.2.1, HEE.out.2.2.2, show topV z (k + 1) - 2 = m from by have h1 := ET.out; have h2 := HM0.out; omega]
                simpa using (q2)
              case measure => simp [intOf]; omega
        · obtain rfl : k = z.length := by omega
          obtain ⟨p0, p1, hbe⟩ := hI
          obtain ⟨⟨q0, q1, q2, q3, q4⟩, _⟩ := p1.five
          obtain ⟨⟨a0, a1, a2, a3, a4⟩, ⟨f0, f1, f2, f3, f4⟩⟩ := p0.five
          go_wp2_with fail
          refine bodyPost_ret (v := .agg (statC (cntP isN z z.length) (cntP isD z z.length) (cntP wonB z z.length) (cntP lostB z z.length) (topV z z.length - 2))) ?_ rfl ⟨by rw [HN.out], below_sets5 hbe (by omega) _ _ _ _ _⟩
          obtain ⟨⟨d0, d1, d2, d3, d4⟩, _⟩ := (p0.sets5 (.int .i64 (cntP isN z z.length)) (.int .i64 (cntP isD z z.length)) (.int .i64 (cntP wonB z z.length)) (.int .i64 (cntP lostB z z.length)) (.int .i64 (topV z z.length - 2))).five
          simp [results, Try.results8, go_sem, d0, d1, d2, d3, d4]

/-- a list of whole numbers in new memory -/
def LenNew (w w' : World) (l : List Int) (e : Ending) : Prop := ∃ A c, e = .returned (.slice A l.length c) ∧ NewInts w.heap.size w'.heap.size w' A l ∧ Below w.heap.size w w'
theorem _root_.Go.Proofs.Ytcgfklljbblhlaa.In.own_nil' (w : World) (base : Nat) : In.Own w base (.slice none 0 0) [] := World.ownsRow_nil _ _ _ _
theorem _root_.Go.Proofs.Ytcgfklljbblhlaa.In.own_more' {w : World} {base base' : Nat} {v : Value} {l : List Int} (h : In.Own w base v l) (hb : base' ≤ base) : In.Own w base' v l := by
  refine ⟨h.1, ?_⟩
  rcases h.2 with h0 | ⟨g, cap, cur, hv, hB, rest⟩
  · exact .inl h0
  · exact .inr ⟨g, cap, cur, hv, by omega, rest⟩
theorem _root_.Go.Proofs.Ytcgfklljbblhlaa.In.own_grown' {w' : World} {base : Nat} {v' : Value} {l : List Int} {x : Int} (h : w'.ownsRow base 3 1 v' (l.length + 1) (nums l ++ [.int .i64 x])) : In.Own w' base v' (l ++ [x]) := by
  unfold In.Own; rw [nums_snoc, List.length_append]; exact h
theorem lenNew_of {w w' : World} {A : Option Addr} {c : Nat} {l : List Int} (h : In.Own w' w.heap.size (.slice A l.length c) l) (hb : Below w.heap.size w w') : LenNew w w' l (.returned (.slice A l.length c)) := by
  obtain ⟨A', c', hv, hn⟩ := NewInts.of h
  cases hv
  exact ⟨A, c, rfl, hn, hb⟩
end Go.Proofs.Ytcgfklljbblhlaa.Ko
