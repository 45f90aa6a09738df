/- The walk of the exact law FnExactStatOf. -/
import Derived.Test.YtcgfklljbblhlaaHf
import Derived.Test.YtcgfklljbblhlaaOpv
namespace Go.Proofs.Ytcgfklljbblhlaa.Laws
open Go.ChangeShapes Go.WideShapes Go.ChangeAt Go.RowKit Base Sq In Ko Opn Sc
set_option linter.unusedVariables false
set_option maxRecDepth 20000

theorem eqStat_same (a b c d m : Int) (w : World) :
    Calls Try.prog 11 #[.agg (statC a b c d m), .agg (statC a b c d m)] w fun e w' => e = .returned (.bool true) ∧ Below w.heap.size w w' := by
  go_enter Try.func11, Try.ntmps11
  go_wp2_with fail
  go_ret
  exact ⟨rfl, (by repeat (first | exact Below.refl _ _ | assumption | (refine Below.alloc ?_ (by first | omega | (simp; done) | (simp; omega)) _) | (refine Below.setCell ?_ (by first | omega | (simp; done) | (simp; omega)) _) | refine Below.drew ?_))⟩
set_option maxHeartbeats 16000000 in
theorem fnExactStatOf_walk {H : Type} {enc : TypeId × Value → H} {b0 : Nat} {d0 : DataW H} {pl0 : List MemPlace} (w : World)
    (v0 : Value) (hv0 : Value.okWide Try.prog w .any b0 22 v0) (h0 : DataW.Trod enc Try.prog w 0 (fun _ => true) true 22 v0 d0 pl0) :
    Calls Try.prog 3 #[v0] w fun e w' => e = .returned (.bool true) ∧ Below w.heap.size w w' := by
  obtain ⟨A0, c0, z0, rfl, hn0, _, hs0⟩ := open_nums hv0 h0
  clear hv0 h0
  unfold maxLen at hn0
  by_cases hbig0 : (1048576 : Int) < (z0.length : Int)
  · go_enter Try.func3, Try.ntmps3
    go_wp2_with fail
    go_ret
    exact ⟨rfl, (by repeat (first | exact Below.refl _ _ | assumption | (refine Below.alloc ?_ (by first | omega | (simp; done) | (simp; omega)) _) | (refine Below.setCell ?_ (by first | omega | (simp; done) | (simp; omega)) _) | refine Below.drew ?_))⟩
  have hl0 : z0.length ≤ 1048576 := by omega
  obtain ⟨a, b, c, d, m, hE⟩ : ∃ a b c d m, statV z0 = .agg (statC a b c d m) := ⟨_, _, _, _, _, rfl⟩
  have HE := Lib.hid hE
  have HO0 := Lib.hid hs0
  clear hs0 hE
  go_enter Try.func3, Try.ntmps3
  go_wp2_with fail
  have hW0 : Below w.heap.size w w := Below.refl _ _
  clear hbig0
  refine (toIntS_any _ _ _ _ ((HO0.out.below hW0).more hW0.size) hl0).mono ?_
  rintro e w1 ⟨g1, c1, rfl, hN1, hb1⟩
  go_wp2_with fail
  refine (specStatOf_any _ _ _ _ hN1.is hl0).mono ?_
  rw [HE.out]
  rintro e w2 ⟨rfl, hb2⟩
  have hW2 := hb1.trans (hb2.mono hb1.size)
  have p3 := Blk.new w2 (statC a b c d m) 24
  have hW3 := hW2.alloc hW2.size (.cells (statC a b c d m) 24)
  clear hN1 hb1 hb2 hW0 hW2
  go_wp2_with fail
  generalize hY3 : w2.alloc _ = W3 at *
  generalize hy3 : w2.heap.size = x3 at *
  clear hY3 hy3
  refine (toIntS_any _ _ _ _ ((HO0.out.below hW3).more hW3.size) hl0).mono ?_
  rintro e w4 ⟨g4, c4, rfl, hN4, hb4⟩
  have p4 := p3.below hb4 p3.lt
  have hW4 := hW3.trans (hb4.mono hW3.size)
  clear p3 hW3 hb4
  go_wp2_with fail
  refine (statOf_any _ _ _ _ hN4.is hl0).mono ?_
  rw [HE.out]
  rintro e w5 ⟨rfl, hb5⟩
  have p5 := (p4.below hb5 p4.lt).alloc (.cells (statC a b c d m) 24)
  have p6 := Blk.new w5 (statC a b c d m) 24
  have hA := below_of w5 (.cells (statC a b c d m) 24)
  have hb6 := hb5.trans (hA.mono hb5.size)
  have hN6 := hN4.below hb6
  have hW6 := hW4.trans (hb6.mono hW4.size)
  obtain ⟨⟨q0, q1, q2, q3, q4⟩, _⟩ := p5.five
  obtain ⟨⟨r0, r1, r2, r3, r4⟩, _⟩ := p6.five
  have l5 := p4.lt
  have l6 := (p4.below hb5 p4.lt).lt
  obtain ⟨⟨y0, y1, y2, y3, y4⟩, _⟩ := (p4.below hb5 p4.lt).five
  clear p4 hW4 hN4 hb5 hb6 hA p5 p6
  go_wp2_with fail
  refine (eqStat_same _ _ _ _ _ _).mono ?_
  rintro e w7 ⟨rfl, hb7⟩
  have hN7 := hN6.below hb7
  have hW7 := hW6.trans (hb7.mono hW6.size)
  clear hN6 hW6 hb7 q0 q1 q2 q3 q4 r0 r1 r2 r3 r4 y0 y1 y2 y3 y4
  go_wp2_with fail
  refine (toIntS_any _ _ _ _ ((HO0.out.below hW7).more hW7.size) hl0).mono ?_
  rintro e w8 ⟨g8, c8, rfl, hN8, hb8⟩
  have hN9 := hN7.below hb8
  have hW8 := hW7.trans (hb8.mono hW7.size)
  go_wp2_with fail
  refine (eqIntS_same _ _ _ _ _ _ hN9.is hN8.is hl0).mono ?_
  rintro e w9 ⟨rfl, hb9⟩
  have hW9 := hW8.trans (hb9.mono hW8.size)
  go_wp2_with fail
  go_ret
  exact ⟨rfl, hW9⟩
end Go.Proofs.Ytcgfklljbblhlaa.Laws
