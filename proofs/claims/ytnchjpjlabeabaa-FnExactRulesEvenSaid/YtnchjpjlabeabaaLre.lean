/- The walk of the exact law FnExactRulesEven. -/
import Derived.Test.YtnchjpjlabeabaaOpr
import Derived.Test.YtnchjpjlabeabaaRf2
import Derived.Deep.RegionHeld3
namespace Go.Proofs.Ytnchjpjlabeabaa.Laws
open Go.ChangeShapes Go.WideShapes Go.ChangeAt Go.RowKit Base Sq Ko Opn
set_option linter.unusedVariables false
set_option maxRecDepth 20000

theorem fnExactRulesEven_walk {H : Type} {enc : TypeId × Value → H} {d : DataW H} {p : List MemPlace} {b0 : Nat} (w : World) (v : Value) (hv : Value.okWide Try.prog w .any b0 24 v) (h : DataW.Trod enc Try.prog w 0 (fun _ => true) true 24 v d p) (k : Int) (hk : (Lit.int .i64 k).wf = true) :
    Calls Try.prog 3 #[v, .int .i64 k] w fun e w' => e = .returned (.bool true) ∧ Below w.heap.size w w' := by
  obtain ⟨side, A, c, ks, rfl, hl, hs⟩ := open_rules hv h
  clear hv h hk
  go_enter Try.func3, Try.ntmps3
  go_wp2_with fail
  refine (szRules_any _ _ _ _ _ _ ((hs.below (by repeat (first | exact Below.refl _ _ | assumption | (refine Below.alloc ?_ (by first | omega | (simp; done) | (simp; omega)) _) | (refine Below.setCell ?_ (by first | omega | (simp; done) | (simp; omega)) _) | refine Below.drew ?_))).more (by first | (simp; done) | (simp; omega) | omega)) hl (by omega) (by omega)).mono ?_
  rintro e w1 ⟨v, rfl, hv1, hor, hb1⟩
  have hP := (Blk.new w #[.int .i64 side, .slice A ks.length c] 24).below hb1 (by first | (simp; done) | (simp; omega) | omega)
  have hw := Below.trans (B := w.heap.size) (a := w) (by repeat (first | exact Below.refl _ _ | assumption | (refine Below.alloc ?_ (by first | omega | (simp; done) | (simp; omega)) _) | (refine Below.setCell ?_ (by first | omega | (simp; done) | (simp; omega)) _) | refine Below.drew ?_)) (hb1.mono (by first | (simp; done) | (simp; omega) | omega))
  clear hb1 hl
  rcases hor with rfl | ⟨hv0, hsm⟩
  · clear hP
    go_wp2_with fail
    go_ret
    exact ⟨rfl, hw⟩
  · have HSM := Lib.hid hsm
    clear hsm
    obtain ⟨⟨a0, a1⟩, _⟩ := hP.at2
    go_wp2_with fail
    refine (toRules_any _ _ _ _ _ ((hs.below hw).more hw.size) HSM.out).mono ?_
    rintro e w2 ⟨g2, c2, rfl, hn2, hb2⟩
    have hP := hP.below hb2 hP.lt
    have hw := hw.trans (hb2.mono hw.size)
    clear a0 a1 hb2
    go_wp2_with fail
    refine (specRulesEven_any _ _ _ _ _ _ hn2.is HSM.out).mono ?_
    rintro e w3 ⟨rfl, hb3⟩
    have hP := hP.below hb3 hP.lt
    have hw := hw.trans (hb3.mono hw.size)
    obtain ⟨⟨a0, a1⟩, _⟩ := hP.at2
    clear hb3 hn2
    go_wp2_with fail
    refine (toRules_any _ _ _ _ _ ((hs.below hw).more hw.size) HSM.out).mono ?_
    rintro e w4 ⟨g4, c4, rfl, hn4, hb4⟩
    have hP := hP.below hb4 hP.lt
    have hw := hw.trans (hb4.mono hw.size)
    clear a0 a1 hb4
    go_wp2_with fail
    have hX := Blk.new w4 #[.int .i64 side, .slice (some ⟨g4, 0, none⟩) ks.length c4] 29
    have hP := hP.alloc (.cells #[.int .i64 side, .slice (some ⟨g4, 0, none⟩) ks.length c4] 29)
    have hn := hn4.below (below_of w4 (.cells #[.int .i64 side, .slice (some ⟨g4, 0, none⟩) ks.length c4] 29))
    have hw := hw.alloc hw.size (.cells #[.int .i64 side, .slice (some ⟨g4, 0, none⟩) ks.length c4] 29)
    clear hn4
    generalize hW5 : w4.alloc _ = W5 at *
    clear hW5
    refine (rulesEven_any _ _ _ _ _ _ hn.is HSM.out).mono ?_
    rintro e w6 ⟨rfl, hb6⟩
    have hP := hP.below hb6 hP.lt
    have hX := hX.below hb6 hX.lt
    have hn := hn.below hb6
    have hw := hw.trans (hb6.mono hw.size)
    clear hb6
    obtain ⟨⟨a0, a1⟩, _⟩ := hP.at2
    obtain ⟨⟨x0, x1⟩, _⟩ := hX.at2
    have zP := hP.lt
    have zX := hX.lt
    go_wp2_with fail
    have hS : ∀ w', Below w6.heap.size w6 w' → (w'.cell? ⟨w.heap.size, 0, none⟩ = some (.int .i64 side) ∧ w'.cell? ⟨w.heap.size, 1, none⟩ = some (.slice A ks.length c) ∧
        w'.cell? ⟨w4.heap.size, 0, none⟩ = some (.int .i64 side) ∧ w'.cell? ⟨w4.heap.size, 1, none⟩ = some (.slice (some ⟨g4, 0, none⟩) ks.length c4) ∧ Below w6.heap.size w6 w') := fun w' hb => by
      obtain ⟨⟨a0, a1⟩, _⟩ := (hP.below hb hP.lt).at2
      obtain ⟨⟨x0, x1⟩, _⟩ := (hX.below hb hX.lt).at2
      exact ⟨a0, a1, x0, x1, hb⟩
    have HS := Lib.hid hS
    clear hS
    go_region_held3 (fun w' => w'.cell? ⟨w.heap.size, 0, none⟩ = some (.int .i64 side) ∧ w'.cell? ⟨w.heap.size, 1, none⟩ = some (.slice A ks.length c) ∧
        w'.cell? ⟨w4.heap.size, 0, none⟩ = some (.int .i64 side) ∧ w'.cell? ⟨w4.heap.size, 1, none⟩ = some (.slice (some ⟨g4, 0, none⟩) ks.length c4) ∧ Below w6.heap.size w6 w')
      (first
        | exact HS.out _ (Below.refl _ _).drew
        | exact HS.out _ ((Below.refl _ _).drew.trans hb7)
        | exact HS.out _ (((Below.refl _ _).drew.trans hb7).trans (hb8.mono hb7.size)))
      (first
        | (go_at_call 11; refine (toRules_any _ _ _ _ _ ((hs.below hw.drew).more hw.size) HSM.out).mono ?_; rintro e w7 ⟨g7, c7, rfl, hn7, hb7⟩)
        | (go_at_call 13; refine (eqRules_same _ _ _ _ _ _ _ (hn.below ((Below.refl _ _).drew.trans hb7)).is hn7.is HSM.out).mono ?_; rintro e w8 ⟨rfl, hb8⟩))
    go_wp2_with fail
    go_ret
    exact ⟨rfl, (hw.drew.trans (hb7.mono hw.size)).trans (hb8.mono (Nat.le_trans hw.size hb7.size))⟩
end Go.Proofs.Ytnchjpjlabeabaa.Laws
