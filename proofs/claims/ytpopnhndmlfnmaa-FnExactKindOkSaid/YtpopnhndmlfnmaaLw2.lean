/- The walks of the exact laws of chapter 2. -/
import Derived.Test.YtpopnhndmlfnmaaOpen
import Derived.Deep.RegionHeld3
namespace Go.Proofs.Ytpopnhndmlfnmaa.Laws
open Go.ChangeShapes Go.WideShapes Go.ChangeAt Go.RowKit Base Sq Ko Opn
set_option linter.unusedVariables false

theorem fnExactKindOk_walk {H : Type} {enc : TypeId × Value → H} {d : DataW H} {p : List MemPlace} {b0 : Nat} (w : World) (v : Value) (hv : Value.okWide Try.prog w .any b0 39 v) (h : DataW.Trod enc Try.prog w 0 (fun _ => true) true 39 v d p) :
    Calls Try.prog 9 #[v] w fun e w' => e = .returned (.bool true) ∧ Below w.heap.size w w' := by
  obtain ⟨name, king, A, c, l, rfl, hl, hs⟩ := open_kind hv h
  clear hv h
  unfold maxLen at hl
  by_cases hbig : 1048576 - (l.length : Int) < 0
  · have HN := Lib.hid hbig
    clear hbig
    go_enter Try.func9, Try.ntmps9
    go_wp2_with fail
    refine (szKind_any _ _ _ _ _ _ _ (by omega) (by omega) (by omega)).mono ?_
    rw [if_pos (by have := HN.out; omega)]
    rintro e w1 ⟨rfl, hb1⟩
    go_wp2_with fail
    go_ret
    exact ⟨rfl, Below.trans (by repeat (first | exact Below.refl _ _ | assumption | (refine Below.alloc ?_ (by first | (simp; done) | (simp; omega)) _) | (refine Below.setCell ?_ (by first | (simp; done) | (simp; omega)) _) | refine Below.drew ?_)) (hb1.mono (by first | (simp; done) | (simp; omega) | omega))⟩
  · have hl2 : l.length ≤ 1048576 := by omega
    have HN := Lib.hid hbig
    clear hbig hl
    go_enter Try.func9, Try.ntmps9
    go_wp2_with fail
    refine (szKind_any _ _ _ _ _ _ _ (by omega) (by omega) (by omega)).mono ?_
    rw [if_neg (by have := HN.out; omega)]
    rintro e w1 ⟨rfl, hb1⟩
    have hP := (Blk.new w #[.int .i64 name, .bool king, .slice A l.length c] 39).below hb1 (by first | (simp; done) | (simp; omega) | omega)
    have hw := Below.trans (B := w.heap.size) (a := w) (by repeat (first | exact Below.refl _ _ | assumption | (refine Below.alloc ?_ (by first | (simp; done) | (simp; omega)) _) | (refine Below.setCell ?_ (by first | (simp; done) | (simp; omega)) _) | refine Below.drew ?_)) (hb1.mono (by first | (simp; done) | (simp; omega) | omega))
    obtain ⟨⟨a0, a1, a2⟩, _⟩ := hP.at3
    clear hb1
    go_wp2_with fail
    refine (toKind_any _ _ _ _ _ _ ((hs.below hw).more hw.size) hl2).mono ?_
    rintro e w2 ⟨g2, c2, rfl, hn2, hb2⟩
    have hP := hP.below hb2 hP.lt
    have hw := hw.trans (hb2.mono hw.size)
    clear a0 a1 a2 hb2
    go_wp2_with fail
    refine (specKindOk _ _ _ _ _ _ hn2.is hl2).mono ?_
    rintro e w3 ⟨rfl, hb3⟩
    have hP := hP.below hb3 hP.lt
    have hw := hw.trans (hb3.mono hw.size)
    obtain ⟨⟨a0, a1, a2⟩, _⟩ := hP.at3
    clear hb3 hn2
    go_wp2_with fail
    refine (toKind_any _ _ _ _ _ _ ((hs.below hw).more hw.size) hl2).mono ?_
    rintro e w4 ⟨g4, c4, rfl, hn4, hb4⟩
    have hP := hP.below hb4 hP.lt
    have hw := hw.trans (hb4.mono hw.size)
    clear a0 a1 a2 hb4
    go_wp2_with fail
    have hX := Blk.new w4 #[.int .i64 name, .bool king, .slice (some ⟨g4, 0, none⟩) l.length c4] 44
    have hP := hP.alloc (.cells #[.int .i64 name, .bool king, .slice (some ⟨g4, 0, none⟩) l.length c4] 44)
    have hn := hn4.below (below_of w4 (.cells #[.int .i64 name, .bool king, .slice (some ⟨g4, 0, none⟩) l.length c4] 44))
    have hw := hw.alloc hw.size (.cells #[.int .i64 name, .bool king, .slice (some ⟨g4, 0, none⟩) l.length c4] 44)
    clear hn4
    generalize hW5 : w4.alloc _ = W5 at *
    clear hW5
    refine (kindOk_any _ _ _ _ _ _ hn.is hl2).mono ?_
    rintro e w6 ⟨rfl, hb6⟩
    have hP := hP.below hb6 hP.lt
    have hX := hX.below hb6 hX.lt
    have hn := hn.below hb6
    have hw := hw.trans (hb6.mono hw.size)
    clear hb6
    obtain ⟨⟨a0, a1, a2⟩, _⟩ := hP.at3
    obtain ⟨⟨x0, x1, x2⟩, _⟩ := hX.at3
    have zP := hP.lt
    have zX := hX.lt
    go_wp2_with fail
    have hS : ∀ w', Below w6.heap.size w6 w' → (w'.cell? ⟨w.heap.size, 0, none⟩ = some (.int .i64 name) ∧ w'.cell? ⟨w.heap.size, 1, none⟩ = some (.bool king) ∧ w'.cell? ⟨w.heap.size, 2, none⟩ = some (.slice A l.length c) ∧
        w'.cell? ⟨w4.heap.size, 0, none⟩ = some (.int .i64 name) ∧ w'.cell? ⟨w4.heap.size, 1, none⟩ = some (.bool king) ∧ w'.cell? ⟨w4.heap.size, 2, none⟩ = some (.slice (some ⟨g4, 0, none⟩) l.length c4) ∧ Below w6.heap.size w6 w') := fun w' hb => by
      obtain ⟨⟨a0, a1, a2⟩, _⟩ := (hP.below hb hP.lt).at3
      obtain ⟨⟨x0, x1, x2⟩, _⟩ := (hX.below hb hX.lt).at3
      exact ⟨a0, a1, a2, x0, x1, x2, hb⟩
    have HS := Lib.hid hS
    clear hS
    go_region_held3 (fun w' => w'.cell? ⟨w.heap.size, 0, none⟩ = some (.int .i64 name) ∧ w'.cell? ⟨w.heap.size, 1, none⟩ = some (.bool king) ∧ w'.cell? ⟨w.heap.size, 2, none⟩ = some (.slice A l.length c) ∧
        w'.cell? ⟨w4.heap.size, 0, none⟩ = some (.int .i64 name) ∧ w'.cell? ⟨w4.heap.size, 1, none⟩ = some (.bool king) ∧ w'.cell? ⟨w4.heap.size, 2, none⟩ = some (.slice (some ⟨g4, 0, none⟩) l.length c4) ∧ Below w6.heap.size w6 w')
      (first
        | exact HS.out _ (Below.refl _ _).drew
        | exact HS.out _ ((Below.refl _ _).drew.trans hb7)
        | exact HS.out _ (((Below.refl _ _).drew.trans hb7).trans (hb8.mono hb7.size)))
      (first
        | (go_at_call 24; refine (toKind_any _ _ _ _ _ _ ((hs.below hw.drew).more hw.size) hl2).mono ?_; rintro e w7 ⟨g7, c7, rfl, hn7, hb7⟩)
        | (go_at_call 26; refine (eqKind_same _ _ _ _ _ _ _ _ (hn.below ((Below.refl _ _).drew.trans hb7)).is hn7.is hl2).mono ?_; rintro e w8 ⟨rfl, hb8⟩))
    go_wp2_with fail
    go_ret
    exact ⟨rfl, (hw.drew.trans (hb7.mono hw.size)).trans (hb8.mono (Nat.le_trans hw.size hb7.size))⟩
end Go.Proofs.Ytpopnhndmlfnmaa.Laws
