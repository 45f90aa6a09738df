/- TurnSwap of the program. -/
import Derived.Test.YtnchjpjlabeababTv
namespace Go.Proofs.Ytnchjpjlabeabab.Ko
open Go.ChangeShapes Go.WideShapes Go.ChangeAt Go.RowKit Base Sq
set_option linter.unusedVariables false
set_option maxRecDepth 20000
attribute [local irreducible] wpQuiet

set_option maxHeartbeats 4000000 in
theorem turnSwap_any (side : Int) (A : Option Addr) (c : Nat) (ks : List Kd) (t : Int) (M : Option Addr) (cm : Nat) (l : List St) (w : World) (hR : IsKinds w w.heap.size A ks) (hM : IsSteps w w.heap.size M l)
    (hsm : Small ks) (hl : l.length ≤ 1048576) :
    Calls Try.prog 11 #[.agg #[.int .i64 side, .slice A ks.length c], .agg #[.int .i64 t, .slice M l.length cm]] w fun e w' => SwapPost w w' side ks t l e := by
  go_enter Try.func11, Try.ntmps11
  go_wp2_with fail
  have hb0 : Below w.heap.size w (((w.alloc (.cells #[.int .i64 side, .slice A ks.length c] 36)).alloc (.cells #[.int .i64 t, .slice M l.length cm] 32)).alloc (.cells #[.int .i64 0, .slice none 0 0] 32)) := (by repeat (first | exact Below.refl _ _ | assumption | (refine Below.alloc ?_ (by first | omega | (simp; done) | (simp; omega)) _) | (refine Below.setCell ?_ (by first | omega | (simp; done) | (simp; omega)) _) | refine Below.drew ?_))
  have p2 := (Blk.new (w.alloc (.cells #[.int .i64 side, .slice A ks.length c] 36)) #[.int .i64 t, .slice M l.length cm] 32).alloc (.cells #[.int .i64 0, .slice none 0 0] 32)
  have p3 := Blk.new ((w.alloc (.cells #[.int .i64 side, .slice A ks.length c] 36)).alloc (.cells #[.int .i64 t, .slice M l.length cm] 32)) #[.int .i64 0, .slice none 0 0] 32
  simp only [World.size_alloc] at p2 p3
  generalize hW0 : ((w.alloc _).alloc _).alloc _ = W0 at *
  clear hW0
  refine (posOk_any _ _ _ _ _ _ _ _ _ ((hR.below hb0).more hb0.size) ((hM.below hb0).more hb0.size) hsm hl).mono ?_
  rintro e w2 ⟨rfl, hb2⟩
  have p2' := p2.below hb2 p2.lt
  have p3' := p3.below hb2 p3.lt
  have hb0' := hb0.trans (hb2.mono hb0.size)
  have hM' := (hM.below hb0').more hb0'.size
  obtain ⟨⟨o0, o1⟩, _⟩ := p2'.at2
  obtain ⟨⟨r0, r1⟩, ⟨r2, r3⟩⟩ := p3'.at2
  have z3 := p3'.lt
  clear p2 p3 hb0 hb2
  cases hp : posB side ks t l
  · have HP := Lib.hid (sw_no hp)
    clear hp
    go_wp2_with fail
    obtain ⟨e1, e2⟩ := HP.out
    refine bodyPost_ret (v := .agg #[.int .i64 0, .slice none 0 0]) ?_ rfl ⟨none, 0, ?_, ?_, ?_⟩
    · obtain ⟨⟨d0, d1⟩, _⟩ := (p3'.set2 (.int .i64 0) (.slice none 0 0)).at2
      simp [results, Try.results11, go_sem, d0, d1]
    · rw [e1, e2]; rfl
    · rw [e2]; exact MenA.nil _ _ _ _
    · exact (hb0'.setCell (by show w.heap.size ≤ w.heap.size + 1 + 1; omega) _).setCell (by show w.heap.size ≤ w.heap.size + 1 + 1; omega) _
  · obtain ⟨⟨ht0, ht1⟩, hpos, hl4, hmen⟩ := posB_men hp
    have HP := Lib.hid (sw_yes hp)
    have HMEN := Lib.hid hmen
    clear hp hmen
    go_wp2_with fail
    refine (clone_any _ _ _ _ hM' hl hpos).mono ?_
    rintro e w3 ⟨G, cg, rfl, hG, hb3⟩
    have p2 := p2'.below hb3 p2'.lt
    have p3 := p3'.below hb3 p3'.lt
    have hbe := hb0'.trans (hb3.mono hb0'.size)
    obtain ⟨g, cs0, rfl, hg1, hg2, hg3, hg4, hg5⟩ := hG hpos
    clear hM' hb3 p2' p3' hb0' o0 o1 r0 r1 r2 r3 hM hR
    go_wp2_with fail
    go_loopw [17] (fun i wr => ∃ (j : Nat) (cs : Array Value), j ≤ l.length ∧ i = .int .i64 j ∧ Blk wr g cs 59 ∧ l.length * 3 ≤ cs.size ∧ Hid (StepsIn cs (swapK l j) l.length) ∧
      Blk wr (w.heap.size + 1) #[.int .i64 t, .slice M l.length cm] 32 ∧ Blk wr (w.heap.size + 1 + 1) #[.int .i64 0, .slice none 0 0] 32 ∧ Below w.heap.size w wr ∧ wr.heap.size = w3.heap.size) (fun i _ => l.length - (intOf i).toNat)
    case atStart => exact ⟨0, cs0, by omega, rfl, hg3, hg4, Lib.hid (by rw [swapK_zero]; exact hg5), p2, p3, hbe, rfl⟩
    case round =>
      clear hg3 hg4 hg5 p2 p3 hbe
      obtain ⟨j, cs, hj, rfl, hB, hsz, hh, p2, p3, hbe, hsame⟩ := hrel
      by_cases hlt : j < l.length
      · have hst := (hh.out j hlt).2.1
        rw [swapK_at l j j hlt, if_neg (by omega)] at hst
        have y1 := (hB.cell (j * 3 + 1)).trans hst
        have f1 := hB.free (j * 3 + 1)
        obtain ⟨m1, m2⟩ := HMEN.out j hlt
        have HB2 := Lib.hid (hB.set (j * 3 + 1) (.int .i64 (1 - (stAt l j).dy)))
        have HN := Lib.hid (hh.out.swap hlt)
        have HSZ : Hid (l.length * 3 ≤ (cs.setIfInBounds (j * 3 + 1) (.int .i64 (1 - (stAt l j).dy))).size) := Lib.hid (by simpa using hsz)
        have HP2 := Lib.hid (p2.other ⟨g, j * 3 + 1, none⟩ (.int .i64 (1 - (stAt l j).dy)) (by have := p2.lt; show w.heap.size + 1 ≠ g; omega))
        have HP3 := Lib.hid (p3.other ⟨g, j * 3 + 1, none⟩ (.int .i64 (1 - (stAt l j).dy)) (by show w.heap.size + 1 + 1 ≠ g; omega))
        have HBE := Lib.hid (hbe.setCell (p := ⟨g, j * 3 + 1, none⟩) (by show w.heap.size ≤ g; omega) (.int .i64 (1 - (stAt l j).dy)))
        clear hB hst hh p2 p3 hbe
        go_wp2_with fail
        go_roundw
        case rel => exact ⟨j + 1, _, by omega, by go_num, HB2.out, HSZ.out, HN, HP2.out, HP3.out, HBE.out, by simpa using hsame⟩
        case measure => simp [intOf]; omega
      · obtain rfl : j = l.length := by omega
        obtain ⟨⟨o0, o1⟩, _⟩ := p2.at2
        obtain ⟨⟨r0, r1⟩, ⟨r2, r3⟩⟩ := p3.at2
        go_wp2_with fail
        obtain ⟨e1, e2⟩ := HP.out
        have hh' := hh.out
        rw [swapK_all] at hh'
        refine bodyPost_ret (v := .agg #[.int .i64 (1 - t), .slice (some ⟨g, 0, none⟩) l.length cg]) ?_ rfl ⟨some ⟨g, 0, none⟩, cg, ?_, ?_, ?_⟩
        · obtain ⟨⟨d0, d1⟩, _⟩ := (p3.set2 (.int .i64 (1 - t)) (.slice (some ⟨g, 0, none⟩) l.length cg)).at2
          simp [results, Try.results11, go_sem, d0, d1]
        · rw [e1, e2, swapL_len]
        · rw [e2]
          exact fun _ => ⟨g, cs, rfl, by omega, by have := hB.lt; simpa using this, (hB.other _ _ (by show g ≠ w.heap.size + 1 + 1; omega)).other _ _ (by show g ≠ w.heap.size + 1 + 1; omega), by rw [swapL_len]; exact hsz, by rw [swapL_len]; exact hh'⟩
        · exact (hbe.setCell (by show w.heap.size ≤ w.heap.size + 1 + 1; omega) _).setCell (by show w.heap.size ≤ w.heap.size + 1 + 1; omega) _
end Go.Proofs.Ytnchjpjlabeabab.Ko
