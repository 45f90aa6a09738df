/- Marks of games that a law has converted. -/
import Derived.Test.YtcgfklljbblhlaaGreatDoorY0
import Derived.Test.YtcgfklljbblhlaaGreatDoorMk
namespace Go.Proofs.YtcgfklljbblhlaaGreatDoor.Ko
open Go.ChangeShapes Go.WideShapes Go.ChangeAt Go.RowKit Base Sq
set_option linter.unusedVariables false
set_option maxRecDepth 20000
attribute [local irreducible] wpQuiet

theorem NewGmv.big {B : Nat} {w : World} {g : Nat} {l : List Mv} (h : NewGmv B w g l) : BlkG w g (l.length * 2) 58 := by
  obtain ⟨cs, _, hb, hi⟩ := h
  refine ⟨cs, hb, ?_⟩
  rcases Nat.eq_zero_or_pos l.length with h0 | h0
  · omega
  · have := (Array.getElem?_eq_some_iff.1 (hi (l.length - 1) (by omega)).2).1
    omega
set_option maxHeartbeats 1000000 in
theorem markMoveSB_any (gs n c : Nat) (k : Int) (w : World) (h : BlkG w gs (n * 2) 58) (hn : n ≤ 1048576) (hk0 : 0 ≤ k) (hk1 : k ≤ 1000000000000000) :
    Calls Tryz.prog 38 #[.slice (some ⟨gs, 0, none⟩) n c, .int .i64 k] w fun e w' => e = .returned (.int .i64 (k + 2 * n)) ∧ Span gs (gs + 1) w w' := by
  go_enter Tryz.func38, Tryz.ntmps38
  go_wp2_with fail
  go_loopw [1, 5] (fun x i wr => ∃ j : Nat, j ≤ n ∧ i = .int .i64 j ∧ x = .int .i64 (k + 2 * j) ∧ BlkG wr gs (n * 2) 58 ∧ Span gs (gs + 1) w wr) (fun _ i _ => n - (intOf i).toNat)
  case atStart => exact ⟨0, by omega, rfl, by simp, h, Span.refl _ _ _⟩
  case round =>
    clear h
    obtain ⟨j, hj, rfl, rfl, hB, hS⟩ := hrel
    by_cases hlt : j < n
    · obtain ⟨v0, c0⟩ := hB.cell (i := j * 2) (by omega)
      obtain ⟨v1, c1⟩ := hB.cell (i := j * 2 + 1) (by omega)
      have f0 := hB.free (j * 2)
      have f1 := hB.free (j * 2 + 1)
      go_wp2_with fail
      go_roundw
      case rel => exact ⟨j + 1, by omega, by go_num, by first | go_num | (congr 1; omega), (hB.setCell _ _ _).setCell _ _ _, (hS.setCell (by omega) (by omega) _ _).setCell (by omega) (by omega) _ _⟩
      case measure => simp [intOf]; omega
    · obtain rfl : j = n := by omega
      go_wp2_with fail
      go_ret
      exact ⟨rfl, hS⟩
theorem markPosB_any (g c : Nat) (t : Int) (l : List St) (k : Int) (w : World) (h : BlkG w g (l.length * 3) 105) (hl : l.length ≤ 1048576) (hk0 : 0 ≤ k) (hk1 : k ≤ 1000000000000000) :
    Calls Tryz.prog 17 #[.agg #[.int .i64 t, .slice (some ⟨g, 0, none⟩) l.length c], .int .i64 k] w fun e w' => e = .returned (.int .i64 (k + 3 * (l.length : Int))) ∧ Span g (g + 1) w w' := by
  have hb0 := below_of w (.cells #[.int .i64 t, .slice (some ⟨g, 0, none⟩) l.length c] 35)
  have HB0 := Lib.hid hb0
  have HK := Lib.hid (h.below hb0 h.lt)
  clear h hb0
  go_enter Tryz.func17, Tryz.ntmps17
  go_wp2_with fail
  refine (markManS_any _ _ _ _ _ HK.out hl hk0 hk1).mono ?_
  rintro e w2 ⟨rfl, hs⟩
  go_wp2_with fail
  go_ret
  exact ⟨rfl, (Span.ofBelow HB0.out).trans hs⟩
set_option maxHeartbeats 1000000 in
theorem markGame_any (lo hi g c : Nat) (t : Int) (l : List St) (g2 cm : Nat) (ms : List Mv) (k : Int) (w : World) (h : BlkG w g (l.length * 3) 105) (h' : BlkG w g2 (ms.length * 2) 58) (h1 : lo ≤ g ∧ g < hi) (h2 : lo ≤ g2 ∧ g2 < hi) (hl : l.length ≤ 1048576 ∧ ms.length ≤ 1048576) (hk0 : 0 ≤ k) (hk1 : k ≤ 100000000000000) :
    Calls Tryz.prog 16 #[.agg #[.int .i64 t, .slice (some ⟨g, 0, none⟩) l.length c, .slice (some ⟨g2, 0, none⟩) ms.length cm], .int .i64 k] w fun e w' => MarkPost lo hi w w' k e := by
  have hb0 := below_of w (.cells #[.int .i64 t, .slice (some ⟨g, 0, none⟩) l.length c, .slice (some ⟨g2, 0, none⟩) ms.length cm] 44)
  have p0 := Blk.new w #[.int .i64 t, .slice (some ⟨g, 0, none⟩) l.length c, .slice (some ⟨g2, 0, none⟩) ms.length cm] 44
  have hgl := h.lt
  obtain ⟨hla, hlb⟩ := hl
  have HB0 := Lib.hid hb0
  have HK := Lib.hid (h.below hb0 h.lt)
  have HK2 := Lib.hid (h'.below hb0 h'.lt)
  clear h h' hb0
  go_enter Tryz.func16, Tryz.ntmps16
  go_wp2_with fail
  generalize hW0 : w.alloc _ = W0 at *
  clear hW0
  refine (markPosB_any _ _ _ _ _ _ HK.out hla hk0 (by omega)).mono ?_
  rintro e w2 ⟨rfl, hs⟩
  have p2 := hs.blk p0 (by omega)
  have HK3 := Lib.hid (hs.shape _ _ _ HK2.out)
  have HS := Lib.hid hs
  obtain ⟨⟨q0, q1, q2⟩, _⟩ := p2.at3
  clear hs p0 p2
  go_wp2_with fail
  refine (markMoveSB_any _ _ _ _ _ HK3.out hlb (by omega) (by omega)).mono ?_
  rintro e w3 ⟨rfl, hs3⟩
  go_wp2_with fail
  go_ret
  exact ⟨_, rfl, by omega, by omega, (Span.ofBelow HB0.out).trans ((HS.out.wide h1.1 (by omega)).trans (hs3.wide h2.1 (by omega)))⟩
end Go.Proofs.YtcgfklljbblhlaaGreatDoor.Ko
