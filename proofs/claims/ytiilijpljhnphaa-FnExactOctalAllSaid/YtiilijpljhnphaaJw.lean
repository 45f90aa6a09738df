/- The conversion of a list of whole numbers: its capacity, too. -/
import Derived.Test.YtiilijpljhnphaaJv
namespace Go.Proofs.Ytiilijpljhnphaa.Ko
open Go.ChangeShapes Go.WideShapes Go.ChangeAt Go.RowKit Base Sq In
set_option linter.unusedVariables false
set_option maxRecDepth 20000
attribute [local irreducible] wpQuiet

set_option maxHeartbeats 1000000 in
theorem toIntSc_any (A : Option Addr) (c : Nat) (l : List Int) (w : World) (h : IsNums w w.heap.size A l) (hl : l.length ≤ 1048576) :
    Calls Try.prog 16 #[.slice A l.length c] w fun e w' => ∃ g c', e = .returned (.slice (some ⟨g, 0, none⟩) l.length c') ∧ (NewNums w.heap.size w' g l ∧ l.length ≤ c') ∧ Below w.heap.size w w' := by
  obtain ⟨i0, hi, hz0, hz1, hz2⟩ := info_parts infoInt
  go_enter Try.func16, Try.ntmps16
  go_wp2_with (at_make; refine wpList_make_full _ rfl _ _ _ rfl w.heap.size 3 i0 (.int .i64 0) 1 Try.underlying22 hi hz0 hz1 .i64 .i64 _ _ l.length (by rfl) (by rfl) rfl rfl (by rw [hz2]; omega) (by unfold maxLen; omega) (Nat.le_refl _) ?_; intro w1 hown hgrow)
  obtain ⟨cur, hblk, hsz⟩ := blk_of_own hown
  have hbe := below_of_grown hgrow (Nat.le_refl _)
  clear hown hgrow hi hz0 hz1 hz2
  have HS := Lib.hid hsz
  clear hsz
  go_loopw [4] (fun i wr => ∃ (k : Nat) (cs : Array Value), k ≤ l.length ∧ i = .int .i64 k ∧ cs.size = l.length * 1 ∧ NumsIn cs l k ∧ Blk wr w.heap.size cs 3 ∧ Below w.heap.size w wr) (fun i _ => l.length - (intOf i).toNat)
  case atStart => exact ⟨0, cur, by omega, rfl, HS.out, fun j hj => absurd hj (by omega), hblk, hbe⟩
  case round =>
    clear hblk hbe HS
    obtain ⟨k, cs, hk, rfl, hsz, hin, hb, hbe⟩ := hrel
    have HS := Lib.hid hsz
    by_cases hlt : k < l.length
    · obtain ⟨b, off, rfl, hB, hc⟩ := h.below hbe (by omega)
      have c0 := hc k hlt
      clear hc
      obtain ⟨o0, x0⟩ := old_cell (cs := cs) (i := k) (by omega)
      have y0 := (hb.cell k).trans x0
      have f0 := hb.free k
      have z1 := hb.lt
      clear hsz x0
      go_wp2_with fail
      go_roundw
      case rel => exact ⟨k + 1, _, by omega, by go_num, by simp only [Array.size_setIfInBounds]; exact HS.out, hin.next (by have := HS.out; omega), hb.set _ _, hbe.setCell (by simp) _⟩
      case measure => simp [intOf]; omega
    · obtain rfl : k = l.length := by omega
      have HN : Hid (cs.size = l.length) := Lib.hid (by omega)
      clear hsz
      go_wp2_with fail
      go_ret
      exact ⟨_, _, rfl, ⟨⟨cs, Nat.le_refl _, hb, HN.out, hin⟩, Nat.le_refl _⟩, hbe⟩
end Go.Proofs.Ytiilijpljhnphaa.Ko
