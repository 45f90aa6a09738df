/- Turns of squares. -/
import Derived.Test.YtmfcgikfgikbfaaGreatSr
namespace Go.Proofs.YtmfcgikfgikbfaaGreat.Sq
open Go.ChangeShapes Go.WideShapes Go.ChangeAt Go.RowKit Base
set_option linter.unusedVariables false
set_option maxRecDepth 20000

theorem mirrored_any (s x y : Int) (w : World) :
    Calls Tryz.prog 97 #[.agg #[.int .i64 s, .int .i64 x, .int .i64 y]] w fun e w' => e = .returned (.agg #[.int .i64 s, .int .i64 y, .int .i64 x]) ∧ Below w.heap.size w w' := by
  go_enter Tryz.func97, Tryz.ntmps97
  go_wp2
  refine bodyPost_ret (v := .agg #[.int .i64 s, .int .i64 y, .int .i64 x]) (by simp [results, Tryz.results97, go_sem]) rfl ⟨rfl, ?_⟩
  exact (below_of w _).alloc (by simp) _
theorem rotated_any (s x y : Int) (w : World) (hs : s = 2 ∨ s = 3 ∨ s = 4) (hy : 0 ≤ y ∧ y ≤ 100) :
    Calls Tryz.prog 98 #[.agg #[.int .i64 s, .int .i64 x, .int .i64 y]] w fun e w' => e = .returned (.agg #[.int .i64 s, .int .i64 (s - 1 - y), .int .i64 x]) ∧ Below w.heap.size w w' := by
  obtain ⟨hy1, hy2⟩ := hy
  have hs1 : 2 ≤ s := by omega
  have hs2 : s ≤ 4 := by omega
  clear hs
  go_enter Tryz.func98, Tryz.ntmps98
  go_wp2
  refine bodyPost_ret (v := .agg #[.int .i64 s, .int .i64 (s - 1 - y), .int .i64 x]) (by simp [results, Tryz.results98, go_sem]) rfl ⟨rfl, ?_⟩
  exact (below_of w _).alloc (by simp) _

/-- after n quarter turns -/
def rot (s : Int) : Nat → Int × Int → Int × Int
  | 0, q => q
  | n + 1, q => (s - 1 - (rot s n q).2, (rot s n q).1)
theorem rot_bd (s : Int) (n : Nat) (q : Int × Int) (h1 : 0 ≤ q.1 ∧ q.1 < s) (h2 : 0 ≤ q.2 ∧ q.2 < s) : (0 ≤ (rot s n q).1 ∧ (rot s n q).1 < s) ∧ (0 ≤ (rot s n q).2 ∧ (rot s n q).2 < s) := by
  induction n with
  | zero => exact ⟨h1, h2⟩
  | succ n ih => simp only [rot]; omega

theorem turned_lo (s x y k : Int) (w : World) (hs : s = 2 ∨ s = 3 ∨ s = 4) (hx : 0 ≤ x ∧ x < s) (hy : 0 ≤ y ∧ y < s) (hk : 0 ≤ k ∧ k ≤ 3) :
    Calls Tryz.prog 73 #[.agg #[.int .i64 s, .int .i64 x, .int .i64 y], .int .i64 k] w fun e w' => e = .returned (.agg #[.int .i64 s, .int .i64 (rot s (k % 4).toNat (x, y)).1, .int .i64 (rot s (k % 4).toNat (x, y)).2]) ∧ Below w.heap.size w w' := by
  obtain ⟨hk1, hk2⟩ := hk
  have hrb := fun n => rot_bd s n (x, y) hx hy
  obtain ⟨hx1, hx2⟩ := hx
  obtain ⟨hy1, hy2⟩ := hy
  go_enter Tryz.func73, Tryz.ntmps73
  go_wp2_with fail
  have hA := (Blk.new w #[.int .i64 s, .int .i64 x, .int .i64 y] 112).alloc (.cells #[.int .i64 0, .int .i64 0, .int .i64 0] 112)
  have hR := Blk.new (w.alloc (.cells #[.int .i64 s, .int .i64 x, .int .i64 y] 112)) #[.int .i64 0, .int .i64 0, .int .i64 0] 112
  have hw := (below_of w (.cells #[.int .i64 s, .int .i64 x, .int .i64 y] 112)).alloc (by simp) (.cells #[.int .i64 0, .int .i64 0, .int .i64 0] 112)
  rw [show (w.alloc (.cells #[.int .i64 s, .int .i64 x, .int .i64 y] 112)).heap.size = w.heap.size + 1 from by simp] at hR
  go_loopw [11] (fun i wr => ∃ n : Nat, (n : Int) ≤ k % 4 ∧ i = .int .i64 n ∧ Blk wr w.heap.size #[.int .i64 s, .int .i64 (rot s n (x, y)).1, .int .i64 (rot s n (x, y)).2] 112 ∧ Blk wr (w.heap.size + 1) #[.int .i64 0, .int .i64 0, .int .i64 0] 112 ∧ Below w.heap.size w wr) (fun i _ => (4 - intOf i).toNat)
  case atStart =>
    exact ⟨0, by omega, rfl, hA, hR, hw⟩
  case round =>
    clear hA hR hw
    obtain ⟨n, hn, rfl, hA, hR, hw⟩ := hrel
    obtain ⟨hr1, hr2⟩ := hrb n
    have hz := hR.lt
    have hz' := hA.lt
    obtain ⟨⟨c0, c1, c2⟩, f0, f1, f2⟩ := hA.at3
    obtain ⟨⟨d0, d1, d2⟩, g0, g1, g2⟩ := hR.at3
    by_cases hlt : (n : Int) < k % 4
    · go_wp2_with fail
      refine (rotated_any _ _ _ _ hs (by omega)).mono ?_
      rintro e w2 ⟨rfl, hb2⟩
      obtain ⟨hc, hf⟩ := bcell hb2
      go_wp2_with fail
      have hA' := (hA.below hb2 (by omega)).set3 (.int .i64 s) (.int .i64 (s - 1 - (rot s n (x, y)).2)) (.int .i64 (rot s n (x, y)).1)
      have hR' := (((hR.below hb2 (by omega)).other ⟨w.heap.size, 0, none⟩ (.int .i64 s) (by simp)).other ⟨w.heap.size, 1, none⟩ (.int .i64 (s - 1 - (rot s n (x, y)).2)) (by simp)).other ⟨w.heap.size, 2, none⟩ (.int .i64 (rot s n (x, y)).1) (by simp)
      have hw' := (((hw.trans (hb2.mono (by omega))).setCell (p := ⟨w.heap.size, 0, none⟩) (by simp) (.int .i64 s)).setCell (p := ⟨w.heap.size, 1, none⟩) (by simp) (.int .i64 (s - 1 - (rot s n (x, y)).2))).setCell (p := ⟨w.heap.size, 2, none⟩) (by simp) (.int .i64 (rot s n (x, y)).1)
      go_roundw
      case rel => exact ⟨n + 1, by omega, by go_num, hA', hR', hw'⟩
      case measure => simp [intOf]; omega
    · obtain rfl : n = (k % 4).toNat := by omega
      go_wp2_with fail
      refine bodyPost_ret (v := .agg #[.int .i64 s, .int .i64 (rot s (k % 4).toNat (x, y)).1, .int .i64 (rot s (k % 4).toNat (x, y)).2]) ?_ rfl ⟨rfl, ?_⟩
      · have hR' := hR.set3 (.int .i64 s) (.int .i64 (rot s (k % 4).toNat (x, y)).1) (.int .i64 (rot s (k % 4).toNat (x, y)).2)
        obtain ⟨⟨d0, d1, d2⟩, _⟩ := hR'.at3
        simp [results, Tryz.results73, go_sem, d0, d1, d2]
      · exact ((hw.setCell (by simp) _).setCell (by simp) _).setCell (by simp) _
theorem turned_hi (s x y k : Int) (w : World) (hs : s = 2 ∨ s = 3 ∨ s = 4) (hx : 0 ≤ x ∧ x < s) (hy : 0 ≤ y ∧ y < s) (hk : 4 ≤ k ∧ k ≤ 7) :
    Calls Tryz.prog 73 #[.agg #[.int .i64 s, .int .i64 x, .int .i64 y], .int .i64 k] w fun e w' => e = .returned (.agg #[.int .i64 s, .int .i64 (rot s (k % 4).toNat (y, x)).1, .int .i64 (rot s (k % 4).toNat (y, x)).2]) ∧ Below w.heap.size w w' := by
  obtain ⟨hk1, hk2⟩ := hk
  have hrb := fun n => rot_bd s n (y, x) hy hx
  obtain ⟨hx1, hx2⟩ := hx
  obtain ⟨hy1, hy2⟩ := hy
  go_enter Tryz.func73, Tryz.ntmps73
  go_wp2_with fail
  refine (mirrored_any _ _ _ _).mono ?_
  rintro e w1 ⟨rfl, hb⟩
  have hA := ((Blk.new w #[.int .i64 s, .int .i64 x, .int .i64 y] 112).alloc (.cells #[.int .i64 0, .int .i64 0, .int .i64 0] 112)).below hb (by simp; omega)
  have hR := (Blk.new (w.alloc (.cells #[.int .i64 s, .int .i64 x, .int .i64 y] 112)) #[.int .i64 0, .int .i64 0, .int .i64 0] 112).below hb (by simp)
  have hw := ((below_of w (.cells #[.int .i64 s, .int .i64 x, .int .i64 y] 112)).alloc (by simp) (.cells #[.int .i64 0, .int .i64 0, .int .i64 0] 112)).trans (hb.mono (by simp; omega))
  rw [show (w.alloc (.cells #[.int .i64 s, .int .i64 x, .int .i64 y] 112)).heap.size = w.heap.size + 1 from by simp] at hR
  clear hb
  obtain ⟨⟨c0, c1, c2⟩, f0, f1, f2⟩ := hA.at3
  go_wp2_with fail
  clear c0 c1 c2 f0 f1 f2
  go_loopw [11] (fun i wr => ∃ n : Nat, (n : Int) ≤ k % 4 ∧ i = .int .i64 n ∧ Blk wr w.heap.size #[.int .i64 s, .int .i64 (rot s n (y, x)).1, .int .i64 (rot s n (y, x)).2] 112 ∧ Blk wr (w.heap.size + 1) #[.int .i64 0, .int .i64 0, .int .i64 0] 112 ∧ Below w.heap.size w wr) (fun i _ => (4 - intOf i).toNat)
  case atStart =>
    exact ⟨0, by omega, rfl, hA.set3 _ _ _, ((hR.other _ _ (by simp)).other _ _ (by simp)).other _ _ (by simp), ((hw.setCell (by simp) _).setCell (by simp) _).setCell (by simp) _⟩
  case round =>
    clear hA hR hw
    obtain ⟨n, hn, rfl, hA, hR, hw⟩ := hrel
    obtain ⟨hr1, hr2⟩ := hrb n
    have hz := hR.lt
    have hz' := hA.lt
    obtain ⟨⟨c0, c1, c2⟩, f0, f1, f2⟩ := hA.at3
    obtain ⟨⟨d0, d1, d2⟩, g0, g1, g2⟩ := hR.at3
    by_cases hlt : (n : Int) < k % 4
    · go_wp2_with fail
      refine (rotated_any _ _ _ _ hs (by omega)).mono ?_
      rintro e w2 ⟨rfl, hb2⟩
      obtain ⟨hc, hf⟩ := bcell hb2
      go_wp2_with fail
      have hA' := (hA.below hb2 (by omega)).set3 (.int .i64 s) (.int .i64 (s - 1 - (rot s n (y, x)).2)) (.int .i64 (rot s n (y, x)).1)
      have hR' := (((hR.below hb2 (by omega)).other ⟨w.heap.size, 0, none⟩ (.int .i64 s) (by simp)).other ⟨w.heap.size, 1, none⟩ (.int .i64 (s - 1 - (rot s n (y, x)).2)) (by simp)).other ⟨w.heap.size, 2, none⟩ (.int .i64 (rot s n (y, x)).1) (by simp)
      have hw' := (((hw.trans (hb2.mono (by omega))).setCell (p := ⟨w.heap.size, 0, none⟩) (by simp) (.int .i64 s)).setCell (p := ⟨w.heap.size, 1, none⟩) (by simp) (.int .i64 (s - 1 - (rot s n (y, x)).2))).setCell (p := ⟨w.heap.size, 2, none⟩) (by simp) (.int .i64 (rot s n (y, x)).1)
      go_roundw
      case rel => exact ⟨n + 1, by omega, by go_num, hA', hR', hw'⟩
      case measure => simp [intOf]; omega
    · obtain rfl : n = (k % 4).toNat := by omega
      go_wp2_with fail
      refine bodyPost_ret (v := .agg #[.int .i64 s, .int .i64 (rot s (k % 4).toNat (y, x)).1, .int .i64 (rot s (k % 4).toNat (y, x)).2]) ?_ rfl ⟨rfl, ?_⟩
      · have hR' := hR.set3 (.int .i64 s) (.int .i64 (rot s (k % 4).toNat (y, x)).1) (.int .i64 (rot s (k % 4).toNat (y, x)).2)
        obtain ⟨⟨d0, d1, d2⟩, _⟩ := hR'.at3
        simp [results, Tryz.results73, go_sem, d0, d1, d2]
      · exact ((hw.setCell (by simp) _).setCell (by simp) _).setCell (by simp) _

/-- column and row of the turned place -/
def turnV (s k x y : Int) : Int × Int := rot s (k % 4).toNat (if 4 ≤ k then (y, x) else (x, y))
theorem turnV_bd (s k x y : Int) (hx : 0 ≤ x ∧ x < s) (hy : 0 ≤ y ∧ y < s) : (0 ≤ (turnV s k x y).1 ∧ (turnV s k x y).1 < s) ∧ (0 ≤ (turnV s k x y).2 ∧ (turnV s k x y).2 < s) := by
  unfold turnV; split
  · exact rot_bd s _ _ hy hx
  · exact rot_bd s _ _ hx hy
theorem turned_any (s x y k : Int) (w : World) (hs : s = 2 ∨ s = 3 ∨ s = 4) (hx : 0 ≤ x ∧ x < s) (hy : 0 ≤ y ∧ y < s) (hk : 0 ≤ k ∧ k ≤ 7) :
    Calls Tryz.prog 73 #[.agg #[.int .i64 s, .int .i64 x, .int .i64 y], .int .i64 k] w fun e w' => e = .returned (.agg #[.int .i64 s, .int .i64 (turnV s k x y).1, .int .i64 (turnV s k x y).2]) ∧ Below w.heap.size w w' := by
  by_cases h : 4 ≤ k
  · have := turned_hi s x y k w hs hx hy (by omega)
    unfold turnV; rw [if_pos h]; exact this
  · have := turned_lo s x y k w hs hx hy (by omega)
    unfold turnV; rw [if_neg h]; exact this
end Go.Proofs.YtmfcgikfgikbfaaGreat.Sq
