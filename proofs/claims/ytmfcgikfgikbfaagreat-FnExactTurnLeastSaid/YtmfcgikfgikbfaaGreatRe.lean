/- Even turns: steps turned, whether a kind has them; the program and the model. -/
import Derived.Test.YtmfcgikfgikbfaaGreatCr
namespace Go.Proofs.YtmfcgikfgikbfaaGreat.Ko
open Go.ChangeShapes Go.WideShapes Go.ChangeAt Go.RowKit Base Sq
set_option linter.unusedVariables false
set_option maxRecDepth 20000
attribute [local irreducible] wpQuiet

/-- quarter turns of a step -/
def rotS : Nat → Int × Int → Int × Int
  | 0, q => q
  | n + 1, q => (-(rotS n q).2, (rotS n q).1)
theorem rotS_bd (n : Nat) (q : Int × Int) (h1 : -2 ≤ q.1 ∧ q.1 ≤ 2) (h2 : -2 ≤ q.2 ∧ q.2 ≤ 2) : (-2 ≤ (rotS n q).1 ∧ (rotS n q).1 ≤ 2) ∧ (-2 ≤ (rotS n q).2 ∧ (rotS n q).2 ≤ 2) := by
  induction n with
  | zero => exact ⟨h1, h2⟩
  | succ n ih => simp only [rotS]; omega
def turnSt (k : Int) (s : St) : St :=
  ⟨(rotS (k % 4).toNat (if 4 ≤ k then (s.dy, s.dx) else (s.dx, s.dy))).1, (rotS (k % 4).toNat (if 4 ≤ k then (s.dy, s.dx) else (s.dx, s.dy))).2, s.far⟩

theorem stTurned_lo (dx dy far k : Int) (w : World) (hx : -2 ≤ dx ∧ dx ≤ 2) (hy : -2 ≤ dy ∧ dy ≤ 2) (hk : 0 ≤ k ∧ k ≤ 3) :
    Calls Tryz.prog 101 #[.agg #[.int .i64 dx, .int .i64 dy, .int .i64 far], .int .i64 k] w fun e w' => e = .returned (.agg #[.int .i64 (rotS (k % 4).toNat (dx, dy)).1, .int .i64 (rotS (k % 4).toNat (dx, dy)).2, .int .i64 far]) ∧ Below w.heap.size w w' := by
  obtain ⟨hk1, hk2⟩ := hk
  have HRB := Lib.hid (fun n => rotS_bd n (dx, dy) hx hy)
  obtain ⟨hx1, hx2⟩ := hx
  obtain ⟨hy1, hy2⟩ := hy
  go_enter Tryz.func101, Tryz.ntmps101
  go_wp2_with fail
  have hA := (Blk.new w #[.int .i64 dx, .int .i64 dy, .int .i64 far] 104).alloc (.cells #[.int .i64 0, .int .i64 0, .int .i64 0] 104)
  have hR0 := Blk.new (w.alloc (.cells #[.int .i64 dx, .int .i64 dy, .int .i64 far] 104)) #[.int .i64 0, .int .i64 0, .int .i64 0] 104
  simp only [World.size_alloc] at hR0
  have hR := hR0
  have hw0 : Below w.heap.size w ((w.alloc (.cells #[.int .i64 dx, .int .i64 dy, .int .i64 far] 104)).alloc (.cells #[.int .i64 0, .int .i64 0, .int .i64 0] 104)) := (by repeat (first | exact Below.refl _ _ | assumption | (refine Below.alloc ?_ (by first | omega | (simp; done) | (simp; omega)) _) | (refine Below.setCell ?_ (by first | omega | (simp; done) | (simp; omega)) _) | refine Below.drew ?_))
  have hw := hw0
  clear hR0 hw0
  go_loopw [15] (fun i wr => ∃ n : Nat, (n : Int) ≤ k % 4 ∧ i = .int .i64 n ∧ Blk wr w.heap.size #[.int .i64 (rotS n (dx, dy)).1, .int .i64 (rotS n (dx, dy)).2, .int .i64 far] 104 ∧ Blk wr (w.heap.size + 1) #[.int .i64 0, .int .i64 0, .int .i64 0] 104 ∧ Below w.heap.size w wr) (fun i _ => (4 - intOf i).toNat)
  case atStart => exact ⟨0, by omega, rfl, hA, hR, hw⟩
  case round =>
    clear hA hR hw
    obtain ⟨n, hn, rfl, hA, hR, hw⟩ := hrel
    obtain ⟨⟨hr1, hr2⟩, hr3, hr4⟩ := HRB.out n
    have hz := hR.lt
    have hz' := hA.lt
    obtain ⟨⟨c0, c1, c2⟩, f0, f1, f2⟩ := hA.at3
    obtain ⟨⟨d0, d1, d2⟩, g0, g1, g2⟩ := hR.at3
    by_cases hlt : (n : Int) < k % 4
    · go_wp2_with fail
      go_roundw
      case rel => exact ⟨n + 1, by omega, by go_num, (hA.set 0 _).set 1 _, (hR.other _ _ (by first | (simp; done) | (simp; omega) | omega)).other _ _ (by first | (simp; done) | (simp; omega) | omega), (hw.setCell (by simp) _).setCell (by simp) _⟩
      case measure => simp [intOf]; omega
    · obtain rfl : n = (k % 4).toNat := by omega
      go_wp2_with fail
      refine bodyPost_ret (v := .agg #[.int .i64 (rotS (k % 4).toNat (dx, dy)).1, .int .i64 (rotS (k % 4).toNat (dx, dy)).2, .int .i64 far]) ?_ rfl ⟨rfl, ?_⟩
      · have hR' := hR.set3 (.int .i64 (rotS (k % 4).toNat (dx, dy)).1) (.int .i64 (rotS (k % 4).toNat (dx, dy)).2) (.int .i64 far)
        obtain ⟨⟨d0, d1, d2⟩, _⟩ := hR'.at3
        simp [results, Tryz.results101, go_sem, d0, d1, d2]
      · exact ((hw.setCell (by simp) _).setCell (by simp) _).setCell (by simp) _
theorem stTurned_hi (dx dy far k : Int) (w : World) (hx : -2 ≤ dx ∧ dx ≤ 2) (hy : -2 ≤ dy ∧ dy ≤ 2) (hk : 4 ≤ k ∧ k ≤ 7) :
    Calls Tryz.prog 101 #[.agg #[.int .i64 dx, .int .i64 dy, .int .i64 far], .int .i64 k] w fun e w' => e = .returned (.agg #[.int .i64 (rotS (k % 4).toNat (dy, dx)).1, .int .i64 (rotS (k % 4).toNat (dy, dx)).2, .int .i64 far]) ∧ Below w.heap.size w w' := by
  obtain ⟨hk1, hk2⟩ := hk
  have HRB := Lib.hid (fun n => rotS_bd n (dy, dx) hy hx)
  obtain ⟨hx1, hx2⟩ := hx
  obtain ⟨hy1, hy2⟩ := hy
  go_enter Tryz.func101, Tryz.ntmps101
  go_wp2_with fail
  have hA := (Blk.new w #[.int .i64 dy, .int .i64 dx, .int .i64 far] 104).alloc (.cells #[.int .i64 0, .int .i64 0, .int .i64 0] 104)
  have hR := Blk.new (w.alloc (.cells #[.int .i64 dy, .int .i64 dx, .int .i64 far] 104)) #[.int .i64 0, .int .i64 0, .int .i64 0] 104
  simp only [World.size_alloc] at hR
  have hw : Below w.heap.size w ((w.alloc (.cells #[.int .i64 dy, .int .i64 dx, .int .i64 far] 104)).alloc (.cells #[.int .i64 0, .int .i64 0, .int .i64 0] 104)) := (by repeat (first | exact Below.refl _ _ | assumption | (refine Below.alloc ?_ (by first | omega | (simp; done) | (simp; omega)) _) | (refine Below.setCell ?_ (by first | omega | (simp; done) | (simp; omega)) _) | refine Below.drew ?_))
  go_loopw [15] (fun i wr => ∃ n : Nat, (n : Int) ≤ k % 4 ∧ i = .int .i64 n ∧ Blk wr w.heap.size #[.int .i64 (rotS n (dy, dx)).1, .int .i64 (rotS n (dy, dx)).2, .int .i64 far] 104 ∧ Blk wr (w.heap.size + 1) #[.int .i64 0, .int .i64 0, .int .i64 0] 104 ∧ Below w.heap.size w wr) (fun i _ => (4 - intOf i).toNat)
  case atStart => exact ⟨0, by omega, rfl, hA, hR, hw⟩
  case round =>
    clear hA hR hw
    obtain ⟨n, hn, rfl, hA, hR, hw⟩ := hrel
    obtain ⟨⟨hr1, hr2⟩, hr3, hr4⟩ := HRB.out n
    have hz := hR.lt
    have hz' := hA.lt
    obtain ⟨⟨c0, c1, c2⟩, f0, f1, f2⟩ := hA.at3
    obtain ⟨⟨d0, d1, d2⟩, g0, g1, g2⟩ := hR.at3
    by_cases hlt : (n : Int) < k % 4
    · go_wp2_with fail
      go_roundw
      case rel => exact ⟨n + 1, by omega, by go_num, (hA.set 0 _).set 1 _, (hR.other _ _ (by first | (simp; done) | (simp; omega) | omega)).other _ _ (by first | (simp; done) | (simp; omega) | omega), (hw.setCell (by simp) _).setCell (by simp) _⟩
      case measure => simp [intOf]; omega
    · obtain rfl : n = (k % 4).toNat := by omega
      go_wp2_with fail
      refine bodyPost_ret (v := .agg #[.int .i64 (rotS (k % 4).toNat (dy, dx)).1, .int .i64 (rotS (k % 4).toNat (dy, dx)).2, .int .i64 far]) ?_ rfl ⟨rfl, ?_⟩
      · have hR' := hR.set3 (.int .i64 (rotS (k % 4).toNat (dy, dx)).1) (.int .i64 (rotS (k % 4).toNat (dy, dx)).2) (.int .i64 far)
        obtain ⟨⟨d0, d1, d2⟩, _⟩ := hR'.at3
        simp [results, Tryz.results101, go_sem, d0, d1, d2]
      · exact ((hw.setCell (by simp) _).setCell (by simp) _).setCell (by simp) _
theorem l2Turn_lo (dx dy far k : Int) (w : World) (hx : -2 ≤ dx ∧ dx ≤ 2) (hy : -2 ≤ dy ∧ dy ≤ 2) (hk : 0 ≤ k ∧ k ≤ 3) :
    Calls Tryz.prog 66 #[.int .i64 k, .agg #[.int .i64 dx, .int .i64 dy, .int .i64 far]] w fun e w' => e = .returned (.agg #[.int .i64 (rotS (k % 4).toNat (dx, dy)).1, .int .i64 (rotS (k % 4).toNat (dx, dy)).2, .int .i64 far]) ∧ Below w.heap.size w w' := by
  obtain ⟨hk1, hk2⟩ := hk
  have HRB := Lib.hid (fun n => rotS_bd n (dx, dy) hx hy)
  obtain ⟨hx1, hx2⟩ := hx
  obtain ⟨hy1, hy2⟩ := hy
  go_enter Tryz.func66, Tryz.ntmps66
  go_wp2_with fail
  have hA := (Blk.new w #[.int .i64 dx, .int .i64 dy, .int .i64 far] 104).alloc (.cells #[.int .i64 0, .int .i64 0, .int .i64 0] 104)
  have hR := Blk.new (w.alloc (.cells #[.int .i64 dx, .int .i64 dy, .int .i64 far] 104)) #[.int .i64 0, .int .i64 0, .int .i64 0] 104
  simp only [World.size_alloc] at hR
  have hw : Below w.heap.size w ((w.alloc (.cells #[.int .i64 dx, .int .i64 dy, .int .i64 far] 104)).alloc (.cells #[.int .i64 0, .int .i64 0, .int .i64 0] 104)) := (by repeat (first | exact Below.refl _ _ | assumption | (refine Below.alloc ?_ (by first | omega | (simp; done) | (simp; omega)) _) | (refine Below.setCell ?_ (by first | omega | (simp; done) | (simp; omega)) _) | refine Below.drew ?_))
  go_loopw [5, 6, 7] (fun x y i wr => ∃ n : Nat, (n : Int) ≤ k % 4 ∧ i = .int .i64 (k % 4 - n) ∧ x = .int .i64 (rotS n (dx, dy)).1 ∧ y = .int .i64 (rotS n (dx, dy)).2 ∧ Blk wr w.heap.size #[.int .i64 dx, .int .i64 dy, .int .i64 far] 104 ∧ Blk wr (w.heap.size + 1) #[.int .i64 0, .int .i64 0, .int .i64 0] 104 ∧ Below w.heap.size w wr) (fun _ _ i _ => (intOf i).toNat)
  case atStart => exact ⟨0, by omega, by simp, rfl, rfl, hA, hR, hw⟩
  case round =>
    clear hA hR hw
    obtain ⟨n, hn, rfl, rfl, rfl, hA, hR, hw⟩ := hrel
    obtain ⟨⟨hr1, hr2⟩, hr3, hr4⟩ := HRB.out n
    have hz := hR.lt
    have hz' := hA.lt
    obtain ⟨⟨c0, c1, c2⟩, f0, f1, f2⟩ := hA.at3
    obtain ⟨⟨d0, d1, d2⟩, g0, g1, g2⟩ := hR.at3
    by_cases hlt : (n : Int) < k % 4
    · go_wp2_with fail
      go_roundw
      case rel => exact ⟨n + 1, by omega, by go_num, rfl, rfl, hA, hR, hw⟩
      case measure => simp [intOf]; omega
    · obtain rfl : n = (k % 4).toNat := by omega
      go_wp2_with fail
      refine bodyPost_ret (v := .agg #[.int .i64 (rotS (k % 4).toNat (dx, dy)).1, .int .i64 (rotS (k % 4).toNat (dx, dy)).2, .int .i64 far]) ?_ rfl ⟨rfl, ?_⟩
      · have hR' := hR.set3 (.int .i64 (rotS (k % 4).toNat (dx, dy)).1) (.int .i64 (rotS (k % 4).toNat (dx, dy)).2) (.int .i64 far)
        obtain ⟨⟨d0, d1, d2⟩, _⟩ := hR'.at3
        simp [results, Tryz.results66, go_sem, d0, d1, d2]
      · exact ((hw.setCell (by simp) _).setCell (by simp) _).setCell (by simp) _
theorem l2Turn_hi (dx dy far k : Int) (w : World) (hx : -2 ≤ dx ∧ dx ≤ 2) (hy : -2 ≤ dy ∧ dy ≤ 2) (hk : 4 ≤ k ∧ k ≤ 7) :
    Calls Tryz.prog 66 #[.int .i64 k, .agg #[.int .i64 dx, .int .i64 dy, .int .i64 far]] w fun e w' => e = .returned (.agg #[.int .i64 (rotS (k % 4).toNat (dy, dx)).1, .int .i64 (rotS (k % 4).toNat (dy, dx)).2, .int .i64 far]) ∧ Below w.heap.size w w' := by
  obtain ⟨hk1, hk2⟩ := hk
  have HRB := Lib.hid (fun n => rotS_bd n (dy, dx) hy hx)
  obtain ⟨hx1, hx2⟩ := hx
  obtain ⟨hy1, hy2⟩ := hy
  go_enter Tryz.func66, Tryz.ntmps66
  go_wp2_with fail
  have hA := (Blk.new w #[.int .i64 dx, .int .i64 dy, .int .i64 far] 104).alloc (.cells #[.int .i64 0, .int .i64 0, .int .i64 0] 104)
  have hR := Blk.new (w.alloc (.cells #[.int .i64 dx, .int .i64 dy, .int .i64 far] 104)) #[.int .i64 0, .int .i64 0, .int .i64 0] 104
  simp only [World.size_alloc] at hR
  have hw : Below w.heap.size w ((w.alloc (.cells #[.int .i64 dx, .int .i64 dy, .int .i64 far] 104)).alloc (.cells #[.int .i64 0, .int .i64 0, .int .i64 0] 104)) := (by repeat (first | exact Below.refl _ _ | assumption | (refine Below.alloc ?_ (by first | omega | (simp; done) | (simp; omega)) _) | (refine Below.setCell ?_ (by first | omega | (simp; done) | (simp; omega)) _) | refine Below.drew ?_))
  go_loopw [5, 6, 7] (fun x y i wr => ∃ n : Nat, (n : Int) ≤ k % 4 ∧ i = .int .i64 (k % 4 - n) ∧ x = .int .i64 (rotS n (dy, dx)).1 ∧ y = .int .i64 (rotS n (dy, dx)).2 ∧ Blk wr w.heap.size #[.int .i64 dx, .int .i64 dy, .int .i64 far] 104 ∧ Blk wr (w.heap.size + 1) #[.int .i64 0, .int .i64 0, .int .i64 0] 104 ∧ Below w.heap.size w wr) (fun _ _ i _ => (intOf i).toNat)
  case atStart => exact ⟨0, by omega, by simp, rfl, rfl, hA, hR, hw⟩
  case round =>
    clear hA hR hw
    obtain ⟨n, hn, rfl, rfl, rfl, hA, hR, hw⟩ := hrel
    obtain ⟨⟨hr1, hr2⟩, hr3, hr4⟩ := HRB.out n
    have hz := hR.lt
    have hz' := hA.lt
    obtain ⟨⟨c0, c1, c2⟩, f0, f1, f2⟩ := hA.at3
    obtain ⟨⟨d0, d1, d2⟩, g0, g1, g2⟩ := hR.at3
    by_cases hlt : (n : Int) < k % 4
    · go_wp2_with fail
      go_roundw
      case rel => exact ⟨n + 1, by omega, by go_num, rfl, rfl, hA, hR, hw⟩
      case measure => simp [intOf]; omega
    · obtain rfl : n = (k % 4).toNat := by omega
      go_wp2_with fail
      refine bodyPost_ret (v := .agg #[.int .i64 (rotS (k % 4).toNat (dy, dx)).1, .int .i64 (rotS (k % 4).toNat (dy, dx)).2, .int .i64 far]) ?_ rfl ⟨rfl, ?_⟩
      · have hR' := hR.set3 (.int .i64 (rotS (k % 4).toNat (dy, dx)).1) (.int .i64 (rotS (k % 4).toNat (dy, dx)).2) (.int .i64 far)
        obtain ⟨⟨d0, d1, d2⟩, _⟩ := hR'.at3
        simp [results, Tryz.results66, go_sem, d0, d1, d2]
      · exact ((hw.setCell (by simp) _).setCell (by simp) _).setCell (by simp) _
theorem stTurned_any (dx dy far k : Int) (w : World) (hx : -2 ≤ dx ∧ dx ≤ 2) (hy : -2 ≤ dy ∧ dy ≤ 2) (hk : 0 ≤ k ∧ k ≤ 7) :
    Calls Tryz.prog 101 #[.agg #[.int .i64 dx, .int .i64 dy, .int .i64 far], .int .i64 k] w fun e w' => e = .returned (.agg #[.int .i64 (turnSt k ⟨dx, dy, far⟩).dx, .int .i64 (turnSt k ⟨dx, dy, far⟩).dy, .int .i64 (turnSt k ⟨dx, dy, far⟩).far]) ∧ Below w.heap.size w w' := by
  unfold turnSt
  by_cases h : 4 ≤ k
  · simp only [if_pos h]; exact stTurned_hi dx dy far k w hx hy ⟨h, hk.2⟩
  · simp only [if_neg h]; exact stTurned_lo dx dy far k w hx hy ⟨hk.1, by omega⟩
theorem l2Turn_any (dx dy far k : Int) (w : World) (hx : -2 ≤ dx ∧ dx ≤ 2) (hy : -2 ≤ dy ∧ dy ≤ 2) (hk : 0 ≤ k ∧ k ≤ 7) :
    Calls Tryz.prog 66 #[.int .i64 k, .agg #[.int .i64 dx, .int .i64 dy, .int .i64 far]] w fun e w' => e = .returned (.agg #[.int .i64 (turnSt k ⟨dx, dy, far⟩).dx, .int .i64 (turnSt k ⟨dx, dy, far⟩).dy, .int .i64 (turnSt k ⟨dx, dy, far⟩).far]) ∧ Below w.heap.size w w' := by
  unfold turnSt
  by_cases h : 4 ≤ k
  · simp only [if_pos h]; exact l2Turn_hi dx dy far k w hx hy ⟨h, hk.2⟩
  · simp only [if_neg h]; exact l2Turn_lo dx dy far k w hx hy ⟨hk.1, by omega⟩
end Go.Proofs.YtmfcgikfgikbfaaGreat.Ko
