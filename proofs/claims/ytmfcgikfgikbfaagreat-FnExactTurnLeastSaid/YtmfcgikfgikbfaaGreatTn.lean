/- The turns as functions; TurnPos of the program. -/
import Derived.Test.YtmfcgikfgikbfaaGreatTz
import Derived.Deep.RegionHeld3
import Derived.Laws.EntriesVeiled
namespace Go.Proofs.YtmfcgikfgikbfaaGreat.Ko
open Go.ChangeShapes Go.WideShapes Go.ChangeAt Go.RowKit Base Sq
set_option linter.unusedVariables false
set_option maxRecDepth 20000
attribute [local irreducible] wpQuiet

theorem blk_set8 {w : World} {b : Nat} {x0 x1 x2 x3 x4 x5 x6 x7 : Value} {T : TypeId} (h : Blk w b #[x0, x1, x2, x3, x4, x5, x6, x7] T) (y0 y1 y2 y3 y4 y5 y6 y7 : Value) : Blk (((((((((w.setCell ⟨b, 0, none⟩ y0).setCell ⟨b, 1, none⟩ y1).setCell ⟨b, 2, none⟩ y2).setCell ⟨b, 3, none⟩ y3).setCell ⟨b, 4, none⟩ y4).setCell ⟨b, 5, none⟩ y5).setCell ⟨b, 6, none⟩ y6).setCell ⟨b, 7, none⟩ y7)) b #[y0, y1, y2, y3, y4, y5, y6, y7] T := by
  have h0 := h.set 0 y0
  rw [show (#[x0, x1, x2, x3, x4, x5, x6, x7] : Array Value).setIfInBounds 0 y0 = #[y0, x1, x2, x3, x4, x5, x6, x7] from rfl] at h0
  have h1 := h0.set 1 y1
  rw [show (#[y0, x1, x2, x3, x4, x5, x6, x7] : Array Value).setIfInBounds 1 y1 = #[y0, y1, x2, x3, x4, x5, x6, x7] from rfl] at h1
  have h2 := h1.set 2 y2
  rw [show (#[y0, y1, x2, x3, x4, x5, x6, x7] : Array Value).setIfInBounds 2 y2 = #[y0, y1, y2, x3, x4, x5, x6, x7] from rfl] at h2
  have h3 := h2.set 3 y3
  rw [show (#[y0, y1, y2, x3, x4, x5, x6, x7] : Array Value).setIfInBounds 3 y3 = #[y0, y1, y2, y3, x4, x5, x6, x7] from rfl] at h3
  have h4 := h3.set 4 y4
  rw [show (#[y0, y1, y2, y3, x4, x5, x6, x7] : Array Value).setIfInBounds 4 y4 = #[y0, y1, y2, y3, y4, x5, x6, x7] from rfl] at h4
  have h5 := h4.set 5 y5
  rw [show (#[y0, y1, y2, y3, y4, x5, x6, x7] : Array Value).setIfInBounds 5 y5 = #[y0, y1, y2, y3, y4, y5, x6, x7] from rfl] at h5
  have h6 := h5.set 6 y6
  rw [show (#[y0, y1, y2, y3, y4, y5, x6, x7] : Array Value).setIfInBounds 6 y6 = #[y0, y1, y2, y3, y4, y5, y6, x7] from rfl] at h6
  have h7 := h6.set 7 y7
  rw [show (#[y0, y1, y2, y3, y4, y5, y6, x7] : Array Value).setIfInBounds 7 y7 = #[y0, y1, y2, y3, y4, y5, y6, y7] from rfl] at h7
  exact h7
theorem blk_at8 {w : World} {b : Nat} {x0 x1 x2 x3 x4 x5 x6 x7 : Value} {T : TypeId} (h : Blk w b #[x0, x1, x2, x3, x4, x5, x6, x7] T) : w.cell? ⟨b, 0, none⟩ = some x0 ∧ w.cell? ⟨b, 1, none⟩ = some x1 ∧ w.cell? ⟨b, 2, none⟩ = some x2 ∧ w.cell? ⟨b, 3, none⟩ = some x3 ∧ w.cell? ⟨b, 4, none⟩ = some x4 ∧ w.cell? ⟨b, 5, none⟩ = some x5 ∧ w.cell? ⟨b, 6, none⟩ = some x6 ∧ w.cell? ⟨b, 7, none⟩ = some x7 :=
  ⟨h.cell 0, h.cell 1, h.cell 2, h.cell 3, h.cell 4, h.cell 5, h.cell 6, h.cell 7⟩
/-- the array when n turns are laid; bs: the block of the side; b0: that of the first number -/
def arrV (bs b0 n : Nat) (i : Nat) : Value := if i < n then cloV bs (b0 + i) else .nilFunc
def arrK (bs b0 n : Nat) : Array Value := #[arrV bs b0 n 0, arrV bs b0 n 1, arrV bs b0 n 2, arrV bs b0 n 3, arrV bs b0 n 4, arrV bs b0 n 5, arrV bs b0 n 6, arrV bs b0 n 7]
theorem arrK_set (bs b0 n : Nat) (h : n < 8) : (arrK bs b0 n).setIfInBounds n (cloV bs (b0 + n)) = arrK bs b0 (n + 1) := by
  rcases (show n = 0 ∨ n = 1 ∨ n = 2 ∨ n = 3 ∨ n = 4 ∨ n = 5 ∨ n = 6 ∨ n = 7 by omega) with rfl | rfl | rfl | rfl | rfl | rfl | rfl | rfl <;> rfl
theorem arrK_get (bs b0 n i : Nat) (h : i < 8) : (arrK bs b0 n)[i]? = some (arrV bs b0 n i) := by
  rcases (show i = 0 ∨ i = 1 ∨ i = 2 ∨ i = 3 ∨ i = 4 ∨ i = 5 ∨ i = 6 ∨ i = 7 by omega) with rfl | rfl | rfl | rfl | rfl | rfl | rfl | rfl <;> rfl
def TurnsPost (W w' : World) (side : Int) (e : Ending) : Prop :=
  e = .returned (.agg (arrK W.heap.size (W.heap.size + 3) 8)) ∧ Blk w' W.heap.size #[.int .i64 side] 3 ∧ (∀ i : Nat, i < 8 → Blk w' (W.heap.size + 3 + i) #[.int .i64 (i : Int)] 3) ∧ Below W.heap.size W w'

set_option maxHeartbeats 800000 in
theorem turnsOf_any (side : Int) (w : World) :
    Calls Tryz.prog 44 #[.int .i64 side] w fun e w' => TurnsPost w w' side e := by
  go_enter Tryz.func44, Tryz.ntmps44
  go_wp2_with fail
  have hb0 : Below w.heap.size w (((w.alloc (.cells #[.int .i64 side] 3)).alloc (.cells #[.nilFunc, .nilFunc, .nilFunc, .nilFunc, .nilFunc, .nilFunc, .nilFunc, .nilFunc] 79)).alloc (.cells #[.nilFunc, .nilFunc, .nilFunc, .nilFunc, .nilFunc, .nilFunc, .nilFunc, .nilFunc] 79)) := (by repeat (first | exact Below.refl _ _ | assumption | (refine Below.alloc ?_ (by first | omega | (simp; done) | (simp; omega)) _) | (refine Below.setCell ?_ (by first | omega | (simp; done) | (simp; omega)) _) | refine Below.drew ?_))
  have p1 := ((Blk.new w #[.int .i64 side] 3).alloc (.cells #[.nilFunc, .nilFunc, .nilFunc, .nilFunc, .nilFunc, .nilFunc, .nilFunc, .nilFunc] 79)).alloc (.cells #[.nilFunc, .nilFunc, .nilFunc, .nilFunc, .nilFunc, .nilFunc, .nilFunc, .nilFunc] 79)
  have p2 := (Blk.new (w.alloc (.cells #[.int .i64 side] 3)) #[.nilFunc, .nilFunc, .nilFunc, .nilFunc, .nilFunc, .nilFunc, .nilFunc, .nilFunc] 79).alloc (.cells #[.nilFunc, .nilFunc, .nilFunc, .nilFunc, .nilFunc, .nilFunc, .nilFunc, .nilFunc] 79)
  have p3 := Blk.new ((w.alloc (.cells #[.int .i64 side] 3)).alloc (.cells #[.nilFunc, .nilFunc, .nilFunc, .nilFunc, .nilFunc, .nilFunc, .nilFunc, .nilFunc] 79)) #[.nilFunc, .nilFunc, .nilFunc, .nilFunc, .nilFunc, .nilFunc, .nilFunc, .nilFunc] 79
  have hsz0 : Hid ((((w.alloc (.cells #[.int .i64 side] 3)).alloc (.cells #[.nilFunc, .nilFunc, .nilFunc, .nilFunc, .nilFunc, .nilFunc, .nilFunc, .nilFunc] 79)).alloc (.cells #[.nilFunc, .nilFunc, .nilFunc, .nilFunc, .nilFunc, .nilFunc, .nilFunc, .nilFunc] 79)).heap.size = w.heap.size + 3 + 0) := Lib.hid (by simp)
  simp only [World.size_alloc] at p2 p3
  generalize hW0 : ((w.alloc _).alloc _).alloc _ = W0 at *
  clear hW0
  go_loopw [5] (fun iv wr => ∃ j : Nat, j ≤ 8 ∧ iv = .int .i64 j ∧ Hid (wr.heap.size = w.heap.size + 3 + j) ∧ Blk wr w.heap.size #[.int .i64 side] 3 ∧ Blk wr (w.heap.size + 1) #[.nilFunc, .nilFunc, .nilFunc, .nilFunc, .nilFunc, .nilFunc, .nilFunc, .nilFunc] 79 ∧ Blk wr (w.heap.size + 1 + 1) (arrK w.heap.size (w.heap.size + 3) j) 79 ∧ Hid (∀ i : Nat, i < j → Blk wr (w.heap.size + 3 + i) #[.int .i64 (i : Int)] 3) ∧ Below w.heap.size w wr) (fun iv _ => 8 - (intOf iv).toNat)
  case atStart => exact ⟨0, by omega, rfl, hsz0, p1, p2, p3, Lib.hid (fun i hi => absurd hi (by omega)), hb0⟩
  case round =>
    clear hsz0 p1 p2 p3 hb0
    obtain ⟨j, hj, rfl, hsz, p1, p2, p3, hks, hbe⟩ := hrel
    have hz := hbe.size
    have z1 := p1.lt
    have z2 := p2.lt
    have z3 := p3.lt
    by_cases hlt : j < 8
    · have y1 := (p3.cell j).trans (arrK_get _ _ j j hlt)
      have f1 := p3.free j
      have HP1 := Lib.hid p1
      have HP2 := Lib.hid p2
      have HP3 := Lib.hid p3
      have HBE := Lib.hid hbe
      have hji : (j : Int) < 8 := by omega
      have HZ := Lib.hid hz
      clear p1 p2 p3 hbe
      go_wp2_with fail
      go_roundw
      case rel =>
        refine ⟨j + 1, by omega, by go_num, Lib.hid (by have := hsz.out; simp; omega), (HP1.out.other _ _ (by show w.heap.size ≠ w.heap.size + 1 + 1; omega)).alloc _, (HP2.out.other _ _ (by show w.heap.size + 1 ≠ w.heap.size + 1 + 1; omega)).alloc _, ?_, Lib.hid ?_, (HBE.out.setCell (by show w.heap.size ≤ w.heap.size + 1 + 1; omega) _).alloc (by simpa [size_set] using HZ.out) _⟩
        · rw [← arrK_set _ _ j hlt]
          have h := (HP3.out.set j (cloV w.heap.size (w.heap.size + 3 + j))).alloc (.cells #[.int .i64 (j : Int)] 3)
          have hs := hsz.out
          unfold cloV at h ⊢
          rw [← hs] at h ⊢
          exact h
        · intro i hi
          rcases Nat.lt_succ_iff_lt_or_eq.1 hi with hi | rfl
          · exact ((hks.out i hi).other _ _ (by show w.heap.size + 3 + i ≠ w.heap.size + 1 + 1; omega)).alloc _
          · have h := Blk.new (wr.setCell ⟨w.heap.size + 1 + 1, i, none⟩ (.func (.func 71) #[] #[.pointer (some ⟨w.heap.size, 0, none⟩), .pointer (some ⟨wr.heap.size, 0, none⟩)])) #[.int .i64 (i : Int)] 3
            rw [size_set] at h
            have hs := hsz.out
            rw [← hs]
            exact h
      case measure => simp [intOf]; omega
    · obtain rfl : j = 8 := by omega
      have c0 : wr.cell? ⟨w.heap.size + 1 + 1, 0, none⟩ = some (.func (.func 71) #[] #[.pointer (some ⟨w.heap.size, 0, none⟩), .pointer (some ⟨w.heap.size + 3, 0, none⟩)]) := p3.cell 0
      have c1 : wr.cell? ⟨w.heap.size + 1 + 1, 1, none⟩ = some (.func (.func 71) #[] #[.pointer (some ⟨w.heap.size, 0, none⟩), .pointer (some ⟨w.heap.size + 4, 0, none⟩)]) := p3.cell 1
      have c2 : wr.cell? ⟨w.heap.size + 1 + 1, 2, none⟩ = some (.func (.func 71) #[] #[.pointer (some ⟨w.heap.size, 0, none⟩), .pointer (some ⟨w.heap.size + 5, 0, none⟩)]) := p3.cell 2
      have c3 : wr.cell? ⟨w.heap.size + 1 + 1, 3, none⟩ = some (.func (.func 71) #[] #[.pointer (some ⟨w.heap.size, 0, none⟩), .pointer (some ⟨w.heap.size + 6, 0, none⟩)]) := p3.cell 3
      have c4 : wr.cell? ⟨w.heap.size + 1 + 1, 4, none⟩ = some (.func (.func 71) #[] #[.pointer (some ⟨w.heap.size, 0, none⟩), .pointer (some ⟨w.heap.size + 7, 0, none⟩)]) := p3.cell 4
      have c5 : wr.cell? ⟨w.heap.size + 1 + 1, 5, none⟩ = some (.func (.func 71) #[] #[.pointer (some ⟨w.heap.size, 0, none⟩), .pointer (some ⟨w.heap.size + 8, 0, none⟩)]) := p3.cell 5
      have c6 : wr.cell? ⟨w.heap.size + 1 + 1, 6, none⟩ = some (.func (.func 71) #[] #[.pointer (some ⟨w.heap.size, 0, none⟩), .pointer (some ⟨w.heap.size + 9, 0, none⟩)]) := p3.cell 6
      have c7 : wr.cell? ⟨w.heap.size + 1 + 1, 7, none⟩ = some (.func (.func 71) #[] #[.pointer (some ⟨w.heap.size, 0, none⟩), .pointer (some ⟨w.heap.size + 10, 0, none⟩)]) := p3.cell 7
      have r0 : wr.cell? ⟨w.heap.size + 1, 0, none⟩ = some .nilFunc := p2.cell 0
      have f0 := p2.free 0
      have r1 : wr.cell? ⟨w.heap.size + 1, 1, none⟩ = some .nilFunc := p2.cell 1
      have f1 := p2.free 1
      have r2 : wr.cell? ⟨w.heap.size + 1, 2, none⟩ = some .nilFunc := p2.cell 2
      have f2 := p2.free 2
      have r3 : wr.cell? ⟨w.heap.size + 1, 3, none⟩ = some .nilFunc := p2.cell 3
      have f3 := p2.free 3
      have r4 : wr.cell? ⟨w.heap.size + 1, 4, none⟩ = some .nilFunc := p2.cell 4
      have f4 := p2.free 4
      have r5 : wr.cell? ⟨w.heap.size + 1, 5, none⟩ = some .nilFunc := p2.cell 5
      have f5 := p2.free 5
      have r6 : wr.cell? ⟨w.heap.size + 1, 6, none⟩ = some .nilFunc := p2.cell 6
      have f6 := p2.free 6
      have r7 : wr.cell? ⟨w.heap.size + 1, 7, none⟩ = some .nilFunc := p2.cell 7
      have f7 := p2.free 7
      have HPF := Lib.hid (blk_set8 p2 (.func (.func 71) #[] #[.pointer (some ⟨w.heap.size, 0, none⟩), .pointer (some ⟨w.heap.size + 3, 0, none⟩)]) (.func (.func 71) #[] #[.pointer (some ⟨w.heap.size, 0, none⟩), .pointer (some ⟨w.heap.size + 4, 0, none⟩)]) (.func (.func 71) #[] #[.pointer (some ⟨w.heap.size, 0, none⟩), .pointer (some ⟨w.heap.size + 5, 0, none⟩)]) (.func (.func 71) #[] #[.pointer (some ⟨w.heap.size, 0, none⟩), .pointer (some ⟨w.heap.size + 6, 0, none⟩)]) (.func (.func 71) #[] #[.pointer (some ⟨w.heap.size, 0, none⟩), .pointer (some ⟨w.heap.size + 7, 0, none⟩)]) (.func (.func 71) #[] #[.pointer (some ⟨w.heap.size, 0, none⟩), .pointer (some ⟨w.heap.size + 8, 0, none⟩)]) (.func (.func 71) #[] #[.pointer (some ⟨w.heap.size, 0, none⟩), .pointer (some ⟨w.heap.size + 9, 0, none⟩)]) (.func (.func 71) #[] #[.pointer (some ⟨w.heap.size, 0, none⟩), .pointer (some ⟨w.heap.size + 10, 0, none⟩)]))
      have HBE := Lib.hid hbe
      have HP1 := Lib.hid p1
      clear p3
      go_wp2_with fail
      refine bodyPost_ret (v := .agg #[(.func (.func 71) #[] #[.pointer (some ⟨w.heap.size, 0, none⟩), .pointer (some ⟨w.heap.size + 3, 0, none⟩)]), (.func (.func 71) #[] #[.pointer (some ⟨w.heap.size, 0, none⟩), .pointer (some ⟨w.heap.size + 4, 0, none⟩)]), (.func (.func 71) #[] #[.pointer (some ⟨w.heap.size, 0, none⟩), .pointer (some ⟨w.heap.size + 5, 0, none⟩)]), (.func (.func 71) #[] #[.pointer (some ⟨w.heap.size, 0, none⟩), .pointer (some ⟨w.heap.size + 6, 0, none⟩)]), (.func (.func 71) #[] #[.pointer (some ⟨w.heap.size, 0, none⟩), .pointer (some ⟨w.heap.size + 7, 0, none⟩)]), (.func (.func 71) #[] #[.pointer (some ⟨w.heap.size, 0, none⟩), .pointer (some ⟨w.heap.size + 8, 0, none⟩)]), (.func (.func 71) #[] #[.pointer (some ⟨w.heap.size, 0, none⟩), .pointer (some ⟨w.heap.size + 9, 0, none⟩)]), (.func (.func 71) #[] #[.pointer (some ⟨w.heap.size, 0, none⟩), .pointer (some ⟨w.heap.size + 10, 0, none⟩)])]) ?_ rfl ⟨rfl, ?_, ?_, ?_⟩
      · have pf := HPF.out
        obtain ⟨d0, d1, d2, d3, d4, d5, d6, d7⟩ := blk_at8 pf
        simp [results, Tryz.results44, go_sem, d0, d1, d2, d3, d4, d5, d6, d7]
      · exact ((((((((HP1.out.other _ _ (by show w.heap.size ≠ w.heap.size + 1; omega)).other _ _ (by show w.heap.size ≠ w.heap.size + 1; omega)).other _ _ (by show w.heap.size ≠ w.heap.size + 1; omega)).other _ _ (by show w.heap.size ≠ w.heap.size + 1; omega)).other _ _ (by show w.heap.size ≠ w.heap.size + 1; omega)).other _ _ (by show w.heap.size ≠ w.heap.size + 1; omega)).other _ _ (by show w.heap.size ≠ w.heap.size + 1; omega)).other _ _ (by show w.heap.size ≠ w.heap.size + 1; omega))
      · intro i hi
        exact (((((((((hks.out i hi).other _ _ (by show w.heap.size + 3 + i ≠ w.heap.size + 1; omega)).other _ _ (by show w.heap.size + 3 + i ≠ w.heap.size + 1; omega)).other _ _ (by show w.heap.size + 3 + i ≠ w.heap.size + 1; omega)).other _ _ (by show w.heap.size + 3 + i ≠ w.heap.size + 1; omega)).other _ _ (by show w.heap.size + 3 + i ≠ w.heap.size + 1; omega)).other _ _ (by show w.heap.size + 3 + i ≠ w.heap.size + 1; omega)).other _ _ (by show w.heap.size + 3 + i ≠ w.heap.size + 1; omega)).other _ _ (by show w.heap.size + 3 + i ≠ w.heap.size + 1; omega))
      · exact ((((((((HBE.out.setCell (by show w.heap.size ≤ w.heap.size + 1; omega) _).setCell (by show w.heap.size ≤ w.heap.size + 1; omega) _).setCell (by show w.heap.size ≤ w.heap.size + 1; omega) _).setCell (by show w.heap.size ≤ w.heap.size + 1; omega) _).setCell (by show w.heap.size ≤ w.heap.size + 1; omega) _).setCell (by show w.heap.size ≤ w.heap.size + 1; omega) _).setCell (by show w.heap.size ≤ w.heap.size + 1; omega) _).setCell (by show w.heap.size ≤ w.heap.size + 1; omega) _)
end Go.Proofs.YtmfcgikfgikbfaaGreat.Ko
