/- StatOf by the program: sums. -/
import Derived.Test.YtcgfklljbblhlaaHe
namespace Go.Proofs.Ytcgfklljbblhlaa.Ko
open Go.ChangeShapes Go.WideShapes Go.ChangeAt Go.RowKit Base Sq In Sc
set_option linter.unusedVariables false
set_option maxRecDepth 20000
attribute [local irreducible] wpQuiet

def acc (x y : Int) : Nat → Int
  | 0 => 0
  | 1 => x
  | _ + 2 => x + y
def acm (x y : Int) : Nat → Int
  | 0 => 0
  | 1 => x
  | _ + 2 => max x y
def SumInv (w wr : World) (pb : Nat) (a b c d m a' b' c' d' m' : Int) (k : Nat) : Prop :=
  Blk wr w.heap.size (statC 0 0 0 0 0) 24 ∧ Blk wr (w.heap.size + 1) (statC (acc a a' k) (acc b b' k) (acc c c' k) (acc d d' k) (acm m m' k)) 24 ∧
    Blk wr pb #[.int .i64 a, .int .i64 b, .int .i64 c, .int .i64 d, .int .i64 m, .int .i64 a', .int .i64 b', .int .i64 c', .int .i64 d', .int .i64 m'] 24 ∧ Below w.heap.size w wr
theorem ten {w : World} {b : Nat} {x0 x1 x2 x3 x4 x5 x6 x7 x8 x9 : Value} {T : TypeId} (h : Blk w b #[x0, x1, x2, x3, x4, x5, x6, x7, x8, x9] T) :
    w.cell? ⟨b, 0, none⟩ = some x0 ∧ w.cell? ⟨b, 1, none⟩ = some x1 ∧ w.cell? ⟨b, 2, none⟩ = some x2 ∧ w.cell? ⟨b, 3, none⟩ = some x3 ∧ w.cell? ⟨b, 4, none⟩ = some x4 ∧ w.cell? ⟨b, 5, none⟩ = some x5 ∧ w.cell? ⟨b, 6, none⟩ = some x6 ∧ w.cell? ⟨b, 7, none⟩ = some x7 ∧ w.cell? ⟨b, 8, none⟩ = some x8 ∧ w.cell? ⟨b, 9, none⟩ = some x9 :=
  ⟨h.cell 0, h.cell 1, h.cell 2, h.cell 3, h.cell 4, h.cell 5, h.cell 6, h.cell 7, h.cell 8, h.cell 9⟩
set_option maxHeartbeats 2000000 in
theorem sumOf_any (pb : Nat) (a b c d m a' b' c' d' m' : Int) (w : World) (hP : Blk w pb #[.int .i64 a, .int .i64 b, .int .i64 c, .int .i64 d, .int .i64 m, .int .i64 a', .int .i64 b', .int .i64 c', .int .i64 d', .int .i64 m'] 24)
    (ha : 0 ≤ a ∧ a ≤ 2000) (hb : 0 ≤ b ∧ b ≤ 2000) (hc : 0 ≤ c ∧ c ≤ 2000) (hd : 0 ≤ d ∧ d ≤ 2000) (hm : 0 ≤ m) (ha' : 0 ≤ a' ∧ a' ≤ 2000) (hb' : 0 ≤ b' ∧ b' ≤ 2000) (hc' : 0 ≤ c' ∧ c' ≤ 2000) (hd' : 0 ≤ d' ∧ d' ≤ 2000) :
    Calls Try.prog 35 #[.slice (some ⟨pb, 0, none⟩) 2 2] w fun e w' => e = .returned (.agg (statC (a + a') (b + b') (c + c') (d + d') (max m m'))) ∧ Below w.heap.size w w' := by
  have hb0 : Below w.heap.size w ((w.alloc (.cells (statC 0 0 0 0 0) 24)).alloc (.cells (statC 0 0 0 0 0) 24)) := (by repeat (first | exact Below.refl _ _ | assumption | (refine Below.alloc ?_ (by first | omega | (simp; done) | (simp; omega)) _) | (refine Below.setCell ?_ (by first | omega | (simp; done) | (simp; omega)) _) | refine Below.drew ?_))
  have p0 := (Blk.new w (statC 0 0 0 0 0) 24).alloc (.cells (statC 0 0 0 0 0) 24)
  have p1 := Blk.new (w.alloc (.cells (statC 0 0 0 0 0) 24)) (statC 0 0 0 0 0) 24
  simp only [World.size_alloc] at p1
  have hlt := hP.lt
  have hI : SumInv w ((w.alloc (.cells (statC 0 0 0 0 0) 24)).alloc (.cells (statC 0 0 0 0 0) 24)) pb a b c d m a' b' c' d' m' 0 := ⟨p0, p1, hP.below hb0 hlt, hb0⟩
  obtain ⟨ha1, ha2⟩ := ha
  obtain ⟨hb1, hb2⟩ := hb
  obtain ⟨hc1, hc2⟩ := hc
  obtain ⟨hd1, hd2⟩ := hd
  obtain ⟨ha1', ha2'⟩ := ha'
  obtain ⟨hb1', hb2'⟩ := hb'
  obtain ⟨hc1', hc2'⟩ := hc'
  obtain ⟨hd1', hd2'⟩ := hd'
  clear p0 p1 hb0 hP
  go_enter Try.func35, Try.ntmps35
  go_wp2_with fail
  generalize hW0 : (w.alloc _).alloc _ = W0 at *
  clear hW0
  go_loopw [8] (fun i wr => ∃ k : Nat, k ≤ 2 ∧ i = .int .i64 k ∧ SumInv w wr pb a b c d m a' b' c' d' m' k) (fun i _ => 2 - (intOf i).toNat)
  case atStart => exact ⟨0, by omega, rfl, hI⟩
  case round =>
    clear hI
    obtain ⟨k, hk, rfl, p0, p1, pp, hbe⟩ := hrel
    have hz := hbe.size
    have z1 := p1.lt
    have hne : pb ≠ w.heap.size + 1 := by omega
    obtain rfl | rfl | rfl : k = 0 ∨ k = 1 ∨ k = 2 := by omega
    · have p1 : Blk wr (w.heap.size + 1) (statC 0 0 0 0 0) 24 := p1
      obtain ⟨⟨q0, q1, q2, q3, q4⟩, ⟨f0, f1, f2, f3, f4⟩⟩ := p1.five
      obtain ⟨t0, t1, t2, t3, t4, t5, t6, t7, t8, t9⟩ := ten pp
      have hmx : (if 0 < m then m else 0) = m := by split <;> omega
      have hE := Lib.hid (((pp.others5 (.int .i64 a) (.int .i64 b) (.int .i64 c) (.int .i64 d) (.int .i64 m) hne).alloc (.cells (statC a b c d m) 24)))
      go_wp2_with fail
      go_roundw
      case rel => exact ⟨1, by omega, rfl, (p0.others5 _ _ _ _ _ (by omega)).alloc _, (p1.sets5 _ _ _ _ _).alloc _, hE.out, (below_sets5 hbe (by omega) _ _ _ _ _).alloc (by simp only [size_set]; omega) _⟩
      case measure => simp [intOf]
    · have p1 : Blk wr (w.heap.size + 1) (statC a b c d m) 24 := p1
      obtain ⟨⟨q0, q1, q2, q3, q4⟩, ⟨f0, f1, f2, f3, f4⟩⟩ := p1.five
      obtain ⟨t0, t1, t2, t3, t4, t5, t6, t7, t8, t9⟩ := ten pp
      have hE := Lib.hid (((pp.others5 (.int .i64 (a + a')) (.int .i64 (b + b')) (.int .i64 (c + c')) (.int .i64 (d + d')) (.int .i64 (max m m')) hne).alloc (.cells (statC a' b' c' d' m') 24)))
      have hmx : (if m < m' then m' else m) = max m m' := by split <;> omega
      go_wp2_with fail
      go_roundw
      case rel => exact ⟨2, by omega, rfl, (p0.others5 _ _ _ _ _ (by omega)).alloc _, (p1.sets5 _ _ _ _ _).alloc _, hE.out, (below_sets5 hbe (by omega) _ _ _ _ _).alloc (by simp only [size_set]; omega) _⟩
      case measure => simp [intOf]
    · have p1 : Blk wr (w.heap.size + 1) (statC (a + a') (b + b') (c + c') (d + d') (max m m')) 24 := p1
      obtain ⟨⟨q0, q1, q2, q3, q4⟩, _⟩ := p1.five
      obtain ⟨⟨a0, a1, a2, a3, a4⟩, ⟨f0, f1, f2, f3, f4⟩⟩ := p0.five
      go_wp2_with fail
      refine bodyPost_ret (v := .agg (statC (a + a') (b + b') (c + c') (d + d') (max m m'))) ?_ rfl ⟨rfl, below_sets5 hbe (Nat.le_refl _) _ _ _ _ _⟩
      obtain ⟨⟨e0, e1, e2, e3, e4⟩, _⟩ := (p0.sets5 (.int .i64 (a + a')) (.int .i64 (b + b')) (.int .i64 (c + c')) (.int .i64 (d + d')) (.int .i64 (max m m'))).five
      simp [results, Try.results35, go_sem, e0, e1, e2, e3, e4]
def SInv (w wr : World) (z : List Int) (k : Nat) : Prop :=
  Blk wr w.heap.size (statC 0 0 0 0 0) 24 ∧ Blk wr (w.heap.size + 1) (statC (cntP isN z k) (cntP isD z k) (cntP wonB z k) (cntP lostB z k) (topV z k - 2)) 24 ∧ Below w.heap.size w wr

set_option maxHeartbeats 2000000 in
theorem statOf_any (V : Option Addr) (cv : Nat) (z : List Int) (w : World) (hV : IsInts w w.heap.size V z) (hz : z.length ≤ 1048576) :
    Calls Try.prog 10 #[.slice V z.length cv] w fun e w' => e = .returned (statV z) ∧ Below w.heap.size w w' := by
  have hb0 : Below w.heap.size w (w.alloc (.cells (statC 0 0 0 0 0) 24)) := (by repeat (first | exact Below.refl _ _ | assumption | (refine Below.alloc ?_ (by first | omega | (simp; done) | (simp; omega)) _) | (refine Below.setCell ?_ (by first | omega | (simp; done) | (simp; omega)) _) | refine Below.drew ?_))
  have p0 := Blk.new w (statC 0 0 0 0 0) 24
  go_enter Try.func10, Try.ntmps10
  go_wp2_with fail
  refine (listOk_any _ _ _ _ ((hV.below hb0).more hb0.size) hz).mono ?_
  rintro e w' ⟨rfl, rfl⟩
  cases hl : listB z
  · have HN := Lib.hid (statV_no hl)
    clear hl
    go_wp2_with fail
    refine bodyPost_ret (v := .agg (statC 0 0 0 0 0)) ?_ rfl ⟨by rw [HN.out], hb0⟩
    obtain ⟨⟨d0, d1, d2, d3, d4⟩, _⟩ := p0.five
    simp [results, Try.results10, go_sem, d0, d1, d2, d3, d4]
  · have HN := Lib.hid (statV_yes hl)
    have HR := Lib.hid (listB_range hl)
    have HLE := Lib.hid (listB_len hl)
    clear hl
    have p1 := Blk.new (w.alloc (.cells (statC 0 0 0 0 0) 24)) (statC 0 0 0 0 0) 24
    have hI : SInv w ((w.alloc (.cells (statC 0 0 0 0 0) 24)).alloc (.cells (statC 0 0 0 0 0) 24)) z 0 := ⟨p0.alloc _, (by simp only [World.size_alloc] at p1; exact p1), hb0.alloc (by simp) _⟩
    clear p0 p1 hb0
    go_wp2_with fail
    generalize hW0 : (w.alloc _).alloc _ = W0 at *
    clear hW0
    go_loopw [12] (fun i wr => ∃ k : Nat, k ≤ z.length ∧ i = .int .i64 k ∧ SInv w wr z k) (fun i _ => z.length - (intOf i).toNat)
    case atStart => exact ⟨0, by omega, rfl, hI⟩
    case round =>
      clear hI
      obtain ⟨k, hk, rfl, p0, p1, hbe⟩ := hrel
      by_cases hlt : k < z.length
      · have hr := rangeB_at HR.out hlt
        obtain ⟨b, rfl⟩ := hV.some (by omega)
        have hlt' : (k : Int) < (z.length : Int) := by omega
        obtain ⟨hBb, c0⟩ := (hV.below hbe).at hlt
        have hle := HLE.out
        have hA := cntP_nn isN z k
        have hBn := cntP_nn isD z k
        have hC := cntP_nn wonB z k
        have hD := cntP_nn lostB z k
        have hM := topV_ge z k
        have hz1 := p1.lt
        have hsz := hbe.size
        have HP0 := Lib.hid p0
        have HP1 := Lib.hid p1
        have HB := Lib.hid hbe
        obtain ⟨⟨q0, q1, q2, q3, q4⟩, _⟩ := p1.five
        have HX : Hid (∀ w' : World, Blk w' w.heap.size (statC 0 0 0 0 0) 24 → Blk w' (w.heap.size + 1) (statC (cntP isN z k + b2 (isN (iAt z k))) (cntP isD z k + b2 (isD (iAt z k))) (cntP wonB z k + b2 (wonB (iAt z k))) (cntP lostB z k + b2 (lostB (iAt z k))) (max (topV z k - 2) (max 0 (iAt z k - 2)))) 24 → Below w.heap.size w w' → SInv w w' z (k + 1)) := Lib.hid (fun w' h0 h1 h2 => ⟨h0, by
          rw [show topV z (k + 1) - 2 = max (topV z k - 2) (max 0 (iAt z k - 2)) from by have : topV z (k + 1) = max (topV z k) (iAt z k) := rfl; omega]; exact h1, h2⟩)
        have B2 := Lib.hid (fun b : Bool => (show 0 ≤ b2 b ∧ b2 b ≤ 1 by unfold b2; split <;> omega))
        clear p0 p1 hbe
        go_wp2_with fail
        have hw : Below wr.heap.size wr wr.drew := (Below.refl _ _).drew
        obtain ⟨hr1, hr2⟩ := hr
        go_region_with
          (first
            | (go_at_call 36; refine (statOfOne_any _ _ hr1 hr2).mono ?_; rintro e w5 ⟨rfl, hb5⟩; have hw := hw.trans (hb5.mono hw.size); have p5 := HP1.out.below hw hz1; obtain ⟨⟨q0, q1, q2, q3, q4⟩, _⟩ := p5.five)
            | (go_at_call 35; refine (sumOf_any w5.heap.size _ _ _ _ _ _ _ _ _ _ _ (Blk.new w5 _ _) ⟨hA.1, by omega⟩ ⟨hBn.1, by omega⟩ ⟨hC.1, by omega⟩ ⟨hD.1, by omega⟩ (by omega) ⟨(B2.out _).1, by have := (B2.out (isN (iAt z k))).2; omega⟩ ⟨(B2.out _).1, by have := (B2.out (isD (iAt z k))).2; omega⟩ ⟨(B2.out _).1, by have := (B2.out (wonB (iAt z k))).2; omega⟩ ⟨(B2.out _).1, by have := (B2.out (lostB (iAt z k))).2; omega⟩).mono ?_; rintro e w6 ⟨rfl, hb6⟩; have hw := (hw.alloc hw.size _).trans (hb6.mono (by have := hw.size; simp; omega)); have p6 := HP1.out.below hw hz1; obtain ⟨_, ⟨f0, f1, f2, f3, f4⟩⟩ := p6.five))
        all_goals
          have q6 := HP0.out.below hw (by omega)
          have h6 := HB.out.trans (hw.mono hsz)
          go_wp2_with fail
          go_roundw
          case rel => exact ⟨k + 1, by omega, by go_num, HX.out _ (q6.others5 _ _ _ _ _ (by omega)) (p6.sets5 _ _ _ _ _) (below_sets5 h6 (by omega) _ _ _ _ _)⟩
          case measure => simp [intOf]; omega
      · obtain rfl : k = z.length := by omega
        obtain ⟨⟨q0, q1, q2, q3, q4⟩, _⟩ := p1.five
        obtain ⟨⟨a0, a1, a2, a3, a4⟩, ⟨f0, f1, f2, f3, f4⟩⟩ := p0.five
        go_wp2_with fail
        refine bodyPost_ret (v := .agg (statC (cntP isN z z.length) (cntP isD z z.length) (cntP wonB z z.length) (cntP lostB z z.length) (topV z z.length - 2))) ?_ rfl ⟨by rw [HN.out], below_sets5 hbe (Nat.le_refl _) _ _ _ _ _⟩
        obtain ⟨⟨d0, d1, d2, d3, d4⟩, _⟩ := (p0.sets5 (.int .i64 (cntP isN z z.length)) (.int .i64 (cntP isD z z.length)) (.int .i64 (cntP wonB z z.length)) (.int .i64 (cntP lostB z z.length)) (.int .i64 (topV z z.length - 2))).five
        simp [results, Try.results10, go_sem, d0, d1, d2, d3, d4]
end Go.Proofs.Ytcgfklljbblhlaa.Ko
