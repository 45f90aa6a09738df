/- Lists of results in the exact laws: converted, sized, compared, marked. -/
import Derived.Test.YtiilijpljhnphaaJm
namespace Go.Proofs.Ytiilijpljhnphaa.Ko
open Go.ChangeShapes Go.WideShapes Go.ChangeAt Go.RowKit Base Sq In
set_option linter.unusedVariables false
set_option maxRecDepth 20000
attribute [local irreducible] wpQuiet

/-- the first k elements of a block are steps of the list -/
def StepsIn (cs : Array Value) (l : List St) (k : Nat) : Prop := ∀ i, i < k → cs[i * 3]? = some (.int .i64 (stAt l i).dx) ∧ cs[i * 3 + 1]? = some (.int .i64 (stAt l i).dy) ∧ cs[i * 3 + 2]? = some (.int .i64 (stAt l i).far)
theorem StepsIn.next {cs : Array Value} {l : List St} {k : Nat} (h : StepsIn cs l k) (hs : k * 3 + 2 < cs.size) :
    StepsIn (((cs.setIfInBounds (k * 3) (.int .i64 (stAt l k).dx)).setIfInBounds (k * 3 + 1) (.int .i64 (stAt l k).dy)).setIfInBounds (k * 3 + 2) (.int .i64 (stAt l k).far)) l (k + 1) := by
  refine all_succ (fun i hi => ?_) ?_
  · obtain ⟨h1, h2, h3⟩ := h i hi
    exact ⟨set_get (set_get (set_get h1 (by omega)) (by omega)) (by omega), set_get (set_get (set_get h2 (by omega)) (by omega)) (by omega), set_get (set_get (set_get h3 (by omega)) (by omega)) (by omega)⟩
  · exact ⟨set_get (set_get (set_same (by omega)) (by omega)) (by omega), set_get (set_same (by simp; omega)) (by omega), set_same (by simp; omega)⟩
theorem StepsIn.is {w : World} {g : Nat} {cs : Array Value} {T : TypeId} {l : List St} (h : StepsIn cs l l.length) (hb : Blk w g cs T) : IsSteps w w.heap.size (some ⟨g, 0, none⟩) l := fun hn =>
  ⟨g, 0, rfl, hb.lt, fun i hi => by
    obtain ⟨h1, h2, h3⟩ := h i hi
    simp only [Nat.zero_add, hb.cell]
    exact ⟨h1, h2, h3⟩⟩
theorem resInfo : (Try.prog.info? 72).map (fun i => (i.zero, i.size, i.bytes)) = some (some (.agg #[.int .i64 0, .int .i64 0, .int .i64 0]), 3, 24) := by kernel_rfl

theorem toResult_any (dx dy far : Int) (w : World) :
    Calls Try.prog 76 #[.agg #[.int .i64 dx, .int .i64 dy, .int .i64 far]] w fun e w' => e = .returned (.agg #[.int .i64 dx, .int .i64 dy, .int .i64 far]) ∧ Below w.heap.size w w' := by
  go_enter Try.func76, Try.ntmps76
  go_wp2
  refine bodyPost_ret (v := .agg #[.int .i64 dx, .int .i64 dy, .int .i64 far]) (by simp [results, Try.results76, go_sem]) rfl ⟨rfl, ?_⟩
  exact (by repeat (first | exact Below.refl _ _ | assumption | (refine Below.alloc ?_ (by first | omega | (simp; done) | (simp; omega)) _) | (refine Below.setCell ?_ (by first | omega | (simp; done) | (simp; omega)) _) | refine Below.drew ?_))

/-- the slice is a new block, from B on, that holds the men -/
def NewRes (B : Nat) (w' : World) (g : Nat) (l : List St) : Prop := ∃ cs, B ≤ g ∧ Blk w' g cs 72 ∧ StepsIn cs l l.length
theorem NewRes.is {B : Nat} {w' : World} {g : Nat} {l : List St} (h : NewRes B w' g l) : IsSteps w' w'.heap.size (some ⟨g, 0, none⟩) l := by
  obtain ⟨cs, _, hb, hi⟩ := h; exact hi.is hb
theorem NewRes.lt {B : Nat} {w : World} {g : Nat} {l : List St} (h : NewRes B w g l) : g < w.heap.size := by obtain ⟨cs, _, hb, _⟩ := h; exact hb.lt
theorem NewRes.other {B : Nat} {w' : World} {g : Nat} {l : List St} (h : NewRes B w' g l) (a : Addr) (u : Value) (ha : a.block < B) : NewRes B (w'.setCell a u) g l := by
  obtain ⟨cs, h1, hb, hi⟩ := h; exact ⟨cs, h1, hb.other a u (by omega), hi⟩
theorem NewRes.below {B : Nat} {w' w2 : World} {g : Nat} {l : List St} (h : NewRes B w' g l) (hb : Below w'.heap.size w' w2) : NewRes B w2 g l := by
  obtain ⟨cs, h1, hk, hi⟩ := h; exact ⟨cs, h1, hk.below hb hk.lt, hi⟩
theorem NewRes.from_ {B B0 : Nat} {w' : World} {g : Nat} {l : List St} (h : NewRes B w' g l) (hb : B0 ≤ B) : NewRes B0 w' g l := by
  obtain ⟨cs, h1, hk, hi⟩ := h; exact ⟨cs, by omega, hk, hi⟩
def ResPost (W w' : World) (l : List St) (e : Ending) : Prop := ∃ g c', e = .returned (.slice (some ⟨g, 0, none⟩) l.length c') ∧ NewRes W.heap.size w' g l ∧ Below W.heap.size W w'

set_option maxHeartbeats 1000000 in
theorem toResultS_any (A : Option Addr) (c : Nat) (l : List St) (w : World) (h : IsSteps w w.heap.size A l) (hl : l.length ≤ 1048576) :
    Calls Try.prog 45 #[.slice A l.length c] w fun e w' => ResPost w w' l e := by
  obtain ⟨i0, hi, hz0, hz1, hz2⟩ := info_parts resInfo
  go_enter Try.func45, Try.ntmps45
  go_wp2_with (at_make; refine wpList_make_full _ rfl _ _ _ rfl w.heap.size 72 i0 (.agg #[.int .i64 0, .int .i64 0, .int .i64 0]) 3 Try.underlying43 hi hz0 hz1 .i64 .i64 _ _ l.length (by rfl) (by rfl) rfl rfl (by rw [hz2]; omega) (by unfold maxLen; omega) (Nat.le_refl _) ?_; intro w1 hown hgrow)
  obtain ⟨cur, hblk, hsz⟩ := blk_of_own hown
  have hbe := below_of_grown hgrow (Nat.le_refl _)
  clear hown hgrow hi hz0 hz1 hz2
  have HS := Lib.hid hsz
  clear hsz
  go_loopw [4] (fun i wr => ∃ (k : Nat) (cs : Array Value), k ≤ l.length ∧ i = .int .i64 k ∧ cs.size = l.length * 3 ∧ StepsIn cs l k ∧ Blk wr w.heap.size cs 72 ∧ Below w.heap.size w wr) (fun i _ => l.length - (intOf i).toNat)
  case atStart => exact ⟨0, cur, by omega, rfl, HS.out, fun j hj => absurd hj (by omega), hblk, hbe⟩
  case round =>
    clear hblk hbe HS
    obtain ⟨k, cs, hk, rfl, hsz, hin, hb, hbe⟩ := hrel
    have HS := Lib.hid hsz
    by_cases hlt : k < l.length
    · obtain ⟨b, off, rfl, hB, hc⟩ := h.below hbe (by omega)
      obtain ⟨c0, c1, c2⟩ := hc k hlt
      clear hc
      obtain ⟨o0, x0⟩ := old_cell (cs := cs) (i := k * 3) (by omega)
      obtain ⟨o1, x1⟩ := old_cell (cs := cs) (i := k * 3 + 1) (by omega)
      obtain ⟨o2, x2⟩ := old_cell (cs := cs) (i := k * 3 + 2) (by omega)
      have y0 := (hb.cell (k * 3)).trans x0
      have y1 := (hb.cell (k * 3 + 1)).trans x1
      have y2 := (hb.cell (k * 3 + 2)).trans x2
      have f0 := hb.free (k * 3)
      have f1 := hb.free (k * 3 + 1)
      have f2 := hb.free (k * 3 + 2)
      have z1 := hb.lt
      clear hsz x0 x1 x2
      go_wp2_with fail
      refine (toResult_any _ _ _ _).mono ?_
      rintro e w2 ⟨rfl, hb2⟩
      obtain ⟨hc, hf⟩ := bcell hb2
      go_wp2_with fail
      go_roundw
      case rel => exact ⟨k + 1, _, by omega, by go_num, by simp only [Array.size_setIfInBounds]; exact HS.out, hin.next (by have := HS.out; omega), (((hb.below hb2 z1).set _ _).set _ _).set _ _, (((hbe.trans (hb2.mono (by omega))).setCell (by simp) _).setCell (by simp) _).setCell (by simp) _⟩
      case measure => simp [intOf]; omega
    · obtain rfl : k = l.length := by omega
      go_wp2_with fail
      go_ret
      exact ⟨_, _, rfl, ⟨cs, Nat.le_refl _, hb, hin⟩, hbe⟩

theorem szResultS_any (A : Option Addr) (c n : Nat) (left : Int) (w : World) (hn : n ≤ 9223372036854775807) (h1 : 0 ≤ left) (h2 : left ≤ 1048576) :
    Calls Try.prog 43 #[.slice A n c, .int .i64 left] w fun e w' => e = .returned (.int .i64 (if left - n < 0 then -1 else left - n)) ∧ w = w' := by
  by_cases h : left - (n : Int) < 0
  · rw [if_pos h]
    go_enter Try.func43, Try.ntmps43
    go_wp2_with fail
    go_ret
    exact ⟨rfl, rfl⟩
  · rw [if_neg h]
    go_enter Try.func43, Try.ntmps43
    go_wp2_with fail
    go_ret
    exact ⟨rfl, rfl⟩
theorem eqResult_same (dx dy far : Int) (w : World) :
    Calls Try.prog 79 #[.agg #[.int .i64 dx, .int .i64 dy, .int .i64 far], .agg #[.int .i64 dx, .int .i64 dy, .int .i64 far]] w fun e w' => e = .returned (.bool true) ∧ Below w.heap.size w w' := by
  go_enter Try.func79, Try.ntmps79
  go_wp2
  go_ret
  exact ⟨rfl, (by repeat (first | exact Below.refl _ _ | assumption | (refine Below.alloc ?_ (by first | omega | (simp; done) | (simp; omega)) _) | (refine Below.setCell ?_ (by first | omega | (simp; done) | (simp; omega)) _) | refine Below.drew ?_))⟩
theorem eqResultS_same (A A' : Option Addr) (c c' : Nat) (l : List St) (w : World) (h : IsSteps w w.heap.size A l) (h' : IsSteps w w.heap.size A' l) (hl : l.length ≤ 1048576) :
    Calls Try.prog 47 #[.slice A l.length c, .slice A' l.length c'] w fun e w' => e = .returned (.bool true) ∧ Below w.heap.size w w' := by
  go_enter Try.func47, Try.ntmps47
  go_wp2_with fail
  go_loopw [5] (fun i wr => ∃ k : Nat, k ≤ l.length ∧ i = .int .i64 k ∧ Below w.heap.size w wr) (fun i _ => l.length - (intOf i).toNat)
  case atStart => exact ⟨0, by omega, rfl, Below.refl _ _⟩
  case round =>
    obtain ⟨k, hk, rfl, hbe⟩ := hrel
    by_cases hlt : k < l.length
    · obtain ⟨b, off, rfl, hB, hc⟩ := h.below hbe (by omega)
      obtain ⟨c0, c1, c2⟩ := hc k hlt
      obtain ⟨b', off', rfl, hB', hc'⟩ := h'.below hbe (by omega)
      obtain ⟨d0, d1, d2⟩ := hc' k hlt
      clear hc hc'
      have hz := hbe.size
      have z1 : b < wr.heap.size := by omega
      have z2 : b' < wr.heap.size := by omega
      have hk1 : (k : Int) < (l.length : Int) := by omega
      have hk2 : (0 : Int) ≤ (k : Int) := by omega
      go_wp2_with fail
      refine wp_region_below (W := wr) (by kernel_rfl) (by kernel_rfl) (Below.refl _ _) ?_
      repeat (first
        | (refine qs_skip (by rfl) ?_; simp only [Act.put, List.setIfInBounds_toArray, List.set_cons_zero, List.set_cons_succ])
        | (apply qs_take
           focus rfl
           focus (
             intro wq hwq
             obtain ⟨hcq, hfq⟩ := bcell hwq
             go_simp
             all_goals first
               | exact rfl
               | (go_at_call 79; refine (eqResult_same _ _ _ _).mono ?_; exact fun e w2 h => ⟨h.1, hwq.trans (h.2.mono hwq.size)⟩)
               | (exact ⟨trivial, rfl⟩))
           simp only [Act.put, List.setIfInBounds_toArray, List.set_cons_zero, List.set_cons_succ]))
      refine wpQuiet_nil ?_
      intro wq hwq
      go_wp2_with fail
      go_roundw
      case rel => exact ⟨k + 1, by omega, by go_num, hbe.trans (hwq.mono (by omega))⟩
      case measure => simp [intOf]; omega
    · obtain rfl : k = l.length := by omega
      go_wp2_with fail
      go_ret
      exact ⟨rfl, hbe⟩
/-- men in a block of the call's own, from lo below hi -/
def ResA (lo hi : Nat) (w : World) (A : Option Addr) (l : List St) : Prop :=
  0 < l.length → ∃ b cs, A = some ⟨b, 0, none⟩ ∧ lo ≤ b ∧ b < hi ∧ Blk w b cs 72 ∧ l.length * 3 ≤ cs.size ∧ StepsIn cs l l.length
theorem ResA.nil (lo hi : Nat) (w : World) (A : Option Addr) : ResA lo hi w A [] := fun h => absurd h (by simp)
theorem ResA.is {lo hi : Nat} {w : World} {A : Option Addr} {l : List St} (h : ResA lo hi w A l) : IsSteps w hi A l := fun hn => by
  obtain ⟨b, cs, rfl, h1, h2, h3, h4, h5⟩ := h hn
  refine ⟨b, 0, rfl, h2, fun i hi' => ?_⟩
  obtain ⟨e1, e2, e3⟩ := h5 i hi'
  simp only [Nat.zero_add, h3.cell]
  exact ⟨e1, e2, e3⟩
theorem ResA.more {lo hi lo' hi' : Nat} {w : World} {A : Option Addr} {l : List St} (h : ResA lo hi w A l) (h1 : lo' ≤ lo) (h2 : hi ≤ hi') : ResA lo' hi' w A l := fun hn => by
  obtain ⟨b, cs, rfl, g1, g2, h3⟩ := h hn
  exact ⟨b, cs, rfl, by omega, by omega, h3⟩
theorem ResA.below {lo hi : Nat} {w w' : World} {A : Option Addr} {l : List St} (h : ResA lo hi w A l) (hb : Below hi w w') : ResA lo hi w' A l := fun hn => by
  obtain ⟨b, cs, rfl, h1, h2, h3, h4, h5⟩ := h hn
  exact ⟨b, cs, rfl, h1, h2, h3.below hb h2, h4, h5⟩
theorem ResA.span {lo hi lo' hi' : Nat} {w w' : World} {A : Option Addr} {l : List St} (h : ResA lo hi w A l) (hs : Span lo' hi' w w') (ho : hi ≤ lo' ∨ hi' ≤ lo) : ResA lo hi w' A l := fun hn => by
  obtain ⟨b, cs, rfl, h1, h2, h3, h4, h5⟩ := h hn
  exact ⟨b, cs, rfl, h1, h2, hs.blk h3 (by omega), h4, h5⟩
def marksM (k : Int) (n : Nat) : List St := (List.range n).map fun i : Nat => ⟨k + 3 * i, k + 3 * i + 1, k + 3 * i + 2⟩
theorem marksM_len (k : Int) (n : Nat) : (marksM k n).length = n := by simp [marksM]
theorem marksM_at {k : Int} {n i : Nat} (h : i < n) : stAt (marksM k n) i = ⟨k + 3 * i, k + 3 * i + 1, k + 3 * i + 2⟩ := by unfold stAt marksM; simp [List.getD_eq_getElem?_getD, h]

set_option maxHeartbeats 2000000 in
theorem markResultS_any (lo hi : Nat) (A : Option Addr) (c : Nat) (l : List St) (k : Int) (w : World) (h : ResA lo hi w A l) (hl : l.length ≤ 1048576) (hk0 : 0 ≤ k) (hk1 : k ≤ 1000000000000000) :
    Calls Try.prog 50 #[.slice A l.length c, .int .i64 k] w fun e w' => e = .returned (.int .i64 (k + 3 * l.length)) ∧ ResA lo hi w' A (marksM k l.length) ∧ Span lo hi w w' := by
  rcases Nat.eq_zero_or_pos l.length with h0 | h0
  · rw [h0]
    clear h
    go_enter Try.func50, Try.ntmps50
    go_wp2_with fail
    go_loopw [1, 5] (fun x i wr => i = .int .i64 0 ∧ x = .int .i64 k ∧ wr = w) (fun _ i _ => 0)
    case atStart => exact ⟨rfl, rfl, rfl⟩
    case round =>
      obtain ⟨rfl, rfl, rfl⟩ := hrel
      go_wp2_with fail
      go_ret
      exact ⟨by simp, fun hn => by simp [marksM] at hn, Span.refl _ _ _⟩
  · obtain ⟨b, cs0, rfl, h1, h2, h3, h4, h5⟩ := h h0
    clear h h5
    go_enter Try.func50, Try.ntmps50
    go_wp2_with fail
    go_loopw [1, 5] (fun x i wr => ∃ (j : Nat) (cs : Array Value), j ≤ l.length ∧ i = .int .i64 j ∧ x = .int .i64 (k + 3 * j) ∧ Blk wr b cs 72 ∧ l.length * 3 ≤ cs.size ∧ Hid (StepsIn cs (marksM k l.length) j) ∧ Span lo hi w wr) (fun _ i _ => l.length - (intOf i).toNat)
    case atStart => exact ⟨0, cs0, by omega, rfl, by simp, h3, h4, Lib.hid (fun j hj => absurd hj (by omega)), Span.refl _ _ _⟩
    case round =>
      clear h3 h4
      obtain ⟨j, cs, hj, rfl, rfl, hB, hsz, hh, hS⟩ := hrel
      by_cases hlt : j < l.length
      · obtain ⟨o0, x0⟩ := old_cell (cs := cs) (i := j * 3) (by omega)
        obtain ⟨o1, x1⟩ := old_cell (cs := cs) (i := j * 3 + 1) (by omega)
        obtain ⟨o2, x2⟩ := old_cell (cs := cs) (i := j * 3 + 2) (by omega)
        have y0 := (hB.cell (j * 3)).trans x0
        have y1 := (hB.cell (j * 3 + 1)).trans x1
        have y2 := (hB.cell (j * 3 + 2)).trans x2
        have f0 := hB.free (j * 3)
        have f1 := hB.free (j * 3 + 1)
        have f2 := hB.free (j * 3 + 2)
        have HB2 := Lib.hid (((hB.set (j * 3) (.int .i64 (k + 3 * j))).set (j * 3 + 1) (.int .i64 (k + 3 * j + 1))).set (j * 3 + 2) (.int .i64 (k + 3 * j + 2)))
        have hn := hh.out.next (by omega)
        rw [marksM_at hlt] at hn
        have HN := Lib.hid hn
        have HSZ : Hid (l.length * 3 ≤ (((cs.setIfInBounds (j * 3) (.int .i64 (k + 3 * j))).setIfInBounds (j * 3 + 1) (.int .i64 (k + 3 * j + 1))).setIfInBounds (j * 3 + 2) (.int .i64 (k + 3 * j + 2))).size) := Lib.hid (by simpa using hsz)
        have HS2 := Lib.hid (((hS.setCell h1 h2 (j * 3) (.int .i64 (k + 3 * j))).setCell h1 h2 (j * 3 + 1) (.int .i64 (k + 3 * j + 1))).setCell h1 h2 (j * 3 + 2) (.int .i64 (k + 3 * j + 2)))
        clear x0 x1 x2 hn hB hS hh
        go_wp2_with fail
        go_roundw
        case rel =>
          refine ⟨j + 1, _, by omega, by go_num, by first | go_num | (congr 1; omega), ?_, HSZ.out, Lib.hid HN.out, ?_⟩
          · have := HB2.out; simpa [Int.add_assoc] using this
          · have := HS2.out; simpa [Int.add_assoc] using this
        case measure => simp [intOf]; omega
      · obtain rfl : j = l.length := by omega
        go_wp2_with fail
        go_ret
        exact ⟨rfl, fun _ => ⟨b, cs, rfl, h1, h2, hB, by rw [marksM_len]; exact hsz, by rw [marksM_len]; exact hh.out⟩, hS⟩
theorem NewRes.a {B : Nat} {w : World} {g : Nat} {l : List St} (h : NewRes B w g l) : ResA B w.heap.size w (some ⟨g, 0, none⟩) l := fun hn => by
  obtain ⟨cs, h1, hb, hi⟩ := h
  refine ⟨g, cs, rfl, h1, hb.lt, hb, ?_, hi⟩
  obtain ⟨_, _, h3⟩ := hi (l.length - 1) (by omega)
  have := size_of_some h3
  omega
theorem IsSteps.more {w : World} {B B' : Nat} {A : Option Addr} {l : List St} (h : IsSteps w B A l) (hB : B ≤ B') : IsSteps w B' A l := fun hn => by
  obtain ⟨b, off, rfl, hb, hc⟩ := h hn
  exact ⟨b, off, rfl, by omega, hc⟩
end Go.Proofs.Ytiilijpljhnphaa.Ko
