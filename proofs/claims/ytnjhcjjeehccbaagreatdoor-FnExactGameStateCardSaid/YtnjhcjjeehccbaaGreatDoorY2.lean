/- Two slices of whole numbers that hold the same are equal to the exact laws. Slices of whole numbers in the exact laws: compared, marked, held. Whole numbers as arguments of the exact laws: what is known of them as they are read; their conversion. What is known of a list of whole numbers that was read as data. What is known of a list of pieces that was read as data. Marks of the exact laws at pieces and generations. -/
import Derived.Test.YtnjhcjjeehccbaaGreatDoorIn
import Derived.Test.YtnjhcjjeehccbaaGreatDoorKo
import Derived.Test.YtnjhcjjeehccbaaGreatDoorMk
import Derived.Test.YtnjhcjjeehccbaaGreatDoorCv
import Derived.Test.YtnjhcjjeehccbaaGreatDoorOpr
import Derived.Test.YtnjhcjjeehccbaaGreatDoorPr
namespace Go.Proofs.YtnjhcjjeehccbaaGreatDoor.Ko
open Go.ChangeShapes Go.WideShapes Go.ChangeAt Go.RowKit Base Sq In
set_option linter.unusedVariables false
set_option maxRecDepth 20000
attribute [local irreducible] wpQuiet

theorem eqIntS_same (A A' : Option Addr) (c c' : Nat) (l : List Int) (w : World) (h : IsInts w w.heap.size A l) (h' : IsInts w w.heap.size A' l) (hl : l.length ≤ 1048576) :
    Calls Tryz.prog 51 #[.slice A l.length c, .slice A' l.length c'] w fun e w' => e = .returned (.bool true) ∧ Below w.heap.size w w' := by
  go_enter Tryz.func51, Tryz.ntmps51
  go_wp2_with fail
  go_loopw [5] (fun i wr => ∃ k : Nat, k ≤ l.length ∧ i = .int .i64 k ∧ Below w.heap.size w wr) (fun i _ => l.length - (intOf i).toNat)
  case atStart => exact ⟨0, by omega, rfl, Below.refl _ _⟩
  case round =>
    obtain ⟨k, hk, rfl, hbe⟩ := hrel
    by_cases hlt : k < l.length
    · obtain ⟨b, rfl, hB, hc⟩ := h.below hbe (by omega)
      have c0 := hc k hlt
      obtain ⟨b', rfl, hB', hc'⟩ := h'.below hbe (by omega)
      have d0 := hc' k hlt
      clear hc hc'
      have hz := hbe.size
      have z1 : b < wr.heap.size := by omega
      have z2 : b' < wr.heap.size := by omega
      have hk1 : (k : Int) < (l.length : Int) := by omega
      have hk2 : (0 : Int) ≤ (k : Int) := by omega
      go_wp2_with fail
      refine wp_region_below (W := wr) (by kernel_rfl) (by kernel_rfl) (Below.refl _ _) ?_
      repeat (first
        | (refine qs_skip (by rfl) ?_; simp only [Act.put, List.setIfInBounds_toArray, List.set_cons_zero, List.set_cons_succ])
        | (apply qs_take
           focus rfl
           focus (
             intro wq hwq
             obtain ⟨hcq, hfq⟩ := bcell hwq
             go_simp
             all_goals first
               | exact rfl
               | (exact ⟨trivial, rfl⟩))
           simp only [Act.put, List.setIfInBounds_toArray, List.set_cons_zero, List.set_cons_succ]))
      refine wpQuiet_nil ?_
      intro wq hwq
      go_wp2_with fail
      go_roundw
      case rel => exact ⟨k + 1, by omega, by go_num, hbe.trans (hwq.mono (by omega))⟩
      case measure => simp [intOf]; omega
    · obtain rfl : k = l.length := by omega
      go_wp2_with fail
      go_ret
      exact ⟨rfl, hbe⟩
end Go.Proofs.YtnjhcjjeehccbaaGreatDoor.Ko

namespace Go.Proofs.YtnjhcjjeehccbaaGreatDoor.Ko
open Go.ChangeShapes Go.WideShapes Go.ChangeAt Go.RowKit Base Sq In
set_option linter.unusedVariables false
set_option maxRecDepth 20000
attribute [local irreducible] wpQuiet

/-- numbers in a block of the call's own, from lo below hi -/
def NewInts (lo hi : Nat) (w : World) (A : Option Addr) (l : List Int) : Prop :=
  0 < l.length → ∃ b cs, A = some ⟨b, 0, none⟩ ∧ lo ≤ b ∧ b < hi ∧ Blk w b cs 3 ∧ l.length ≤ cs.size ∧ ∀ i, i < l.length → cs[i]? = some (.int .i64 (iAt l i))
theorem NewInts.of {w : World} {base : Nat} {v : Value} {l : List Int} (h : Own w base v l) : ∃ A c, v = .slice A l.length c ∧ NewInts base w.heap.size w A l := by
  rcases h.2 with ⟨rfl, h0⟩ | ⟨g, cap, cur, rfl, hb, hg, hn, hm, hs, ht⟩
  · exact ⟨none, 0, by rw [h0], fun hp => by omega⟩
  · refine ⟨some ⟨g, 0, none⟩, cap, rfl, fun _ => ⟨g, cur, rfl, hb, lt_of_block hg, hg, by omega, fun i hi => ?_⟩⟩
    have h2 : (cur.toList.take (l.length * 1))[i]? = some (.int .i64 (iAt l i)) := by
      rw [ht]; unfold nums iAt; rw [List.getElem?_map, List.getElem?_eq_getElem hi]; simp [List.getD_eq_getElem?_getD, hi]
    rw [List.getElem?_take_of_lt (by omega)] at h2
    simpa using h2
theorem NewInts.is {lo hi : Nat} {w : World} {A : Option Addr} {l : List Int} (h : NewInts lo hi w A l) : IsInts w hi A l := fun hn => by
  obtain ⟨b, cs, rfl, h1, h2, h3, h4, h5⟩ := h hn
  exact ⟨b, rfl, h2, fun i hi' => (h3.cell i).trans (h5 i hi')⟩
theorem NewInts.below {lo hi : Nat} {w w' : World} {A : Option Addr} {l : List Int} (h : NewInts lo hi w A l) (hb : Below hi w w') : NewInts lo hi w' A l := fun hn => by
  obtain ⟨b, cs, rfl, h1, h2, h3, h4, h5⟩ := h hn
  exact ⟨b, cs, rfl, h1, h2, h3.below hb h2, h4, h5⟩
theorem NewInts.span {lo hi lo' hi' : Nat} {w w' : World} {A : Option Addr} {l : List Int} (h : NewInts lo hi w A l) (hs : Span lo' hi' w w') (ho : hi ≤ lo' ∨ hi' ≤ lo) : NewInts lo hi w' A l := fun hn => by
  obtain ⟨b, cs, rfl, h1, h2, h3, h4, h5⟩ := h hn
  exact ⟨b, cs, rfl, h1, h2, hs.blk h3 (by omega), h4, h5⟩
def marksL (k : Int) (n : Nat) : List Int := (List.range n).map fun i : Nat => k + i
theorem marksL_len (k : Int) (n : Nat) : (marksL k n).length = n := by simp [marksL]
theorem marksL_at {k : Int} {n i : Nat} (h : i < n) : iAt (marksL k n) i = k + i := by unfold iAt marksL; simp [List.getD_eq_getElem?_getD, h]
set_option maxHeartbeats 1000000 in
theorem markIntS_any (lo hi : Nat) (A : Option Addr) (c : Nat) (l : List Int) (k : Int) (w : World) (h : NewInts lo hi w A l) (hl : l.length ≤ 1048576) (hk0 : 0 ≤ k) (hk1 : k ≤ 1000000000000000) :
    Calls Tryz.prog 53 #[.slice A l.length c, .int .i64 k] w fun e w' => e = .returned (.int .i64 (k + l.length)) ∧ NewInts lo hi w' A (marksL k l.length) ∧ Span lo hi w w' := by
  rcases Nat.eq_zero_or_pos l.length with h0 | h0
  · have hd : decide (0 < l.length) = false := decide_eq_false (by omega)
    rw [h0]
    clear h
    go_enter Tryz.func53, Tryz.ntmps53
    go_wp2_with fail
    go_loopw [1, 5] (fun x i wr => i = .int .i64 0 ∧ x = .int .i64 k ∧ wr = w) (fun _ i _ => 0)
    case atStart => exact ⟨rfl, rfl, rfl⟩
    case round =>
      obtain ⟨rfl, rfl, rfl⟩ := hrel
      go_wp2_with fail
      go_ret
      exact ⟨by simp, fun hn => by simp [marksL] at hn, Span.refl _ _ _⟩
  · obtain ⟨b, cs0, rfl, h1, h2, h3, h4, h5⟩ := h h0
    clear h h5
    go_enter Tryz.func53, Tryz.ntmps53
    go_wp2_with fail
    go_loopw [1, 5] (fun x i wr => ∃ (j : Nat) (cs : Array Value), j ≤ l.length ∧ i = .int .i64 j ∧ x = .int .i64 (k + j) ∧ Blk wr b cs 3 ∧ l.length ≤ cs.size ∧ Hid (∀ i, i < j → cs[i]? = some (.int .i64 (k + i))) ∧ Span lo hi w wr) (fun _ i _ => l.length - (intOf i).toNat)
    case atStart => exact ⟨0, cs0, by omega, rfl, by simp, h3, h4, Lib.hid (fun j hj => absurd hj (by omega)), Span.refl _ _ _⟩
    case round =>
      clear h3 h4
      obtain ⟨j, cs, hj, rfl, rfl, hB, hsz, hh, hS⟩ := hrel
      by_cases hlt : j < l.length
      · obtain ⟨o0, x0⟩ := old_cell (cs := cs) (i := j) (by omega)
        have y0 := (hB.cell j).trans x0
        have f0 := hB.free j
        have hB2 := hB.set j (.int .i64 (k + j))
        have HN : Hid (∀ i, i < j + 1 → (cs.setIfInBounds j (.int .i64 (k + j)))[i]? = some (.int .i64 (k + i))) := Lib.hid (all_succ (fun i hi => set_get (hh.out i hi) (by omega)) (set_same (by omega)))
        have HSZ : Hid (l.length ≤ (cs.setIfInBounds j (.int .i64 (k + j))).size) := Lib.hid (by simpa using hsz)
        have HB2 := Lib.hid hB2
        have HS2 := Lib.hid (hS.setCell h1 h2 j (.int .i64 (k + j)))
        clear x0 hB2
        go_wp2_with fail
        go_roundw
        case rel => exact ⟨j + 1, _, by omega, by go_num, by first | go_num | (congr 1; omega), HB2.out, HSZ.out, HN, HS2.out⟩
        case measure => simp [intOf]; omega
      · obtain rfl : j = l.length := by omega
        go_wp2_with fail
        go_ret
        exact ⟨rfl, fun _ => ⟨b, cs, rfl, h1, h2, hB, by rw [marksL_len]; exact hsz, fun i hi => by rw [marksL_len] at hi; rw [marksL_at hi]; exact hh.out i hi⟩, hS⟩
end Go.Proofs.YtnjhcjjeehccbaaGreatDoor.Ko

namespace Go.Proofs.YtnjhcjjeehccbaaGreatDoor.Ko
open Go.ChangeShapes Go.WideShapes Go.ChangeAt Go.RowKit Base Sq In
set_option linter.unusedVariables false
set_option maxRecDepth 20000
attribute [local irreducible] wpQuiet

/-- a slice of whole numbers that came in -/
def IsNums (w : World) (B : Nat) (A : Option Addr) (l : List Int) : Prop :=
  0 < l.length → ∃ b off, A = some ⟨b, off, none⟩ ∧ b < B ∧ ∀ i, i < l.length → w.cell? ⟨b, off + i, none⟩ = some (.int .i64 (iAt l i))
theorem IsNums.below {w w' : World} {B : Nat} {A : Option Addr} {l : List Int} (h : IsNums w B A l) (hb : Below B w w') : IsNums w' B A l := fun hn => by
  obtain ⟨b, off, rfl, hB, hc⟩ := h hn
  exact ⟨b, off, rfl, hB, fun i hi => (hb.cell (p := ⟨b, off + i, none⟩) hB).trans (hc i hi)⟩
theorem IsNums.more {w : World} {B B' : Nat} {A : Option Addr} {l : List Int} (h : IsNums w B A l) (hB : B ≤ B') : IsNums w B' A l := fun hn => by
  obtain ⟨b, off, rfl, hb, hc⟩ := h hn
  exact ⟨b, off, rfl, by omega, hc⟩
/-- the first k elements of a block are numbers of the list -/
def NumsIn (cs : Array Value) (l : List Int) (k : Nat) : Prop := ∀ i, i < k → cs[i]? = some (.int .i64 (iAt l i))
theorem NumsIn.next {cs : Array Value} {l : List Int} {k : Nat} (h : NumsIn cs l k) (hs : k < cs.size) : NumsIn (cs.setIfInBounds k (.int .i64 (iAt l k))) l (k + 1) := by
  refine all_succ (fun i hi => ?_) ?_
  · exact set_get (h i hi) (by omega)
  · exact set_same hs
/-- the slice is a new block, from B on, that holds the numbers -/
def NewNums (B : Nat) (w' : World) (g : Nat) (l : List Int) : Prop := ∃ cs, B ≤ g ∧ Blk w' g cs 3 ∧ cs.size = l.length ∧ NumsIn cs l l.length
theorem NewNums.is {B : Nat} {w' : World} {g : Nat} {l : List Int} (h : NewNums B w' g l) : IsInts w' w'.heap.size (some ⟨g, 0, none⟩) l := fun _ => by
  obtain ⟨cs, _, hb, _, hi⟩ := h
  exact ⟨g, rfl, hb.lt, fun i hi' => (hb.cell i).trans (hi i hi')⟩
theorem NewNums.lt {B : Nat} {w : World} {g : Nat} {l : List Int} (h : NewNums B w g l) : g < w.heap.size := by obtain ⟨cs, _, hb, _⟩ := h; exact hb.lt
theorem NewNums.other {B : Nat} {w' : World} {g : Nat} {l : List Int} (h : NewNums B w' g l) (a : Addr) (u : Value) (ha : a.block < B) : NewNums B (w'.setCell a u) g l := by
  obtain ⟨cs, h1, hb, hi⟩ := h; exact ⟨cs, h1, hb.other a u (by omega), hi⟩
theorem NewNums.below {B : Nat} {w' w2 : World} {g : Nat} {l : List Int} (h : NewNums B w' g l) (hb : Below w'.heap.size w' w2) : NewNums B w2 g l := by
  obtain ⟨cs, h1, hk, hi⟩ := h; exact ⟨cs, h1, hk.below hb hk.lt, hi⟩
theorem NewNums.from_ {B B0 : Nat} {w' : World} {g : Nat} {l : List Int} (h : NewNums B w' g l) (hb : B0 ≤ B) : NewNums B0 w' g l := by
  obtain ⟨cs, h1, hk, hi⟩ := h; exact ⟨cs, by omega, hk, hi⟩
def NumsPost (W w' : World) (l : List Int) (e : Ending) : Prop := ∃ g c', e = .returned (.slice (some ⟨g, 0, none⟩) l.length c') ∧ NewNums W.heap.size w' g l ∧ Below W.heap.size W w'

set_option maxHeartbeats 1000000 in
theorem toIntS_any (A : Option Addr) (c : Nat) (l : List Int) (w : World) (h : IsNums w w.heap.size A l) (hl : l.length ≤ 1048576) :
    Calls Tryz.prog 47 #[.slice A l.length c] w fun e w' => NumsPost w w' l e := by
  obtain ⟨i0, hi, hz0, hz1, hz2⟩ := info_parts infoInt
  go_enter Tryz.func47, Tryz.ntmps47
  go_wp2_with (at_make; refine wpList_make_full _ rfl _ _ _ rfl w.heap.size 3 i0 (.int .i64 0) 1 Tryz.underlying73 hi hz0 hz1 .i64 .i64 _ _ l.length (by rfl) (by rfl) rfl rfl (by rw [hz2]; omega) (by unfold maxLen; omega) (Nat.le_refl _) ?_; intro w1 hown hgrow)
  obtain ⟨cur, hblk, hsz⟩ := blk_of_own hown
  have hbe := below_of_grown hgrow (Nat.le_refl _)
  clear hown hgrow hi hz0 hz1 hz2
  have HS := Lib.hid hsz
  clear hsz
  go_loopw [4] (fun i wr => ∃ (k : Nat) (cs : Array Value), k ≤ l.length ∧ i = .int .i64 k ∧ cs.size = l.length * 1 ∧ NumsIn cs l k ∧ Blk wr w.heap.size cs 3 ∧ Below w.heap.size w wr) (fun i _ => l.length - (intOf i).toNat)
  case atStart => exact ⟨0, cur, by omega, rfl, HS.out, fun j hj => absurd hj (by omega), hblk, hbe⟩
  case round =>
    clear hblk hbe HS
    obtain ⟨k, cs, hk, rfl, hsz, hin, hb, hbe⟩ := hrel
    have HS := Lib.hid hsz
    by_cases hlt : k < l.length
    · obtain ⟨b, off, rfl, hB, hc⟩ := h.below hbe (by omega)
      have c0 := hc k hlt
      clear hc
      obtain ⟨o0, x0⟩ := old_cell (cs := cs) (i := k) (by omega)
      have y0 := (hb.cell k).trans x0
      have f0 := hb.free k
      have z1 := hb.lt
      clear hsz x0
      go_wp2_with fail
      go_roundw
      case rel => exact ⟨k + 1, _, by omega, by go_num, by simp only [Array.size_setIfInBounds]; exact HS.out, hin.next (by have := HS.out; omega), hb.set _ _, hbe.setCell (by simp) _⟩
      case measure => simp [intOf]; omega
    · obtain rfl : k = l.length := by omega
      have HN : Hid (cs.size = l.length) := Lib.hid (by omega)
      clear hsz
      go_wp2_with fail
      go_ret
      exact ⟨_, _, rfl, ⟨cs, Nat.le_refl _, hb, HN.out, hin⟩, hbe⟩
end Go.Proofs.YtnjhcjjeehccbaaGreatDoor.Ko

namespace Go.Proofs.YtnjhcjjeehccbaaGreatDoor.Opn
open Go.ChangeShapes Go.WideShapes Go.ChangeAt Go.RowKit Base Ko In Go.Deep
set_option linter.unusedVariables false
set_option maxRecDepth 20000
section
variable {H : Type} {enc : TypeId × Value → H} {w : World}
theorem cInt : Tryz.prog.cellsOf 3 = 1 := by kernel_rfl
theorem rd_nums {fuel : Nat} {c : Value} {x : DataW H × List MemPlace} (h : DataW.trod enc Tryz.prog w 0 (fun _ => true) true fuel 73 [c] = some x) :
    ∃ A cap, ∃ l : List Int, c = .slice A l.length cap ∧ l.length ≤ maxLen ∧ (∀ i, i < l.length → (Lit.int .i64 (iAt l i)).wf = true) ∧ IsNums w w.heap.size A l := by
  obtain ⟨A, len, cap, hcs, hl, hm, hi⟩ := rd_slice Tryz.underlying73 cInt (by omega) h
  simp at hcs
  subst hcs
  rcases Nat.eq_zero_or_pos len with rfl | h0
  · exact ⟨A, cap, [], rfl, Nat.zero_le _, fun i hi => absurd hi (by simp), fun h => absurd h (by simp)⟩
  · obtain ⟨b, off, rfl, hb, he⟩ := hi h0
    obtain ⟨f, hf⟩ := choose_lt (p := fun i (s : Int) => w.cell? ⟨b, off + i, none⟩ = some (.int .i64 s) ∧ (Lit.int .i64 s).wf = true) (n := len) (fun i hi' => by
      obtain ⟨cs', m, y, hlen, hat, ht⟩ := he i hi'
      match cs', hlen with
      | [c0], _ =>
        obtain ⟨s, rfl, hw⟩ := rd_int Tryz.underlying3 ht
        have h0 := hat 0 (by omega)
        simp only [Nat.mul_one, Nat.add_zero] at h0
        exact ⟨s, h0, hw⟩)
    have hat : ∀ i, i < len → iAt ((List.range len).map f) i = f i := fun i hi2 => by unfold iAt; exact map_range_getD f len i _ hi2
    refine ⟨_, cap, (List.range len).map f, by simp, by simp; omega, fun i hi' => ?_, fun _ => ⟨b, off, rfl, hb, fun i hi' => ?_⟩⟩
    · have hi2 : i < len := by simpa using hi'
      rw [hat i hi2]; exact (hf i hi2).2
    · have hi2 : i < len := by simpa using hi'
      rw [hat i hi2]; exact (hf i hi2).1
/-- an argument of the type []int -/
theorem open_nums {v : Value} {d : DataW H} {p : List MemPlace} {b0 : Nat} (hv : Value.okWide Tryz.prog w .any b0 73 v) (h : DataW.Trod enc Tryz.prog w 0 (fun _ => true) true 73 v d p) :
    ∃ A cap, ∃ l : List Int, v = .slice A l.length cap ∧ l.length ≤ maxLen ∧ (∀ i, i < l.length → (Lit.int .i64 (iAt l i)).wf = true) ∧ IsNums w w.heap.size A l := by
  obtain ⟨a, n, c, rfl⟩ := okWide_slice Tryz.underlying73 hv
  obtain ⟨fuel, hf⟩ := h
  exact rd_nums (c := .slice a n c) (by simpa [Value.cells] using hf)
end
end Go.Proofs.YtnjhcjjeehccbaaGreatDoor.Opn

namespace Go.Proofs.YtnjhcjjeehccbaaGreatDoor.Opn
open Go.ChangeShapes Go.WideShapes Go.ChangeAt Go.RowKit Base Ko Go.Deep
set_option linter.unusedVariables false
set_option maxRecDepth 20000
section
variable {H : Type} {enc : TypeId × Value → H} {w : World}
instance : Inhabited Pc := ⟨⟨0, 0⟩⟩
theorem cPiece : Tryz.prog.cellsOf 130 = 2 := by kernel_rfl
theorem rd_piece {fuel : Nat} {cs : List Value} {x : DataW H × List MemPlace} (h : DataW.trod enc Tryz.prog w 0 (fun _ => true) true fuel 130 cs = some x) :
    ∃ s : Pc, cs = [.int .i64 s.kd, .int .i64 s.ow] := by
  obtain ⟨c0, c1, y0, y1, m, rfl, h0, h1⟩ := rd2 Tryz.underlying130 (by kernel_rfl) cPiece h
  obtain ⟨a, rfl, _⟩ := rd_int Tryz.underlying3 h0
  obtain ⟨b, rfl, _⟩ := rd_int Tryz.underlying3 h1
  exact ⟨⟨a, b⟩, rfl⟩
theorem rd_pieces {fuel : Nat} {c : Value} {x : DataW H × List MemPlace} (h : DataW.trod enc Tryz.prog w 0 (fun _ => true) true fuel 72 [c] = some x) :
    ∃ A cap, ∃ l : List Pc, c = .slice A l.length cap ∧ l.length ≤ maxLen ∧ IsPcs w w.heap.size A l := by
  obtain ⟨A, len, cap, hcs, hl, hm, hi⟩ := rd_slice Tryz.underlying72 cPiece (by omega) h
  simp at hcs
  subst hcs
  rcases Nat.eq_zero_or_pos len with rfl | h0
  · exact ⟨A, cap, [], rfl, Nat.zero_le _, fun h => absurd h (by simp)⟩
  · obtain ⟨b, off, rfl, hb, he⟩ := hi h0
    obtain ⟨f, hf⟩ := choose_lt (p := fun i (s : Pc) => w.cell? ⟨b, off + i * 2, none⟩ = some (.int .i64 s.kd) ∧ w.cell? ⟨b, off + i * 2 + 1, none⟩ = some (.int .i64 s.ow)) (n := len) (fun i hi' => by
      obtain ⟨cs', m, y, _, hat, ht⟩ := he i hi'
      obtain ⟨s, rfl⟩ := rd_piece ht
      exact ⟨s, hat 0 (by omega), hat 1 (by omega)⟩)
    refine ⟨_, cap, (List.range len).map f, by simp, by simp; omega, fun _ => ⟨b, off, rfl, hb, fun i hi' => ?_⟩⟩
    have hi2 : i < len := by simpa using hi'
    unfold pcAt
    rw [map_range_getD f len i _ hi2]
    exact hf i hi2
/-- an argument of the type []laws.Piece -/
theorem open_pieces {v : Value} {d : DataW H} {p : List MemPlace} {b0 : Nat} (hv : Value.okWide Tryz.prog w .any b0 72 v) (h : DataW.Trod enc Tryz.prog w 0 (fun _ => true) true 72 v d p) :
    ∃ A cap, ∃ l : List Pc, v = .slice A l.length cap ∧ l.length ≤ maxLen ∧ IsPcs w w.heap.size A l := by
  obtain ⟨a, n, c, rfl⟩ := okWide_slice Tryz.underlying72 hv
  obtain ⟨fuel, hf⟩ := h
  exact rd_pieces (c := .slice a n c) (by simpa [Value.cells] using hf)
end
end Go.Proofs.YtnjhcjjeehccbaaGreatDoor.Opn

namespace Go.Proofs.YtnjhcjjeehccbaaGreatDoor.Ko
open Go.ChangeShapes Go.WideShapes Go.ChangeAt Go.RowKit Base Sq In
set_option linter.unusedVariables false
set_option maxRecDepth 20000

theorem NewPcs.big {B : Nat} {w : World} {g : Nat} {l : List Pc} (h : NewPcs B w g l) : BlkG w g (l.length * 2) 128 := by
  obtain ⟨cs, _, hb, hi⟩ := h
  refine ⟨cs, hb, ?_⟩
  rcases Nat.eq_zero_or_pos l.length with h0 | h0
  · omega
  · have := size_of_some (hi (l.length - 1) (by omega)).2; omega
set_option maxHeartbeats 1000000 in
theorem markPieceS_any (gs n c : Nat) (k : Int) (w : World) (h : BlkG w gs (n * 2) 128) (hn : n ≤ 1048576) (hk0 : 0 ≤ k) (hk1 : k ≤ 1000000000000000) :
    Calls Tryz.prog 52 #[.slice (some ⟨gs, 0, none⟩) n c, .int .i64 k] w fun e w' => e = .returned (.int .i64 (k + 2 * n)) ∧ Span gs (gs + 1) w w' := by
  go_enter Tryz.func52, Tryz.ntmps52
  go_wp2_with fail
  go_loopw [1, 5] (fun x i wr => ∃ j : Nat, j ≤ n ∧ i = .int .i64 j ∧ x = .int .i64 (k + 2 * j) ∧ BlkG wr gs (n * 2) 128 ∧ Span gs (gs + 1) w wr) (fun _ i _ => n - (intOf i).toNat)
  case atStart => exact ⟨0, by omega, rfl, by simp, h, Span.refl _ _ _⟩
  case round =>
    clear h
    obtain ⟨j, hj, rfl, rfl, hB, hS⟩ := hrel
    by_cases hlt : j < n
    · obtain ⟨v0, c0⟩ := hB.cell (i := j * 2) (by omega)
      obtain ⟨v1, c1⟩ := hB.cell (i := j * 2 + 1) (by omega)
      have f0 := hB.free (j * 2)
      have f1 := hB.free (j * 2 + 1)
      go_wp2_with fail
      go_roundw
      case rel => exact ⟨j + 1, by omega, by go_num, by first | go_num | (congr 1; omega), (hB.setCell _ _ _).setCell _ _ _, (hS.setCell (by omega) (by omega) _ _).setCell (by omega) (by omega) _ _⟩
      case measure => simp [intOf]; omega
    · obtain rfl : j = n := by omega
      go_wp2_with fail
      go_ret
      exact ⟨rfl, hS⟩
end Go.Proofs.YtnjhcjjeehccbaaGreatDoor.Ko
