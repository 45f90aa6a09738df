/- Pieces (materials) in memory, and their conversions. -/
import Derived.Test.YtnjhcjjeehccbaaGreatDoorCr
import Derived.Test.YtnjhcjjeehccbaaGreatDoorPv
namespace Go.Proofs.YtnjhcjjeehccbaaGreatDoor.Ko
open Go.ChangeShapes Go.WideShapes Go.ChangeAt Go.RowKit Base Sq
set_option linter.unusedVariables false
set_option maxRecDepth 20000
attribute [local irreducible] wpQuiet

/-- a piece: its kind, and whose it is -/
structure Pc where
  kd : Int
  ow : Int
def pcAt (l : List Pc) (i : Nat) : Pc := l.getD i ⟨0, 0⟩
/-- a slice of pieces that came in, or that the call made: in blocks below B -/
def IsPcs (w : World) (B : Nat) (A : Option Addr) (l : List Pc) : Prop :=
  0 < l.length → ∃ b off, A = some ⟨b, off, none⟩ ∧ b < B ∧ ∀ i, i < l.length →
    w.cell? ⟨b, off + i * 2, none⟩ = some (.int .i64 (pcAt l i).kd) ∧ w.cell? ⟨b, off + i * 2 + 1, none⟩ = some (.int .i64 (pcAt l i).ow)
theorem IsPcs.keep {w w' : World} {B : Nat} {A : Option Addr} {l : List Pc} (h : IsPcs w B A l) (hk : ∀ b o, b < B → w'.cell? ⟨b, o, none⟩ = w.cell? ⟨b, o, none⟩) : IsPcs w' B A l := fun hn => by
  obtain ⟨b, off, rfl, hB, hc⟩ := h hn
  exact ⟨b, off, rfl, hB, fun i hi => by simp only [hk b _ hB]; exact hc i hi⟩
theorem IsPcs.below {w w' : World} {B : Nat} {A : Option Addr} {l : List Pc} (h : IsPcs w B A l) (hb : Below B w w') : IsPcs w' B A l :=
  h.keep fun b o hlt => hb.cell (p := ⟨b, o, none⟩) hlt
theorem IsPcs.more {w : World} {B B' : Nat} {A : Option Addr} {l : List Pc} (h : IsPcs w B A l) (hB : B ≤ B') : IsPcs w B' A l := fun hn => by
  obtain ⟨b, off, rfl, hb, hc⟩ := h hn
  exact ⟨b, off, rfl, by omega, hc⟩

/-- the first k elements of a block are pieces of the list -/
def PcsIn (cs : Array Value) (l : List Pc) (k : Nat) : Prop := ∀ i, i < k → cs[i * 2]? = some (.int .i64 (pcAt l i).kd) ∧ cs[i * 2 + 1]? = some (.int .i64 (pcAt l i).ow)
theorem PcsIn.next {cs : Array Value} {l : List Pc} {k : Nat} (h : PcsIn cs l k) (hs : k * 2 + 1 < cs.size) :
    PcsIn ((cs.setIfInBounds (k * 2) (.int .i64 (pcAt l k).kd)).setIfInBounds (k * 2 + 1) (.int .i64 (pcAt l k).ow)) l (k + 1) := by
  refine all_succ (fun i hi => ?_) ?_
  · obtain ⟨h1, h2⟩ := h i hi
    exact ⟨set_get (set_get h1 (by omega)) (by omega), set_get (set_get h2 (by omega)) (by omega)⟩
  · exact ⟨set_get (set_same (by omega)) (by omega), set_same (by simp; omega)⟩
theorem PcsIn.is {w : World} {g : Nat} {cs : Array Value} {T : TypeId} {l : List Pc} (h : PcsIn cs l l.length) (hb : Blk w g cs T) : IsPcs w w.heap.size (some ⟨g, 0, none⟩) l := fun hn =>
  ⟨g, 0, rfl, hb.lt, fun i hi => by
    obtain ⟨h1, h2⟩ := h i hi
    simp only [Nat.zero_add, hb.cell]
    exact ⟨h1, h2⟩⟩

/-- the slice is a new block, from B on, that holds the pieces -/
def NewPcs (B : Nat) (w' : World) (g : Nat) (l : List Pc) : Prop := ∃ cs, B ≤ g ∧ Blk w' g cs 128 ∧ PcsIn cs l l.length
theorem NewPcs.is {B : Nat} {w' : World} {g : Nat} {l : List Pc} (h : NewPcs B w' g l) : IsPcs w' w'.heap.size (some ⟨g, 0, none⟩) l := by
  obtain ⟨cs, _, hb, hi⟩ := h; exact hi.is hb
theorem NewPcs.lt {B : Nat} {w : World} {g : Nat} {l : List Pc} (h : NewPcs B w g l) : g < w.heap.size := by obtain ⟨cs, _, hb, _⟩ := h; exact hb.lt
theorem NewPcs.other {B : Nat} {w' : World} {g : Nat} {l : List Pc} (h : NewPcs B w' g l) (a : Addr) (u : Value) (ha : a.block < B) : NewPcs B (w'.setCell a u) g l := by
  obtain ⟨cs, h1, hb, hi⟩ := h; exact ⟨cs, h1, hb.other a u (by omega), hi⟩
theorem NewPcs.below {B : Nat} {w' w2 : World} {g : Nat} {l : List Pc} (h : NewPcs B w' g l) (hb : Below w'.heap.size w' w2) : NewPcs B w2 g l := by
  obtain ⟨cs, h1, hk, hi⟩ := h; exact ⟨cs, h1, hk.below hb hk.lt, hi⟩
theorem NewPcs.from_ {B B0 : Nat} {w' : World} {g : Nat} {l : List Pc} (h : NewPcs B w' g l) (hb : B0 ≤ B) : NewPcs B0 w' g l := by
  obtain ⟨cs, h1, hk, hi⟩ := h; exact ⟨cs, by omega, hk, hi⟩
def PcsPost (W w' : World) (l : List Pc) (e : Ending) : Prop := ∃ g c', e = .returned (.slice (some ⟨g, 0, none⟩) l.length c') ∧ NewPcs W.heap.size w' g l ∧ Below W.heap.size W w'

theorem pieceInfo : (Tryz.prog.info? 128).map (fun i => (i.zero, i.size, i.bytes)) = some (some (.agg #[.int .i64 0, .int .i64 0]), 2, 16) := by kernel_rfl

theorem toPiece_any (a b : Int) (w : World) :
    Calls Tryz.prog 91 #[.agg #[.int .i64 a, .int .i64 b]] w fun e w' => e = .returned (.agg #[.int .i64 a, .int .i64 b]) ∧ Below w.heap.size w w' := by
  go_enter Tryz.func91, Tryz.ntmps91
  go_wp2
  refine bodyPost_ret (v := .agg #[.int .i64 a, .int .i64 b]) (by simp [results, Tryz.results91, go_sem]) rfl ⟨rfl, ?_⟩
  exact (by repeat (first | exact Below.refl _ _ | assumption | (refine Below.alloc ?_ (by first | omega | (simp; done) | (simp; omega)) _) | (refine Below.setCell ?_ (by first | omega | (simp; done) | (simp; omega)) _) | refine Below.drew ?_))

set_option maxHeartbeats 1000000 in
theorem toPieceS_any (A : Option Addr) (c : Nat) (l : List Pc) (w : World) (h : IsPcs w w.heap.size A l) (hl : l.length ≤ 1048576) :
    Calls Tryz.prog 46 #[.slice A l.length c] w fun e w' => PcsPost w w' l e := by
  obtain ⟨i0, hi, hz0, hz1, hz2⟩ := info_parts pieceInfo
  go_enter Tryz.func46, Tryz.ntmps46
  go_wp2_with (at_make; refine wpList_make_full _ rfl _ _ _ rfl w.heap.size 128 i0 (.agg #[.int .i64 0, .int .i64 0]) 2 Tryz.underlying76 hi hz0 hz1 .i64 .i64 _ _ l.length (by rfl) (by rfl) rfl rfl (by rw [hz2]; omega) (by unfold maxLen; omega) (Nat.le_refl _) ?_; intro w1 hown hgrow)
  obtain ⟨cur, hblk, hsz⟩ := blk_of_own hown
  have hbe := below_of_grown hgrow (Nat.le_refl _)
  clear hown hgrow hi hz0 hz1 hz2
  have HS := Lib.hid hsz
  clear hsz
  go_loopw [4] (fun i wr => ∃ (k : Nat) (cs : Array Value), k ≤ l.length ∧ i = .int .i64 k ∧ cs.size = l.length * 2 ∧ PcsIn cs l k ∧ Blk wr w.heap.size cs 128 ∧ Below w.heap.size w wr) (fun i _ => l.length - (intOf i).toNat)
  case atStart => exact ⟨0, cur, by omega, rfl, HS.out, fun j hj => absurd hj (by omega), hblk, hbe⟩
  case round =>
    clear hblk hbe HS
    obtain ⟨k, cs, hk, rfl, hsz, hin, hb, hbe⟩ := hrel
    have HS := Lib.hid hsz
    by_cases hlt : k < l.length
    · obtain ⟨b, off, rfl, hB, hc⟩ := h.below hbe (by omega)
      obtain ⟨c0, c1⟩ := hc k hlt
      clear hc
      obtain ⟨o0, x0⟩ := old_cell (cs := cs) (i := k * 2) (by omega)
      obtain ⟨o1, x1⟩ := old_cell (cs := cs) (i := k * 2 + 1) (by omega)
      have y0 := (hb.cell (k * 2)).trans x0
      have y1 := (hb.cell (k * 2 + 1)).trans x1
      have f0 := hb.free (k * 2)
      have f1 := hb.free (k * 2 + 1)
      have z1 := hb.lt
      clear hsz x0 x1
      go_wp2_with fail
      refine (toPiece_any _ _ _).mono ?_
      rintro e w2 ⟨rfl, hb2⟩
      obtain ⟨hc, hf⟩ := bcell hb2
      go_wp2_with fail
      go_roundw
      case rel => exact ⟨k + 1, _, by omega, by go_num, by simp only [Array.size_setIfInBounds]; exact HS.out, hin.next (by have := HS.out; omega), ((hb.below hb2 z1).set _ _).set _ _, ((hbe.trans (hb2.mono (by omega))).setCell (by simp) _).setCell (by simp) _⟩
      case measure => simp [intOf]; omega
    · obtain rfl : k = l.length := by omega
      go_wp2_with fail
      go_ret
      exact ⟨_, _, rfl, ⟨cs, Nat.le_refl _, hb, hin⟩, hbe⟩

theorem szPieceS_any (A : Option Addr) (c n : Nat) (left : Int) (w : World) (hn : n ≤ 9223372036854775807) (h1 : 0 ≤ left) (h2 : left ≤ 1048576) :
    Calls Tryz.prog 44 #[.slice A n c, .int .i64 left] w fun e w' => e = .returned (.int .i64 (if left - n < 0 then -1 else left - n)) ∧ w = w' := by
  by_cases h : left - (n : Int) < 0
  · rw [if_pos h]
    go_enter Tryz.func44, Tryz.ntmps44
    go_wp2_with fail
    go_ret
    exact ⟨rfl, rfl⟩
  · rw [if_neg h]
    go_enter Tryz.func44, Tryz.ntmps44
    go_wp2_with fail
    go_ret
    exact ⟨rfl, rfl⟩

theorem eqPiece_same (a b : Int) (w : World) :
    Calls Tryz.prog 96 #[.agg #[.int .i64 a, .int .i64 b], .agg #[.int .i64 a, .int .i64 b]] w fun e w' => e = .returned (.bool true) ∧ Below w.heap.size w w' := by
  go_enter Tryz.func96, Tryz.ntmps96
  go_wp2
  go_ret
  exact ⟨rfl, (by repeat (first | exact Below.refl _ _ | assumption | (refine Below.alloc ?_ (by first | omega | (simp; done) | (simp; omega)) _) | (refine Below.setCell ?_ (by first | omega | (simp; done) | (simp; omega)) _) | refine Below.drew ?_))⟩
theorem eqPieceS_same (A A' : Option Addr) (c c' : Nat) (l : List Pc) (w : World) (h : IsPcs w w.heap.size A l) (h' : IsPcs w w.heap.size A' l) (hl : l.length ≤ 1048576) :
    Calls Tryz.prog 50 #[.slice A l.length c, .slice A' l.length c'] w fun e w' => e = .returned (.bool true) ∧ Below w.heap.size w w' := by
  go_enter Tryz.func50, Tryz.ntmps50
  go_wp2_with fail
  go_loopw [5] (fun i wr => ∃ k : Nat, k ≤ l.length ∧ i = .int .i64 k ∧ Below w.heap.size w wr) (fun i _ => l.length - (intOf i).toNat)
  case atStart => exact ⟨0, by omega, rfl, Below.refl _ _⟩
  case round =>
    obtain ⟨k, hk, rfl, hbe⟩ := hrel
    by_cases hlt : k < l.length
    · obtain ⟨b, off, rfl, hB, hc⟩ := h.below hbe (by omega)
      obtain ⟨c0, c1⟩ := hc k hlt
      obtain ⟨b', off', rfl, hB', hc'⟩ := h'.below hbe (by omega)
      obtain ⟨d0, d1⟩ := hc' k hlt
      clear hc hc'
      have hz := hbe.size
      have z1 : b < wr.heap.size := by omega
      have z2 : b' < wr.heap.size := by omega
      have hk1 : (k : Int) < (l.length : Int) := by omega
      have hk2 : (0 : Int) ≤ (k : Int) := by omega
      go_wp2_with fail
      refine wp_region_below (W := wr) (by kernel_rfl) (by kernel_rfl) (Below.refl _ _) ?_
      repeat (first
        | (refine qs_skip (by rfl) ?_; simp only [Act.put, List.setIfInBounds_toArray, List.set_cons_zero, List.set_cons_succ])
        | (apply qs_take
           focus rfl
           focus (
             intro wq hwq
             obtain ⟨hcq, hfq⟩ := bcell hwq
             go_simp
             all_goals first
               | exact rfl
               | (go_at_call 96; refine (eqPiece_same _ _ _).mono ?_; exact fun e w2 h => ⟨h.1, hwq.trans (h.2.mono hwq.size)⟩)
               | (exact ⟨trivial, rfl⟩))
           simp only [Act.put, List.setIfInBounds_toArray, List.set_cons_zero, List.set_cons_succ]))
      refine wpQuiet_nil ?_
      intro wq hwq
      go_wp2_with fail
      go_roundw
      case rel => exact ⟨k + 1, by omega, by go_num, hbe.trans (hwq.mono (by omega))⟩
      case measure => simp [intOf]; omega
    · obtain rfl : k = l.length := by omega
      go_wp2_with fail
      go_ret
      exact ⟨rfl, hbe⟩
end Go.Proofs.YtnjhcjjeehccbaaGreatDoor.Ko
