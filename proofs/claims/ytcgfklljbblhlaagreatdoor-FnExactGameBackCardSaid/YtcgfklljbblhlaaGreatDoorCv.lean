/- The conversions of the exact laws: rules, kinds, steps. -/
import Derived.Test.YtcgfklljbblhlaaGreatDoorKs
namespace Go.Proofs.YtcgfklljbblhlaaGreatDoor.Ko
open Go.ChangeShapes Go.WideShapes Go.ChangeAt Go.RowKit Base Sq
set_option linter.unusedVariables false
set_option maxRecDepth 20000
attribute [local irreducible] wpQuiet

theorem stepInfo : (Tryz.prog.info? 129).map (fun i => (i.zero, i.size, i.bytes)) = some (some (.agg #[.int .i64 0, .int .i64 0, .int .i64 0]), 3, 24) := by kernel_rfl

theorem toStep_any (dx dy far : Int) (w : World) :
    Calls Tryz.prog 98 #[.agg #[.int .i64 dx, .int .i64 dy, .int .i64 far]] w fun e w' => e = .returned (.agg #[.int .i64 dx, .int .i64 dy, .int .i64 far]) ∧ Below w.heap.size w w' := by
  go_enter Tryz.func98, Tryz.ntmps98
  go_wp2
  refine bodyPost_ret (v := .agg #[.int .i64 dx, .int .i64 dy, .int .i64 far]) (by simp [results, Tryz.results98, go_sem]) rfl ⟨rfl, ?_⟩
  exact ((below_of w _).alloc (by simp) _).alloc (by simp; omega) _

/-- the first k elements of a block are steps of the list -/
def StepsIn (cs : Array Value) (l : List St) (k : Nat) : Prop := ∀ i, i < k → cs[i * 3]? = some (.int .i64 (stAt l i).dx) ∧ cs[i * 3 + 1]? = some (.int .i64 (stAt l i).dy) ∧ cs[i * 3 + 2]? = some (.int .i64 (stAt l i).far)
theorem StepsIn.next {cs : Array Value} {l : List St} {k : Nat} (h : StepsIn cs l k) (hs : k * 3 + 2 < cs.size) :
    StepsIn (((cs.setIfInBounds (k * 3) (.int .i64 (stAt l k).dx)).setIfInBounds (k * 3 + 1) (.int .i64 (stAt l k).dy)).setIfInBounds (k * 3 + 2) (.int .i64 (stAt l k).far)) l (k + 1) := by
  refine all_succ (fun i hi => ?_) ?_
  · obtain ⟨h1, h2, h3⟩ := h i hi
    exact ⟨set_get (set_get (set_get h1 (by omega)) (by omega)) (by omega), set_get (set_get (set_get h2 (by omega)) (by omega)) (by omega), set_get (set_get (set_get h3 (by omega)) (by omega)) (by omega)⟩
  · exact ⟨set_get (set_get (set_same (by omega)) (by omega)) (by omega), set_get (set_same (by simp; omega)) (by omega), set_same (by simp; omega)⟩
theorem StepsIn.is {w : World} {g : Nat} {cs : Array Value} {T : TypeId} {l : List St} (h : StepsIn cs l l.length) (hb : Blk w g cs T) : IsSteps w w.heap.size (some ⟨g, 0, none⟩) l := fun hn =>
  ⟨g, 0, rfl, hb.lt, fun i hi => by
    obtain ⟨h1, h2, h3⟩ := h i hi
    simp only [Nat.zero_add, hb.cell]
    exact ⟨h1, h2, h3⟩⟩
theorem old_cell {cs : Array Value} {i : Nat} (h : i < cs.size) : ∃ v, cs[i]? = some v := ⟨_, Array.getElem?_eq_getElem h⟩

/-- the slice is a new block, from B on, that holds the steps -/
def NewSteps (B : Nat) (w' : World) (g : Nat) (l : List St) : Prop := ∃ cs, B ≤ g ∧ Blk w' g cs 129 ∧ StepsIn cs l l.length
theorem NewSteps.is {B : Nat} {w' : World} {g : Nat} {l : List St} (h : NewSteps B w' g l) : IsSteps w' w'.heap.size (some ⟨g, 0, none⟩) l := by
  obtain ⟨cs, _, hb, hi⟩ := h; exact hi.is hb
theorem NewSteps.other {B : Nat} {w' : World} {g : Nat} {l : List St} (h : NewSteps B w' g l) (a : Addr) (u : Value) (ha : a.block < B) : NewSteps B (w'.setCell a u) g l := by
  obtain ⟨cs, h1, hb, hi⟩ := h; exact ⟨cs, h1, hb.other a u (by omega), hi⟩
theorem NewSteps.below {B : Nat} {w' w2 : World} {g : Nat} {l : List St} (h : NewSteps B w' g l) (hb : Below w'.heap.size w' w2) : NewSteps B w2 g l := by
  obtain ⟨cs, h1, hk, hi⟩ := h; exact ⟨cs, h1, hk.below hb hk.lt, hi⟩
theorem NewSteps.from_ {B B0 : Nat} {w' : World} {g : Nat} {l : List St} (h : NewSteps B w' g l) (hb : B0 ≤ B) : NewSteps B0 w' g l := by
  obtain ⟨cs, h1, hk, hi⟩ := h; exact ⟨cs, by omega, hk, hi⟩
def SlicePost (W w' : World) (l : List St) (e : Ending) : Prop := ∃ g c', e = .returned (.slice (some ⟨g, 0, none⟩) l.length c') ∧ NewSteps W.heap.size w' g l ∧ Below W.heap.size W w'

set_option maxHeartbeats 1000000 in
theorem toStepS_any (A : Option Addr) (c : Nat) (l : List St) (w : World) (h : IsSteps w w.heap.size A l) (hl : l.length ≤ 1048576) :
    Calls Tryz.prog 79 #[.slice A l.length c] w fun e w' => SlicePost w w' l e := by
  obtain ⟨i0, hi, hz0, hz1, hz2⟩ := info_parts stepInfo
  go_enter Tryz.func79, Tryz.ntmps79
  go_wp2_with (at_make; refine wpList_make_full _ rfl _ _ _ rfl w.heap.size 129 i0 (.agg #[.int .i64 0, .int .i64 0, .int .i64 0]) 3 Tryz.underlying96 hi hz0 hz1 .i64 .i64 _ _ l.length (by rfl) (by rfl) rfl rfl (by rw [hz2]; omega) (by unfold maxLen; omega) (Nat.le_refl _) ?_; intro w1 hown hgrow)
  obtain ⟨cur, hblk, hsz⟩ := blk_of_own hown
  have hbe := below_of_grown hgrow (Nat.le_refl _)
  clear hown hgrow hi hz0 hz1 hz2
  have HS := Lib.hid hsz
  clear hsz
  go_loopw [4] (fun i wr => ∃ (k : Nat) (cs : Array Value), k ≤ l.length ∧ i = .int .i64 k ∧ cs.size = l.length * 3 ∧ StepsIn cs l k ∧ Blk wr w.heap.size cs 129 ∧ Below w.heap.size w wr) (fun i _ => l.length - (intOf i).toNat)
  case atStart => exact ⟨0, cur, by omega, rfl, HS.out, fun j hj => absurd hj (by omega), hblk, hbe⟩
  case round =>
    clear hblk hbe HS
    obtain ⟨k, cs, hk, rfl, hsz, hin, hb, hbe⟩ := hrel
    have HS := Lib.hid hsz
    by_cases hlt : k < l.length
    · obtain ⟨b, off, rfl, hB, hc⟩ := h.below hbe (by omega)
      obtain ⟨c0, c1, c2⟩ := hc k hlt
      clear hc
      obtain ⟨o0, x0⟩ := old_cell (cs := cs) (i := k * 3) (by omega)
      obtain ⟨o1, x1⟩ := old_cell (cs := cs) (i := k * 3 + 1) (by omega)
      obtain ⟨o2, x2⟩ := old_cell (cs := cs) (i := k * 3 + 2) (by omega)
      have y0 := (hb.cell (k * 3)).trans x0
      have y1 := (hb.cell (k * 3 + 1)).trans x1
      have y2 := (hb.cell (k * 3 + 2)).trans x2
      have f0 := hb.free (k * 3)
      have f1 := hb.free (k * 3 + 1)
      have f2 := hb.free (k * 3 + 2)
      have z1 := hb.lt
      clear hsz x0 x1 x2
      go_wp2_with fail
      refine (toStep_any _ _ _ _).mono ?_
      rintro e w2 ⟨rfl, hb2⟩
      obtain ⟨hc, hf⟩ := bcell hb2
      go_wp2_with fail
      go_roundw
      case rel => exact ⟨k + 1, _, by omega, by go_num, by simp only [Array.size_setIfInBounds]; exact HS.out, hin.next (by have := HS.out; omega), (((hb.below hb2 z1).set _ _).set _ _).set _ _, (((hbe.trans (hb2.mono (by omega))).setCell (by simp) _).setCell (by simp) _).setCell (by simp) _⟩
      case measure => simp [intOf]; omega
    · obtain rfl : k = l.length := by omega
      go_wp2_with fail
      go_ret
      exact ⟨_, _, rfl, ⟨cs, Nat.le_refl _, hb, hin⟩, hbe⟩

def KindPost (W w' : World) (name : Int) (king : Bool) (l : List St) (e : Ending) : Prop :=
  ∃ g c', e = .returned (.agg #[.int .i64 name, .bool king, .slice (some ⟨g, 0, none⟩) l.length c']) ∧ NewSteps W.heap.size w' g l ∧ Below W.heap.size W w'
theorem toKind_any (name : Int) (king : Bool) (A : Option Addr) (c : Nat) (l : List St) (w : World) (h : IsSteps w w.heap.size A l) (hl : l.length ≤ 1048576) :
    Calls Tryz.prog 54 #[.agg #[.int .i64 name, .bool king, .slice A l.length c]] w fun e w' => KindPost w w' name king l e := by
  go_enter Tryz.func54, Tryz.ntmps54
  go_wp2_with fail
  refine (toStepS_any _ _ _ _ ((h.below (by repeat (first | exact Below.refl _ _ | assumption | (refine Below.alloc ?_ (by first | omega | (simp; done) | (simp; omega)) _) | (refine Below.setCell ?_ (by first | omega | (simp; done) | (simp; omega)) _) | refine Below.drew ?_))).more (by first | (simp; done) | (simp; omega) | omega)) hl).mono ?_
  rintro e w2 ⟨g, c', rfl, hs2, hb2⟩
  obtain ⟨hc, hf⟩ := bcell hb2
  have hz := hb2.size
  simp at hz
  have hR := ((Blk.new (w.alloc (.cells #[.int .i64 name, .bool king, .slice A l.length c] 89)) #[.int .i64 0, .bool false, .slice none 0 0] 98).alloc (.cells #[.int .i64 name, .bool king, .slice none 0 0] 98)).below hb2 (by first | (simp; done) | (simp; omega) | omega)
  rw [show (w.alloc (.cells #[.int .i64 name, .bool king, .slice A l.length c] 89)).heap.size = w.heap.size + 1 from by simp] at hR
  go_wp2_with fail
  refine bodyPost_ret (v := .agg #[.int .i64 name, .bool king, .slice (some ⟨g, 0, none⟩) l.length c']) ?_ rfl ⟨g, c', rfl, ?_, ?_⟩
  · have hR' := (hR.other ⟨w.heap.size + 1 + 1, 2, none⟩ (.slice (some ⟨g, 0, none⟩) l.length c') (by first | (simp; done) | (simp; omega) | omega)).set3 (.int .i64 name) (.bool king) (.slice (some ⟨g, 0, none⟩) l.length c')
    obtain ⟨⟨d0, d1, d2⟩, _⟩ := hR'.at3
    simp [results, Tryz.results54, go_sem, d0, d1, d2]
  · exact ((((hs2.other _ _ (by first | (simp; done) | (simp; omega) | omega)).other _ _ (by first | (simp; done) | (simp; omega) | omega)).other _ _ (by first | (simp; done) | (simp; omega) | omega)).other _ _ (by first | (simp; done) | (simp; omega) | omega)).from_ (by first | (simp; done) | (simp; omega) | omega)
  · have hw := hb2.mono (show w.heap.size ≤ _ from (by first | (simp; done) | (simp; omega) | omega))
    exact (((((Below.trans (by repeat (first | exact Below.refl _ _ | assumption | (refine Below.alloc ?_ (by first | omega | (simp; done) | (simp; omega)) _) | (refine Below.setCell ?_ (by first | omega | (simp; done) | (simp; omega)) _) | refine Below.drew ?_)) hw).setCell (by first | (simp; done) | (simp; omega) | omega) _).setCell (by first | (simp; done) | (simp; omega) | omega) _).setCell (by first | (simp; done) | (simp; omega) | omega) _).setCell (by first | (simp; done) | (simp; omega) | omega) _)
theorem szStepS_any (A : Option Addr) (c n : Nat) (left : Int) (w : World) (hn : n ≤ 9223372036854775807) (h1 : 0 ≤ left) (h2 : left ≤ 1048576) :
    Calls Tryz.prog 68 #[.slice A n c, .int .i64 left] w fun e w' => e = .returned (.int .i64 (if left - n < 0 then -1 else left - n)) ∧ w = w' := by
  by_cases h : left - (n : Int) < 0
  · rw [if_pos h]
    go_enter Tryz.func68, Tryz.ntmps68
    go_wp2_with fail
    go_ret
    exact ⟨rfl, rfl⟩
  · rw [if_neg h]
    go_enter Tryz.func68, Tryz.ntmps68
    go_wp2_with fail
    go_ret
    exact ⟨rfl, rfl⟩
theorem szKind_any (name : Int) (king : Bool) (A : Option Addr) (c n : Nat) (left : Int) (w : World) (hn : n ≤ 9223372036854775807) (h1 : 0 ≤ left) (h2 : left ≤ 1048576) :
    Calls Tryz.prog 47 #[.agg #[.int .i64 name, .bool king, .slice A n c], .int .i64 left] w fun e w' => e = .returned (.int .i64 (if left - n < 0 then -1 else left - n)) ∧ Below w.heap.size w w' := by
  by_cases h : left - (n : Int) < 0
  · rw [if_pos h]
    go_enter Tryz.func47, Tryz.ntmps47
    go_wp2_with (go_at_call 68; refine (szStepS_any _ _ _ _ _ hn h1 h2).mono ?_; rw [if_pos h]; rintro e w' ⟨rfl, rfl⟩)
    go_ret
    exact ⟨rfl, below_of _ _⟩
  · rw [if_neg h]
    go_enter Tryz.func47, Tryz.ntmps47
    go_wp2_with (go_at_call 68; refine (szStepS_any _ _ _ _ _ hn h1 h2).mono ?_; rw [if_neg h]; rintro e w' ⟨rfl, rfl⟩)
    go_ret
    exact ⟨rfl, below_of _ _⟩
theorem eqStep_same (dx dy far : Int) (w : World) :
    Calls Tryz.prog 106 #[.agg #[.int .i64 dx, .int .i64 dy, .int .i64 far], .agg #[.int .i64 dx, .int .i64 dy, .int .i64 far]] w fun e w' => e = .returned (.bool true) ∧ Below w.heap.size w w' := by
  go_enter Tryz.func106, Tryz.ntmps106
  go_wp2
  go_ret
  exact ⟨rfl, (by repeat (first | exact Below.refl _ _ | assumption | (refine Below.alloc ?_ (by first | omega | (simp; done) | (simp; omega)) _) | (refine Below.setCell ?_ (by first | omega | (simp; done) | (simp; omega)) _) | refine Below.drew ?_))⟩
theorem eqStepS_same (A A' : Option Addr) (c c' : Nat) (l : List St) (w : World) (h : IsSteps w w.heap.size A l) (h' : IsSteps w w.heap.size A' l) (hl : l.length ≤ 1048576) :
    Calls Tryz.prog 87 #[.slice A l.length c, .slice A' l.length c'] w fun e w' => e = .returned (.bool true) ∧ Below w.heap.size w w' := by
  go_enter Tryz.func87, Tryz.ntmps87
  go_wp2_with fail
  go_loopw [5] (fun i wr => ∃ k : Nat, k ≤ l.length ∧ i = .int .i64 k ∧ Below w.heap.size w wr) (fun i _ => l.length - (intOf i).toNat)
  case atStart => exact ⟨0, by omega, rfl, Below.refl _ _⟩
  case round =>
    obtain ⟨k, hk, rfl, hbe⟩ := hrel
    by_cases hlt : k < l.length
    · obtain ⟨b, off, rfl, hB, hc⟩ := h.below hbe (by omega)
      obtain ⟨c0, c1, c2⟩ := hc k hlt
      obtain ⟨b', off', rfl, hB', hc'⟩ := h'.below hbe (by omega)
      obtain ⟨d0, d1, d2⟩ := hc' k hlt
      clear hc hc'
      have hz := hbe.size
      have z1 : b < wr.heap.size := by omega
      have z2 : b' < wr.heap.size := by omega
      have hk1 : (k : Int) < (l.length : Int) := by omega
      have hk2 : (0 : Int) ≤ (k : Int) := by omega
      go_wp2_with fail
      refine wp_region_below (W := wr) (by kernel_rfl) (by kernel_rfl) (Below.refl _ _) ?_
      repeat (first
        | (refine qs_skip (by rfl) ?_; simp only [Act.put, List.setIfInBounds_toArray, List.set_cons_zero, List.set_cons_succ])
        | (apply qs_take
           focus rfl
           focus (
             intro wq hwq
             obtain ⟨hcq, hfq⟩ := bcell hwq
             go_simp
             all_goals first
               | exact rfl
               | (go_at_call 106; refine (eqStep_same _ _ _ _).mono ?_; exact fun e w2 h => ⟨h.1, hwq.trans (h.2.mono hwq.size)⟩)
               | (exact ⟨trivial, rfl⟩))
           simp only [Act.put, List.setIfInBounds_toArray, List.set_cons_zero, List.set_cons_succ]))
      refine wpQuiet_nil ?_
      intro wq hwq
      go_wp2_with fail
      go_roundw
      case rel => exact ⟨k + 1, by omega, by go_num, hbe.trans (hwq.mono (by omega))⟩
      case measure => simp [intOf]; omega
    · obtain rfl : k = l.length := by omega
      go_wp2_with fail
      go_ret
      exact ⟨rfl, hbe⟩
theorem eqKind_same (name : Int) (king : Bool) (A A' : Option Addr) (c c' : Nat) (l : List St) (w : World) (h : IsSteps w w.heap.size A l) (h' : IsSteps w w.heap.size A' l) (hl : l.length ≤ 1048576) :
    Calls Tryz.prog 60 #[.agg #[.int .i64 name, .bool king, .slice A l.length c], .agg #[.int .i64 name, .bool king, .slice A' l.length c']] w fun e w' => e = .returned (.bool true) ∧ Below w.heap.size w w' := by
  go_enter Tryz.func60, Tryz.ntmps60
  go_wp2_with fail
  refine (eqStepS_same _ _ _ _ _ _ ((h.below (by repeat (first | exact Below.refl _ _ | assumption | (refine Below.alloc ?_ (by first | omega | (simp; done) | (simp; omega)) _) | (refine Below.setCell ?_ (by first | omega | (simp; done) | (simp; omega)) _) | refine Below.drew ?_))).more (by first | (simp; done) | (simp; omega) | omega)) ((h'.below (by repeat (first | exact Below.refl _ _ | assumption | (refine Below.alloc ?_ (by first | omega | (simp; done) | (simp; omega)) _) | (refine Below.setCell ?_ (by first | omega | (simp; done) | (simp; omega)) _) | refine Below.drew ?_))).more (by first | (simp; done) | (simp; omega) | omega)) hl).mono ?_
  rintro e w2 ⟨rfl, hb2⟩
  go_wp2_with fail
  go_ret
  exact ⟨rfl, Below.trans (by repeat (first | exact Below.refl _ _ | assumption | (refine Below.alloc ?_ (by first | omega | (simp; done) | (simp; omega)) _) | (refine Below.setCell ?_ (by first | omega | (simp; done) | (simp; omega)) _) | refine Below.drew ?_)) (hb2.mono (by first | (simp; done) | (simp; omega) | omega))⟩
end Go.Proofs.YtcgfklljbblhlaaGreatDoor.Ko
