/- The marks of the exact laws: what they write, and that nothing else changes. -/
import Derived.Test.YtcgfklljbblhlaaGreatDoorCp
namespace Go.Proofs.YtcgfklljbblhlaaGreatDoor.Ko
open Go.ChangeShapes Go.WideShapes Go.ChangeAt Go.RowKit Base Sq
set_option linter.unusedVariables false
set_option maxRecDepth 20000

/-- a block of at least m cells -/
def BlkG (w : World) (b m : Nat) (T : TypeId) : Prop := ∃ vs, Blk w b vs T ∧ m ≤ vs.size
theorem BlkG.lt {w : World} {b m : Nat} {T : TypeId} (h : BlkG w b m T) : b < w.heap.size := by obtain ⟨vs, hb, _⟩ := h; exact hb.lt
theorem BlkG.cell {w : World} {b m : Nat} {T : TypeId} (h : BlkG w b m T) {i : Nat} (hi : i < m) : ∃ v, w.cell? ⟨b, i, none⟩ = some v := by
  obtain ⟨vs, hb, hs⟩ := h
  exact ⟨vs[i]'(by omega), (hb.cell i).trans (Array.getElem?_eq_getElem (by omega))⟩
theorem BlkG.free {w : World} {b m : Nat} {T : TypeId} (h : BlkG w b m T) (i : Nat) : w.frozen? ⟨b, i, none⟩ = false := by obtain ⟨vs, hb, _⟩ := h; exact hb.free i
theorem BlkG.setCell {w : World} {b m : Nat} {T : TypeId} (h : BlkG w b m T) (a i : Nat) (u : Value) : BlkG (w.setCell ⟨a, i, none⟩ u) b m T := by
  obtain ⟨vs, hb, hs⟩ := h
  by_cases e : b = a
  · subst e; exact ⟨_, hb.set i u, by simpa using hs⟩
  · exact ⟨vs, hb.other ⟨a, i, none⟩ u e, hs⟩
theorem BlkG.below {w w' : World} {b m B : Nat} {T : TypeId} (h : BlkG w b m T) (hb : Below B w w') (hB : b < B) : BlkG w' b m T := by
  obtain ⟨vs, hk, hs⟩ := h; exact ⟨vs, hk.below hb hB, hs⟩
/-- of the blocks that were there only those from lo to hi have changed, and none in type or to fewer cells -/
structure Span (lo hi : Nat) (w w' : World) : Prop where
  os : w'.os = w.os
  tape : w'.tape = w.tape
  output : w'.output = w.output
  size : w.heap.size ≤ w'.heap.size
  block : ∀ k, k < w.heap.size → (k < lo ∨ hi ≤ k) → w'.heap[k]? = w.heap[k]?
  shape : ∀ b m T, BlkG w b m T → BlkG w' b m T
theorem Span.refl (lo hi : Nat) (w : World) : Span lo hi w w := ⟨rfl, rfl, rfl, Nat.le_refl _, fun _ _ _ => rfl, fun _ _ _ h => h⟩
theorem Span.trans {lo hi : Nat} {a b c : World} (h : Span lo hi a b) (k : Span lo hi b c) : Span lo hi a c :=
  ⟨k.os.trans h.os, k.tape.trans h.tape, k.output.trans h.output, Nat.le_trans h.size k.size, fun i hi ho => (k.block i (Nat.lt_of_lt_of_le hi h.size) ho).trans (h.block i hi ho), fun b m T hh => k.shape b m T (h.shape b m T hh)⟩
theorem Span.wide {lo hi lo' hi' : Nat} {a b : World} (h : Span lo hi a b) (h1 : lo' ≤ lo) (h2 : hi ≤ hi') : Span lo' hi' a b :=
  ⟨h.os, h.tape, h.output, h.size, fun k hk ho => h.block k hk (by omega), h.shape⟩
theorem Span.ofBelow {lo hi : Nat} {a b : World} (h : Below a.heap.size a b) : Span lo hi a b :=
  ⟨h.os, h.tape, h.output, h.size, fun k hk _ => h.block k hk, fun b m T hh => hh.below h hh.lt⟩
theorem Span.setCell {lo hi : Nat} {a w : World} (h : Span lo hi a w) {b : Nat} (h1 : lo ≤ b) (h2 : b < hi) (i : Nat) (u : Value) : Span lo hi a (w.setCell ⟨b, i, none⟩ u) :=
  h.trans ⟨rfl, rfl, rfl, by simp [World.setCell], fun k _ ho => Below.heap_setCell w ⟨b, i, none⟩ u k (by show k ≠ b; omega), fun b' m T hh => hh.setCell b i u⟩
theorem Span.blk {lo hi b : Nat} {w w' : World} {vs : Array Value} {T : TypeId} (h : Span lo hi w w') (hb : Blk w b vs T) (ho : b < lo ∨ hi ≤ b) : Blk w' b vs T := (h.block b hb.lt ho).trans hb
theorem Span.toBelow {lo hi B : Nat} {w w' : World} (h : Span lo hi w w') (h1 : B ≤ lo) (h2 : B ≤ w.heap.size) : Below B w w' :=
  ⟨h.os, h.tape, h.output, h.size, fun k hk => h.block k (by omega) (by omega)⟩
/-- kinds that may be marked -/
def KindShape (lo hi : Nat) (w : World) (g : Nat) (ks : List Kd) : Prop := ∃ cs, Blk w g cs 98 ∧ ks.length * 3 ≤ cs.size ∧ lo ≤ g ∧ g < hi ∧
  ∀ i, i < ks.length → ∃ gs c, cs[i * 3 + 2]? = some (.slice (some ⟨gs, 0, none⟩) (kAt ks i).steps.length c) ∧ gs ≠ g ∧ lo ≤ gs ∧ gs < hi ∧ BlkG w gs ((kAt ks i).steps.length * 3) 129
theorem size_of_some {cs : Array Value} {i : Nat} {v : Value} (h : cs[i]? = some v) : i < cs.size := (Array.getElem?_eq_some_iff.1 h).1
theorem NewSteps.big {B : Nat} {w : World} {g : Nat} {l : List St} (h : NewSteps B w g l) : BlkG w g (l.length * 3) 129 := by
  obtain ⟨cs, _, hb, hi⟩ := h
  refine ⟨cs, hb, ?_⟩
  rcases Nat.eq_zero_or_pos l.length with h0 | h0
  · omega
  · have := size_of_some (hi (l.length - 1) (by omega)).2.2; omega
theorem NewMen.big {B : Nat} {w : World} {g : Nat} {l : List St} (h : NewMen B w g l) : BlkG w g (l.length * 3) 105 := by
  obtain ⟨cs, _, hb, hi⟩ := h
  refine ⟨cs, hb, ?_⟩
  rcases Nat.eq_zero_or_pos l.length with h0 | h0
  · omega
  · have := size_of_some (hi (l.length - 1) (by omega)).2.2; omega
theorem NewKinds.shape {lo : Nat} {w : World} {g : Nat} {ks : List Kd} (h : NewKinds lo w g ks) : KindShape lo w.heap.size w g ks := by
  obtain ⟨cs, hl, hb, hi⟩ := h
  refine ⟨cs, hb, ?_, hl, hb.lt, fun i hi' => ?_⟩
  · rcases Nat.eq_zero_or_pos ks.length with h0 | h0
    · omega
    · obtain ⟨gs, c, _, _, h3, _⟩ := hi (ks.length - 1) (by omega)
      have := size_of_some h3; omega
  · obtain ⟨gs, c, _, _, h3, h4⟩ := hi i hi'
    have h5 := h4.lt
    have h6 := h4.big
    obtain ⟨_, h7, _⟩ := h4
    exact ⟨gs, c, h3, by omega, by omega, h5, h6⟩
theorem KindShape.below {lo hi : Nat} {w w' : World} {g : Nat} {ks : List Kd} (h : KindShape lo hi w g ks) (hb : Below hi w w') : KindShape lo hi w' g ks := by
  obtain ⟨cs, h1, h2, h3, h4, h5⟩ := h
  refine ⟨cs, h1.below hb h4, h2, h3, h4, fun i hi' => ?_⟩
  obtain ⟨gs, c, g1, g2, g3, g4, g5⟩ := h5 i hi'
  exact ⟨gs, c, g1, g2, g3, g4, g5.below hb g4⟩
theorem KindShape.set {lo hi : Nat} {w : World} {g : Nat} {ks : List Kd} (h : KindShape lo hi w g ks) (o : Nat) (u : Value) (ho : ∀ i, o ≠ i * 3 + 2) : KindShape lo hi (w.setCell ⟨g, o, none⟩ u) g ks := by
  obtain ⟨cs, h1, h2, h3, h4, h5⟩ := h
  refine ⟨_, h1.set o u, by simpa using h2, h3, h4, fun i hi' => ?_⟩
  obtain ⟨gs, c, g1, g2, g3, g4, g5⟩ := h5 i hi'
  exact ⟨gs, c, set_get g1 (ho i), g2, g3, g4, g5.setCell g o u⟩
theorem KindShape.span {lo hi gs : Nat} {w w' : World} {g : Nat} {ks : List Kd} (h : KindShape lo hi w g ks) (hs : Span gs (gs + 1) w w') (hg : gs ≠ g) : KindShape lo hi w' g ks := by
  obtain ⟨cs, h1, h2, h3, h4, h5⟩ := h
  refine ⟨cs, hs.blk h1 (by omega), h2, h3, h4, fun i hi' => ?_⟩
  obtain ⟨gs, c, g1, g2, g3, g4, g5⟩ := h5 i hi'
  exact ⟨gs, c, g1, g2, g3, g4, hs.shape _ _ _ g5⟩

set_option maxHeartbeats 1000000 in
theorem markStepS_any (gs n c : Nat) (k : Int) (w : World) (h : BlkG w gs (n * 3) 129) (hn : n ≤ 1048576) (hk0 : 0 ≤ k) (hk1 : k ≤ 1000000000000000) :
    Calls Tryz.prog 62 #[.slice (some ⟨gs, 0, none⟩) n c, .int .i64 k] w fun e w' => e = .returned (.int .i64 (k + 3 * n)) ∧ Span gs (gs + 1) w w' := by
  go_enter Tryz.func62, Tryz.ntmps62
  go_wp2_with fail
  go_loopw [1, 5] (fun x i wr => ∃ j : Nat, j ≤ n ∧ i = .int .i64 j ∧ x = .int .i64 (k + 3 * j) ∧ BlkG wr gs (n * 3) 129 ∧ Span gs (gs + 1) w wr) (fun _ i _ => n - (intOf i).toNat)
  case atStart => exact ⟨0, by omega, rfl, by simp, h, Span.refl _ _ _⟩
  case round =>
    clear h
    obtain ⟨j, hj, rfl, rfl, hB, hS⟩ := hrel
    by_cases hlt : j < n
    · obtain ⟨v0, c0⟩ := hB.cell (i := j * 3) (by omega)
      obtain ⟨v1, c1⟩ := hB.cell (i := j * 3 + 1) (by omega)
      obtain ⟨v2, c2⟩ := hB.cell (i := j * 3 + 2) (by omega)
      have f0 := hB.free (j * 3)
      have f1 := hB.free (j * 3 + 1)
      have f2 := hB.free (j * 3 + 2)
      go_wp2_with fail
      go_roundw
      case rel => exact ⟨j + 1, by omega, by go_num, by first | go_num | (congr 1; omega), ((hB.setCell _ _ _).setCell _ _ _).setCell _ _ _, ((hS.setCell (by omega) (by omega) _ _).setCell (by omega) (by omega) _ _).setCell (by omega) (by omega) _ _⟩
      case measure => simp [intOf]; omega
    · obtain rfl : j = n := by omega
      go_wp2_with fail
      go_ret
      exact ⟨rfl, hS⟩
set_option maxHeartbeats 1000000 in
theorem markManS_any (gs n c : Nat) (k : Int) (w : World) (h : BlkG w gs (n * 3) 105) (hn : n ≤ 1048576) (hk0 : 0 ≤ k) (hk1 : k ≤ 1000000000000000) :
    Calls Tryz.prog 39 #[.slice (some ⟨gs, 0, none⟩) n c, .int .i64 k] w fun e w' => e = .returned (.int .i64 (k + 3 * n)) ∧ Span gs (gs + 1) w w' := by
  go_enter Tryz.func39, Tryz.ntmps39
  go_wp2_with fail
  go_loopw [1, 5] (fun x i wr => ∃ j : Nat, j ≤ n ∧ i = .int .i64 j ∧ x = .int .i64 (k + 3 * j) ∧ BlkG wr gs (n * 3) 105 ∧ Span gs (gs + 1) w wr) (fun _ i _ => n - (intOf i).toNat)
  case atStart => exact ⟨0, by omega, rfl, by simp, h, Span.refl _ _ _⟩
  case round =>
    clear h
    obtain ⟨j, hj, rfl, rfl, hB, hS⟩ := hrel
    by_cases hlt : j < n
    · obtain ⟨v0, c0⟩ := hB.cell (i := j * 3) (by omega)
      obtain ⟨v1, c1⟩ := hB.cell (i := j * 3 + 1) (by omega)
      obtain ⟨v2, c2⟩ := hB.cell (i := j * 3 + 2) (by omega)
      have f0 := hB.free (j * 3)
      have f1 := hB.free (j * 3 + 1)
      have f2 := hB.free (j * 3 + 2)
      go_wp2_with fail
      go_roundw
      case rel => exact ⟨j + 1, by omega, by go_num, by first | go_num | (congr 1; omega), ((hB.setCell _ _ _).setCell _ _ _).setCell _ _ _, ((hS.setCell (by omega) (by omega) _ _).setCell (by omega) (by omega) _ _).setCell (by omega) (by omega) _ _⟩
      case measure => simp [intOf]; omega
    · obtain rfl : j = n := by omega
      go_wp2_with fail
      go_ret
      exact ⟨rfl, hS⟩
def MarkPost (lo hi : Nat) (w w' : World) (k : Int) (e : Ending) : Prop := ∃ v, e = .returned (.int .i64 v) ∧ k ≤ v ∧ v ≤ k + 3298536980480 ∧ Span lo hi w w'
set_option maxHeartbeats 2000000 in
theorem markKindS_any (lo hi g c : Nat) (ks : List Kd) (k : Int) (w : World) (h : KindShape lo hi w g ks) (hsm : Small ks) (hk0 : 0 ≤ k) (hk1 : k ≤ 1000000000) :
    Calls Tryz.prog 37 #[.slice (some ⟨g, 0, none⟩) ks.length c, .int .i64 k] w fun e w' => MarkPost lo hi w w' k e := by
  have hl := hsm.1
  have HSM := Lib.hid hsm
  clear hsm
  go_enter Tryz.func37, Tryz.ntmps37
  go_wp2_with fail
  go_loopw [1, 5] (fun x i wr => ∃ (j : Nat) (v : Int), j ≤ ks.length ∧ i = .int .i64 j ∧ x = .int .i64 v ∧ k ≤ v ∧ v ≤ k + j * 3145730 ∧ KindShape lo hi wr g ks ∧ Span lo hi w wr) (fun _ i _ => ks.length - (intOf i).toNat)
  case atStart => exact ⟨0, k, by omega, rfl, rfl, by omega, by omega, h, Span.refl _ _ _⟩
  case round =>
    clear h
    obtain ⟨j, v, hj, rfl, rfl, hv1, hv2, hK, hS⟩ := hrel
    by_cases hlt : j < ks.length
    · have hK2 := (hK.set (j * 3) (.int .i64 v) (fun i => by omega)).set (j * 3 + 1) (.bool ((v + 1) % 3 == 0)) (fun i => by omega)
      have HK2 := Lib.hid hK2
      obtain ⟨cs, h1, h2, h3, h4, h5⟩ := hK
      obtain ⟨gs, cc, g1, g2, g3, g4, g5⟩ := h5 j hlt
      obtain ⟨o0, x0⟩ := old_cell (cs := cs) (i := j * 3) (by omega)
      obtain ⟨o1, x1⟩ := old_cell (cs := cs) (i := j * 3 + 1) (by omega)
      have y0 := (h1.cell (j * 3)).trans x0
      have y1 := (h1.cell (j * 3 + 1)).trans x1
      have y2 := (h1.cell (j * 3 + 2)).trans g1
      have f0 := h1.free (j * 3)
      have f1 := h1.free (j * 3 + 1)
      have f2 := h1.free (j * 3 + 2)
      have hlen := HSM.out.2 j hlt
      have hvb : v ≤ 10000000000000 := by omega
      have hS2 := fun b => (hS.setCell h3 h4 (j * 3) (.int .i64 v)).setCell h3 h4 (j * 3 + 1) (.bool b)
      have G5 := fun b => (g5.setCell g (j * 3) (.int .i64 v)).setCell g (j * 3 + 1) (.bool b)
      have HS2 := Lib.hid hS2
      have HG5 := Lib.hid G5
      clear h5 x0 x1 g1 hS2 G5 hK2
      go_wp2_with fail
      refine (markStepS_any _ _ _ _ _ (HG5.out _) hlen (by omega) (by omega)).mono ?_
      rintro e w2 ⟨rfl, hs2⟩
      go_wp2_with fail
      go_roundw
      case rel => exact ⟨j + 1, _, by omega, by go_num, rfl, by omega, by omega, HK2.out.span hs2 g2, (HS2.out _).trans (hs2.wide g3 (by omega))⟩
      case measure => simp [intOf]; omega
    · obtain rfl : j = ks.length := by omega
      go_wp2_with fail
      go_ret
      exact ⟨v, rfl, hv1, by omega, hS⟩
theorem markRules_any (lo hi g c : Nat) (side : Int) (ks : List Kd) (k : Int) (w : World) (h : KindShape lo hi w g ks) (hsm : Small ks) (hk0 : 0 ≤ k) (hk1 : k ≤ 1000000000) (hh : hi ≤ w.heap.size) :
    Calls Tryz.prog 15 #[.agg #[.int .i64 side, .slice (some ⟨g, 0, none⟩) ks.length c], .int .i64 k] w fun e w' => MarkPost lo hi w w' k e := by
  have hb0 := below_of w (.cells #[.int .i64 side, .slice (some ⟨g, 0, none⟩) ks.length c] 40)
  have HB0 := Lib.hid hb0
  have HK := Lib.hid (h.below (hb0.mono hh))
  clear h hb0
  go_enter Tryz.func15, Tryz.ntmps15
  go_wp2_with fail
  refine (markKindS_any lo hi _ _ _ _ _ HK.out hsm hk0 hk1).mono ?_
  rintro e w2 ⟨v, rfl, hv1, hv2, hs⟩
  go_wp2_with fail
  go_ret
  exact ⟨v, rfl, hv1, hv2, (Span.ofBelow HB0.out).trans hs⟩
theorem markPos_any (lo hi g c : Nat) (t : Int) (l : List St) (k : Int) (w : World) (h : BlkG w g (l.length * 3) 105) (h1 : lo ≤ g) (h2 : g < hi) (hl : l.length ≤ 1048576) (hk0 : 0 ≤ k) (hk1 : k ≤ 1000000000000000) :
    Calls Tryz.prog 17 #[.agg #[.int .i64 t, .slice (some ⟨g, 0, none⟩) l.length c], .int .i64 k] w fun e w' => MarkPost lo hi w w' k e := by
  have hb0 := below_of w (.cells #[.int .i64 t, .slice (some ⟨g, 0, none⟩) l.length c] 35)
  have HB0 := Lib.hid hb0
  have HK := Lib.hid (h.below hb0 h.lt)
  clear h hb0
  go_enter Tryz.func17, Tryz.ntmps17
  go_wp2_with fail
  refine (markManS_any _ _ _ _ _ HK.out hl hk0 hk1).mono ?_
  rintro e w2 ⟨rfl, hs⟩
  go_wp2_with fail
  go_ret
  exact ⟨_, rfl, by omega, by omega, (Span.ofBelow HB0.out).trans (hs.wide h1 (by omega))⟩
end Go.Proofs.YtcgfklljbblhlaaGreatDoor.Ko
