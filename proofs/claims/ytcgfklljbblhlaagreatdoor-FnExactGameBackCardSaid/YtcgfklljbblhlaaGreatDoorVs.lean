/- Slices of moves that a call has made: their cells. -/
import Derived.Test.YtcgfklljbblhlaaGreatDoorMw
import Derived.Maps.AppendAt
namespace Go.Proofs.YtcgfklljbblhlaaGreatDoor.Ko
open Go.ChangeShapes Go.WideShapes Go.ChangeAt Go.RowKit Base Sq
set_option linter.unusedVariables false
set_option maxRecDepth 20000
attribute [local irreducible] wpQuiet

theorem mvInfo : (Tryz.prog.info? 58).map (fun i => (i.zero, i.size, i.bytes)) = some (some (.agg #[.int .i64 0, .int .i64 0]), 2, 16) := by kernel_rfl
def cellsV : List Mv → List Value
  | [] => []
  | m :: l => .int .i64 m.1 :: .int .i64 m.2 :: cellsV l
theorem cellsV_len (l : List Mv) : (cellsV l).length = l.length * 2 := by
  induction l with
  | nil => rfl
  | cons s l ih => simp only [cellsV, List.length_cons, ih]; omega
theorem cellsV_snoc (l : List Mv) (m : Mv) : cellsV (l ++ [m]) = cellsV l ++ [.int .i64 m.1, .int .i64 m.2] := by
  induction l with
  | nil => rfl
  | cons a l ih => simp only [List.cons_append, cellsV, ih]
theorem mvAt_cons (m : Mv) (l : List Mv) (i : Nat) : mvAt (m :: l) (i + 1) = mvAt l i := by simp [mvAt]
theorem cellsV_at (l : List Mv) : ∀ i, i < l.length → (cellsV l)[i * 2]? = some (.int .i64 (mvAt l i).1) ∧ (cellsV l)[i * 2 + 1]? = some (.int .i64 (mvAt l i).2) := by
  induction l with
  | nil => intro i hi; exact absurd hi (by simp)
  | cons s l ih =>
    intro i hi
    cases i with
    | zero => exact ⟨rfl, rfl⟩
    | succ i =>
      obtain ⟨h1, h2⟩ := ih i (by simpa using hi)
      rw [mvAt_cons, show (i + 1) * 2 = i * 2 + 2 from by omega]
      exact ⟨h1, h2⟩
/-- moves in a block of the call's own, from lo below hi -/
def MvA (lo hi : Nat) (w : World) (A : Option Addr) (l : List Mv) : Prop :=
  0 < l.length → ∃ b cs, A = some ⟨b, 0, none⟩ ∧ lo ≤ b ∧ b < hi ∧ Blk w b cs 58 ∧ l.length * 2 ≤ cs.size ∧ ∀ i, i < l.length → cs[i * 2]? = some (.int .i64 (mvAt l i).1) ∧ cs[i * 2 + 1]? = some (.int .i64 (mvAt l i).2)
theorem MvA.nil (lo hi : Nat) (w : World) (A : Option Addr) : MvA lo hi w A [] := fun h => absurd h (by simp)
theorem MvA.below {lo hi : Nat} {w w' : World} {A : Option Addr} {l : List Mv} (h : MvA lo hi w A l) (hb : Below hi w w') : MvA lo hi w' A l := fun hn => by
  obtain ⟨b, cs, rfl, h1, h2, h3, h4⟩ := h hn
  exact ⟨b, cs, rfl, h1, h2, h3.below hb h2, h4⟩
theorem MvA.more {lo hi lo' hi' : Nat} {w : World} {A : Option Addr} {l : List Mv} (h : MvA lo hi w A l) (h1 : lo' ≤ lo) (h2 : hi ≤ hi') : MvA lo' hi' w A l := fun hn => by
  obtain ⟨b, cs, rfl, g1, g2, h3⟩ := h hn
  exact ⟨b, cs, rfl, by omega, by omega, h3⟩
/-- the cells of a move of the list -/
theorem MvA.at {lo hi : Nat} {w : World} {A : Option Addr} {l : List Mv} (h : MvA lo hi w A l) {i : Nat} (hi' : i < l.length) : ∃ b, A = some ⟨b, 0, none⟩ ∧ b < hi ∧ w.cell? ⟨b, i * 2, none⟩ = some (.int .i64 (mvAt l i).1) ∧ w.cell? ⟨b, i * 2 + 1, none⟩ = some (.int .i64 (mvAt l i).2) := by
  obtain ⟨b, cs, rfl, g1, g2, h3, h4, h5⟩ := h (by omega)
  obtain ⟨e1, e2⟩ := h5 i hi'
  exact ⟨b, rfl, g2, (h3.cell _).trans e1, (h3.cell _).trans e2⟩
/-- the moves that have been appended -/
def OwnV (w : World) (base : Nat) (v : Value) (l : List Mv) : Prop := w.ownsRow base 58 2 v l.length (cellsV l)
theorem OwnV.of {w : World} {base : Nat} {v : Value} {l : List Mv} (h : OwnV w base v l) : ∃ A c, v = .slice A l.length c ∧ MvA base w.heap.size w A l := by
  rcases h.2 with ⟨rfl, h0⟩ | ⟨g, cap, cur, rfl, hb, hg, hn, hm, hs, ht⟩
  · exact ⟨none, 0, by rw [h0], fun hp => by omega⟩
  · refine ⟨some ⟨g, 0, none⟩, cap, rfl, fun _ => ⟨g, cur, rfl, hb, lt_of_block hg, hg, by omega, fun i hi => ?_⟩⟩
    obtain ⟨h1, h2⟩ := cellsV_at l i hi
    rw [← ht, List.getElem?_take_of_lt (by omega)] at h1 h2
    exact ⟨by simpa using h1, by simpa using h2⟩
theorem OwnV.below {w w' : World} {base : Nat} {v : Value} {l : List Mv} (h : OwnV w base v l) (hb : Below w.heap.size w w') : OwnV w' base v l := by
  refine ⟨h.1, ?_⟩
  rcases h.2 with h0 | ⟨g, cap, cur, hv, hB, hg, rest⟩
  · exact .inl h0
  · exact .inr ⟨g, cap, cur, hv, hB, (hb.block g (lt_of_block hg)).trans hg, rest⟩
theorem OwnV.but {w w' : World} {base b : Nat} {v : Value} {l : List Mv} (h : OwnV w base v l) (hb : But b w w') (h1 : b < base) : OwnV w' base v l := by
  refine ⟨h.1, ?_⟩
  rcases h.2 with h0 | ⟨g, cap, cur, hv, hB, hg, rest⟩
  · exact .inl h0
  · exact .inr ⟨g, cap, cur, hv, hB, (hb.block g (lt_of_block hg) (by omega)).trans hg, rest⟩
theorem OwnV.other {w : World} {base : Nat} {v : Value} {l : List Mv} (h : OwnV w base v l) (a : Addr) (u : Value) {g' : Nat} (hv' : ∀ g n c, v = .slice (some ⟨g, 0, none⟩) n c → g ≠ a.block) : OwnV (w.setCell a u) base v l := by
  refine ⟨h.1, ?_⟩
  rcases h.2 with h0 | ⟨g, cap, cur, hv, hB, hg, rest⟩
  · exact .inl h0
  · exact .inr ⟨g, cap, cur, hv, hB, Blk.other (w := w) (b := g) (vs := cur) (T := 58) hg a u (hv' _ _ _ hv), rest⟩
theorem OwnV.base {w w' : World} {base : Nat} {v : Value} {l : List Mv} (h : OwnV w base v l) (hg : w.grownBy w' v.ownBlock) {B : Nat} {a : World} (hb : Below B a w) (hB : B ≤ base) (hs : B ≤ w.heap.size) : Below B a w' :=
  hb.grown hg hs (fun k hk => by
    rcases h.2 with ⟨rfl, _⟩ | ⟨g, cap, cur, rfl, hbg, _⟩
    · simp [Value.ownBlock] at hk
    · simp [Value.ownBlock] at hk; omega)
theorem OwnV.alloc {w : World} {base : Nat} {v : Value} {l : List Mv} (h : OwnV w base v l) (o : Obj) : OwnV (w.alloc o) base v l := h.below (below_of w o)
theorem OwnV.slice {w : World} {base : Nat} {v : Value} {l : List Mv} (h : OwnV w base v l) : ∃ A c, v = .slice A l.length c := by
  obtain ⟨A, c, hv, _⟩ := h.of; exact ⟨A, c, hv⟩
theorem OwnV.nil (w : World) (base : Nat) : OwnV w base (.slice none 0 0) [] := ⟨rfl, .inl ⟨rfl, rfl⟩⟩
theorem OwnV.empty {w : World} {base g : Nat} (hB : base ≤ g) (hg : Blk w g #[] 58) : OwnV w base (.slice (some ⟨g, 0, none⟩) 0 0) [] :=
  ⟨rfl, .inr ⟨g, 0, #[], rfl, hB, hg, Nat.le_refl _, Nat.zero_le _, rfl, rfl⟩⟩
theorem OwnV.snoc {w' : World} {base : Nat} {v' : Value} {l : List Mv} {m : Mv} (h : w'.ownsRow base 58 2 v' (l.length + 1) (cellsV l ++ [.int .i64 m.1, .int .i64 m.2])) : OwnV w' base v' (l ++ [m]) := by
  unfold OwnV; rw [cellsV_snoc, List.length_append]; exact h
theorem news2 {w : World} {g : Nat} {x y : Value} {T : TypeId} (h : Blk w g #[x, y] T) : ∀ j u, [x, y][j]? = some u → w.cell? (Addr.add ⟨g, 0, none⟩ j) = some u := by
  intro j u hu
  have hj : j < 2 := (List.getElem?_eq_some_iff.1 hu).1
  have ea : Addr.add ⟨g, 0, none⟩ j = ⟨g, j, none⟩ := by
    unfold Addr.add
    split
    · rename_i h0; rw [h0]
    · simp
  rw [ea, h.cell]
  have : j = 0 ∨ j = 1 := by omega
  rcases this with rfl | rfl <;> simpa using hu
theorem one2 {x y : Int} : ∀ u ∈ [Value.int .i64 x, Value.int .i64 y], u.oneCell' = true := by
  intro u hu; simp at hu; rcases hu with rfl | rfl <;> rfl
end Go.Proofs.YtcgfklljbblhlaaGreatDoor.Ko
