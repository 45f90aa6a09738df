/- Slices of men that a call has made: their cells. -/
import Derived.Test.YtjanalljaacnoaaJr
namespace Go.Proofs.Ytjanalljaacnoaa.Ko
open Go.ChangeShapes Go.WideShapes Go.ChangeAt Go.RowKit Base Sq In
set_option linter.unusedVariables false
set_option maxRecDepth 20000
attribute [local irreducible] wpQuiet

def cellsM : List St → List Value
  | [] => []
  | s :: l => .int .i64 s.dx :: .int .i64 s.dy :: .int .i64 s.far :: cellsM l
theorem cellsM_len (l : List St) : (cellsM l).length = l.length * 3 := by
  induction l with
  | nil => rfl
  | cons s l ih => simp only [cellsM, List.length_cons, ih]; omega
theorem cellsM_one (l : List St) : ∀ u ∈ cellsM l, u.oneCell' = true := by
  induction l with
  | nil => intro u hu; cases hu
  | cons s l ih =>
    intro u hu
    simp only [cellsM, List.mem_cons] at hu
    rcases hu with rfl | rfl | rfl | hu
    · rfl
    · rfl
    · rfl
    · exact ih u hu
theorem cellsM_snoc (l : List St) (s : St) : cellsM (l ++ [s]) = cellsM l ++ [.int .i64 s.dx, .int .i64 s.dy, .int .i64 s.far] := by
  induction l with
  | nil => rfl
  | cons a l ih => simp only [List.cons_append, cellsM, ih]
theorem stAt_cons (s : St) (l : List St) (i : Nat) : stAt (s :: l) (i + 1) = stAt l i := by simp [stAt]
theorem cellsM_at (l : List St) : ∀ i, i < l.length → (cellsM l)[i * 3]? = some (.int .i64 (stAt l i).dx) ∧ (cellsM l)[i * 3 + 1]? = some (.int .i64 (stAt l i).dy) ∧ (cellsM l)[i * 3 + 2]? = some (.int .i64 (stAt l i).far) := by
  induction l with
  | nil => intro i hi; exact absurd hi (by simp)
  | cons s l ih =>
    intro i hi
    cases i with
    | zero => exact ⟨rfl, rfl, rfl⟩
    | succ i =>
      obtain ⟨h1, h2, h3⟩ := ih i (by simpa using hi)
      rw [stAt_cons, show (i + 1) * 3 = i * 3 + 3 from by omega]
      exact ⟨h1, h2, h3⟩
theorem cellsM_get {l : List St} {j : Nat} {u : Value} (h : (cellsM l)[j]? = some u) :
    ∃ i, i < l.length ∧ ((j = i * 3 ∧ u = .int .i64 (stAt l i).dx) ∨ (j = i * 3 + 1 ∧ u = .int .i64 (stAt l i).dy) ∨ (j = i * 3 + 2 ∧ u = .int .i64 (stAt l i).far)) := by
  have hj : j < l.length * 3 := by rw [← cellsM_len]; exact (List.getElem?_eq_some_iff.1 h).1
  obtain ⟨h1, h2, h3⟩ := cellsM_at l (j / 3) (by omega)
  refine ⟨j / 3, by omega, ?_⟩
  have hm : j % 3 = 0 ∨ j % 3 = 1 ∨ j % 3 = 2 := by omega
  rcases hm with hm | hm | hm
  · have e : j = j / 3 * 3 := by omega
    rw [← e, h] at h1; cases h1; exact .inl ⟨e, rfl⟩
  · have e : j = j / 3 * 3 + 1 := by omega
    rw [← e, h] at h2; cases h2; exact .inr (.inl ⟨e, rfl⟩)
  · have e : j = j / 3 * 3 + 2 := by omega
    rw [← e, h] at h3; cases h3; exact .inr (.inr ⟨e, rfl⟩)
/-- what is appended: the cells of men that lie in a block -/
theorem IsSteps.news {w : World} {B b off : Nat} {l : List St} (h : IsSteps w B (some ⟨b, off, none⟩) l) : ∀ j u, (cellsM l)[j]? = some u → w.cell? (Addr.add ⟨b, off, none⟩ j) = some u := by
  intro j u hu
  obtain ⟨i, hi, hc⟩ := cellsM_get hu
  obtain ⟨b', off', he, _, hh⟩ := h (by omega)
  cases he
  obtain ⟨h1, h2, h3⟩ := hh i hi
  have ea : Addr.add ⟨b, off, none⟩ j = ⟨b, off + j, none⟩ := by
    unfold Addr.add
    split
    · rename_i h0; rw [h0]; rfl
    · rfl
  rw [ea]
  rcases hc with ⟨rfl, rfl⟩ | ⟨rfl, rfl⟩ | ⟨rfl, rfl⟩
  · exact h1
  · rw [← Nat.add_assoc]; exact h2
  · rw [← Nat.add_assoc]; exact h3
/-- men in a block of the call's own, from lo below hi -/
def RxA (lo hi : Nat) (w : World) (A : Option Addr) (l : List St) : Prop :=
  0 < l.length → ∃ b cs, A = some ⟨b, 0, none⟩ ∧ lo ≤ b ∧ b < hi ∧ Blk w b cs 76 ∧ l.length * 3 ≤ cs.size ∧ StepsIn cs l l.length
theorem RxA.of {w : World} {base : Nat} {v : Value} {l : List St} (h : w.ownsRow base 76 3 v l.length (cellsM l)) : ∃ A c, v = .slice A l.length c ∧ RxA base w.heap.size w A l := by
  rcases h.2 with ⟨rfl, h0⟩ | ⟨g, cap, cur, rfl, hb, hg, hn, hm, hs, ht⟩
  · exact ⟨none, 0, by rw [h0], fun hp => by omega⟩
  · refine ⟨some ⟨g, 0, none⟩, cap, rfl, fun _ => ⟨g, cur, rfl, hb, lt_of_block hg, hg, by omega, fun i hi => ?_⟩⟩
    obtain ⟨h1, h2, h3⟩ := cellsM_at l i hi
    rw [← ht, List.getElem?_take_of_lt (by omega)] at h1 h2 h3
    exact ⟨by simpa using h1, by simpa using h2, by simpa using h3⟩
theorem RxA.nil (lo hi : Nat) (w : World) (A : Option Addr) : RxA lo hi w A [] := fun h => absurd h (by simp)
theorem RxA.is {lo hi : Nat} {w : World} {A : Option Addr} {l : List St} (h : RxA lo hi w A l) : IsSteps w hi A l := fun hn => by
  obtain ⟨b, cs, rfl, h1, h2, h3, h4, h5⟩ := h hn
  refine ⟨b, 0, rfl, h2, fun i hi' => ?_⟩
  obtain ⟨e1, e2, e3⟩ := h5 i hi'
  simp only [Nat.zero_add, h3.cell]
  exact ⟨e1, e2, e3⟩
theorem RxA.more {lo hi lo' hi' : Nat} {w : World} {A : Option Addr} {l : List St} (h : RxA lo hi w A l) (h1 : lo' ≤ lo) (h2 : hi ≤ hi') : RxA lo' hi' w A l := fun hn => by
  obtain ⟨b, cs, rfl, g1, g2, h3⟩ := h hn
  exact ⟨b, cs, rfl, by omega, by omega, h3⟩
theorem RxA.below {lo hi : Nat} {w w' : World} {A : Option Addr} {l : List St} (h : RxA lo hi w A l) (hb : Below hi w w') : RxA lo hi w' A l := fun hn => by
  obtain ⟨b, cs, rfl, h1, h2, h3, h4, h5⟩ := h hn
  exact ⟨b, cs, rfl, h1, h2, h3.below hb h2, h4, h5⟩
/-- the men that have been appended -/
def OwnR (w : World) (base : Nat) (v : Value) (n : Nat) (l : List St) : Prop := w.ownsRow base 76 3 v n (cellsM l)
theorem OwnR.below {w w' : World} {base n : Nat} {v : Value} {l : List St} (h : OwnR w base v n l) (hb : Below w.heap.size w w') : OwnR w' base v n l := by
  refine ⟨h.1, ?_⟩
  rcases h.2 with h0 | ⟨g, cap, cur, hv, hB, hg, rest⟩
  · exact .inl h0
  · exact .inr ⟨g, cap, cur, hv, hB, (hb.block g (lt_of_block hg)).trans hg, rest⟩
theorem OwnR.other {w : World} {base n : Nat} {v : Value} {l : List St} (h : OwnR w base v n l) (a : Addr) (u : Value) (ha : a.block < base) : OwnR (w.setCell a u) base v n l := by
  refine ⟨h.1, ?_⟩
  rcases h.2 with h0 | ⟨g, cap, cur, hv, hB, hg, rest⟩
  · exact .inl h0
  · exact .inr ⟨g, cap, cur, hv, hB, Blk.other (w := w) (b := g) (vs := cur) (T := 76) hg a u (by omega), rest⟩
theorem OwnR.base {w w' : World} {base n : Nat} {v : Value} {l : List St} (h : OwnR w base v n l) (hg : w.grownBy w' v.ownBlock) {B : Nat} {a : World} (hb : Below B a w) (hB : B ≤ base) (hs : B ≤ w.heap.size) : Below B a w' :=
  hb.grown hg hs (fun k hk => by
    rcases h.2 with ⟨rfl, _⟩ | ⟨g, cap, cur, rfl, hbg, _⟩
    · simp [Value.ownBlock] at hk
    · simp [Value.ownBlock] at hk; omega)
theorem OwnR.alloc {w : World} {base n : Nat} {v : Value} {l : List St} (h : OwnR w base v n l) (o : Obj) : OwnR (w.alloc o) base v n l := h.below (below_of w o)
theorem OwnR.slice {w : World} {base n : Nat} {v : Value} {l : List St} (h : OwnR w base v n l) : ∃ A c, v = .slice A n c := by
  rcases h.2 with ⟨rfl, h0⟩ | ⟨g, cap, cur, rfl, _⟩
  · exact ⟨none, 0, by rw [h0]⟩
  · exact ⟨_, cap, rfl⟩
theorem OwnR.snoc {w' : World} {base n : Nat} {v' : Value} {l : List St} {s : St} (h : w'.ownsRow base 76 3 v' (n + 1) (cellsM l ++ [.int .i64 s.dx, .int .i64 s.dy, .int .i64 s.far])) : OwnR w' base v' (n + 1) (l ++ [s]) := by
  unfold OwnR; rw [cellsM_snoc]; exact h
theorem news3 {w : World} {g : Nat} {x y z : Value} {T : TypeId} (h : Blk w g #[x, y, z] T) : ∀ j u, [x, y, z][j]? = some u → w.cell? (Addr.add ⟨g, 0, none⟩ j) = some u := by
  intro j u hu
  have hj : j < 3 := (List.getElem?_eq_some_iff.1 hu).1
  have ea : Addr.add ⟨g, 0, none⟩ j = ⟨g, j, none⟩ := by
    unfold Addr.add
    split
    · rename_i h0; rw [h0]
    · simp
  rw [ea, h.cell]
  have : j = 0 ∨ j = 1 ∨ j = 2 := by omega
  rcases this with rfl | rfl | rfl <;> simpa using hu

end Go.Proofs.Ytjanalljaacnoaa.Ko
