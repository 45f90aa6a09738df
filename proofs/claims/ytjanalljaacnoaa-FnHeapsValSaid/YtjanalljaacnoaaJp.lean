/- Lists of pairs of whole numbers (moves of heaps, what is left, who plays whom), of any type of two numbers. -/
import Derived.Test.YtjanalljaacnoaaJm
namespace Go.Proofs.Ytjanalljaacnoaa.Ko
open Go.ChangeShapes Go.WideShapes Go.ChangeAt Go.RowKit Base Sq In
set_option linter.unusedVariables false
set_option maxRecDepth 20000

abbrev Pr := Int × Int
def prAt (l : List Pr) (i : Nat) : Pr := l.getD i (0, 0)
def cellsP : List Pr → List Value
  | [] => []
  | m :: l => .int .i64 m.1 :: .int .i64 m.2 :: cellsP l
theorem cellsP_len (l : List Pr) : (cellsP l).length = l.length * 2 := by
  induction l with
  | nil => rfl
  | cons s l ih => simp only [cellsP, List.length_cons, ih]; omega
theorem cellsP_snoc (l : List Pr) (m : Pr) : cellsP (l ++ [m]) = cellsP l ++ [.int .i64 m.1, .int .i64 m.2] := by
  induction l with
  | nil => rfl
  | cons a l ih => simp only [List.cons_append, cellsP, ih]
theorem prAt_cons (m : Pr) (l : List Pr) (i : Nat) : prAt (m :: l) (i + 1) = prAt l i := by simp [prAt]
theorem cellsP_at (l : List Pr) : ∀ i, i < l.length → (cellsP l)[i * 2]? = some (.int .i64 (prAt l i).1) ∧ (cellsP l)[i * 2 + 1]? = some (.int .i64 (prAt l i).2) := by
  induction l with
  | nil => intro i hi; exact absurd hi (by simp)
  | cons s l ih =>
    intro i hi
    cases i with
    | zero => exact ⟨rfl, rfl⟩
    | succ i =>
      obtain ⟨h1, h2⟩ := ih i (by simpa using hi)
      rw [prAt_cons, show (i + 1) * 2 = i * 2 + 2 from by omega]
      exact ⟨h1, h2⟩
/-- moves in a block of the call's own, from lo below hi -/
def PrA (T : TypeId) (lo hi : Nat) (w : World) (A : Option Addr) (l : List Pr) : Prop :=
  0 < l.length → ∃ b cs, A = some ⟨b, 0, none⟩ ∧ lo ≤ b ∧ b < hi ∧ Blk w b cs T ∧ l.length * 2 ≤ cs.size ∧ ∀ i, i < l.length → cs[i * 2]? = some (.int .i64 (prAt l i).1) ∧ cs[i * 2 + 1]? = some (.int .i64 (prAt l i).2)
theorem PrA.nil (T : TypeId) (lo hi : Nat) (w : World) (A : Option Addr) : PrA T lo hi w A [] := fun h => absurd h (by simp)
theorem PrA.below {T : TypeId} {lo hi : Nat} {w w' : World} {A : Option Addr} {l : List Pr} (h : PrA T lo hi w A l) (hb : Below hi w w') : PrA T lo hi w' A l := fun hn => by
  obtain ⟨b, cs, rfl, h1, h2, h3, h4⟩ := h hn
  exact ⟨b, cs, rfl, h1, h2, h3.below hb h2, h4⟩
theorem PrA.more {T : TypeId} {lo hi lo' hi' : Nat} {w : World} {A : Option Addr} {l : List Pr} (h : PrA T lo hi w A l) (h1 : lo' ≤ lo) (h2 : hi ≤ hi') : PrA T lo' hi' w A l := fun hn => by
  obtain ⟨b, cs, rfl, g1, g2, h3⟩ := h hn
  exact ⟨b, cs, rfl, by omega, by omega, h3⟩
/-- the cells of a move of the list -/
theorem PrA.at {T : TypeId} {lo hi : Nat} {w : World} {A : Option Addr} {l : List Pr} (h : PrA T lo hi w A l) {i : Nat} (hi' : i < l.length) : ∃ b, A = some ⟨b, 0, none⟩ ∧ b < hi ∧ w.cell? ⟨b, i * 2, none⟩ = some (.int .i64 (prAt l i).1) ∧ w.cell? ⟨b, i * 2 + 1, none⟩ = some (.int .i64 (prAt l i).2) := by
  obtain ⟨b, cs, rfl, g1, g2, h3, h4, h5⟩ := h (by omega)
  obtain ⟨e1, e2⟩ := h5 i hi'
  exact ⟨b, rfl, g2, (h3.cell _).trans e1, (h3.cell _).trans e2⟩
/-- the moves that have been appended -/
def OwnP (T : TypeId) (w : World) (base : Nat) (v : Value) (l : List Pr) : Prop := w.ownsRow base T 2 v l.length (cellsP l)
theorem OwnP.of {T : TypeId} {w : World} {base : Nat} {v : Value} {l : List Pr} (h : OwnP T w base v l) : ∃ A c, v = .slice A l.length c ∧ PrA T base w.heap.size w A l := by
  rcases h.2 with ⟨rfl, h0⟩ | ⟨g, cap, cur, rfl, hb, hg, hn, hm, hs, ht⟩
  · exact ⟨none, 0, by rw [h0], fun hp => by omega⟩
  · refine ⟨some ⟨g, 0, none⟩, cap, rfl, fun _ => ⟨g, cur, rfl, hb, lt_of_block hg, hg, by omega, fun i hi => ?_⟩⟩
    obtain ⟨h1, h2⟩ := cellsP_at l i hi
    rw [← ht, List.getElem?_take_of_lt (by omega)] at h1 h2
    exact ⟨by simpa using h1, by simpa using h2⟩
theorem OwnP.below {T : TypeId} {w w' : World} {base : Nat} {v : Value} {l : List Pr} (h : OwnP T w base v l) (hb : Below w.heap.size w w') : OwnP T w' base v l := by
  refine ⟨h.1, ?_⟩
  rcases h.2 with h0 | ⟨g, cap, cur, hv, hB, hg, rest⟩
  · exact .inl h0
  · exact .inr ⟨g, cap, cur, hv, hB, (hb.block g (lt_of_block hg)).trans hg, rest⟩
theorem OwnP.other {T : TypeId} {w : World} {base : Nat} {v : Value} {l : List Pr} (h : OwnP T w base v l) (a : Addr) (u : Value) {g' : Nat} (hv' : ∀ g n c, v = .slice (some ⟨g, 0, none⟩) n c → g ≠ a.block) : OwnP T (w.setCell a u) base v l := by
  refine ⟨h.1, ?_⟩
  rcases h.2 with h0 | ⟨g, cap, cur, hv, hB, hg, rest⟩
  · exact .inl h0
  · exact .inr ⟨g, cap, cur, hv, hB, Blk.other (w := w) (b := g) (vs := cur) (T := T) hg a u (hv' _ _ _ hv), rest⟩
theorem OwnP.base {T : TypeId} {w w' : World} {base : Nat} {v : Value} {l : List Pr} (h : OwnP T w base v l) (hg : w.grownBy w' v.ownBlock) {B : Nat} {a : World} (hb : Below B a w) (hB : B ≤ base) (hs : B ≤ w.heap.size) : Below B a w' :=
  hb.grown hg hs (fun k hk => by
    rcases h.2 with ⟨rfl, _⟩ | ⟨g, cap, cur, rfl, hbg, _⟩
    · simp [Value.ownBlock] at hk
    · simp [Value.ownBlock] at hk; omega)
theorem OwnP.alloc {T : TypeId} {w : World} {base : Nat} {v : Value} {l : List Pr} (h : OwnP T w base v l) (o : Obj) : OwnP T (w.alloc o) base v l := h.below (below_of w o)
theorem OwnP.slice {T : TypeId} {w : World} {base : Nat} {v : Value} {l : List Pr} (h : OwnP T w base v l) : ∃ A c, v = .slice A l.length c := by
  obtain ⟨A, c, hv, _⟩ := h.of; exact ⟨A, c, hv⟩
theorem OwnP.nil (T : TypeId) (w : World) (base : Nat) : OwnP T w base (.slice none 0 0) [] := ⟨rfl, .inl ⟨rfl, rfl⟩⟩
theorem OwnP.empty {T : TypeId} {w : World} {base g : Nat} (hB : base ≤ g) (hg : Blk w g #[] T) : OwnP T w base (.slice (some ⟨g, 0, none⟩) 0 0) [] :=
  ⟨rfl, .inr ⟨g, 0, #[], rfl, hB, hg, Nat.le_refl _, Nat.zero_le _, rfl, rfl⟩⟩
theorem OwnP.snoc {T : TypeId} {w' : World} {base : Nat} {v' : Value} {l : List Pr} {m : Pr} (h : w'.ownsRow base T 2 v' (l.length + 1) (cellsP l ++ [.int .i64 m.1, .int .i64 m.2])) : OwnP T w' base v' (l ++ [m]) := by
  unfold OwnP; rw [cellsP_snoc, List.length_append]; exact h
theorem news2 {w : World} {g : Nat} {x y : Value} {T : TypeId} (h : Blk w g #[x, y] T) : ∀ j u, [x, y][j]? = some u → w.cell? (Addr.add ⟨g, 0, none⟩ j) = some u := by
  intro j u hu
  have hj : j < 2 := (List.getElem?_eq_some_iff.1 hu).1
  have ea : Addr.add ⟨g, 0, none⟩ j = ⟨g, j, none⟩ := by
    unfold Addr.add
    split
    · rename_i h0; rw [h0]
    · simp
  rw [ea, h.cell]
  have : j = 0 ∨ j = 1 := by omega
  rcases this with rfl | rfl <;> simpa using hu
theorem one2 {x y : Int} : ∀ u ∈ [Value.int .i64 x, Value.int .i64 y], u.oneCell' = true := by
  intro u hu; simp at hu; rcases hu with rfl | rfl <;> rfl
def IsPr (T : TypeId) (w : World) (B : Nat) (A : Option Addr) (l : List Pr) : Prop := PrA T 0 B w A l
theorem PrA.is {T : TypeId} {lo hi : Nat} {w : World} {A : Option Addr} {l : List Pr} (h : PrA T lo hi w A l) : IsPr T w hi A l := PrA.more h (Nat.zero_le _) (Nat.le_refl _)
theorem IsPr.more {T : TypeId} {w : World} {B B' : Nat} {A : Option Addr} {l : List Pr} (h : IsPr T w B A l) (hB : B ≤ B') : IsPr T w B' A l := PrA.more h (Nat.le_refl _) hB
theorem IsPr.below {T : TypeId} {w w' : World} {B : Nat} {A : Option Addr} {l : List Pr} (h : IsPr T w B A l) (hb : Below B w w') : IsPr T w' B A l := PrA.below h hb
theorem IsPr.at {T : TypeId} {w : World} {B : Nat} {A : Option Addr} {l : List Pr} (h : IsPr T w B A l) {i : Nat} (hi : i < l.length) : ∃ b, A = some ⟨b, 0, none⟩ ∧ b < B ∧ w.cell? ⟨b, i * 2, none⟩ = some (.int .i64 (prAt l i).1) ∧ w.cell? ⟨b, i * 2 + 1, none⟩ = some (.int .i64 (prAt l i).2) := PrA.at h hi
theorem PrA.span {T : TypeId} {lo hi lo' hi' : Nat} {w w' : World} {A : Option Addr} {l : List Pr} (h : PrA T lo hi w A l) (hs : Span lo' hi' w w') (ho : hi ≤ lo' ∨ hi' ≤ lo) : PrA T lo hi w' A l := fun hn => by
  obtain ⟨b, cs, rfl, h1, h2, h3, h4, h5⟩ := h hn
  exact ⟨b, cs, rfl, h1, h2, hs.blk h3 (by omega), h4, h5⟩
def marksP (k : Int) (n : Nat) : List Pr := (List.range n).map fun i : Nat => (k + 2 * i, k + 2 * i + 1)
theorem marksP_len (k : Int) (n : Nat) : (marksP k n).length = n := by simp [marksP]
theorem marksP_at {k : Int} {n i : Nat} (h : i < n) : prAt (marksP k n) i = (k + 2 * i, k + 2 * i + 1) := by unfold prAt marksP; simp [List.getD_eq_getElem?_getD, h]
/-- behind an append of one pair -/
theorem app_afterP {T : TypeId} {w w' : World} {base : Nat} {v v' : Value} {l L : List Pr} {x y : Int} (hO : OwnP T w base v l) (hL : L = l ++ [(x, y)]) (hown : w'.ownsRow base T 2 v' (l.length + 1) (cellsP l ++ [.int .i64 x, .int .i64 y])) (hg : (w.alloc (.cells #[.int .i64 x, .int .i64 y] T)).grownBy w' v.ownBlock) (hs : base ≤ w.heap.size) :
    ∃ B d, v' = .slice B L.length d ∧ OwnP T w' base (.slice B L.length d) L ∧ Below base w w' := by
  subst hL
  have hO' : OwnP T w' base v' (l ++ [(x, y)]) := OwnP.snoc (m := (x, y)) hown
  obtain ⟨B, d, hv⟩ := hO'.slice
  have hb := OwnP.base (hO.alloc (.cells #[.int .i64 x, .int .i64 y] T)) hg (Below.refl base _) (Nat.le_refl _) (by simp; omega)
  exact ⟨B, d, hv, hv ▸ hO', ((Below.refl base w).alloc hs _).trans hb⟩
/-- behind an append of one pair: which blocks stay -/
theorem app_afterP_at {T : TypeId} {w w' : World} {base c : Nat} {A : Option Addr} {v' : Value} {l L : List Pr} {x y : Int} (hO : OwnP T w base (.slice A l.length c) l) (hL : L = l ++ [(x, y)]) (hown : w'.ownsRow base T 2 v' (l.length + 1) (cellsP l ++ [.int .i64 x, .int .i64 y])) (hg : (w.alloc (.cells #[.int .i64 x, .int .i64 y] T)).grownBy w' (Value.slice A l.length c).ownBlock) (hloc : v'.ownBlock = (Value.slice A l.length c).ownBlock ∨ v'.ownBlock = some (w.alloc (.cells #[.int .i64 x, .int .i64 y] T)).heap.size) (hs : base ≤ w.heap.size) :
    ∃ B d, v' = .slice B L.length d ∧ OwnP T w' base (.slice B L.length d) L ∧ Below base w w' ∧ ∀ lb, lb < w.heap.size → A ≠ some ⟨lb, 0, none⟩ → B ≠ some ⟨lb, 0, none⟩ ∧ w'.heap[lb]? = w.heap[lb]? := by
  have hA : ∀ lb, A ≠ some ⟨lb, 0, none⟩ → (Value.slice A l.length c).ownBlock ≠ some lb := fun lb hne he => by
    rcases hO.2 with ⟨h0, _⟩ | ⟨g, cap, cur, h0, _⟩
    · rw [h0] at he; simp [Value.ownBlock] at he
    · simp only [Value.slice.injEq] at h0
      obtain ⟨rfl, _, _⟩ := h0
      simp only [Value.ownBlock, Option.some.injEq] at he
      exact hne (by rw [he])
  obtain ⟨B, d, rfl, h1, h2⟩ := app_afterP hO hL hown hg hs
  refine ⟨B, d, rfl, h1, h2, fun lb hlb hne => ⟨fun hB => ?_, ?_⟩⟩
  · subst hB
    rcases hloc with h | h
    · exact hA lb hne h.symm
    · simp [Value.ownBlock] at h; omega
  · have hz : lb < (w.alloc (.cells #[.int .i64 x, .int .i64 y] T)).heap.size := by simp; omega
    rw [hg.block lb hz (fun e => hA lb hne e.symm), (below_of w (.cells #[.int .i64 x, .int .i64 y] T)).block lb hlb]
theorem IsPr.stays {T : TypeId} {w w' : World} {B : Nat} {A : Option Addr} {l : List Pr} (h : IsPr T w B A l) (hk : ∀ b, A = some ⟨b, 0, none⟩ → w'.heap[b]? = w.heap[b]?) : IsPr T w' B A l := fun hn => by
  obtain ⟨b, cs, rfl, h1, h2, h3, h4⟩ := h hn
  exact ⟨b, cs, rfl, h1, h2, (hk b rfl).trans h3, h4⟩
theorem IsPr.atb {T : TypeId} {w : World} {B b : Nat} {l : List Pr} (h : IsPr T w B (some ⟨b, 0, none⟩) l) {i : Nat} (hi : i < l.length) {x y : Int} (e : prAt l i = (x, y)) : b < B ∧ w.cell? ⟨b, i * 2, none⟩ = some (.int .i64 x) ∧ w.cell? ⟨b, i * 2 + 1, none⟩ = some (.int .i64 y) := by
  obtain ⟨b', hb, hB, c0, c1⟩ := h.at hi
  obtain rfl : b = b' := by simpa using hb
  rw [e] at c0 c1
  exact ⟨hB, c0, c1⟩
/-- pairs in new memory -/
def PairNew (T : TypeId) (w w' : World) (l : List Pr) (e : Ending) : Prop := ∃ A c, e = .returned (.slice A l.length c) ∧ PrA T w.heap.size w'.heap.size w' A l ∧ Below w.heap.size w w'
theorem pairNew_of {T : TypeId} {w w' : World} {A : Option Addr} {c : Nat} {l : List Pr} (h : OwnP T w' w.heap.size (.slice A l.length c) l) (hb : Below w.heap.size w w') : PairNew T w w' l (.returned (.slice A l.length c)) := by
  obtain ⟨A', c', hv, hn⟩ := OwnP.of h
  cases hv
  exact ⟨A, c, rfl, hn, hb⟩
end Go.Proofs.Ytjanalljaacnoaa.Ko
