/- Lists of whole numbers in loops: read, grown, handed back. -/
import Derived.Test.YtjanalljaacnoaaJi
import Derived.Test.YtjanalljaacnoaaJv
namespace Go.Proofs.Ytjanalljaacnoaa.Ko
open Go.ChangeShapes Go.WideShapes Go.ChangeAt Go.RowKit Base Sq In
set_option linter.unusedVariables false
set_option maxRecDepth 20000

theorem _root_.Go.Proofs.Ytjanalljaacnoaa.In.IsInts.at {w : World} {B b : Nat} {l : List Int} (h : IsInts w B (some ⟨b, 0, none⟩) l) {i : Nat} (hi : i < l.length) : b < B ∧ w.cell? ⟨b, i, none⟩ = some (.int .i64 (iAt l i)) := by
  obtain ⟨b', hb, hB, hc⟩ := h (by omega)
  obtain rfl : b = b' := by simpa using hb
  exact ⟨hB, hc i hi⟩
theorem _root_.Go.Proofs.Ytjanalljaacnoaa.In.IsInts.some {w : World} {B : Nat} {A : Option Addr} {l : List Int} (h : IsInts w B A l) (hp : 0 < l.length) : ∃ b, A = some ⟨b, 0, none⟩ := by
  obtain ⟨b, hb, _⟩ := h hp; exact ⟨b, hb⟩
/-- a list of whole numbers in new memory -/
def LenNew (w w' : World) (l : List Int) (e : Ending) : Prop := ∃ A c, e = .returned (.slice A l.length c) ∧ NewInts w.heap.size w'.heap.size w' A l ∧ Below w.heap.size w w'
theorem _root_.Go.Proofs.Ytjanalljaacnoaa.In.own_nil' (w : World) (base : Nat) : In.Own w base (.slice none 0 0) [] := World.ownsRow_nil _ _ _ _
theorem _root_.Go.Proofs.Ytjanalljaacnoaa.In.own_more' {w : World} {base base' : Nat} {v : Value} {l : List Int} (h : In.Own w base v l) (hb : base' ≤ base) : In.Own w base' v l := by
  refine ⟨h.1, ?_⟩
  rcases h.2 with h0 | ⟨g, cap, cur, hv, hB, rest⟩
  · exact .inl h0
  · exact .inr ⟨g, cap, cur, hv, by omega, rest⟩
theorem _root_.Go.Proofs.Ytjanalljaacnoaa.In.own_grown' {w' : World} {base : Nat} {v' : Value} {l : List Int} {x : Int} (h : w'.ownsRow base 3 1 v' (l.length + 1) (nums l ++ [.int .i64 x])) : In.Own w' base v' (l ++ [x]) := by
  unfold In.Own; rw [nums_snoc, List.length_append]; exact h
theorem lenNew_of {w w' : World} {A : Option Addr} {c : Nat} {l : List Int} (h : In.Own w' w.heap.size (.slice A l.length c) l) (hb : Below w.heap.size w w') : LenNew w w' l (.returned (.slice A l.length c)) := by
  obtain ⟨A', c', hv, hn⟩ := NewInts.of h
  cases hv
  exact ⟨A, c, rfl, hn, hb⟩
theorem NewNums.ints {B : Nat} {w : World} {g : Nat} {l : List Int} (h : NewNums B w g l) : NewInts B w.heap.size w (some ⟨g, 0, none⟩) l := fun _ => by
  obtain ⟨cs, h1, hb, hs, hi⟩ := h
  exact ⟨g, cs, rfl, h1, hb.lt, hb, by omega, hi⟩
/-- a block of another type is not the list's own -/
theorem own_apart {w : World} {base : Nat} {v : Value} {l : List Int} (h : In.Own w base v l) {g : Nat} {vs : Array Value} {T : TypeId} (hg : Blk w g vs T) (hT : T ≠ 3) : v.ownBlock ≠ some g := by
  rcases h.2 with ⟨rfl, _⟩ | ⟨g', cap, cur, rfl, hb, hg', _⟩
  · simp [Value.ownBlock]
  · intro hk
    obtain rfl : g' = g := by simpa [Value.ownBlock] using hk
    have h1 : w.heap[g']? = some (.cells cur 3) := hg'
    have h2 : w.heap[g']? = some (.cells vs T) := hg
    rw [h1] at h2
    simp at h2
    exact hT h2.2.symm
theorem blk_grown5 {w w' : World} {b : Nat} {vs : Array Value} {T : TypeId} {row : Option Nat} (h : Blk w b vs T) (hg : w.grownBy w' row) (hne : row ≠ some b) : Blk w' b vs T := by
  unfold Blk at *; rw [hg.block b (lt_of_block h) (fun e => hne e.symm)]; exact h
/-- behind an append of one number -/
theorem app_after {w w' : World} {base : Nat} {v v' : Value} {l L : List Int} {x : Int} (hO : In.Own w base v l) (hL : L = l ++ [x]) (hown : w'.ownsRow base 3 1 v' (l.length + 1) (nums l ++ [.int .i64 x])) (hg : (w.alloc (.cells #[.int .i64 x] 3)).grownBy w' v.ownBlock) (hs : base ≤ w.heap.size) :
    ∃ B d, v' = .slice B L.length d ∧ In.Own w' base (.slice B L.length d) L ∧ Below base w w' := by
  subst hL
  have hO' := own_grown' hown
  obtain ⟨B, d, hv⟩ := hO'.slice
  have hb := own_base (l := l) (World.ownsRow.alloc hO (.cells #[.int .i64 x] 3)) hg (Below.refl base _) (Nat.le_refl _) (by simp; omega)
  exact ⟨B, d, hv, hv ▸ hO', ((Below.refl base w).alloc hs _).trans hb⟩
end Go.Proofs.Ytjanalljaacnoaa.Ko
