/- Lists of results in the exact laws: converted, sized, compared, marked. -/
import Derived.Test.YtjanalljaacnoaaJm
namespace Go.Proofs.Ytjanalljaacnoaa.Ko
open Go.ChangeShapes Go.WideShapes Go.ChangeAt Go.RowKit Base Sq In
set_option linter.unusedVariables false
set_option maxRecDepth 20000
attribute [local irreducible] wpQuiet

/-- the first k elements of a block are steps of the list -/
def StepsIn (cs : Array Value) (l : List St) (k : Nat) : Prop := ∀ i, i < k → cs[i * 3]? = some (.int .i64 (stAt l i).dx) ∧ cs[i * 3 + 1]? = some (.int .i64 (stAt l i).dy) ∧ cs[i * 3 + 2]? = some (.int .i64 (stAt l i).far)
theorem StepsIn.next {cs : Array Value} {l : List St} {k : Nat} (h : StepsIn cs l k) (hs : k * 3 + 2 < cs.size) :
    StepsIn (((cs.setIfInBounds (k * 3) (.int .i64 (stAt l k).dx)).setIfInBounds (k * 3 + 1) (.int .i64 (stAt l k).dy)).setIfInBounds (k * 3 + 2) (.int .i64 (stAt l k).far)) l (k + 1) := by
  refine all_succ (fun i hi => ?_) ?_
  · obtain ⟨h1, h2, h3⟩ := h i hi
    exact ⟨set_get (set_get (set_get h1 (by omega)) (by omega)) (by omega), set_get (set_get (set_get h2 (by omega)) (by omega)) (by omega), set_get (set_get (set_get h3 (by omega)) (by omega)) (by omega)⟩
  · exact ⟨set_get (set_get (set_same (by omega)) (by omega)) (by omega), set_get (set_same (by simp; omega)) (by omega), set_same (by simp; omega)⟩
theorem StepsIn.is {w : World} {g : Nat} {cs : Array Value} {T : TypeId} {l : List St} (h : StepsIn cs l l.length) (hb : Blk w g cs T) : IsSteps w w.heap.size (some ⟨g, 0, none⟩) l := fun hn =>
  ⟨g, 0, rfl, hb.lt, fun i hi => by
    obtain ⟨h1, h2, h3⟩ := h i hi
    simp only [Nat.zero_add, hb.cell]
    exact ⟨h1, h2, h3⟩⟩
theorem resInfo : (Try.prog.info? 76).map (fun i => (i.zero, i.size, i.bytes)) = some (some (.agg #[.int .i64 0, .int .i64 0, .int .i64 0]), 3, 24) := by kernel_rfl

/-- the slice is a new block, from B on, that holds the men -/
def NewRes (B : Nat) (w' : World) (g : Nat) (l : List St) : Prop := ∃ cs, B ≤ g ∧ Blk w' g cs 76 ∧ StepsIn cs l l.length
theorem NewRes.is {B : Nat} {w' : World} {g : Nat} {l : List St} (h : NewRes B w' g l) : IsSteps w' w'.heap.size (some ⟨g, 0, none⟩) l := by
  obtain ⟨cs, _, hb, hi⟩ := h; exact hi.is hb
theorem NewRes.lt {B : Nat} {w : World} {g : Nat} {l : List St} (h : NewRes B w g l) : g < w.heap.size := by obtain ⟨cs, _, hb, _⟩ := h; exact hb.lt
theorem NewRes.other {B : Nat} {w' : World} {g : Nat} {l : List St} (h : NewRes B w' g l) (a : Addr) (u : Value) (ha : a.block < B) : NewRes B (w'.setCell a u) g l := by
  obtain ⟨cs, h1, hb, hi⟩ := h; exact ⟨cs, h1, hb.other a u (by omega), hi⟩
theorem NewRes.below {B : Nat} {w' w2 : World} {g : Nat} {l : List St} (h : NewRes B w' g l) (hb : Below w'.heap.size w' w2) : NewRes B w2 g l := by
  obtain ⟨cs, h1, hk, hi⟩ := h; exact ⟨cs, h1, hk.below hb hk.lt, hi⟩
theorem NewRes.from_ {B B0 : Nat} {w' : World} {g : Nat} {l : List St} (h : NewRes B w' g l) (hb : B0 ≤ B) : NewRes B0 w' g l := by
  obtain ⟨cs, h1, hk, hi⟩ := h; exact ⟨cs, by omega, hk, hi⟩
def ResPost (W w' : World) (l : List St) (e : Ending) : Prop := ∃ g c', e = .returned (.slice (some ⟨g, 0, none⟩) l.length c') ∧ NewRes W.heap.size w' g l ∧ Below W.heap.size W w'

/-- men in a block of the call's own, from lo below hi -/
def ResA (lo hi : Nat) (w : World) (A : Option Addr) (l : List St) : Prop :=
  0 < l.length → ∃ b cs, A = some ⟨b, 0, none⟩ ∧ lo ≤ b ∧ b < hi ∧ Blk w b cs 76 ∧ l.length * 3 ≤ cs.size ∧ StepsIn cs l l.length
theorem ResA.nil (lo hi : Nat) (w : World) (A : Option Addr) : ResA lo hi w A [] := fun h => absurd h (by simp)
theorem ResA.is {lo hi : Nat} {w : World} {A : Option Addr} {l : List St} (h : ResA lo hi w A l) : IsSteps w hi A l := fun hn => by
  obtain ⟨b, cs, rfl, h1, h2, h3, h4, h5⟩ := h hn
  refine ⟨b, 0, rfl, h2, fun i hi' => ?_⟩
  obtain ⟨e1, e2, e3⟩ := h5 i hi'
  simp only [Nat.zero_add, h3.cell]
  exact ⟨e1, e2, e3⟩
theorem ResA.more {lo hi lo' hi' : Nat} {w : World} {A : Option Addr} {l : List St} (h : ResA lo hi w A l) (h1 : lo' ≤ lo) (h2 : hi ≤ hi') : ResA lo' hi' w A l := fun hn => by
  obtain ⟨b, cs, rfl, g1, g2, h3⟩ := h hn
  exact ⟨b, cs, rfl, by omega, by omega, h3⟩
theorem ResA.below {lo hi : Nat} {w w' : World} {A : Option Addr} {l : List St} (h : ResA lo hi w A l) (hb : Below hi w w') : ResA lo hi w' A l := fun hn => by
  obtain ⟨b, cs, rfl, h1, h2, h3, h4, h5⟩ := h hn
  exact ⟨b, cs, rfl, h1, h2, h3.below hb h2, h4, h5⟩
theorem ResA.span {lo hi lo' hi' : Nat} {w w' : World} {A : Option Addr} {l : List St} (h : ResA lo hi w A l) (hs : Span lo' hi' w w') (ho : hi ≤ lo' ∨ hi' ≤ lo) : ResA lo hi w' A l := fun hn => by
  obtain ⟨b, cs, rfl, h1, h2, h3, h4, h5⟩ := h hn
  exact ⟨b, cs, rfl, h1, h2, hs.blk h3 (by omega), h4, h5⟩
def marksM (k : Int) (n : Nat) : List St := (List.range n).map fun i : Nat => ⟨k + 3 * i, k + 3 * i + 1, k + 3 * i + 2⟩
theorem marksM_len (k : Int) (n : Nat) : (marksM k n).length = n := by simp [marksM]
theorem marksM_at {k : Int} {n i : Nat} (h : i < n) : stAt (marksM k n) i = ⟨k + 3 * i, k + 3 * i + 1, k + 3 * i + 2⟩ := by unfold stAt marksM; simp [List.getD_eq_getElem?_getD, h]

theorem NewRes.a {B : Nat} {w : World} {g : Nat} {l : List St} (h : NewRes B w g l) : ResA B w.heap.size w (some ⟨g, 0, none⟩) l := fun hn => by
  obtain ⟨cs, h1, hb, hi⟩ := h
  refine ⟨g, cs, rfl, h1, hb.lt, hb, ?_, hi⟩
  obtain ⟨_, _, h3⟩ := hi (l.length - 1) (by omega)
  have := size_of_some h3
  omega
theorem IsSteps.more {w : World} {B B' : Nat} {A : Option Addr} {l : List St} (h : IsSteps w B A l) (hB : B ≤ B') : IsSteps w B' A l := fun hn => by
  obtain ⟨b, off, rfl, hb, hc⟩ := h hn
  exact ⟨b, off, rfl, by omega, hc⟩
end Go.Proofs.Ytjanalljaacnoaa.Ko
