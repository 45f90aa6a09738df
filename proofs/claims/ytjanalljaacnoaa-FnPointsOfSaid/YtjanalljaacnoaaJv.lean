/- Whole numbers as arguments of the exact laws: what is known of them as they are read; their conversion. -/
import Derived.Test.YtjanalljaacnoaaJa
import Derived.Test.YtjanalljaacnoaaJq
namespace Go.Proofs.Ytjanalljaacnoaa.Ko
open Go.ChangeShapes Go.WideShapes Go.ChangeAt Go.RowKit Base Sq In
set_option linter.unusedVariables false
set_option maxRecDepth 20000
attribute [local irreducible] wpQuiet

/-- a slice of whole numbers that came in -/
def IsNums (w : World) (B : Nat) (A : Option Addr) (l : List Int) : Prop :=
  0 < l.length → ∃ b off, A = some ⟨b, off, none⟩ ∧ b < B ∧ ∀ i, i < l.length → w.cell? ⟨b, off + i, none⟩ = some (.int .i64 (iAt l i))
theorem IsNums.below {w w' : World} {B : Nat} {A : Option Addr} {l : List Int} (h : IsNums w B A l) (hb : Below B w w') : IsNums w' B A l := fun hn => by
  obtain ⟨b, off, rfl, hB, hc⟩ := h hn
  exact ⟨b, off, rfl, hB, fun i hi => (hb.cell (p := ⟨b, off + i, none⟩) hB).trans (hc i hi)⟩
theorem IsNums.more {w : World} {B B' : Nat} {A : Option Addr} {l : List Int} (h : IsNums w B A l) (hB : B ≤ B') : IsNums w B' A l := fun hn => by
  obtain ⟨b, off, rfl, hb, hc⟩ := h hn
  exact ⟨b, off, rfl, by omega, hc⟩
/-- the first k elements of a block are numbers of the list -/
def NumsIn (cs : Array Value) (l : List Int) (k : Nat) : Prop := ∀ i, i < k → cs[i]? = some (.int .i64 (iAt l i))
theorem NumsIn.next {cs : Array Value} {l : List Int} {k : Nat} (h : NumsIn cs l k) (hs : k < cs.size) : NumsIn (cs.setIfInBounds k (.int .i64 (iAt l k))) l (k + 1) := by
  refine all_succ (fun i hi => ?_) ?_
  · exact set_get (h i hi) (by omega)
  · exact set_same hs
/-- the slice is a new block, from B on, that holds the numbers -/
def NewNums (B : Nat) (w' : World) (g : Nat) (l : List Int) : Prop := ∃ cs, B ≤ g ∧ Blk w' g cs 3 ∧ cs.size = l.length ∧ NumsIn cs l l.length
theorem NewNums.is {B : Nat} {w' : World} {g : Nat} {l : List Int} (h : NewNums B w' g l) : IsInts w' w'.heap.size (some ⟨g, 0, none⟩) l := fun _ => by
  obtain ⟨cs, _, hb, _, hi⟩ := h
  exact ⟨g, rfl, hb.lt, fun i hi' => (hb.cell i).trans (hi i hi')⟩
theorem NewNums.lt {B : Nat} {w : World} {g : Nat} {l : List Int} (h : NewNums B w g l) : g < w.heap.size := by obtain ⟨cs, _, hb, _⟩ := h; exact hb.lt
theorem NewNums.other {B : Nat} {w' : World} {g : Nat} {l : List Int} (h : NewNums B w' g l) (a : Addr) (u : Value) (ha : a.block < B) : NewNums B (w'.setCell a u) g l := by
  obtain ⟨cs, h1, hb, hi⟩ := h; exact ⟨cs, h1, hb.other a u (by omega), hi⟩
theorem NewNums.below {B : Nat} {w' w2 : World} {g : Nat} {l : List Int} (h : NewNums B w' g l) (hb : Below w'.heap.size w' w2) : NewNums B w2 g l := by
  obtain ⟨cs, h1, hk, hi⟩ := h; exact ⟨cs, h1, hk.below hb hk.lt, hi⟩
theorem NewNums.from_ {B B0 : Nat} {w' : World} {g : Nat} {l : List Int} (h : NewNums B w' g l) (hb : B0 ≤ B) : NewNums B0 w' g l := by
  obtain ⟨cs, h1, hk, hi⟩ := h; exact ⟨cs, by omega, hk, hi⟩
def NumsPost (W w' : World) (l : List Int) (e : Ending) : Prop := ∃ g c', e = .returned (.slice (some ⟨g, 0, none⟩) l.length c') ∧ NewNums W.heap.size w' g l ∧ Below W.heap.size W w'

end Go.Proofs.Ytjanalljaacnoaa.Ko
