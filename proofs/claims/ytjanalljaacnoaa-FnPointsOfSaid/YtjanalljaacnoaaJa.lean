/- Of seats without rules: cells, blocks that are marked, triples. Speaks of no program. -/
import Derived.Test.YtjanalljaacnoaaIn
import Derived.Test.YtjanalljaacnoaaSq
namespace Go.Proofs.Ytjanalljaacnoaa.Ko
open Go.ChangeShapes Go.WideShapes Go.ChangeAt Go.RowKit Base Sq In
set_option linter.unusedVariables false
set_option maxRecDepth 20000

theorem ltge (a b : Int) : a < b ∨ b ≤ a := by omega
theorem old_cell {cs : Array Value} {i : Nat} (h : i < cs.size) : ∃ v, cs[i]? = some v := ⟨_, Array.getElem?_eq_getElem h⟩
/-- a block of at least m cells -/
def BlkG (w : World) (b m : Nat) (T : TypeId) : Prop := ∃ vs, Blk w b vs T ∧ m ≤ vs.size
theorem BlkG.lt {w : World} {b m : Nat} {T : TypeId} (h : BlkG w b m T) : b < w.heap.size := by obtain ⟨vs, hb, _⟩ := h; exact hb.lt
theorem BlkG.cell {w : World} {b m : Nat} {T : TypeId} (h : BlkG w b m T) {i : Nat} (hi : i < m) : ∃ v, w.cell? ⟨b, i, none⟩ = some v := by
  obtain ⟨vs, hb, hs⟩ := h
  exact ⟨vs[i]'(by omega), (hb.cell i).trans (Array.getElem?_eq_getElem (by omega))⟩
theorem BlkG.free {w : World} {b m : Nat} {T : TypeId} (h : BlkG w b m T) (i : Nat) : w.frozen? ⟨b, i, none⟩ = false := by obtain ⟨vs, hb, _⟩ := h; exact hb.free i
theorem BlkG.setCell {w : World} {b m : Nat} {T : TypeId} (h : BlkG w b m T) (a i : Nat) (u : Value) : BlkG (w.setCell ⟨a, i, none⟩ u) b m T := by
  obtain ⟨vs, hb, hs⟩ := h
  by_cases e : b = a
  · subst e; exact ⟨_, hb.set i u, by simpa using hs⟩
  · exact ⟨vs, hb.other ⟨a, i, none⟩ u e, hs⟩
theorem BlkG.below {w w' : World} {b m B : Nat} {T : TypeId} (h : BlkG w b m T) (hb : Below B w w') (hB : b < B) : BlkG w' b m T := by
  obtain ⟨vs, hk, hs⟩ := h; exact ⟨vs, hk.below hb hB, hs⟩
/-- of the blocks that were there only those from lo to hi have changed, and none in type or to fewer cells -/
structure Span (lo hi : Nat) (w w' : World) : Prop where
  os : w'.os = w.os
  tape : w'.tape = w.tape
  output : w'.output = w.output
  size : w.heap.size ≤ w'.heap.size
  block : ∀ k, k < w.heap.size → (k < lo ∨ hi ≤ k) → w'.heap[k]? = w.heap[k]?
  shape : ∀ b m T, BlkG w b m T → BlkG w' b m T
theorem Span.refl (lo hi : Nat) (w : World) : Span lo hi w w := ⟨rfl, rfl, rfl, Nat.le_refl _, fun _ _ _ => rfl, fun _ _ _ h => h⟩
theorem Span.trans {lo hi : Nat} {a b c : World} (h : Span lo hi a b) (k : Span lo hi b c) : Span lo hi a c :=
  ⟨k.os.trans h.os, k.tape.trans h.tape, k.output.trans h.output, Nat.le_trans h.size k.size, fun i hi ho => (k.block i (Nat.lt_of_lt_of_le hi h.size) ho).trans (h.block i hi ho), fun b m T hh => k.shape b m T (h.shape b m T hh)⟩
theorem Span.wide {lo hi lo' hi' : Nat} {a b : World} (h : Span lo hi a b) (h1 : lo' ≤ lo) (h2 : hi ≤ hi') : Span lo' hi' a b :=
  ⟨h.os, h.tape, h.output, h.size, fun k hk ho => h.block k hk (by omega), h.shape⟩
theorem Span.ofBelow {lo hi : Nat} {a b : World} (h : Below a.heap.size a b) : Span lo hi a b :=
  ⟨h.os, h.tape, h.output, h.size, fun k hk _ => h.block k hk, fun b m T hh => hh.below h hh.lt⟩
theorem Span.setCell {lo hi : Nat} {a w : World} (h : Span lo hi a w) {b : Nat} (h1 : lo ≤ b) (h2 : b < hi) (i : Nat) (u : Value) : Span lo hi a (w.setCell ⟨b, i, none⟩ u) :=
  h.trans ⟨rfl, rfl, rfl, by simp [World.setCell], fun k _ ho => Below.heap_setCell w ⟨b, i, none⟩ u k (by show k ≠ b; omega), fun b' m T hh => hh.setCell b i u⟩
theorem Span.blk {lo hi b : Nat} {w w' : World} {vs : Array Value} {T : TypeId} (h : Span lo hi w w') (hb : Blk w b vs T) (ho : b < lo ∨ hi ≤ b) : Blk w' b vs T := (h.block b hb.lt ho).trans hb
theorem Span.toBelow {lo hi B : Nat} {w w' : World} (h : Span lo hi w w') (h1 : B ≤ lo) (h2 : B ≤ w.heap.size) : Below B w w' :=
  ⟨h.os, h.tape, h.output, h.size, fun k hk => h.block k (by omega) (by omega)⟩
theorem size_of_some {cs : Array Value} {i : Nat} {v : Value} (h : cs[i]? = some v) : i < cs.size := (Array.getElem?_eq_some_iff.1 h).1
structure St where
  dx : Int
  dy : Int
  far : Int
def stAt (l : List St) (i : Nat) : St := l.getD i ⟨0, 0, 0⟩
/-- a slice of steps that came in, or that the call made: in blocks below B -/
def IsSteps (w : World) (B : Nat) (A : Option Addr) (l : List St) : Prop :=
  0 < l.length → ∃ b off, A = some ⟨b, off, none⟩ ∧ b < B ∧ ∀ i, i < l.length →
    w.cell? ⟨b, off + i * 3, none⟩ = some (.int .i64 (stAt l i).dx) ∧ w.cell? ⟨b, off + i * 3 + 1, none⟩ = some (.int .i64 (stAt l i).dy) ∧ w.cell? ⟨b, off + i * 3 + 2, none⟩ = some (.int .i64 (stAt l i).far)
theorem IsSteps.keep {w w' : World} {B : Nat} {A : Option Addr} {l : List St} (h : IsSteps w B A l) (hk : ∀ b o, b < B → w'.cell? ⟨b, o, none⟩ = w.cell? ⟨b, o, none⟩) : IsSteps w' B A l := fun hn => by
  obtain ⟨b, off, rfl, hB, hc⟩ := h hn
  exact ⟨b, off, rfl, hB, fun i hi => by simp only [hk b _ hB]; exact hc i hi⟩
theorem IsSteps.below {w w' : World} {B : Nat} {A : Option Addr} {l : List St} (h : IsSteps w B A l) (hb : Below B w w') : IsSteps w' B A l :=
  h.keep fun b o hlt => hb.cell (p := ⟨b, o, none⟩) hlt
end Go.Proofs.Ytjanalljaacnoaa.Ko
