/- The mover of the program: a new one; what it collects of a man. -/
import Derived.Test.YtcgfklljbblhlaaGreatDoorHi
import Derived.Test.YtcgfklljbblhlaaGreatDoorMv
import Derived.Laws.BitsAllLaws
import Derived.Laws.ShiftsVarLaws
namespace Go.Proofs.YtcgfklljbblhlaaGreatDoor.Ko
open Go.ChangeShapes Go.WideShapes Go.ChangeAt Go.RowKit Base Sq Rf
set_option linter.unusedVariables false
set_option maxRecDepth 20000
attribute [local go_sem] Oper.semAt_some
attribute [local irreducible] wpQuiet

/-- of the blocks that were there only b may have changed -/
structure But (b : Nat) (w w' : World) : Prop where
  os : w'.os = w.os
  tape : w'.tape = w.tape
  output : w'.output = w.output
  size : w.heap.size ≤ w'.heap.size
  block : ∀ k, k < w.heap.size → k ≠ b → w'.heap[k]? = w.heap[k]?
theorem But.refl (b : Nat) (w : World) : But b w w := ⟨rfl, rfl, rfl, Nat.le_refl _, fun _ _ _ => rfl⟩
theorem But.trans {b : Nat} {a c d : World} (h : But b a c) (k : But b c d) : But b a d :=
  ⟨k.os.trans h.os, k.tape.trans h.tape, k.output.trans h.output, Nat.le_trans h.size k.size, fun i hi ho => (k.block i (Nat.lt_of_lt_of_le hi h.size) ho).trans (h.block i hi ho)⟩
theorem But.more {b B : Nat} {a c d : World} (h : But b a c) (k : Below B c d) (hB : a.heap.size ≤ B) : But b a d :=
  ⟨k.os.trans h.os, k.tape.trans h.tape, k.output.trans h.output, by have := k.size; have := h.size; omega, fun i hi ho => (k.block i (by omega)).trans (h.block i hi ho)⟩
theorem But.ofBelow {b : Nat} {a c : World} (h : Below a.heap.size a c) : But b a c := ⟨h.os, h.tape, h.output, h.size, fun k hk _ => h.block k hk⟩
theorem But.set (b i : Nat) (w : World) (u : Value) : But b w (w.setCell ⟨b, i, none⟩ u) :=
  ⟨rfl, rfl, rfl, by simp [World.setCell], fun k _ ho => Below.heap_setCell w ⟨b, i, none⟩ u k (by show k ≠ b; omega)⟩
theorem But.setCell {b : Nat} {a w : World} (h : But b a w) (i : Nat) (u : Value) : But b a (w.setCell ⟨b, i, none⟩ u) := h.trans (But.set b i w u)
theorem But.toBelow {b B : Nat} {w w' : World} (h : But b w w') (h1 : B ≤ b) (h2 : B ≤ w.heap.size) : Below B w w' :=
  ⟨h.os, h.tape, h.output, h.size, fun k hk => h.block k (by omega) (by omega)⟩
theorem But.blk {b k : Nat} {w w' : World} {vs : Array Value} {T : TypeId} (h : But b w w') (hb : Blk w k vs T) (ho : k ≠ b) : Blk w' k vs T := (h.block k hb.lt ho).trans hb
theorem But.drew {b : Nat} {a w : World} (h : But b a w) : But b a w.drew := h.more (Below.refl a.heap.size _).drew (Nat.le_refl _)

abbrev moverC (side : Int) (A : Option Addr) (n c : Nat) (t : Int) (M : Option Addr) (k cm : Nat) (man left : Int) : Array Value :=
  #[.int .i64 side, .slice A n c, .int .i64 t, .slice M k cm, .int .i64 man, .int .u64 left]
theorem _root_.Go.Proofs.YtcgfklljbblhlaaGreatDoor.Base.Blk.atV {w : World} {b : Nat} {x0 x1 x2 x3 x4 x5 : Value} {T : TypeId} (h : Blk w b #[x0, x1, x2, x3, x4, x5] T) :
    (w.cell? ⟨b, 0, none⟩ = some x0 ∧ w.cell? ⟨b, 1, none⟩ = some x1 ∧ w.cell? ⟨b, 2, none⟩ = some x2 ∧ w.cell? ⟨b, 3, none⟩ = some x3 ∧ w.cell? ⟨b, 4, none⟩ = some x4 ∧ w.cell? ⟨b, 5, none⟩ = some x5) ∧
    (w.frozen? ⟨b, 4, none⟩ = false ∧ w.frozen? ⟨b, 5, none⟩ = false) :=
  ⟨⟨h.cell 0, h.cell 1, h.cell 2, h.cell 3, h.cell 4, h.cell 5⟩, h.free 4, h.free 5⟩

set_option maxHeartbeats 1000000 in
theorem moverOf_any (side : Int) (A : Option Addr) (n c : Nat) (t : Int) (M : Option Addr) (k cm : Nat) (w : World) :
    Calls Tryz.prog 107 #[.agg #[.int .i64 side, .slice A n c], .agg #[.int .i64 t, .slice M k cm]] w fun e w' =>
      e = .returned (.pointer (some ⟨w.heap.size + 2, 0, none⟩)) ∧ Blk w' (w.heap.size + 2) (moverC side A n c t M k cm (-1) 0) 167 ∧ w'.heap.size = w.heap.size + 3 ∧ Below w.heap.size w w' := by
  go_enter Tryz.func107, Tryz.ntmps107
  go_wp2_with fail
  go_ret
  refine ⟨by simp, ?_, by simp, (by repeat (first | exact Below.refl _ _ | assumption | (refine Below.alloc ?_ (by first | omega | (simp; done) | (simp; omega)) _) | (refine Below.setCell ?_ (by first | omega | (simp; done) | (simp; omega)) _) | refine Below.drew ?_))⟩
  have h := Blk.new ((w.alloc (.cells #[.int .i64 side, .slice A n c] 40)).alloc (.cells #[.int .i64 t, .slice M k cm] 35)) (moverC side A n c t M k cm (-1) 0) 167
  simpa using h
end Go.Proofs.YtcgfklljbblhlaaGreatDoor.Ko
