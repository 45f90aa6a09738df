/- An answer (Pos, bool) in new memory; men appended to an empty slice. -/
import Derived.Test.YtcgfklljbblhlaaGreatDoorY0
namespace Go.Proofs.YtcgfklljbblhlaaGreatDoor.Ko
open Go.ChangeShapes Go.WideShapes Go.ChangeAt Go.RowKit Base Sq
set_option linter.unusedVariables false
set_option maxRecDepth 20000

/-- an answer (Pos, bool) in new memory -/
def ResQ (w w' : World) (T : Int) (L : List St) (B : Bool) (e : Ending) : Prop := ∃ A c, e = .returned (.tuple #[.agg #[.int .i64 T, .slice A L.length c], .bool B]) ∧ MenA w.heap.size w'.heap.size w' A L ∧ Below w.heap.size w w'
theorem own_empty (W : World) (base : Nat) (hB : base ≤ W.heap.size) : OwnM (W.alloc (.cells #[] 105)) base (.slice (some ⟨W.heap.size, 0, none⟩) 0 0) 0 [] := ⟨rfl, .inr ⟨W.heap.size, 0, #[], rfl, hB, Blk.new W #[] 105, Nat.le_refl _, Nat.zero_le _, rfl, rfl⟩⟩
theorem ownb {e g n c : Nat} (h : (Value.slice (some ⟨e, 0, none⟩) n c).ownBlock = some g) : e = g := by simpa [Value.ownBlock] using h
theorem blk_keptE {w w' : World} {b e : Nat} {vs : Array Value} {T : TypeId} (h : Blk w b vs T) (hg : w.grownBy w' (Value.slice (some ⟨e, 0, none⟩) 0 0).ownBlock) (hne : e ≠ b) : Blk w' b vs T := by
  unfold Blk at *; rw [hg.block b (lt_of_block h) (fun h => by simp [Value.ownBlock] at h; omega)]; exact h
theorem MenA.set_ne {lo hi g : Nat} {w : World} {l : List St} (h : MenA lo hi w (some ⟨g, 0, none⟩) l) (a : Addr) (u : Value) (ha : g ≠ a.block) : MenA lo hi (w.setCell a u) (some ⟨g, 0, none⟩) l := fun hn => by
  obtain ⟨b, cs, hb, h1, h2, h3, h4, h5⟩ := h hn
  obtain rfl : g = b := by simpa using hb
  exact ⟨g, cs, rfl, h1, h2, h3.other a u ha, h4, h5⟩
theorem menA_grownE {base g c : Nat} {w : World} {l : List St} (h : w.ownsRow base 105 3 (.slice (some ⟨g, 0, none⟩) (0 + l.length) c) (0 + l.length) ([] ++ cellsM l)) : MenA base w.heap.size w (some ⟨g, 0, none⟩) l := by
  rw [Nat.zero_add, List.nil_append] at h
  obtain ⟨A, c', hv, hm⟩ := MenA.of h
  simp only [Value.slice.injEq] at hv
  obtain ⟨rfl, _, _⟩ := hv
  exact hm

end Go.Proofs.YtcgfklljbblhlaaGreatDoor.Ko
