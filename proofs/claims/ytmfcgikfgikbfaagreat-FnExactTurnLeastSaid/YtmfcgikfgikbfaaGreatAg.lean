/- The position behind a man's going. -/
import Derived.Test.YtmfcgikfgikbfaaGreatAf
namespace Go.Proofs.YtmfcgikfgikbfaaGreat.Ko
open Go.ChangeShapes Go.WideShapes Go.ChangeAt Go.RowKit Base Sq
set_option linter.unusedVariables false
set_option maxRecDepth 20000
attribute [local irreducible] wpQuiet

def DoPost (w w' : World) (t : Int) (l : List St) (i : Nat) (q : Int) (e : Ending) : Prop :=
  ∃ A c, e = .returned (.agg #[.int .i64 (1 - t), .slice A (doL l i q).length c]) ∧ MenA w.heap.size w'.heap.size w' A (doL l i q) ∧ Below w.heap.size w w'
theorem aftL_hit {l : List St} {i : Nat} {q : Int} : aftL l i q (i + 1) = aftL l i q i ++ [⟨(stAt l i).dx, (stAt l i).dy, q⟩] := by simp [aftL]
theorem aftL_skip {l : List St} {i k : Nat} {q : Int} (h : k ≠ i) (hq : (stAt l k).far = q) : aftL l i q (k + 1) = aftL l i q k := by simp [aftL, h, hq]
theorem aftL_keep {l : List St} {i k : Nat} {q : Int} (h : k ≠ i) (hq : (stAt l k).far ≠ q) : aftL l i q (k + 1) = aftL l i q k ++ [⟨(stAt l k).dx, (stAt l k).dy, (stAt l k).far⟩] := by simp [aftL, h, hq]
theorem OwnM.blk {w : World} {g n c : Nat} {l : List St} {base : Nat} (h : OwnM w base (.slice (some ⟨g, 0, none⟩) n c) n l) (hl : l.length = n) : ∃ cs, Blk w g cs 84 ∧ l.length * 3 ≤ cs.size ∧ StepsIn cs l l.length ∧ base ≤ g := by
  rcases h.2 with ⟨h', _⟩ | ⟨g', cap', cur, h', hb, hg, hn, hm, hs, ht⟩
  · simp at h'
  · simp only [Value.slice.injEq, Option.some.injEq, Addr.mk.injEq, and_true, true_and] at h'
    obtain ⟨rfl, rfl⟩ := h'
    refine ⟨cur, hg, by omega, fun i hi => ?_, hb⟩
    obtain ⟨h1, h2, h3⟩ := cellsM_at l i hi
    rw [← ht, List.getElem?_take_of_lt (by omega)] at h1 h2 h3
    exact ⟨by simpa using h1, by simpa using h2, by simpa using h3⟩

theorem OwnM.glt {w : World} {base n c n' : Nat} {g : Nat} {l : List St} (h : OwnM w base (.slice (some ⟨g, 0, none⟩) n c) n' l) : g < w.heap.size := by
  rcases h.2 with ⟨h', _⟩ | ⟨g', cap, cur, hv, hB, hg, rest⟩
  · simp at h'
  · have hgg : g = g' := by simp only [Value.slice.injEq, Option.some.injEq, Addr.mk.injEq, and_true] at hv; exact hv.1
    rw [hgg]; exact lt_of_block hg

end Go.Proofs.YtmfcgikfgikbfaaGreat.Ko
