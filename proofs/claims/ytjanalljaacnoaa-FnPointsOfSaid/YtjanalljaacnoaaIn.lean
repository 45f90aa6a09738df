/- Slices of whole numbers that a call has made: what is known of them; appending. -/
import Derived.Test.YtjanalljaacnoaaBase
import Derived.Maps.AppendAt
namespace Go.Proofs.Ytjanalljaacnoaa.In
open Go.ChangeShapes Go.WideShapes Go.ChangeAt Go.RowKit Base
set_option linter.unusedVariables false
set_option maxRecDepth 20000

def iAt (l : List Int) (i : Nat) : Int := l.getD i 0
def nums (l : List Int) : List Value := l.map fun z => Value.int .i64 z
def IsInts (w : World) (B : Nat) (A : Option Addr) (l : List Int) : Prop :=
  0 < l.length → ∃ b, A = some ⟨b, 0, none⟩ ∧ b < B ∧ ∀ i, i < l.length → w.cell? ⟨b, i, none⟩ = some (.int .i64 (iAt l i))
theorem IsInts.below {w w' : World} {B : Nat} {A : Option Addr} {l : List Int} (h : IsInts w B A l) (hb : Below B w w') : IsInts w' B A l := fun hn => by
  obtain ⟨b, rfl, hB, hc⟩ := h hn
  exact ⟨b, rfl, hB, fun i hi => (hb.cell (p := ⟨b, i, none⟩) hB).trans (hc i hi)⟩
theorem IsInts.more {w : World} {B B' : Nat} {A : Option Addr} {l : List Int} (h : IsInts w B A l) (hB : B ≤ B') : IsInts w B' A l := fun hn => by
  obtain ⟨b, rfl, hb, hc⟩ := h hn
  exact ⟨b, rfl, by omega, hc⟩
/-- a slice of whole numbers, in blocks from base on -/
def Own (w : World) (base : Nat) (v : Value) (l : List Int) : Prop := w.ownsRow base 3 1 v l.length (nums l)
theorem Own.is {w : World} {base : Nat} {v : Value} {l : List Int} (h : Own w base v l) : ∃ A c, v = .slice A l.length c ∧ IsInts w w.heap.size A l := by
  rcases h.2 with ⟨rfl, h0⟩ | ⟨g, cap, cur, rfl, hb, hg, hn, hm, hs, ht⟩
  · exact ⟨none, 0, by rw [h0], fun hp => by omega⟩
  · refine ⟨some ⟨g, 0, none⟩, cap, rfl, fun _ => ⟨g, rfl, lt_of_block hg, fun i hi => ?_⟩⟩
    have hc : w.cell? ⟨g, i, none⟩ = cur[i]? := Blk.cell (w := w) (b := g) (vs := cur) (T := 3) hg i
    rw [hc]
    have h2 : (cur.toList.take (l.length * 1))[i]? = some (.int .i64 (iAt l i)) := by
      rw [ht]; unfold nums iAt; rw [List.getElem?_map, List.getElem?_eq_getElem hi]; simp [List.getD_eq_getElem?_getD, hi]
    rw [List.getElem?_take_of_lt (by omega)] at h2
    simpa using h2
theorem Own.below {w w' : World} {base : Nat} {v : Value} {l : List Int} (h : Own w base v l) (hb : Below w.heap.size w w') : Own w' base v l := by
  refine ⟨h.1, ?_⟩
  rcases h.2 with h0 | ⟨g, cap, cur, hv, hB, hg, rest⟩
  · exact .inl h0
  · exact .inr ⟨g, cap, cur, hv, hB, (hb.block g (lt_of_block hg)).trans hg, rest⟩
theorem Own.empty {w : World} {base g : Nat} (hB : base ≤ g) (hg : Blk w g #[] 3) : Own w base (.slice (some ⟨g, 0, none⟩) 0 0) [] :=
  ⟨rfl, .inr ⟨g, 0, #[], rfl, hB, hg, Nat.le_refl _, Nat.zero_le _, rfl, rfl⟩⟩
theorem Own.slice {w : World} {base : Nat} {v : Value} {l : List Int} (h : Own w base v l) : ∃ A c, v = .slice A l.length c := by
  obtain ⟨A, c, hv, _⟩ := h.is; exact ⟨A, c, hv⟩
theorem infoInt : (Try.prog.info? 3).map (fun i => (i.zero, i.size, i.bytes)) = some (some (.int .i64 0), 1, 8) := by kernel_rfl
theorem nums_snoc (l : List Int) (x : Int) : nums (l ++ [x]) = nums l ++ [.int .i64 x] := by simp [nums]
theorem own_base {w w' : World} {base : Nat} {v : Value} {l : List Int} (h : Own w base v l) (hg : w.grownBy w' v.ownBlock) {B : Nat} {a : World} (hb : Below B a w) (hB : B ≤ base) (hs : B ≤ w.heap.size) : Below B a w' :=
  hb.grown hg hs (fun k hk => by
    rcases h.2 with ⟨rfl, _⟩ | ⟨g, cap, cur, rfl, hbg, _⟩
    · simp [Value.ownBlock] at hk
    · simp [Value.ownBlock] at hk; omega)
end Go.Proofs.Ytjanalljaacnoaa.In
