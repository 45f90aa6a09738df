/- One number put into an own list. -/
import Derived.Test.YtjanalljaacnoaaJm
namespace Go.Proofs.Ytjanalljaacnoaa.Ko
open Go.ChangeShapes Go.WideShapes Go.ChangeAt Go.RowKit Base Sq In
set_option linter.unusedVariables false
set_option maxRecDepth 20000

theorem iAt_set_same {z : List Int} {i : Nat} (hi : i < z.length) (v : Int) : iAt (z.set i v) i = v := by unfold iAt; simp [List.getD_eq_getElem?_getD, hi]
theorem iAt_set_other {z : List Int} {i j : Nat} (h : i ≠ j) (v : Int) : iAt (z.set i v) j = iAt z j := by unfold iAt; simp [List.getD_eq_getElem?_getD, List.getElem?_set_ne h]
theorem nums_get {l : List Int} {j : Nat} {u : Value} (h : (nums l)[j]? = some u) : j < l.length ∧ u = .int .i64 (iAt l j) := by
  unfold nums at h
  rw [List.getElem?_map] at h
  obtain ⟨x, hx, rfl⟩ := Option.map_eq_some_iff.1 h
  obtain ⟨hj, rfl⟩ := List.getElem?_eq_some_iff.1 hx
  exact ⟨hj, by unfold iAt; simp [List.getD_eq_getElem?_getD, hj]⟩
theorem nums_len (l : List Int) : (nums l).length = l.length := by simp [nums]
theorem nums_one (l : List Int) : ∀ u ∈ nums l, u.oneCell' = true := by
  intro u hu
  unfold nums at hu
  obtain ⟨x, _, rfl⟩ := List.mem_map.1 hu
  rfl
theorem add_at (b j : Nat) : Addr.add ⟨b, 0, none⟩ j = ⟨b, j, none⟩ := by
  unfold Addr.add
  split
  · rename_i h0; rw [h0]
  · simp
theorem IsInts.news {w : World} {B b : Nat} {l : List Int} (h : IsInts w B (some ⟨b, 0, none⟩) l) : ∀ j u, (nums l)[j]? = some u → w.cell? (Addr.add ⟨b, 0, none⟩ j) = some u := fun j u hu => by
  obtain ⟨hj, rfl⟩ := nums_get hu
  rw [add_at]
  exact (h.at hj).2
/-- an own list of whole numbers in which one number is put -/
theorem own_put {w : World} {base c : Nat} {A : Option Addr} {z : List Int} (h : In.Own w base (.slice A z.length c) z) {i : Nat} (hi : i < z.length) :
    ∃ g, A = some ⟨g, 0, none⟩ ∧ base ≤ g ∧ g < w.heap.size ∧ w.cell? ⟨g, i, none⟩ = some (.int .i64 (iAt z i)) ∧ w.frozen? ⟨g, i, none⟩ = false ∧ ∀ x : Int, In.Own (w.setCell ⟨g, i, none⟩ (.int .i64 x)) base (.slice (some ⟨g, 0, none⟩) z.length c) (z.set i x) := by
  have h0 := h
  rcases h.2 with ⟨hv, hn⟩ | ⟨g, cap, cur, hv, hB, hg, hn, hm, hs, ht⟩
  · omega
  · simp only [Value.slice.injEq] at hv
    obtain ⟨rfl, _, rfl⟩ := hv
    obtain ⟨A', c', hv', hI⟩ := h0.is
    simp only [Value.slice.injEq] at hv'
    obtain ⟨rfl, _, rfl⟩ := hv'
    have hb : Blk w g cur 3 := hg
    refine ⟨g, rfl, hB, hb.lt, (hI.at hi).2, hb.free i, fun x => ⟨by rw [nums_len, List.length_set, Nat.mul_one], .inr ⟨g, c, cur.setIfInBounds i (.int .i64 x), by rw [List.length_set], hB, hb.set i _, by rw [List.length_set]; exact hn, hm, by simpa using hs, ?_⟩⟩⟩
    rw [List.length_set, Array.toList_setIfInBounds, List.take_set, ht]
    unfold nums
    rw [List.map_set]
end Go.Proofs.Ytjanalljaacnoaa.Ko
