/- What is known of a list of results that was read as data. -/
import Derived.Test.YtiilijpljhnphaaJo
import Derived.Test.YtiilijpljhnphaaJr
namespace Go.Proofs.Ytiilijpljhnphaa.Opn
open Go.ChangeShapes Go.WideShapes Go.ChangeAt Go.RowKit Base Ko Go.Deep
set_option linter.unusedVariables false
set_option maxRecDepth 20000
section
variable {H : Type} {enc : TypeId × Value → H} {w : World}
instance : Inhabited St := ⟨⟨0, 0, 0⟩⟩
theorem cResult : Try.prog.cellsOf 74 = 3 := by kernel_rfl
theorem rd_result {fuel : Nat} {cs : List Value} {x : DataW H × List MemPlace} (h : DataW.trod enc Try.prog w 0 (fun _ => true) true fuel 74 cs = some x) :
    ∃ s : St, cs = [.int .i64 s.dx, .int .i64 s.dy, .int .i64 s.far] := by
  obtain ⟨c0, c1, c2, y0, y1, y2, m, rfl, h0, h1, h2⟩ := rd3 Try.underlying74 (by kernel_rfl) cResult h
  obtain ⟨a, rfl, _⟩ := rd_int Try.underlying3 h0
  obtain ⟨b, rfl, _⟩ := rd_int Try.underlying3 h1
  obtain ⟨c, rfl, _⟩ := rd_int Try.underlying3 h2
  exact ⟨⟨a, b, c⟩, rfl⟩
theorem rd_results {fuel : Nat} {c : Value} {x : DataW H × List MemPlace} (h : DataW.trod enc Try.prog w 0 (fun _ => true) true fuel 40 [c] = some x) :
    ∃ A cap, ∃ l : List St, c = .slice A l.length cap ∧ l.length ≤ maxLen ∧ IsSteps w w.heap.size A l := by
  obtain ⟨A, len, cap, hcs, hl, hm, hi⟩ := rd_slice Try.underlying40 cResult (by omega) h
  simp at hcs
  subst hcs
  rcases Nat.eq_zero_or_pos len with rfl | h0
  · exact ⟨A, cap, [], rfl, Nat.zero_le _, fun h => absurd h (by simp)⟩
  · obtain ⟨b, off, rfl, hb, he⟩ := hi h0
    obtain ⟨f, hf⟩ := choose_lt (p := fun i (s : St) => w.cell? ⟨b, off + i * 3, none⟩ = some (.int .i64 s.dx) ∧ w.cell? ⟨b, off + i * 3 + 1, none⟩ = some (.int .i64 s.dy) ∧ w.cell? ⟨b, off + i * 3 + 2, none⟩ = some (.int .i64 s.far)) (n := len) (fun i hi' => by
      obtain ⟨cs', m, y, _, hat, ht⟩ := he i hi'
      obtain ⟨s, rfl⟩ := rd_result ht
      exact ⟨s, hat 0 (by omega), hat 1 (by omega), hat 2 (by omega)⟩)
    refine ⟨_, cap, (List.range len).map f, by simp, by simp; omega, fun _ => ⟨b, off, rfl, hb, fun i hi' => ?_⟩⟩
    have hi2 : i < len := by simpa using hi'
    unfold stAt
    rw [map_range_getD f len i _ hi2]
    exact hf i hi2
/-- an argument of the type []laws.Result -/
theorem open_results {v : Value} {d : DataW H} {p : List MemPlace} {b0 : Nat} (hv : Value.okWide Try.prog w .any b0 40 v) (h : DataW.Trod enc Try.prog w 0 (fun _ => true) true 40 v d p) :
    ∃ A cap, ∃ l : List St, v = .slice A l.length cap ∧ l.length ≤ maxLen ∧ IsSteps w w.heap.size A l := by
  obtain ⟨a, n, c, rfl⟩ := okWide_slice Try.underlying40 hv
  obtain ⟨fuel, hf⟩ := h
  exact rd_results (c := .slice a n c) (by simpa [Value.cells] using hf)
end
end Go.Proofs.Ytiilijpljhnphaa.Opn
