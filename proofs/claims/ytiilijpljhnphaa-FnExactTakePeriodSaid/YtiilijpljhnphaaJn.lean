/- What is known of a list of whole numbers that was read as data. -/
import Derived.Test.YtiilijpljhnphaaJo
import Derived.Test.YtiilijpljhnphaaJv
namespace Go.Proofs.Ytiilijpljhnphaa.Opn
open Go.ChangeShapes Go.WideShapes Go.ChangeAt Go.RowKit Base Ko In Go.Deep
set_option linter.unusedVariables false
set_option maxRecDepth 20000
section
variable {H : Type} {enc : TypeId × Value → H} {w : World}
theorem cInt : Try.prog.cellsOf 3 = 1 := by kernel_rfl
theorem rd_nums {fuel : Nat} {c : Value} {x : DataW H × List MemPlace} (h : DataW.trod enc Try.prog w 0 (fun _ => true) true fuel 22 [c] = some x) :
    ∃ A cap, ∃ l : List Int, c = .slice A l.length cap ∧ l.length ≤ maxLen ∧ (∀ i, i < l.length → (Lit.int .i64 (iAt l i)).wf = true) ∧ IsNums w w.heap.size A l := by
  obtain ⟨A, len, cap, hcs, hl, hm, hi⟩ := rd_slice Try.underlying22 cInt (by omega) h
  simp at hcs
  subst hcs
  rcases Nat.eq_zero_or_pos len with rfl | h0
  · exact ⟨A, cap, [], rfl, Nat.zero_le _, fun i hi => absurd hi (by simp), fun h => absurd h (by simp)⟩
  · obtain ⟨b, off, rfl, hb, he⟩ := hi h0
    obtain ⟨f, hf⟩ := choose_lt (p := fun i (s : Int) => w.cell? ⟨b, off + i, none⟩ = some (.int .i64 s) ∧ (Lit.int .i64 s).wf = true) (n := len) (fun i hi' => by
      obtain ⟨cs', m, y, hlen, hat, ht⟩ := he i hi'
      match cs', hlen with
      | [c0], _ =>
        obtain ⟨s, rfl, hw⟩ := rd_int Try.underlying3 ht
        have h0 := hat 0 (by omega)
        simp only [Nat.mul_one, Nat.add_zero] at h0
        exact ⟨s, h0, hw⟩)
    have hat : ∀ i, i < len → iAt ((List.range len).map f) i = f i := fun i hi2 => by unfold iAt; exact map_range_getD f len i _ hi2
    refine ⟨_, cap, (List.range len).map f, by simp, by simp; omega, fun i hi' => ?_, fun _ => ⟨b, off, rfl, hb, fun i hi' => ?_⟩⟩
    · have hi2 : i < len := by simpa using hi'
      rw [hat i hi2]; exact (hf i hi2).2
    · have hi2 : i < len := by simpa using hi'
      rw [hat i hi2]; exact (hf i hi2).1
/-- an argument of the type []int -/
theorem open_nums {v : Value} {d : DataW H} {p : List MemPlace} {b0 : Nat} (hv : Value.okWide Try.prog w .any b0 22 v) (h : DataW.Trod enc Try.prog w 0 (fun _ => true) true 22 v d p) :
    ∃ A cap, ∃ l : List Int, v = .slice A l.length cap ∧ l.length ≤ maxLen ∧ (∀ i, i < l.length → (Lit.int .i64 (iAt l i)).wf = true) ∧ IsNums w w.heap.size A l := by
  obtain ⟨a, n, c, rfl⟩ := okWide_slice Try.underlying22 hv
  obtain ⟨fuel, hf⟩ := h
  exact rd_nums (c := .slice a n c) (by simpa [Value.cells] using hf)
end
end Go.Proofs.Ytiilijpljhnphaa.Opn
