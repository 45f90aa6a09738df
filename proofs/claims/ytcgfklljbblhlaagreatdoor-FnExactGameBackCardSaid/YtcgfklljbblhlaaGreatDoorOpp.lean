/- What is known of a position that was read as data. -/
import Derived.Test.YtcgfklljbblhlaaGreatDoorOpr
import Derived.Test.YtcgfklljbblhlaaGreatDoorCp
namespace Go.Proofs.YtcgfklljbblhlaaGreatDoor.Opn
open Go.ChangeShapes Go.WideShapes Go.ChangeAt Go.RowKit Base Ko Go.Deep
set_option linter.unusedVariables false
set_option maxRecDepth 20000
section
variable {H : Type} {enc : TypeId × Value → H} {w : World}
theorem cMan : Tryz.prog.cellsOf 121 = 3 := by kernel_rfl
theorem cPos : Tryz.prog.cellsOf 27 = 2 := by kernel_rfl
theorem rd_man {fuel : Nat} {cs : List Value} {x : DataW H × List MemPlace} (h : DataW.trod enc Tryz.prog w 0 (fun _ => true) true fuel 121 cs = some x) :
    ∃ s : St, cs = [.int .i64 s.dx, .int .i64 s.dy, .int .i64 s.far] := by
  obtain ⟨c0, c1, c2, y0, y1, y2, m, rfl, h0, h1, h2⟩ := rd3 Tryz.underlying121 (by kernel_rfl) cMan h
  obtain ⟨a, rfl, _⟩ := rd_int Tryz.underlying3 h0
  obtain ⟨b, rfl, _⟩ := rd_int Tryz.underlying3 h1
  obtain ⟨c, rfl, _⟩ := rd_int Tryz.underlying3 h2
  exact ⟨⟨a, b, c⟩, rfl⟩
theorem rd_men {fuel : Nat} {c : Value} {x : DataW H × List MemPlace} (h : DataW.trod enc Tryz.prog w 0 (fun _ => true) true fuel 25 [c] = some x) :
    ∃ A cap, ∃ l : List St, c = .slice A l.length cap ∧ l.length ≤ maxLen ∧ IsSteps w w.heap.size A l := by
  obtain ⟨A, len, cap, hcs, hl, hm, hi⟩ := rd_slice Tryz.underlying25 cMan (by omega) h
  simp at hcs
  subst hcs
  rcases Nat.eq_zero_or_pos len with rfl | h0
  · exact ⟨A, cap, [], rfl, Nat.zero_le _, fun h => absurd h (by simp)⟩
  · obtain ⟨b, off, rfl, hb, he⟩ := hi h0
    obtain ⟨f, hf⟩ := choose_lt (p := fun i (s : St) => w.cell? ⟨b, off + i * 3, none⟩ = some (.int .i64 s.dx) ∧ w.cell? ⟨b, off + i * 3 + 1, none⟩ = some (.int .i64 s.dy) ∧ w.cell? ⟨b, off + i * 3 + 2, none⟩ = some (.int .i64 s.far)) (n := len) (fun i hi' => by
      obtain ⟨cs', m, y, _, hat, ht⟩ := he i hi'
      obtain ⟨s, rfl⟩ := rd_man ht
      exact ⟨s, hat 0 (by omega), hat 1 (by omega), hat 2 (by omega)⟩)
    refine ⟨_, cap, (List.range len).map f, by simp, by simp; omega, fun _ => ⟨b, off, rfl, hb, fun i hi' => ?_⟩⟩
    have hi2 : i < len := by simpa using hi'
    unfold stAt
    rw [map_range_getD f len i _ hi2]
    exact hf i hi2
theorem rd_pos {fuel : Nat} {cs : List Value} {x : DataW H × List MemPlace} (h : DataW.trod enc Tryz.prog w 0 (fun _ => true) true fuel 27 cs = some x) :
    ∃ t A cap, ∃ l : List St, cs = [.int .i64 t, .slice A l.length cap] ∧ l.length ≤ maxLen ∧ (Lit.int .i64 t).wf = true ∧ IsSteps w w.heap.size A l := by
  obtain ⟨c0, c1, y0, y1, m, rfl, h0, h1⟩ := rd2 Tryz.underlying27 (by kernel_rfl) cPos h
  obtain ⟨a, rfl, hwf⟩ := rd_int Tryz.underlying3 h0
  obtain ⟨A, cap, l, rfl, hl, hs⟩ := rd_men h1
  exact ⟨a, A, cap, l, rfl, hl, hwf, hs⟩
/-- an argument of the type laws.Pos -/
theorem open_pos {v : Value} {d : DataW H} {p : List MemPlace} {b0 : Nat} (hv : Value.okWide Tryz.prog w .any b0 27 v) (h : DataW.Trod enc Tryz.prog w 0 (fun _ => true) true 27 v d p) :
    ∃ t A cap, ∃ l : List St, v = .agg #[.int .i64 t, .slice A l.length cap] ∧ l.length ≤ maxLen ∧ (Lit.int .i64 t).wf = true ∧ IsSteps w w.heap.size A l := by
  obtain ⟨cs, rfl, hsz⟩ := okWide_struct Tryz.underlying27 hv
  obtain ⟨fuel, hf⟩ := h
  obtain ⟨t, A, cap, l, hcs, hl, hwf, hs⟩ := rd_pos (cs := cs.toList) (by simpa [Value.cells] using hf)
  exact ⟨t, A, cap, l, by rw [← Array.toArray_toList (xs := cs), hcs], hl, hwf, hs⟩
end
end Go.Proofs.YtcgfklljbblhlaaGreatDoor.Opn
