/- What is known of a list of pieces that was read as data. -/
import Derived.Test.YtmfcgikfgikbfaaGreatOpr
import Derived.Test.YtmfcgikfgikbfaaGreatPr
namespace Go.Proofs.YtmfcgikfgikbfaaGreat.Opn
open Go.ChangeShapes Go.WideShapes Go.ChangeAt Go.RowKit Base Ko Go.Deep
set_option linter.unusedVariables false
set_option maxRecDepth 20000
section
variable {H : Type} {enc : TypeId × Value → H} {w : World}
instance : Inhabited Pc := ⟨⟨0, 0⟩⟩
theorem cPiece : Tryz.prog.cellsOf 61 = 2 := by kernel_rfl
theorem rd_piece {fuel : Nat} {cs : List Value} {x : DataW H × List MemPlace} (h : DataW.trod enc Tryz.prog w 0 (fun _ => true) true fuel 61 cs = some x) :
    ∃ s : Pc, cs = [.int .i64 s.kd, .int .i64 s.ow] := by
  obtain ⟨c0, c1, y0, y1, m, rfl, h0, h1⟩ := rd2 Tryz.underlying61 (by kernel_rfl) cPiece h
  obtain ⟨a, rfl, _⟩ := rd_int Tryz.underlying3 h0
  obtain ⟨b, rfl, _⟩ := rd_int Tryz.underlying3 h1
  exact ⟨⟨a, b⟩, rfl⟩
theorem rd_pieces {fuel : Nat} {c : Value} {x : DataW H × List MemPlace} (h : DataW.trod enc Tryz.prog w 0 (fun _ => true) true fuel 25 [c] = some x) :
    ∃ A cap, ∃ l : List Pc, c = .slice A l.length cap ∧ l.length ≤ maxLen ∧ IsPcs w w.heap.size A l := by
  obtain ⟨A, len, cap, hcs, hl, hm, hi⟩ := rd_slice Tryz.underlying25 cPiece (by omega) h
  simp at hcs
  subst hcs
  rcases Nat.eq_zero_or_pos len with rfl | h0
  · exact ⟨A, cap, [], rfl, Nat.zero_le _, fun h => absurd h (by simp)⟩
  · obtain ⟨b, off, rfl, hb, he⟩ := hi h0
    obtain ⟨f, hf⟩ := choose_lt (p := fun i (s : Pc) => w.cell? ⟨b, off + i * 2, none⟩ = some (.int .i64 s.kd) ∧ w.cell? ⟨b, off + i * 2 + 1, none⟩ = some (.int .i64 s.ow)) (n := len) (fun i hi' => by
      obtain ⟨cs', m, y, _, hat, ht⟩ := he i hi'
      obtain ⟨s, rfl⟩ := rd_piece ht
      exact ⟨s, hat 0 (by omega), hat 1 (by omega)⟩)
    refine ⟨_, cap, (List.range len).map f, by simp, by simp; omega, fun _ => ⟨b, off, rfl, hb, fun i hi' => ?_⟩⟩
    have hi2 : i < len := by simpa using hi'
    unfold pcAt
    rw [map_range_getD f len i _ hi2]
    exact hf i hi2
/-- an argument of the type []laws.Piece -/
theorem open_pieces {v : Value} {d : DataW H} {p : List MemPlace} {b0 : Nat} (hv : Value.okWide Tryz.prog w .any b0 25 v) (h : DataW.Trod enc Tryz.prog w 0 (fun _ => true) true 25 v d p) :
    ∃ A cap, ∃ l : List Pc, v = .slice A l.length cap ∧ l.length ≤ maxLen ∧ IsPcs w w.heap.size A l := by
  obtain ⟨a, n, c, rfl⟩ := okWide_slice Tryz.underlying25 hv
  obtain ⟨fuel, hf⟩ := h
  exact rd_pieces (c := .slice a n c) (by simpa [Value.cells] using hf)
end
end Go.Proofs.YtmfcgikfgikbfaaGreat.Opn
