/- What is known of rules that were read as data. -/
import Derived.Test.YtcgfklljbblhlaaGreatDoorOpen
import Derived.Test.YtcgfklljbblhlaaGreatDoorCr
namespace Go.Proofs.YtcgfklljbblhlaaGreatDoor.Opn
open Go.ChangeShapes Go.WideShapes Go.ChangeAt Go.RowKit Base Ko Go.Deep
set_option linter.unusedVariables false
set_option maxRecDepth 20000
section
variable {H : Type} {enc : TypeId × Value → H} {P : Program} {w : World}
theorem rd2 {t : TypeId} {f0 f1 : Field} {fuel : Nat} {cs : List Value} {x : DataW H × List MemPlace} (hs : P.underlying t = some (.struct #[f0, f1])) (hone : oneCellFields P #[f0, f1] = true) (hC : P.cellsOf t = 2)
    (h : DataW.trod enc P w 0 (fun _ => true) true fuel t cs = some x) :
    ∃ (c0 c1 : Value) (y0 y1 : DataW H × List MemPlace) (m : Nat), cs = [c0, c1] ∧ DataW.trod enc P w 0 (fun _ => true) true m f0.type [c0] = some y0 ∧ DataW.trod enc P w 0 (fun _ => true) true m f1.type [c1] = some y1 := by
  obtain ⟨ys, m, _, _, hl, hlen, hf⟩ := DataW.trod_struct hs h
  obtain ⟨o0, k0⟩ := hone_of hone 0 f0 rfl
  obtain ⟨o1, k1⟩ := hone_of hone 1 f1 rfl
  rw [hC] at hl
  match ys, hlen with
  | [y0, y1], _ =>
    match cs, hl with
    | [c0, c1], _ => exact ⟨c0, c1, y0, y1, m, rfl, by simpa [o0, k0] using hf 0 f0 rfl, by simpa [o1, k1] using hf 1 f1 rfl⟩
end
section
variable {H : Type} {enc : TypeId × Value → H} {w : World}
theorem cRules : Tryz.prog.cellsOf 24 = 2 := by kernel_rfl
instance : Inhabited Kd := ⟨⟨0, false, []⟩⟩
theorem rd_kinds {fuel : Nat} {c : Value} {x : DataW H × List MemPlace} (h : DataW.trod enc Tryz.prog w 0 (fun _ => true) true fuel 22 [c] = some x) :
    ∃ A cap, ∃ ks : List Kd, c = .slice A ks.length cap ∧ Lens ks ∧ IsKinds w w.heap.size A ks := by
  obtain ⟨A, len, cap, hcs, hl, hm, hi⟩ := rd_slice Tryz.underlying22 cKind (by omega) h
  unfold maxLen at hm
  simp at hcs
  subst hcs
  rcases Nat.eq_zero_or_pos len with rfl | h0
  · exact ⟨A, cap, [], rfl, ⟨Nat.zero_le _, fun i hi => absurd hi (by simp)⟩, fun h => absurd h (by simp)⟩
  · obtain ⟨b, off, rfl, hb, he⟩ := hi h0
    obtain ⟨f, hf⟩ := choose_lt (p := fun i (k : Kd) => k.steps.length ≤ maxLen ∧ ∃ S c, w.cell? ⟨b, off + i * 3, none⟩ = some (.int .i64 k.name) ∧ w.cell? ⟨b, off + i * 3 + 1, none⟩ = some (.bool k.king) ∧ w.cell? ⟨b, off + i * 3 + 2, none⟩ = some (.slice S k.steps.length c) ∧ IsSteps w w.heap.size S k.steps) (n := len) (fun i hi' => by
      obtain ⟨cs', m, y, _, hat, ht⟩ := he i hi'
      obtain ⟨name, king, S, c, l, rfl, hll, hst⟩ := rd_kind ht
      exact ⟨⟨name, king, l⟩, hll, S, c, hat 0 (by omega), hat 1 (by omega), hat 2 (by omega), hst⟩)
    unfold maxLen at hf
    refine ⟨_, cap, (List.range len).map f, by simp, ⟨by simp; omega, fun i hi' => ?_⟩, fun _ => ⟨b, off, rfl, hb, fun i hi' => ?_⟩⟩
    · have hi2 : i < len := by simpa using hi'
      unfold kAt
      rw [map_range_getD f len i _ hi2]
      have := (hf i hi2).1
      omega
    · have hi2 : i < len := by simpa using hi'
      unfold kAt
      rw [map_range_getD f len i _ hi2]
      exact (hf i hi2).2
theorem rd_rules {fuel : Nat} {cs : List Value} {x : DataW H × List MemPlace} (h : DataW.trod enc Tryz.prog w 0 (fun _ => true) true fuel 24 cs = some x) :
    ∃ side A cap, ∃ ks : List Kd, cs = [.int .i64 side, .slice A ks.length cap] ∧ Lens ks ∧ IsKinds w w.heap.size A ks := by
  obtain ⟨c0, c1, y0, y1, m, rfl, h0, h1⟩ := rd2 Tryz.underlying24 (by kernel_rfl) cRules h
  obtain ⟨a, rfl, _⟩ := rd_int Tryz.underlying3 h0
  obtain ⟨A, cap, ks, rfl, hl, hs⟩ := rd_kinds h1
  exact ⟨a, A, cap, ks, rfl, hl, hs⟩
/-- an argument of the type laws.Rules -/
theorem open_rules {v : Value} {d : DataW H} {p : List MemPlace} {b0 : Nat} (hv : Value.okWide Tryz.prog w .any b0 24 v) (h : DataW.Trod enc Tryz.prog w 0 (fun _ => true) true 24 v d p) :
    ∃ side A cap, ∃ ks : List Kd, v = .agg #[.int .i64 side, .slice A ks.length cap] ∧ Lens ks ∧ IsKinds w w.heap.size A ks := by
  obtain ⟨cs, rfl, hsz⟩ := okWide_struct Tryz.underlying24 hv
  obtain ⟨fuel, hf⟩ := h
  obtain ⟨side, A, cap, ks, hcs, hl, hs⟩ := rd_rules (cs := cs.toList) (by simpa [Value.cells] using hf)
  exact ⟨side, A, cap, ks, by rw [← Array.toArray_toList (xs := cs), hcs], hl, hs⟩
end
end Go.Proofs.YtcgfklljbblhlaaGreatDoor.Opn
