/- What is known of an argument that was read as data: slices of structs, kinds, rules. -/
import Derived.Test.YtcgfklljbblhlaaGreatDoorCv
import Derived.Deep.Slices
import Derived.Deep.Fields
import Derived.Deep.Strs
import Derived.Lib.SmallJoins
namespace Go.Proofs.YtcgfklljbblhlaaGreatDoor.Opn
open Go.ChangeShapes Go.WideShapes Go.ChangeAt Go.RowKit Base Ko Go.Deep
set_option linter.unusedVariables false
set_option maxRecDepth 20000
section
variable {H : Type} {enc : TypeId × Value → H} {P : Program} {w : World}

theorem rd_slice {t e : TypeId} {n fuel : Nat} {cs : List Value} {x : DataW H × List MemPlace} (ht : P.underlying t = some (.slice e)) (hc : P.cellsOf e = n) (hn : 0 < n)
    (h : DataW.trod enc P w 0 (fun _ => true) true fuel t cs = some x) :
    ∃ A len cap, cs = [.slice A len cap] ∧ len ≤ cap ∧ cap ≤ maxLen ∧ (0 < len → ∃ b off, A = some ⟨b, off, none⟩ ∧ b < w.heap.size ∧ ∀ i, i < len →
      ∃ (cs' : List Value) (m : Nat) (y : DataW H × List MemPlace), cs'.length = n ∧ (∀ j, j < n → w.cell? ⟨b, off + i * n + j, none⟩ = cs'[j]?) ∧ DataW.trod enc P w 0 (fun _ => true) true m e cs' = some y) := by
  rcases open_slice ht h with ⟨rfl, _⟩ | ⟨a, len, cap, m, k, D, Pl, rfl, _, hl, hm, hmm, _, hi⟩
  · exact ⟨none, 0, 0, rfl, Nat.le_refl _, Nat.zero_le _, fun h => absurd h (by omega)⟩
  · simp only [if_true] at hmm
    subst hmm
    refine ⟨some a, len, m, rfl, hl, hm, fun h0 => ?_⟩
    rw [hc] at hi
    obtain ⟨cs0, hcs0, _⟩ := hi 0 (by omega)
    obtain ⟨_, hlen0, hat0⟩ := World.cells?_some hcs0
    have h00 := hat0 0 hn
    have hv : cs0[0]? = some (cs0[0]'(by omega)) := List.getElem?_eq_getElem (by omega)
    rw [hv] at h00
    obtain ⟨b, off, spot⟩ := a
    have hspot : spot = none := by simpa [Addr.add] using World.cell?_spot h00
    subst hspot
    have hb := World.block_lt_of_cell? w _ h00
    refine ⟨b, off, rfl, by simpa [Addr.add] using hb, fun i hi' => ?_⟩
    obtain ⟨cs', hcs', ht'⟩ := hi i (by omega)
    obtain ⟨_, hlen', hat'⟩ := World.cells?_some hcs'
    refine ⟨cs', k, _, hlen', fun j hj => ?_, ht'⟩
    have := hat' j hj
    rw [add_plain, add_plain] at this
    exact this

theorem rd3 {t : TypeId} {f0 f1 f2 : Field} {fuel : Nat} {cs : List Value} {x : DataW H × List MemPlace} (hs : P.underlying t = some (.struct #[f0, f1, f2])) (hone : oneCellFields P #[f0, f1, f2] = true) (hC : P.cellsOf t = 3)
    (h : DataW.trod enc P w 0 (fun _ => true) true fuel t cs = some x) :
    ∃ (c0 c1 c2 : Value) (y0 y1 y2 : DataW H × List MemPlace) (m : Nat), cs = [c0, c1, c2] ∧ DataW.trod enc P w 0 (fun _ => true) true m f0.type [c0] = some y0 ∧ DataW.trod enc P w 0 (fun _ => true) true m f1.type [c1] = some y1 ∧ DataW.trod enc P w 0 (fun _ => true) true m f2.type [c2] = some y2 := by
  obtain ⟨y0, y1, y2, m, _, hl, h0, h1, h2⟩ := trod_struct3 hs h
  obtain ⟨o0, k0⟩ := hone_of hone 0 f0 rfl
  obtain ⟨o1, k1⟩ := hone_of hone 1 f1 rfl
  obtain ⟨o2, k2⟩ := hone_of hone 2 f2 rfl
  rw [hC] at hl
  match cs, hl with
  | [c0, c1, c2], _ => exact ⟨c0, c1, c2, y0, y1, y2, m, rfl, by simpa [o0, k0] using h0, by simpa [o1, k1] using h1, by simpa [o2, k2] using h2⟩
theorem rd_int {t : TypeId} {fuel : Nat} {c : Value} {x : DataW H × List MemPlace} (ht : P.underlying t = some (.int .i64)) (h : DataW.trod enc P w 0 (fun _ => true) true fuel t [c] = some x) : ∃ n, c = .int .i64 n ∧ (Lit.int .i64 n).wf = true := by
  obtain ⟨n, hc, _, hw⟩ := DataW.trod_int ht h
  simp at hc
  exact ⟨n, hc, hw⟩
theorem rd_bool {t : TypeId} {fuel : Nat} {c : Value} {x : DataW H × List MemPlace} (ht : P.underlying t = some .bool) (h : DataW.trod enc P w 0 (fun _ => true) true fuel t [c] = some x) : ∃ b, c = .bool b := by
  obtain ⟨b, hc, _⟩ := DataW.trod_bool ht h
  simp at hc
  exact ⟨b, hc⟩
end
section
variable {H : Type} {enc : TypeId × Value → H} {w : World}
theorem cStep : Tryz.prog.cellsOf 137 = 3 := by kernel_rfl
theorem cKind : Tryz.prog.cellsOf 89 = 3 := by kernel_rfl

theorem rd_step {fuel : Nat} {cs : List Value} {x : DataW H × List MemPlace} (h : DataW.trod enc Tryz.prog w 0 (fun _ => true) true fuel 137 cs = some x) :
    ∃ s : St, cs = [.int .i64 s.dx, .int .i64 s.dy, .int .i64 s.far] := by
  obtain ⟨c0, c1, c2, y0, y1, y2, m, rfl, h0, h1, h2⟩ := rd3 Tryz.underlying137 (by kernel_rfl) cStep h
  obtain ⟨a, rfl, _⟩ := rd_int Tryz.underlying3 h0
  obtain ⟨b, rfl, _⟩ := rd_int Tryz.underlying3 h1
  obtain ⟨c, rfl, _⟩ := rd_int Tryz.underlying3 h2
  exact ⟨⟨a, b, c⟩, rfl⟩
theorem map_range_getD {α : Type} (f : Nat → α) (n i : Nat) (d : α) (h : i < n) : ((List.range n).map f).getD i d = f i := by
  rw [List.getD_eq_getElem?_getD, List.getElem?_map, List.getElem?_range h]; rfl
instance : Inhabited St := ⟨⟨0, 0, 0⟩⟩
theorem rd_steps {fuel : Nat} {c : Value} {x : DataW H × List MemPlace} (h : DataW.trod enc Tryz.prog w 0 (fun _ => true) true fuel 87 [c] = some x) :
    ∃ A cap, ∃ l : List St, c = .slice A l.length cap ∧ l.length ≤ maxLen ∧ IsSteps w w.heap.size A l := by
  obtain ⟨A, len, cap, hcs, hl, hm, hi⟩ := rd_slice Tryz.underlying87 cStep (by omega) h
  simp at hcs
  subst hcs
  rcases Nat.eq_zero_or_pos len with rfl | h0
  · exact ⟨A, cap, [], rfl, Nat.zero_le _, fun h => absurd h (by simp)⟩
  · obtain ⟨b, off, rfl, hb, he⟩ := hi h0
    obtain ⟨f, hf⟩ := choose_lt (p := fun i (s : St) => w.cell? ⟨b, off + i * 3, none⟩ = some (.int .i64 s.dx) ∧ w.cell? ⟨b, off + i * 3 + 1, none⟩ = some (.int .i64 s.dy) ∧ w.cell? ⟨b, off + i * 3 + 2, none⟩ = some (.int .i64 s.far)) (n := len) (fun i hi' => by
      obtain ⟨cs', m, y, _, hat, ht⟩ := he i hi'
      obtain ⟨s, rfl⟩ := rd_step ht
      exact ⟨s, hat 0 (by omega), hat 1 (by omega), hat 2 (by omega)⟩)
    refine ⟨_, cap, (List.range len).map f, by simp, by simp; omega, fun _ => ⟨b, off, rfl, hb, fun i hi' => ?_⟩⟩
    have hi2 : i < len := by simpa using hi'
    unfold stAt
    rw [map_range_getD f len i _ hi2]
    exact hf i hi2
theorem rd_kind {fuel : Nat} {cs : List Value} {x : DataW H × List MemPlace} (h : DataW.trod enc Tryz.prog w 0 (fun _ => true) true fuel 89 cs = some x) :
    ∃ name king A cap, ∃ l : List St, cs = [.int .i64 name, .bool king, .slice A l.length cap] ∧ l.length ≤ maxLen ∧ IsSteps w w.heap.size A l := by
  obtain ⟨c0, c1, c2, y0, y1, y2, m, rfl, h0, h1, h2⟩ := rd3 Tryz.underlying89 (by kernel_rfl) cKind h
  obtain ⟨a, rfl, _⟩ := rd_int Tryz.underlying3 h0
  obtain ⟨b, rfl⟩ := rd_bool Tryz.underlying4 h1
  obtain ⟨A, cap, l, rfl, hl, hs⟩ := rd_steps h2
  exact ⟨a, b, A, cap, l, rfl, hl, hs⟩
/-- an argument of the type laws.Kind -/
theorem open_kind {v : Value} {d : DataW H} {p : List MemPlace} {b0 : Nat} (hv : Value.okWide Tryz.prog w .any b0 89 v) (h : DataW.Trod enc Tryz.prog w 0 (fun _ => true) true 89 v d p) :
    ∃ name king A cap, ∃ l : List St, v = .agg #[.int .i64 name, .bool king, .slice A l.length cap] ∧ l.length ≤ maxLen ∧ IsSteps w w.heap.size A l := by
  obtain ⟨cs, rfl, hsz⟩ := okWide_struct Tryz.underlying89 hv
  obtain ⟨fuel, hf⟩ := h
  obtain ⟨name, king, A, cap, l, hcs, hl, hs⟩ := rd_kind (cs := cs.toList) (by simpa [Value.cells] using hf)
  exact ⟨name, king, A, cap, l, by rw [← Array.toArray_toList (xs := cs), hcs], hl, hs⟩
end
end Go.Proofs.YtcgfklljbblhlaaGreatDoor.Opn
