/- Generations (Gen) as arguments of the exact laws: what is known of them as they are read; their conversion. -/
import Derived.Test.YtmfcgikfgikbfaaOpv
namespace Go.Proofs.Ytmfcgikfgikbfaa.Ko
open Go.ChangeShapes Go.WideShapes Go.ChangeAt Go.RowKit Base Sq In
set_option linter.unusedVariables false
set_option maxRecDepth 20000
attribute [local irreducible] wpQuiet

def GenPost (W w' : World) (ply idle : Int) (l : List Int) (e : Ending) : Prop :=
  ∃ g c', e = .returned (.agg #[.int .i64 ply, .int .i64 idle, .slice (some ⟨g, 0, none⟩) l.length c']) ∧ NewNums W.heap.size w' g l ∧ Below W.heap.size W w'
theorem toGen_any (ply idle : Int) (A : Option Addr) (c : Nat) (l : List Int) (w : World) (h : IsNums w w.heap.size A l) (hl : l.length ≤ 1048576) :
    Calls Try.prog 22 #[.agg #[.int .i64 ply, .int .i64 idle, .slice A l.length c]] w fun e w' => GenPost w w' ply idle l e := by
  go_enter Try.func22, Try.ntmps22
  go_wp2_with fail
  refine (toIntS_any _ _ _ _ ((h.below (by repeat (first | exact Below.refl _ _ | assumption | (refine Below.alloc ?_ (by first | omega | (simp; done) | (simp; omega)) _) | (refine Below.setCell ?_ (by first | omega | (simp; done) | (simp; omega)) _) | refine Below.drew ?_))).more (by first | (simp; done) | (simp; omega) | omega)) hl).mono ?_
  rintro e w2 ⟨g, c', rfl, hs2, hb2⟩
  obtain ⟨hc, hf⟩ := bcell hb2
  have hz := hb2.size
  simp at hz
  have hR := ((Blk.new (w.alloc (.cells #[.int .i64 ply, .int .i64 idle, .slice A l.length c] 51)) #[.int .i64 0, .int .i64 0, .slice none 0 0] 54).alloc (.cells #[.int .i64 ply, .int .i64 idle, .slice none 0 0] 54)).below hb2 (by first | (simp; done) | (simp; omega) | omega)
  rw [show (w.alloc (.cells #[.int .i64 ply, .int .i64 idle, .slice A l.length c] 51)).heap.size = w.heap.size + 1 from by simp] at hR
  go_wp2_with fail
  refine bodyPost_ret (v := .agg #[.int .i64 ply, .int .i64 idle, .slice (some ⟨g, 0, none⟩) l.length c']) ?_ rfl ⟨g, c', rfl, ?_, ?_⟩
  · have hR' := (hR.other ⟨w.heap.size + 1 + 1, 2, none⟩ (.slice (some ⟨g, 0, none⟩) l.length c') (by first | (simp; done) | (simp; omega) | omega)).set3 (.int .i64 ply) (.int .i64 idle) (.slice (some ⟨g, 0, none⟩) l.length c')
    obtain ⟨⟨d0, d1, d2⟩, _⟩ := hR'.at3
    simp [results, Try.results22, go_sem, d0, d1, d2]
  · exact ((((hs2.other _ _ (by first | (simp; done) | (simp; omega) | omega)).other _ _ (by first | (simp; done) | (simp; omega) | omega)).other _ _ (by first | (simp; done) | (simp; omega) | omega)).other _ _ (by first | (simp; done) | (simp; omega) | omega)).from_ (by first | (simp; done) | (simp; omega) | omega)
  · have hw := hb2.mono (show w.heap.size ≤ _ from (by first | (simp; done) | (simp; omega) | omega))
    exact (((((Below.trans (by repeat (first | exact Below.refl _ _ | assumption | (refine Below.alloc ?_ (by first | omega | (simp; done) | (simp; omega)) _) | (refine Below.setCell ?_ (by first | omega | (simp; done) | (simp; omega)) _) | refine Below.drew ?_)) hw).setCell (by first | (simp; done) | (simp; omega) | omega) _).setCell (by first | (simp; done) | (simp; omega) | omega) _).setCell (by first | (simp; done) | (simp; omega) | omega) _).setCell (by first | (simp; done) | (simp; omega) | omega) _)
theorem szIntS_any (A : Option Addr) (c n : Nat) (left : Int) (w : World) (hn : n ≤ 9223372036854775807) (h1 : 0 ≤ left) (h2 : left ≤ 1048576) :
    Calls Try.prog 40 #[.slice A n c, .int .i64 left] w fun e w' => e = .returned (.int .i64 (if left - n < 0 then -1 else left - n)) ∧ w = w' := by
  by_cases h : left - (n : Int) < 0
  · rw [if_pos h]
    go_enter Try.func40, Try.ntmps40
    go_wp2_with fail
    go_ret
    exact ⟨rfl, rfl⟩
  · rw [if_neg h]
    go_enter Try.func40, Try.ntmps40
    go_wp2_with fail
    go_ret
    exact ⟨rfl, rfl⟩
theorem szGen_any (ply idle : Int) (A : Option Addr) (c n : Nat) (left : Int) (w : World) (hn : n ≤ 9223372036854775807) (h1 : 0 ≤ left) (h2 : left ≤ 1048576) :
    Calls Try.prog 20 #[.agg #[.int .i64 ply, .int .i64 idle, .slice A n c], .int .i64 left] w fun e w' => e = .returned (.int .i64 (if left - n < 0 then -1 else left - n)) ∧ Below w.heap.size w w' := by
  by_cases h : left - (n : Int) < 0
  · rw [if_pos h]
    go_enter Try.func20, Try.ntmps20
    go_wp2_with (go_at_call 40; refine (szIntS_any _ _ _ _ _ hn h1 h2).mono ?_; rw [if_pos h]; rintro e w' ⟨rfl, rfl⟩)
    go_ret
    exact ⟨rfl, below_of _ _⟩
  · rw [if_neg h]
    go_enter Try.func20, Try.ntmps20
    go_wp2_with (go_at_call 40; refine (szIntS_any _ _ _ _ _ hn h1 h2).mono ?_; rw [if_neg h]; rintro e w' ⟨rfl, rfl⟩)
    go_ret
    exact ⟨rfl, below_of _ _⟩
theorem eqGen_same (ply idle : Int) (A A' : Option Addr) (c c' : Nat) (l : List Int) (w : World) (h : IsInts w w.heap.size A l) (h' : IsInts w w.heap.size A' l) (hl : l.length ≤ 1048576) :
    Calls Try.prog 24 #[.agg #[.int .i64 ply, .int .i64 idle, .slice A l.length c], .agg #[.int .i64 ply, .int .i64 idle, .slice A' l.length c']] w fun e w' => e = .returned (.bool true) ∧ Below w.heap.size w w' := by
  go_enter Try.func24, Try.ntmps24
  go_wp2_with fail
  refine (eqIntS_same _ _ _ _ _ _ ((h.below (by repeat (first | exact Below.refl _ _ | assumption | (refine Below.alloc ?_ (by first | omega | (simp; done) | (simp; omega)) _) | (refine Below.setCell ?_ (by first | omega | (simp; done) | (simp; omega)) _) | refine Below.drew ?_))).more (by first | (simp; done) | (simp; omega) | omega)) ((h'.below (by repeat (first | exact Below.refl _ _ | assumption | (refine Below.alloc ?_ (by first | omega | (simp; done) | (simp; omega)) _) | (refine Below.setCell ?_ (by first | omega | (simp; done) | (simp; omega)) _) | refine Below.drew ?_))).more (by first | (simp; done) | (simp; omega) | omega)) hl).mono ?_
  rintro e w2 ⟨rfl, hb2⟩
  go_wp2_with fail
  go_ret
  exact ⟨rfl, Below.trans (by repeat (first | exact Below.refl _ _ | assumption | (refine Below.alloc ?_ (by first | omega | (simp; done) | (simp; omega)) _) | (refine Below.setCell ?_ (by first | omega | (simp; done) | (simp; omega)) _) | refine Below.drew ?_)) (hb2.mono (by first | (simp; done) | (simp; omega) | omega))⟩
end Go.Proofs.Ytmfcgikfgikbfaa.Ko
namespace Go.Proofs.Ytmfcgikfgikbfaa.Opn
open Go.ChangeShapes Go.WideShapes Go.ChangeAt Go.RowKit Base Ko In Go.Deep
set_option maxRecDepth 20000
section
variable {H : Type} {enc : TypeId × Value → H} {w : World}
theorem cGen : Try.prog.cellsOf 51 = 3 := by kernel_rfl
/-- an argument of the type laws.Gen -/
theorem open_gen {v : Value} {d : DataW H} {p : List MemPlace} {b0 : Nat} (hv : Value.okWide Try.prog w .any b0 51 v) (h : DataW.Trod enc Try.prog w 0 (fun _ => true) true 51 v d p) :
    ∃ ply idle A cap, ∃ l : List Int, v = .agg #[.int .i64 ply, .int .i64 idle, .slice A l.length cap] ∧ l.length ≤ maxLen ∧ IsNums w w.heap.size A l := by
  obtain ⟨cs, rfl, hsz⟩ := okWide_struct Try.underlying51 hv
  obtain ⟨fuel, hf⟩ := h
  have hf2 : DataW.trod enc Try.prog w 0 (fun _ => true) true fuel 51 cs.toList = some (d, p) := by simpa [Value.cells] using hf
  obtain ⟨c0, c1, c2, y0, y1, y2, m, hcs, h0, h1, h2⟩ := rd3 Try.underlying51 (by kernel_rfl) cGen hf2
  obtain ⟨a, rfl, _⟩ := rd_int Try.underlying3 h0
  obtain ⟨b, rfl, _⟩ := rd_int Try.underlying3 h1
  obtain ⟨A, cap, l, rfl, hl, _, hs⟩ := rd_nums h2
  exact ⟨a, b, A, cap, l, by rw [← Array.toArray_toList (xs := cs), hcs], hl, hs⟩
end
end Go.Proofs.Ytmfcgikfgikbfaa.Opn
