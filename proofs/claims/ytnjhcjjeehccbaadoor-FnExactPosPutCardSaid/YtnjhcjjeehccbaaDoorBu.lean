/- strings.Builder at this program: what its methods do to a builder in a block of the call's own. -/
import Derived.Test.YtnjhcjjeehccbaaDoorBase
import Derived.Lib.Builder
import Derived.Lib.AppendStr
import Derived.Lib.UnsafeStr
import Derived.Laws.Externs
namespace Go.Proofs.YtnjhcjjeehccbaaDoor.Bld
open Go.ChangeShapes Go.WideShapes Go.ChangeAt Go.RowKit Base
set_option linter.unusedVariables false
set_option maxRecDepth 20000

theorem infoB : (Tryd.prog.info? 50).map (·.size) = some 2 := by kernel_rfl
theorem liesB : liesAt Tryd.prog Tryd.prog.depth 50 (2 / Tryd.prog.cellsOf 50) 0 50 1 = true := by kernel_rfl
theorem infoU : (Tryd.prog.info? 5).map (fun i => (i.zero, i.size, i.bytes)) = some (some (.int .u8 0), 1, 1) := by kernel_rfl
theorem cellsU : Tryd.prog.cellsOf 5 = 1 := by kernel_rfl
/-- a builder, fresh or used, that holds these bytes -/
abbrev Is (B b : Nat) (l : List UInt8) (w : World) : Prop := Lib.IsBuilder 50 5 B b (Lib.byteCells l) w
abbrev At (B b : Nat) (l : List UInt8) (w : World) : Prop := Lib.BuilderAt 50 5 B b (.pointer (some ⟨b, 0, none⟩)) (Lib.byteCells l) w
theorem Is.parts {B b : Nat} {l : List UInt8} {w : World} (h : Is B b l w) : ∃ p v, B ≤ b ∧ Blk w b #[p, v] 50 ∧ w.ownsRow B 5 1 v l.length (Lib.byteCells l) ∧ v.ownBlock ≠ some b := by
  rcases h with h | h
  · obtain ⟨hB, v, h1, h2, h3⟩ := h
    rw [Lib.byteCells_length] at h2
    exact ⟨_, v, hB, h1, h2, h3⟩
  · obtain ⟨hB, v, h1, h2, h3⟩ := h
    rw [Lib.byteCells_length] at h2
    exact ⟨_, v, hB, h1, h2, h3⟩
theorem Is.below {B b : Nat} {l : List UInt8} {w w' : World} (h : Is B b l w) (hb : Below w.heap.size w w') : Is B b l w' := by
  have go : ∀ p, Lib.BuilderAt 50 5 B b p (Lib.byteCells l) w → Lib.BuilderAt 50 5 B b p (Lib.byteCells l) w' := fun p ⟨hB, v, h1, h2, h3⟩ => by
    refine ⟨hB, v, (hb.block b (lt_of_block h1)).trans h1, ⟨h2.1, ?_⟩, h3⟩
    rcases h2.2 with h0 | ⟨g, cap, cur, hv, hg0, hg, rest⟩
    · exact .inl h0
    · exact .inr ⟨g, cap, cur, hv, hg0, (hb.block g (lt_of_block hg)).trans hg, rest⟩
  rcases h with h | h
  · exact .inl (go _ h)
  · exact .inr (go _ h)
theorem Is.fresh (w : World) (B : Nat) (hB : B ≤ w.heap.size) : Is B w.heap.size [] (w.alloc (.cells #[.pointer none, .slice none 0 0] 50)) :=
  .inl ⟨hB, .slice none 0 0, Blk.new _ _ _, World.ownsRow_nil _ _ _ _, by simp [Value.ownBlock]⟩

set_option maxHeartbeats 1000000 in
theorem check_used (b : Nat) (v : Value) (w : World) (h : Blk w b #[.pointer (some ⟨b, 0, none⟩), v] 50) :
    Calls Tryd.prog 36 #[.pointer (some ⟨b, 0, none⟩)] w fun e w' => e = .returned (.tuple #[]) ∧ w = w' := by
  obtain ⟨j, hj, _⟩ := Option.map_eq_some_iff.1 infoB
  obtain ⟨⟨a0, a1⟩, _⟩ := h.at2
  have hne := Lib.run_neq_ptr_same (P := Tryd.prog) w (tp := 47) (te := 50) ⟨b, 0, none⟩ Tryd.underlying47 hj
  go_enter Tryd.func36, Tryd.ntmps36
  go_wp2_with fail
  go_end0
  exact ⟨rfl, rfl⟩
set_option maxHeartbeats 1000000 in
theorem check_fresh (b : Nat) (v : Value) (w : World) (h : Blk w b #[.pointer none, v] 50) :
    Calls Tryd.prog 36 #[.pointer (some ⟨b, 0, none⟩)] w fun e w' => e = .returned (.tuple #[]) ∧ w' = w.setCell ⟨b, 0, none⟩ (.pointer (some ⟨b, 0, none⟩)) := by
  obtain ⟨j, hj, hjs⟩ := Option.map_eq_some_iff.1 infoB
  obtain ⟨⟨a0, a1⟩, ⟨f0, f1⟩⟩ := h.at2
  have hsh : w.shape? b = some (50, 2) := by unfold Blk at h; simp [World.shape?, h]
  have h1 := Lib.run_to_unsafe (P := Tryd.prog) w (src := 47) (dst := 86) ⟨b, 0, none⟩ Tryd.underlying47 Tryd.underlying86 hj (by rw [hjs]; decide) hsh (Nat.zero_lt_succ 1)
  have h2 : (callFunc 52 #[.pointer (some ⟨b, 0, none⟩)]).run Tryd.prog w = .ok (.value (.pointer (some ⟨b, 0, none⟩))) w := by
    rw [run_callFunc_extern Tryd.func52 (by kernel_rfl) (by kernel_rfl) (by kernel_rfl) (e := Extern.AbiNoEscape.same) (by kernel_rfl), Lib.run_noEscape]
    rfl
  have h3 := Lib.run_from_unsafe (P := Tryd.prog) w (src := 86) (dst := 47) ⟨b, 0, none⟩ Tryd.underlying86 Tryd.underlying47 hj hsh liesB
  clear hsh
  go_enter Tryd.func36, Tryd.ntmps36
  go_wp2_with fail
  go_end0
  exact ⟨rfl, rfl⟩
theorem check_any (B b : Nat) (l : List UInt8) (w : World) (h : Is B b l w) :
    Calls Tryd.prog 36 #[.pointer (some ⟨b, 0, none⟩)] w fun e w' => e = .returned (.tuple #[]) ∧ At B b l w' ∧ Below B w w' := by
  rcases h with h | h
  · obtain ⟨hB, v, h1, h2, h3⟩ := h
    refine (check_fresh b v w h1).mono ?_
    rintro e w' ⟨rfl, rfl⟩
    exact ⟨rfl, Lib.BuilderAt.used ⟨hB, v, h1, h2, h3⟩ _, (Below.refl B w).setCell (p := ⟨b, 0, none⟩) hB _⟩
  · obtain ⟨hB, v, h1, h2, h3⟩ := h
    refine (check_used b v w h1).mono ?_
    rintro e w' ⟨rfl, rfl⟩
    exact ⟨rfl, ⟨hB, v, h1, h2, h3⟩, Below.refl B _⟩

set_option maxHeartbeats 2000000 in
theorem write_any (B b : Nat) (l : List UInt8) (s : ByteArray) (w : World) (h : Is B b l w) (hlen : l.length + s.size ≤ 140737488355328) (hBw : B ≤ w.heap.size) :
    Calls Tryd.prog 19 #[.pointer (some ⟨b, 0, none⟩), .string s] w fun e w' => e = .returned (.tuple #[.int .i64 s.size, .nilIface]) ∧ At B b (l ++ s.data.toList) w' ∧ Below B w w' := by
  obtain ⟨i0, hi, hz0, hz1, hz2⟩ := info_parts infoU
  go_enter Tryd.func19, Tryd.ntmps19
  go_wp2_with fail
  refine (check_any B b l w h).mono ?_
  rintro e w1 ⟨rfl, ⟨hB, v, hbk, hown, hne⟩, hb1⟩
  have hbk' : Blk w1 b #[.pointer (some ⟨b, 0, none⟩), v] 50 := hbk
  obtain ⟨⟨a0, a1⟩, _⟩ := hbk'.at2
  have hlt := hbk'.lt
  have hown' := hown
  rw [Lib.byteCells_length] at hown'
  have HBK := Lib.hid hbk'
  have HOW := Lib.hid hown'
  have HNE := Lib.hid hne
  have HB1 := Lib.hid hb1
  clear hbk hbk' hown hown' h hne hb1
  go_wp2_with (at_builtin; refine Lib.wpList_append_own_string _ rfl _ _ 48 9 rfl B 5 i0 Tryd.underlying48 Tryd.underlying9 hi hz0 hz1 hz2 _ _ _ rfl HOW.out s rfl (by unfold maxLen; omega) (by omega) (by have := HB1.out.size; omega) ?_; intro v' w2 hown2 hgrow2 hnil2; obtain ⟨ao, n', cap', rfl⟩ : ∃ ao n' cap', v' = .slice ao n' cap' := (by rcases hown2.2 with ⟨hv, _⟩ | ⟨g, cap, cur, hv, _⟩; exact ⟨_, _, _, hv⟩; exact ⟨_, _, _, hv⟩); have hb2 : Blk w2 b #[.pointer (some ⟨b, 0, none⟩), v] 50 := (hgrow2.block b hlt (fun e => HNE.out e.symm)).trans HBK.out; have HB2 := Lib.hid hb2; have HO2 := Lib.hid hown2; have HG2 := Lib.hid hgrow2; obtain ⟨⟨d0, d1⟩, ⟨e0, e1⟩⟩ := hb2.at2; clear hb2 hown2 hgrow2 hnil2)
  go_ret2
  have ho : w2.ownsRow B 5 1 (.slice ao n' cap') (Lib.byteCells (l ++ s.data.toList)).length (Lib.byteCells (l ++ s.data.toList)) := by
    have h1 := HO2.out
    rw [Lib.byteCells_append, ← Lib.strCells_eq, List.length_append, Lib.byteCells_length, Lib.strCells_length]
    exact h1
  refine ⟨rfl, Lib.BuilderAt.put hB HB2.out ho (by decide), ?_⟩
  exact (HB1.out.grown HG2.out (by have := HB1.out.size; omega) (fun k hk => (HOW.out.lt k hk).1)).setCell (p := ⟨b, 1, none⟩) hB _

set_option maxHeartbeats 2000000 in
theorem text_any (B b : Nat) (l : List UInt8) (w : World) (h : Is B b l w) (h0 : l ≠ []) :
    Calls Tryd.prog 22 #[.pointer (some ⟨b, 0, none⟩)] w fun e w' => e = .returned (.string ⟨l.toArray⟩) ∧ Below B w w' := by
  obtain ⟨p, v, hB, hbk, hown, hne⟩ := h.parts
  have hl0 : l.length ≠ 0 := by simpa using h0
  obtain ⟨g, cap, cur, rfl, hbg, hg, hnc, hcm, hcs, htake⟩ : ∃ g cap cur, v = .slice (some ⟨g, 0, none⟩) l.length cap ∧ B ≤ g ∧ w.heap[g]? = some (.cells cur 5 (0, 0)) ∧ l.length ≤ cap ∧ cap ≤ maxLen ∧ cur.size = cap * 1 ∧ cur.toList.take (l.length * 1) = Lib.byteCells l := by
    rcases hown.2 with ⟨_, hz⟩ | ⟨g, cap, cur, hv, r⟩
    · exact absurd hz hl0
    · exact ⟨g, cap, cur, hv, r⟩
  have c1 : w.drew.cell? ⟨b, 1, none⟩ = some (.slice (some ⟨g, 0, none⟩) l.length cap) := hbk.at2.1.2
  have hSD : (Builtin.unsafeSliceData_ #[48] 77 #[.slice (some ⟨g, 0, none⟩) l.length cap]).run Tryd.prog w.drew = .ok (.pointer (some ⟨g, 0, none⟩)) w.drew :=
    Lib.run_unsafeSliceData_row _ _ _ _ _ _ (by omega)
  have hUS : (Builtin.unsafeString_ #[77, 3] 9 #[.pointer (some ⟨g, 0, none⟩), .int .i64 l.length]).run Tryd.prog w.drew = .ok (.string ⟨l.toArray⟩) (w.drew.freeze ⟨g, 0, none⟩ l.length) := by
    refine Lib.run_unsafeString_row w.drew 77 3 9 5 Tryd.underlying77 cellsU g cur.size (by have hg' : w.drew.heap[g]? = some (.cells cur 5 (0, 0)) := hg; simp [World.shape?, hg']) l h0 (by omega) (by unfold maxLen at hcm; omega) ?_
    intro j x hx
    have := hown.cells (g := g) rfl j (.int .u8 x.toNat) (by simp [Lib.byteCells, hx])
    exact this
  clear hown hbk hg htake
  go_enter Tryd.func22, Tryd.ntmps22
  go_wp2_with fail
  go_region
  all_goals
    go_wp2_with fail
    go_ret
    exact ⟨rfl, Lib.below_freeze (Below.drew (Below.refl B w)) (p := ⟨g, 0, none⟩) hbg _⟩
end Go.Proofs.YtnjhcjjeehccbaaDoor.Bld
