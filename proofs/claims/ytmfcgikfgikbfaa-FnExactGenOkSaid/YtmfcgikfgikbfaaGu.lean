/- Gen.table and GenOk of the program. -/
import Derived.Test.YtmfcgikfgikbfaaGt
namespace Go.Proofs.Ytmfcgikfgikbfaa.Ko
open Go.ChangeShapes Go.WideShapes Go.ChangeAt Go.RowKit Base Sq In
set_option linter.unusedVariables false
set_option maxRecDepth 20000
attribute [local irreducible] wpQuiet

set_option maxHeartbeats 4000000 in
theorem genTable_any (side : Int) (A : Option Addr) (c : Nat) (ks : List Kd) (M : Option Addr) (cm : Nat) (m : List Pc) (ply idle : Int) (V : Option Addr) (cv : Nat) (z : List Int) (w : World) (hR : IsKinds w w.heap.size A ks) (hM : IsPcs w w.heap.size M m) (hV : IsInts w w.heap.size V z)
    (hsm : Small ks) (hm : m.length ≤ 1048576) (hz : z.length ≤ 1048576) :
    Calls Try.prog 42 #[.agg #[.int .i64 ply, .int .i64 idle, .slice V z.length cv], .agg #[.int .i64 side, .slice A ks.length c], .slice M m.length cm] w fun e w' => TabPost side A c ks M cm m V cv z (genOkV side ks m ply idle z) w w' e := by
  have hb0 : Below w.heap.size w (((w.alloc (.cells #[.int .i64 ply, .int .i64 idle, .slice V z.length cv] 54)).alloc (.cells #[.int .i64 side, .slice A ks.length c] 36)).alloc (.cells #[.int .i64 0, .slice none 0 0, .slice none 0 0, .slice none 0 0, .slice none 0 0] 80)) := (by repeat (first | exact Below.refl _ _ | assumption | (refine Below.alloc ?_ (by first | omega | (simp; done) | (simp; omega)) _) | (refine Below.setCell ?_ (by first | omega | (simp; done) | (simp; omega)) _) | refine Below.drew ?_))
  have p1 := ((Blk.new w #[.int .i64 ply, .int .i64 idle, .slice V z.length cv] 54).alloc (.cells #[.int .i64 side, .slice A ks.length c] 36)).alloc (.cells #[.int .i64 0, .slice none 0 0, .slice none 0 0, .slice none 0 0, .slice none 0 0] 80)
  have p2 := (Blk.new (w.alloc (.cells #[.int .i64 ply, .int .i64 idle, .slice V z.length cv] 54)) #[.int .i64 side, .slice A ks.length c] 36).alloc (.cells #[.int .i64 0, .slice none 0 0, .slice none 0 0, .slice none 0 0, .slice none 0 0] 80)
  have p3 := Blk.new ((w.alloc (.cells #[.int .i64 ply, .int .i64 idle, .slice V z.length cv] 54)).alloc (.cells #[.int .i64 side, .slice A ks.length c] 36)) #[.int .i64 0, .slice none 0 0, .slice none 0 0, .slice none 0 0, .slice none 0 0] 80
  simp only [World.size_alloc] at p2 p3
  have HU := Lib.hid (show genOkV side ks m ply idle z = (matV side ks m && inB ply 0 100 && inB idle 0 2 && decide ((z.length : Int) = numV side m.length) && rangeB z) from rfl)
  by_cases hin : ply < 0 ∨ 100 < ply ∨ idle < 0 ∨ 2 < idle
  · have HV := Lib.hid (show genOkV side ks m ply idle z = false by
      rw [HU.out]
      rcases (show inB ply 0 100 = false ∨ inB idle 0 2 = false by
        by_cases h : 0 ≤ ply ∧ ply ≤ 100
        · exact .inr (decide_eq_false (by omega))
        · exact .inl (decide_eq_false (by omega))) with h | h
      · rw [h]; simp
      · rw [h]; simp)
    have HX := Lib.hid (Blk.set5 p3 (.int .i64 0) (.slice none 0 0) (.slice none 0 0) (.slice none 0 0) (.slice none 0 0))
    have HB := Lib.hid (below_set5 hb0 (b := w.heap.size + 1 + 1) (by omega) (.int .i64 0) (.slice none 0 0) (.slice none 0 0) (.slice none 0 0) (.slice none 0 0))
    have hcs : (ply < 0) ∨ (¬ ply < 0 ∧ 100 < ply) ∨ (¬ ply < 0 ∧ ¬ 100 < ply ∧ idle < 0) ∨ (¬ ply < 0 ∧ ¬ 100 < ply ∧ ¬ idle < 0 ∧ 2 < idle) := by omega
    clear hin HU p1 p2 p3
    rcases hcs with h1 | ⟨h1, h2⟩ | ⟨h1, h2, h3⟩ | ⟨h1, h2, h3, h4⟩
    all_goals
      go_enter Try.func42, Try.ntmps42
      go_wp2_with fail
      refine bodyPost_ret (v := .tuple #[nilTable, .bool false]) ?_ rfl ⟨nilTable, by rw [HV.out], fun _ => rfl, (fun h => by rw [HV.out] at h; cases h), ?_⟩
      · simp [results, Try.results42, go_sem, nilTable]
      · exact hb0
  · have h1 : ¬ ply < 0 := by omega
    have h2 : ¬ 100 < ply := by omega
    have h3 : ¬ idle < 0 := by omega
    have h4 : ¬ 2 < idle := by omega
    have HT := Lib.hid (show genOkV side ks m ply idle z = tabB side ks m z by
      rw [HU.out, show inB ply 0 100 = true from decide_eq_true (by omega), show inB idle 0 2 = true from decide_eq_true (by omega)]; unfold tabB; simp)
    rw [HT.out]
    clear hin HU
    go_enter Try.func42, Try.ntmps42
    go_wp2_with fail
    generalize hW0 : ((w.alloc _).alloc _).alloc _ = W0 at *
    clear hW0 h1 h2 h3 h4
    refine (tableFor_any _ _ _ _ _ _ _ _ _ _ _ ((hR.below hb0).more hb0.size) ((hM.below hb0).more hb0.size) ((hV.below hb0).more hb0.size) hsm hm hz).mono ?_
    unfold TabPost
    rintro e w2 ⟨tv, rfl, hn, hy, hb2⟩
    have q3 := p3.below hb2 p3.lt
    have hbe := hb0.trans (hb2.mono hb0.size)
    obtain ⟨f0, f1, f2, f3, f4⟩ := Blk.free5 q3
    obtain ⟨c0, c1, c2, c3, c4⟩ := Blk.at5 q3
    have y3 := q3.lt
    clear p1 p2 p3 hb0 hb2
    have HU2 := HT
    clear HT
    cases hb : tabB side ks m z
    · obtain rfl := hn hb
      have HBB := Lib.hid hb
      have hx := Blk.at5 (Blk.set5 q3 (.int .i64 0) (.slice none 0 0) (.slice none 0 0) (.slice none 0 0) (.slice none 0 0))
      have hB := below_set5 hbe (b := w.heap.size + 1 + 1) (by omega) (.int .i64 0) (.slice none 0 0) (.slice none 0 0) (.slice none 0 0) (.slice none 0 0)
      clear hn hy hb hbe
      unfold nilTable
      go_wp2_with fail
      refine bodyPost_ret (v := .tuple #[nilTable, .bool false]) ?_ rfl ⟨nilTable, by rw [HBB.out], fun _ => rfl, (fun h => by rw [HBB.out] at h; cases h), hB⟩
      obtain ⟨x0, x1, x2, x3, x4⟩ := hx
      simp [results, Try.results42, go_sem, nilTable, x0, x1, x2, x3, x4]
    · obtain ⟨D, d, rfl, hI⟩ := hy hb
      have HBB := Lib.hid hb
      have hx := Blk.at5 (Blk.set5 q3 (.int .i64 side) (.slice A ks.length c) (.slice M m.length cm) (.slice D (m.length + 1) d) (.slice V z.length cv))
      have hB := below_set5 hbe (b := w.heap.size + 1 + 1) (by omega) (.int .i64 side) (.slice A ks.length c) (.slice M m.length cm) (.slice D (m.length + 1) d) (.slice V z.length cv)
      have HNE : Hid (∀ b, D = some ⟨b, 0, none⟩ → b ≠ w.heap.size + 1 + 1) := Lib.hid (fun b hb => by
        obtain ⟨b', hb', _, hc⟩ := hI (by rw [bases_len]; omega)
        rw [hb] at hb'
        injection hb' with hb'
        injection hb' with hb'
        subst hb'
        have h0 := hc 0 (by rw [bases_len]; omega)
        rintro rfl
        rw [c0] at h0
        exact absurd h0 (by unfold basesV; simp [iAt]))
      have hI5 : IsInts (((((w2.setCell ⟨w.heap.size + 1 + 1, 0, none⟩ (.int .i64 side)).setCell ⟨w.heap.size + 1 + 1, 1, none⟩ (.slice A ks.length c)).setCell ⟨w.heap.size + 1 + 1, 2, none⟩ (.slice M m.length cm)).setCell ⟨w.heap.size + 1 + 1, 3, none⟩ (.slice D (m.length + 1) d)).setCell ⟨w.heap.size + 1 + 1, 4, none⟩ (.slice V z.length cv)) w2.heap.size D (basesV side m.length) :=
        IsInts.other (IsInts.other (IsInts.other (IsInts.other (IsInts.other hI _ _ HNE.out) _ _ HNE.out) _ _ HNE.out) _ _ HNE.out) _ _ HNE.out
      have HI5 := Lib.hid (hI5.more (by simp [World.setCell] : _ ≤ (((((w2.setCell ⟨w.heap.size + 1 + 1, 0, none⟩ (.int .i64 side)).setCell ⟨w.heap.size + 1 + 1, 1, none⟩ (.slice A ks.length c)).setCell ⟨w.heap.size + 1 + 1, 2, none⟩ (.slice M m.length cm)).setCell ⟨w.heap.size + 1 + 1, 3, none⟩ (.slice D (m.length + 1) d)).setCell ⟨w.heap.size + 1 + 1, 4, none⟩ (.slice V z.length cv)).heap.size))
      clear hn hy hbe hI hI5 HNE hb
      unfold tableV
      go_wp2_with fail
      refine bodyPost_ret (v := .tuple #[tableV side A c ks.length M cm m.length D d V cv z.length, .bool true]) ?_ rfl ⟨tableV side A c ks.length M cm m.length D d V cv z.length, by rw [HBB.out], (fun h => by rw [HBB.out] at h; cases h), fun _ => ⟨D, d, rfl, HI5.out⟩, hB⟩
      obtain ⟨x0, x1, x2, x3, x4⟩ := hx
      simp [results, Try.results42, go_sem, tableV, x0, x1, x2, x3, x4]

set_option maxHeartbeats 2000000 in
theorem genOk_any (side : Int) (A : Option Addr) (c : Nat) (ks : List Kd) (M : Option Addr) (cm : Nat) (m : List Pc) (ply idle : Int) (V : Option Addr) (cv : Nat) (z : List Int) (w : World) (hR : IsKinds w w.heap.size A ks) (hM : IsPcs w w.heap.size M m) (hV : IsInts w w.heap.size V z)
    (hsm : Small ks) (hm : m.length ≤ 1048576) (hz : z.length ≤ 1048576) :
    Calls Try.prog 23 #[.agg #[.int .i64 side, .slice A ks.length c], .slice M m.length cm, .agg #[.int .i64 ply, .int .i64 idle, .slice V z.length cv]] w fun e w' => e = .returned (.bool (genOkV side ks m ply idle z)) ∧ Below w.heap.size w w' := by
  have hb0 : Below w.heap.size w ((w.alloc (.cells #[.int .i64 side, .slice A ks.length c] 36)).alloc (.cells #[.int .i64 ply, .int .i64 idle, .slice V z.length cv] 54)) := (by repeat (first | exact Below.refl _ _ | assumption | (refine Below.alloc ?_ (by first | omega | (simp; done) | (simp; omega)) _) | (refine Below.setCell ?_ (by first | omega | (simp; done) | (simp; omega)) _) | refine Below.drew ?_))
  go_enter Try.func23, Try.ntmps23
  go_wp2_with fail
  refine (genTable_any _ _ _ _ _ _ _ _ _ _ _ _ _ ((hR.below hb0).more hb0.size) ((hM.below hb0).more hb0.size) ((hV.below hb0).more hb0.size) hsm hm hz).mono ?_
  unfold TabPost
  rintro e w2 ⟨tv, rfl, hn, hy, hb2⟩
  have hbe := hb0.trans (hb2.mono hb0.size)
  cases hb : genOkV side ks m ply idle z
  · obtain rfl := hn hb
    have HB := Lib.hid hb
    clear hn hy hb
    unfold nilTable
    go_wp2_with fail
    go_ret
    exact ⟨by rw [HB.out]; rfl, hbe.alloc hbe.size _⟩
  · obtain ⟨D, d, rfl, hI⟩ := hy hb
    have HB := Lib.hid hb
    clear hn hy hb
    unfold tableV
    go_wp2_with fail
    go_ret
    exact ⟨by rw [HB.out]; rfl, hbe.alloc hbe.size _⟩
end Go.Proofs.Ytmfcgikfgikbfaa.Ko
