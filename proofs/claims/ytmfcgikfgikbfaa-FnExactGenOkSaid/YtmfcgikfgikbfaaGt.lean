/- tableFor, Gen.table and GenOk of the program. -/
import Derived.Test.YtmfcgikfgikbfaaGk
import Derived.Test.YtmfcgikfgikbfaaPs
namespace Go.Proofs.Ytmfcgikfgikbfaa.Ko
open Go.ChangeShapes Go.WideShapes Go.ChangeAt Go.RowKit Base Sq In
set_option linter.unusedVariables false
set_option maxRecDepth 20000
attribute [local irreducible] wpQuiet

/-- there is a table -/
def tabB (side : Int) (ks : List Kd) (m : List Pc) (z : List Int) : Bool := matV side ks m && decide ((z.length : Int) = numV side m.length) && rangeB z
def nilTable : Value := .agg #[.int .i64 0, .slice none 0 0, .slice none 0 0, .slice none 0 0, .slice none 0 0]
def tableV (side : Int) (A : Option Addr) (c n : Nat) (M : Option Addr) (cm m : Nat) (D : Option Addr) (d : Nat) (V : Option Addr) (cv z : Nat) : Value :=
  .agg #[.int .i64 side, .slice A n c, .slice M m cm, .slice D (m + 1) d, .slice V z cv]
/-- what tableFor returns: a table of the material and the values, or none -/
def TabPost (side : Int) (A : Option Addr) (c : Nat) (ks : List Kd) (M : Option Addr) (cm : Nat) (m : List Pc) (V : Option Addr) (cv : Nat) (z : List Int) (b : Bool) (w w' : World) (e : Ending) : Prop :=
  ∃ tv, e = .returned (.tuple #[tv, .bool b]) ∧ (b = false → tv = nilTable) ∧
    (b = true → ∃ D d, tv = tableV side A c ks.length M cm m.length D d V cv z.length ∧ IsInts w' w'.heap.size D (basesV side m.length)) ∧ Below w.heap.size w w'
theorem Blk.at5 {w : World} {b : Nat} {x y z u v : Value} {T : TypeId} (h : Blk w b #[x, y, z, u, v] T) :
    w.cell? ⟨b, 0, none⟩ = some x ∧ w.cell? ⟨b, 1, none⟩ = some y ∧ w.cell? ⟨b, 2, none⟩ = some z ∧ w.cell? ⟨b, 3, none⟩ = some u ∧ w.cell? ⟨b, 4, none⟩ = some v := ⟨h.cell 0, h.cell 1, h.cell 2, h.cell 3, h.cell 4⟩
theorem Blk.free5 {w : World} {b : Nat} {x y z u v : Value} {T : TypeId} (h : Blk w b #[x, y, z, u, v] T) :
    w.frozen? ⟨b, 0, none⟩ = false ∧ w.frozen? ⟨b, 1, none⟩ = false ∧ w.frozen? ⟨b, 2, none⟩ = false ∧ w.frozen? ⟨b, 3, none⟩ = false ∧ w.frozen? ⟨b, 4, none⟩ = false := ⟨h.free 0, h.free 1, h.free 2, h.free 3, h.free 4⟩
theorem Blk.set5 {w : World} {b : Nat} {x y z u v : Value} {T : TypeId} (h : Blk w b #[x, y, z, u, v] T) (x' y' z' u' v' : Value) :
    Blk (((((w.setCell ⟨b, 0, none⟩ x').setCell ⟨b, 1, none⟩ y').setCell ⟨b, 2, none⟩ z').setCell ⟨b, 3, none⟩ u').setCell ⟨b, 4, none⟩ v') b #[x', y', z', u', v'] T :=
  ((((h.set 0 x').set 1 y').set 2 z').set 3 u').set 4 v'
theorem below_set5 {B : Nat} {w w' : World} (h : Below B w w') {b : Nat} (hb : B ≤ b) (x y z u v : Value) :
    Below B w (((((w'.setCell ⟨b, 0, none⟩ x).setCell ⟨b, 1, none⟩ y).setCell ⟨b, 2, none⟩ z).setCell ⟨b, 3, none⟩ u).setCell ⟨b, 4, none⟩ v) :=
  ((((h.setCell (p := ⟨b, 0, none⟩) hb _).setCell (p := ⟨b, 1, none⟩) hb _).setCell (p := ⟨b, 2, none⟩) hb _).setCell (p := ⟨b, 3, none⟩) hb _).setCell (p := ⟨b, 4, none⟩) hb _
theorem IsInts.other {w : World} {B : Nat} {A : Option Addr} {l : List Int} (h : IsInts w B A l) (a : Addr) (u : Value) (hne : ∀ b, A = some ⟨b, 0, none⟩ → b ≠ a.block) : IsInts (w.setCell a u) B A l := fun hn => by
  obtain ⟨b, rfl, hB, hc⟩ := h hn
  exact ⟨b, rfl, hB, fun i hi => (World.cell?_of_block (Below.heap_setCell w a u b (hne b rfl))).trans (hc i hi)⟩

set_option maxHeartbeats 4000000 in
theorem tableFor_any (side : Int) (A : Option Addr) (c : Nat) (ks : List Kd) (M : Option Addr) (cm : Nat) (m : List Pc) (V : Option Addr) (cv : Nat) (z : List Int) (w : World) (hR : IsKinds w w.heap.size A ks) (hM : IsPcs w w.heap.size M m) (hV : IsInts w w.heap.size V z)
    (hsm : Small ks) (hm : m.length ≤ 1048576) (hz : z.length ≤ 1048576) :
    Calls Try.prog 61 #[.agg #[.int .i64 side, .slice A ks.length c], .slice M m.length cm, .slice V z.length cv] w fun e w' => TabPost side A c ks M cm m V cv z (tabB side ks m z) w w' e := by
  have hb0 : Below w.heap.size w ((w.alloc (.cells #[.int .i64 side, .slice A ks.length c] 36)).alloc (.cells #[.int .i64 0, .slice none 0 0, .slice none 0 0, .slice none 0 0, .slice none 0 0] 80)) := (by repeat (first | exact Below.refl _ _ | assumption | (refine Below.alloc ?_ (by first | omega | (simp; done) | (simp; omega)) _) | (refine Below.setCell ?_ (by first | omega | (simp; done) | (simp; omega)) _) | refine Below.drew ?_))
  have p2 := Blk.new (w.alloc (.cells #[.int .i64 side, .slice A ks.length c] 36)) #[.int .i64 0, .slice none 0 0, .slice none 0 0, .slice none 0 0, .slice none 0 0] 80
  simp only [World.size_alloc] at p2
  have HU := Lib.hid (show tabB side ks m z = (matV side ks m && decide ((z.length : Int) = numV side m.length) && rangeB z) from rfl)
  go_enter Try.func61, Try.ntmps61
  go_wp2_with fail
  generalize hW0 : (w.alloc _).alloc _ = W0 at *
  clear hW0
  have hR1 := (hR.below hb0).more hb0.size
  have hM1 := (hM.below hb0).more hb0.size
  have hV1 := (hV.below hb0).more hb0.size
  refine (coderOf_any _ _ _ _ _ _ _ _ hR1 hM1 hsm hm).mono ?_
  unfold CoderPost
  cases hok : matV side ks m
  · have HV := Lib.hid (show tabB side ks m z = false by rw [HU.out, hok]; rfl)
    clear hok HU
    rintro e w2 ⟨cv2, rfl, hn, _, hb2⟩
    obtain rfl := hn rfl
    unfold nilCoder
    have q2 := p2.below hb2 p2.lt
    have y2 := (p2.below hb2 p2.lt).lt
    obtain ⟨f0, f1, f2, f3, f4⟩ := Blk.free5 (p2.below hb2 p2.lt)
    obtain ⟨c0, c1, c2, c3, c4⟩ := Blk.at5 (p2.below hb2 p2.lt)
    have hbe := hb0.trans (hb2.mono hb0.size)
    have hx := Blk.at5 ((Blk.set5 q2 (.int .i64 0) (.slice none 0 0) (.slice none 0 0) (.slice none 0 0) (.slice none 0 0)).alloc (.cells #[.int .i64 0, .slice none 0 0, .slice none 0 0, .slice none 0 0] 78))
    have hB0 := below_set5 hbe (b := w.heap.size + 1) (by omega) (.int .i64 0) (.slice none 0 0) (.slice none 0 0) (.slice none 0 0) (.slice none 0 0)
    have hB := hB0.alloc hB0.size (.cells #[.int .i64 0, .slice none 0 0, .slice none 0 0, .slice none 0 0] 78)
    clear p2 hb0 hb2 hn q2 hbe hB0
    go_wp2_with fail
    refine bodyPost_ret (v := .tuple #[nilTable, .bool false]) ?_ rfl ⟨nilTable, by rw [HV.out], fun _ => rfl, (fun h => by rw [HV.out] at h; cases h), hB⟩
    obtain ⟨x0, x1, x2, x3, x4⟩ := hx
    simp [results, Try.results61, go_sem, nilTable, x0, x1, x2, x3, x4]
  · obtain ⟨hro, hm4⟩ := matV_facts hok
    obtain ⟨hs, _⟩ := rulesOk_facts hro
    have HS := Lib.hid hs
    have HK := Lib.hid hok
    clear hro hs hok
    rintro e w2 ⟨cv2, rfl, _, hy, hb2⟩
    obtain ⟨D, d, rfl, hI⟩ := hy rfl
    have hA := below_of w2 (.cells #[.int .i64 side, .slice A ks.length c, .slice M m.length cm, .slice D (m.length + 1) d] 78)
    have q2 := (p2.below hb2 p2.lt).alloc (.cells #[.int .i64 side, .slice A ks.length c, .slice M m.length cm, .slice D (m.length + 1) d] 78)
    have q3 := Blk.new w2 #[.int .i64 side, .slice A ks.length c, .slice M m.length cm, .slice D (m.length + 1) d] 78
    have hbe := (hb0.trans (hb2.mono hb0.size)).alloc (hb0.trans (hb2.mono hb0.size)).size (.cells #[.int .i64 side, .slice A ks.length c, .slice M m.length cm, .slice D (m.length + 1) d] 78)
    have hI3 := (hI.below hA).more hA.size
    have hI2 := hI
    have y2 := q2.lt
    have y3 := q3.lt
    clear p2 hb0 hI hA hy
    by_cases he : (z.length : Int) = numV side m.length
    · have hd : ((z.length : Int) == numV side m.length) = true := by simp [he]
      have hd2 : ((z.length : Int) != numV side m.length) = false := by simp [he]
      have HE := Lib.hid he
      clear he
      go_wp2_with fail
      generalize hW3 : w2.alloc _ = W3 at *
      generalize hbk : w2.heap.size = bk at *
      have hz3 : bk + 1 ≤ W3.heap.size := by omega
      clear hW3
      refine (many_any side A c ks.length M cm m.length D d _ hI3 HS.out hm4).mono ?_
      rintro e w4 ⟨rfl, hb4⟩
      have q2 := q2.below hb4 y2
      have q3 := Blk.below q3 hb4 y3
      have hbe4 := hbe.trans (hb4.mono hbe.size)
      have hI4 := hI3.below hb4
      have hz4 := hb4.size
      have y2 := q2.lt
      have y3 := q3.lt
      obtain ⟨f0, f1, f2, f3, f4⟩ := Blk.free5 q2
      obtain ⟨c0, c1, c2, c3, c4⟩ := Blk.at5 q2
      obtain ⟨d0, d1, d2, d3⟩ := Blk.at4 q3
      have HNE : Hid (∀ b, D = some ⟨b, 0, none⟩ → b ≠ w.heap.size + 1) := Lib.hid (fun b hb => by
        obtain ⟨b', hb', _, hc⟩ := hI4 (by rw [bases_len]; omega)
        rw [hb] at hb'
        injection hb' with hb'
        injection hb' with hb'
        subst hb'
        have h0 := hc 0 (by rw [bases_len]; omega)
        rintro rfl
        rw [c0] at h0
        exact absurd h0 (by unfold basesV; simp [iAt]))
      clear hb4 hI2 hI3
      cases hr : rangeB z
      · have HV := Lib.hid (show tabB side ks m z = false by rw [HU.out, hr]; simp)
        have HR := Lib.hid hr
        clear hr HU
        go_wp2_with fail
        refine (valsOk_any _ _ _ _ ((hV.below hbe4).more hbe4.size) hz).mono ?_
        rw [HR.out]
        rintro e w5 ⟨rfl, rfl⟩
        have hx := Blk.at5 (Blk.set5 q2 (.int .i64 0) (.slice none 0 0) (.slice none 0 0) (.slice none 0 0) (.slice none 0 0))
        have hB := below_set5 hbe4 (b := w.heap.size + 1) (by omega) (.int .i64 0) (.slice none 0 0) (.slice none 0 0) (.slice none 0 0) (.slice none 0 0)
        clear hbe hbe4
        go_wp2_with fail
        refine bodyPost_ret (v := .tuple #[nilTable, .bool false]) ?_ rfl ⟨nilTable, by rw [HV.out], fun _ => rfl, (fun h => by rw [HV.out] at h; cases h), hB⟩
        obtain ⟨x0, x1, x2, x3, x4⟩ := hx
        simp [results, Try.results61, go_sem, nilTable, x0, x1, x2, x3, x4]
      · have HV := Lib.hid (show tabB side ks m z = true by rw [HU.out, HK.out, decide_eq_true HE.out, hr]; rfl)
        have HR := Lib.hid hr
        clear hr HU
        have hx := Blk.at5 (Blk.set5 q2 (.int .i64 side) (.slice A ks.length c) (.slice M m.length cm) (.slice D (m.length + 1) d) (.slice V z.length cv))
        have hB := below_set5 hbe4 (b := w.heap.size + 1) (by omega) (.int .i64 side) (.slice A ks.length c) (.slice M m.length cm) (.slice D (m.length + 1) d) (.slice V z.length cv)
        have hI5 : IsInts (((((w4.setCell ⟨w.heap.size + 1, 0, none⟩ (.int .i64 side)).setCell ⟨w.heap.size + 1, 1, none⟩ (.slice A ks.length c)).setCell ⟨w.heap.size + 1, 2, none⟩ (.slice M m.length cm)).setCell ⟨w.heap.size + 1, 3, none⟩ (.slice D (m.length + 1) d)).setCell ⟨w.heap.size + 1, 4, none⟩ (.slice V z.length cv)) w4.heap.size D (basesV side m.length) :=
          IsInts.other (IsInts.other (IsInts.other (IsInts.other (IsInts.other (hI4.more (by omega)) _ _ HNE.out) _ _ HNE.out) _ _ HNE.out) _ _ HNE.out) _ _ HNE.out
        have HI5 := Lib.hid (hI5.more (by simp [World.setCell] : _ ≤ (((((w4.setCell ⟨w.heap.size + 1, 0, none⟩ (.int .i64 side)).setCell ⟨w.heap.size + 1, 1, none⟩ (.slice A ks.length c)).setCell ⟨w.heap.size + 1, 2, none⟩ (.slice M m.length cm)).setCell ⟨w.heap.size + 1, 3, none⟩ (.slice D (m.length + 1) d)).setCell ⟨w.heap.size + 1, 4, none⟩ (.slice V z.length cv)).heap.size))
        clear hbe hI4 hI5 HNE
        go_wp2_with fail
        refine (valsOk_any _ _ _ _ ((hV.below hbe4).more hbe4.size) hz).mono ?_
        rw [HR.out]
        rintro e w5 ⟨rfl, rfl⟩
        clear hbe4
        go_wp2_with fail
        refine bodyPost_ret (v := .tuple #[tableV side A c ks.length M cm m.length D d V cv z.length, .bool true]) ?_ rfl ⟨tableV side A c ks.length M cm m.length D d V cv z.length, by rw [HV.out], (fun h => by rw [HV.out] at h; cases h), fun _ => ⟨D, d, rfl, HI5.out⟩, hB⟩
        obtain ⟨x0, x1, x2, x3, x4⟩ := hx
        simp [results, Try.results61, go_sem, tableV, x0, x1, x2, x3, x4]
    · have hd : ((z.length : Int) == numV side m.length) = false := by simp [he]
      have hd2 : ((z.length : Int) != numV side m.length) = true := by simp [he]
      have HV := Lib.hid (show tabB side ks m z = false by rw [HU.out, decide_eq_false he]; simp)
      clear he HU
      go_wp2_with fail
      generalize hW3 : w2.alloc _ = W3 at *
      generalize hbk : w2.heap.size = bk at *
      clear hW3
      refine (many_any side A c ks.length M cm m.length D d _ hI3 HS.out hm4).mono ?_
      rintro e w4 ⟨rfl, hb4⟩
      have q2 := q2.below hb4 y2
      have hbe4 := hbe.trans (hb4.mono hbe.size)
      have y2 := q2.lt
      obtain ⟨f0, f1, f2, f3, f4⟩ := Blk.free5 q2
      obtain ⟨c0, c1, c2, c3, c4⟩ := Blk.at5 q2
      clear hb4 hI2 hI3
      have hx := Blk.at5 (Blk.set5 q2 (.int .i64 0) (.slice none 0 0) (.slice none 0 0) (.slice none 0 0) (.slice none 0 0))
      have hB := below_set5 hbe4 (b := w.heap.size + 1) (by omega) (.int .i64 0) (.slice none 0 0) (.slice none 0 0) (.slice none 0 0) (.slice none 0 0)
      clear hbe hbe4
      go_wp2_with fail
      refine bodyPost_ret (v := .tuple #[nilTable, .bool false]) ?_ rfl ⟨nilTable, by rw [HV.out], fun _ => rfl, (fun h => by rw [HV.out] at h; cases h), hB⟩
      obtain ⟨x0, x1, x2, x3, x4⟩ := hx
      simp [results, Try.results61, go_sem, nilTable, x0, x1, x2, x3, x4]
end Go.Proofs.Ytmfcgikfgikbfaa.Ko
