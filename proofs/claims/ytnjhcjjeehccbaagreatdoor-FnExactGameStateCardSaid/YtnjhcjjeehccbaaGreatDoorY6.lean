/- Values that are in their range: of the program and of the model. tableFor, Gen.table and GenOk of the program. CodeOf of the model and of the program. The score of a value: program and model, over whole numbers alone. The best moves: values (no program is named). The best moves of the model: l9Best. BestMoves of the model. The table of the program: has, score, the closure of best. Slices of moves in the exact laws: compared, marked, held; MovesOf of the program and of the model. The best moves of the program: the closure, largest, best, BestMoves. BestMoves of the program. A line of best moves: values (no program is named). BestLine of the model. BestLine of the program. What is known of a position that was read as data. What the card's condition gives: the library's table of bits lies in its variable. -/
import Derived.Test.YtnjhcjjeehccbaaGreatDoorSq
import Derived.Test.YtnjhcjjeehccbaaGreatDoorIn
import Derived.Test.YtnjhcjjeehccbaaGreatDoorY1
import Derived.Test.YtnjhcjjeehccbaaGreatDoorY5
import Derived.Test.YtnjhcjjeehccbaaGreatDoorPk
import Derived.Test.YtnjhcjjeehccbaaGreatDoorY3
import Derived.Test.YtnjhcjjeehccbaaGreatDoorMk
import Derived.Deep.RegionLaw
import Derived.Test.YtnjhcjjeehccbaaGreatDoorOpr
import Derived.Test.YtnjhcjjeehccbaaGreatDoorCp
import Derived.Test.YtnjhcjjeehccbaaGreatDoorY7
import Derived.ProofKit
import Derived.LaidMore
import Derived.OpenShut
import Derived.Stop.Joined
namespace Go.Proofs.YtnjhcjjeehccbaaGreatDoor.Ko
open Go.ChangeShapes Go.WideShapes Go.ChangeAt Go.RowKit Base Sq In
set_option linter.unusedVariables false
set_option maxRecDepth 20000
attribute [local irreducible] wpQuiet

/-- no value is out of range -/
def rangeB (z : List Int) : Bool := (List.range z.length).all fun i => inB (iAt z i) 0 100
theorem rangeB_bad {z : List Int} {k : Nat} (hk : k < z.length) (h : inB (iAt z k) 0 100 = false) : rangeB z = false := by
  unfold rangeB; rw [List.all_eq_false]; exact ⟨k, by simpa using hk, by simp [h]⟩
theorem rangeB_end {z : List Int} (h : ∀ j, j < z.length → inB (iAt z j) 0 100 = true) : rangeB z = true := by
  unfold rangeB; rw [List.all_eq_true]; intro j hj; exact h j (by simpa using hj)
theorem rangeB_at {z : List Int} (h : rangeB z = true) {k : Nat} (hk : k < z.length) : 0 ≤ iAt z k ∧ iAt z k ≤ 100 := by
  unfold rangeB at h; rw [List.all_eq_true] at h
  exact of_decide_eq_true (h k (by simpa using hk))

set_option maxHeartbeats 1000000 in
theorem l9Range_any (V : Option Addr) (cv : Nat) (z : List Int) (w : World) (hV : IsInts w w.heap.size V z) (hz : z.length ≤ 1048576) :
    Calls Tryz.prog 139 #[.slice V z.length cv] w fun e w' => e = .returned (.bool (rangeB z)) ∧ w = w' := by
  go_enter Tryz.func139, Tryz.ntmps139
  go_wp2_with fail
  go_loop [3] (fun i => ∃ k : Nat, k ≤ z.length ∧ i = .int .i64 k ∧ Hid (∀ j, j < k → inB (iAt z j) 0 100 = true)) (fun i => z.length - (intOf i).toNat)
  case atStart => exact ⟨0, by omega, rfl, Lib.hid (fun j hj => absurd hj (by omega))⟩
  case round =>
    obtain ⟨k, hk, rfl, hg⟩ := hrel
    by_cases hlt : k < z.length
    · obtain ⟨b, rfl, hB, hc⟩ := hV (by omega)
      have c0 := hc k hlt
      have hlt' : (k : Int) < (z.length : Int) := by omega
      clear hc
      cases hb : inB (iAt z k) 0 100
      · have HB := Lib.hid hb
        clear hb
        go_wp2_with (go_at_call 104; refine (in_any _ _ _ _).mono ?_; rw [HB.out]; rintro e w' ⟨rfl, rfl⟩)
        go_ret
        exact ⟨rb (rangeB_bad hlt HB.out).symm, rfl⟩
      · have HB := Lib.hid hb
        clear hb
        go_wp2_with (go_at_call 104; refine (in_any _ _ _ _).mono ?_; rw [HB.out]; rintro e w' ⟨rfl, rfl⟩)
        go_round
        case rel => exact ⟨k + 1, by omega, by go_num, Lib.hid (all_succ hg.out HB.out)⟩
        case measure => simp [intOf]; omega
    · obtain rfl : k = z.length := by omega
      go_wp2_with fail
      go_ret
      exact ⟨rb (rangeB_end hg.out).symm, rfl⟩

/-- the program's test -/
theorem valsOk1_any (x : Int) (w : World) :
    Calls Tryz.prog 180 #[.int .i64 x] w fun e w' => e = .returned (.bool (!inB x 0 100)) ∧ w = w' := by
  by_cases h1 : x < 0
  · have HB := Lib.hid (show inB x 0 100 = false from decide_eq_false (by omega))
    go_enter Tryz.func180, Tryz.ntmps180
    go_wp2_with fail
    go_ret
    exact ⟨by rw [HB.out]; rfl, rfl⟩
  · have hd : decide (x < 0) = false := decide_eq_false h1
    by_cases h2 : 100 < x
    · have HB := Lib.hid (show inB x 0 100 = false from decide_eq_false (by omega))
      clear h1
      go_enter Tryz.func180, Tryz.ntmps180
      go_wp2_with fail
      go_ret
      exact ⟨by rw [HB.out]; first | rfl | simp, rfl⟩
    · have HB := Lib.hid (show inB x 0 100 = true from decide_eq_true (by omega))
      have hd2 : decide (100 < x) = false := decide_eq_false h2
      clear h1 h2
      go_enter Tryz.func180, Tryz.ntmps180
      go_wp2_with fail
      go_ret
      exact ⟨by rw [HB.out]; first | rfl | simp, rfl⟩
set_option maxHeartbeats 1000000 in
theorem indexFunc_any (V : Option Addr) (cv : Nat) (z : List Int) (w : World) (hV : IsInts w w.heap.size V z) (hz : z.length ≤ 1048576) :
    Calls Tryz.prog 202 #[.slice V z.length cv, .func (.func 180) #[] #[]] w fun e w' => (∃ i : Int, e = .returned (.int .i64 i) ∧ -1 ≤ i ∧ i ≤ 1048576 ∧ rangeB z = decide (i < 0)) ∧ w = w' := by
  go_enter Tryz.func202, Tryz.ntmps202
  go_wp2_with fail
  go_loop [8] (fun i => ∃ k : Nat, k ≤ z.length ∧ i = .int .i64 k ∧ Hid (∀ j, j < k → inB (iAt z j) 0 100 = true)) (fun i => z.length - (intOf i).toNat)
  case atStart => exact ⟨0, by omega, rfl, Lib.hid (fun j hj => absurd hj (by omega))⟩
  case round =>
    obtain ⟨k, hk, rfl, hg⟩ := hrel
    by_cases hlt : k < z.length
    · obtain ⟨b, rfl, hB, hc⟩ := hV (by omega)
      have c0 := hc k hlt
      have hlt' : (k : Int) < (z.length : Int) := by omega
      clear hc
      cases hb : inB (iAt z k) 0 100
      · have HB := Lib.hid hb
        clear hb
        go_wp2_with fail
        refine (valsOk1_any _ _).mono ?_
        rw [HB.out]
        rintro e w' ⟨rfl, rfl⟩
        go_wp2_with fail
        go_ret
        exact ⟨⟨k, rfl, by omega, by omega, by rw [rangeB_bad hlt HB.out]; exact (decide_eq_false (by omega)).symm⟩, rfl⟩
      · have HB := Lib.hid hb
        clear hb
        go_wp2_with fail
        refine (valsOk1_any _ _).mono ?_
        rw [HB.out]
        rintro e w' ⟨rfl, rfl⟩
        go_wp2_with fail
        go_round
        case rel => exact ⟨k + 1, by omega, by go_num, Lib.hid (all_succ hg.out HB.out)⟩
        case measure => simp [intOf]; omega
    · obtain rfl : k = z.length := by omega
      go_wp2_with fail
      go_ret
      exact ⟨⟨-1, rfl, by omega, by omega, by rw [rangeB_end hg.out]; rfl⟩, rfl⟩
theorem containsFunc_any (V : Option Addr) (cv : Nat) (z : List Int) (w : World) (hV : IsInts w w.heap.size V z) (hz : z.length ≤ 1048576) :
    Calls Tryz.prog 179 #[.slice V z.length cv, .func (.func 180) #[] #[]] w fun e w' => e = .returned (.bool (!rangeB z)) ∧ w = w' := by
  go_enter Tryz.func179, Tryz.ntmps179
  go_wp2_with fail
  refine (indexFunc_any _ _ _ _ hV hz).mono ?_
  rintro e w' ⟨⟨i, rfl, h1, h2, hr⟩, rfl⟩
  have HR := Lib.hid hr
  clear hr
  go_wp2_with fail
  go_ret
  exact ⟨by rw [HR.out]; apply rb; rw [Bool.eq_iff_iff]; simp, rfl⟩
theorem valsOk_any (V : Option Addr) (cv : Nat) (z : List Int) (w : World) (hV : IsInts w w.heap.size V z) (hz : z.length ≤ 1048576) :
    Calls Tryz.prog 145 #[.slice V z.length cv] w fun e w' => e = .returned (.bool (rangeB z)) ∧ w = w' := by
  go_enter Tryz.func145, Tryz.ntmps145
  go_wp2_with fail
  refine (containsFunc_any _ _ _ _ hV hz).mono ?_
  rintro e w' ⟨rfl, rfl⟩
  go_wp2_with fail
  go_ret
  exact ⟨rb (by simp), rfl⟩
end Go.Proofs.YtnjhcjjeehccbaaGreatDoor.Ko

namespace Go.Proofs.YtnjhcjjeehccbaaGreatDoor.Ko
open Go.ChangeShapes Go.WideShapes Go.ChangeAt Go.RowKit Base Sq In
set_option linter.unusedVariables false
set_option maxRecDepth 20000
attribute [local irreducible] wpQuiet

/-- there is a table -/
def tabB (side : Int) (ks : List Kd) (m : List Pc) (z : List Int) : Bool := matV side ks m && decide ((z.length : Int) = numV side m.length) && rangeB z
def nilTable : Value := .agg #[.int .i64 0, .slice none 0 0, .slice none 0 0, .slice none 0 0, .slice none 0 0]
def tableV (side : Int) (A : Option Addr) (c n : Nat) (M : Option Addr) (cm m : Nat) (D : Option Addr) (d : Nat) (V : Option Addr) (cv z : Nat) : Value :=
  .agg #[.int .i64 side, .slice A n c, .slice M m cm, .slice D (m + 1) d, .slice V z cv]
/-- what tableFor returns: a table of the material and the values, or none -/
def TabPost (side : Int) (A : Option Addr) (c : Nat) (ks : List Kd) (M : Option Addr) (cm : Nat) (m : List Pc) (V : Option Addr) (cv : Nat) (z : List Int) (b : Bool) (w w' : World) (e : Ending) : Prop :=
  ∃ tv, e = .returned (.tuple #[tv, .bool b]) ∧ (b = false → tv = nilTable) ∧
    (b = true → ∃ D d, tv = tableV side A c ks.length M cm m.length D d V cv z.length ∧ IsInts w' w'.heap.size D (basesV side m.length)) ∧ Below w.heap.size w w'
theorem Blk.at5 {w : World} {b : Nat} {x y z u v : Value} {T : TypeId} (h : Blk w b #[x, y, z, u, v] T) :
    w.cell? ⟨b, 0, none⟩ = some x ∧ w.cell? ⟨b, 1, none⟩ = some y ∧ w.cell? ⟨b, 2, none⟩ = some z ∧ w.cell? ⟨b, 3, none⟩ = some u ∧ w.cell? ⟨b, 4, none⟩ = some v := ⟨h.cell 0, h.cell 1, h.cell 2, h.cell 3, h.cell 4⟩
theorem Blk.free5 {w : World} {b : Nat} {x y z u v : Value} {T : TypeId} (h : Blk w b #[x, y, z, u, v] T) :
    w.frozen? ⟨b, 0, none⟩ = false ∧ w.frozen? ⟨b, 1, none⟩ = false ∧ w.frozen? ⟨b, 2, none⟩ = false ∧ w.frozen? ⟨b, 3, none⟩ = false ∧ w.frozen? ⟨b, 4, none⟩ = false := ⟨h.free 0, h.free 1, h.free 2, h.free 3, h.free 4⟩
theorem Blk.set5 {w : World} {b : Nat} {x y z u v : Value} {T : TypeId} (h : Blk w b #[x, y, z, u, v] T) (x' y' z' u' v' : Value) :
    Blk (((((w.setCell ⟨b, 0, none⟩ x').setCell ⟨b, 1, none⟩ y').setCell ⟨b, 2, none⟩ z').setCell ⟨b, 3, none⟩ u').setCell ⟨b, 4, none⟩ v') b #[x', y', z', u', v'] T :=
  ((((h.set 0 x').set 1 y').set 2 z').set 3 u').set 4 v'
theorem below_set5 {B : Nat} {w w' : World} (h : Below B w w') {b : Nat} (hb : B ≤ b) (x y z u v : Value) :
    Below B w (((((w'.setCell ⟨b, 0, none⟩ x).setCell ⟨b, 1, none⟩ y).setCell ⟨b, 2, none⟩ z).setCell ⟨b, 3, none⟩ u).setCell ⟨b, 4, none⟩ v) :=
  ((((h.setCell (p := ⟨b, 0, none⟩) hb _).setCell (p := ⟨b, 1, none⟩) hb _).setCell (p := ⟨b, 2, none⟩) hb _).setCell (p := ⟨b, 3, none⟩) hb _).setCell (p := ⟨b, 4, none⟩) hb _
theorem IsInts.other {w : World} {B : Nat} {A : Option Addr} {l : List Int} (h : IsInts w B A l) (a : Addr) (u : Value) (hne : ∀ b, A = some ⟨b, 0, none⟩ → b ≠ a.block) : IsInts (w.setCell a u) B A l := fun hn => by
  obtain ⟨b, rfl, hB, hc⟩ := h hn
  exact ⟨b, rfl, hB, fun i hi => (World.cell?_of_block (Below.heap_setCell w a u b (hne b rfl))).trans (hc i hi)⟩

set_option maxHeartbeats 4000000 in
theorem tableFor_any (side : Int) (A : Option Addr) (c : Nat) (ks : List Kd) (M : Option Addr) (cm : Nat) (m : List Pc) (V : Option Addr) (cv : Nat) (z : List Int) (w : World) (hR : IsKinds w w.heap.size A ks) (hM : IsPcs w w.heap.size M m) (hV : IsInts w w.heap.size V z)
    (hsm : Small ks) (hm : m.length ≤ 1048576) (hz : z.length ≤ 1048576) :
    Calls Tryz.prog 92 #[.agg #[.int .i64 side, .slice A ks.length c], .slice M m.length cm, .slice V z.length cv] w fun e w' => TabPost side A c ks M cm m V cv z (tabB side ks m z) w w' e := by
  have hb0 : Below w.heap.size w ((w.alloc (.cells #[.int .i64 side, .slice A ks.length c] 36)).alloc (.cells #[.int .i64 0, .slice none 0 0, .slice none 0 0, .slice none 0 0, .slice none 0 0] 134)) := (by repeat (first | exact Below.refl _ _ | assumption | (refine Below.alloc ?_ (by first | omega | (simp; done) | (simp; omega)) _) | (refine Below.setCell ?_ (by first | omega | (simp; done) | (simp; omega)) _) | refine Below.drew ?_))
  have p2 := Blk.new (w.alloc (.cells #[.int .i64 side, .slice A ks.length c] 36)) #[.int .i64 0, .slice none 0 0, .slice none 0 0, .slice none 0 0, .slice none 0 0] 134
  simp only [World.size_alloc] at p2
  have HU := Lib.hid (show tabB side ks m z = (matV side ks m && decide ((z.length : Int) = numV side m.length) && rangeB z) from rfl)
  go_enter Tryz.func92, Tryz.ntmps92
  go_wp2_with fail
  generalize hW0 : (w.alloc _).alloc _ = W0 at *
  clear hW0
  have hR1 := (hR.below hb0).more hb0.size
  have hM1 := (hM.below hb0).more hb0.size
  have hV1 := (hV.below hb0).more hb0.size
  refine (coderOf_any _ _ _ _ _ _ _ _ hR1 hM1 hsm hm).mono ?_
  unfold CoderPost
  cases hok : matV side ks m
  · have HV := Lib.hid (show tabB side ks m z = false by rw [HU.out, hok]; rfl)
    clear hok HU
    rintro e w2 ⟨cv2, rfl, hn, _, hb2⟩
    obtain rfl := hn rfl
    unfold nilCoder
    have q2 := p2.below hb2 p2.lt
    have y2 := (p2.below hb2 p2.lt).lt
    obtain ⟨f0, f1, f2, f3, f4⟩ := Blk.free5 (p2.below hb2 p2.lt)
    obtain ⟨c0, c1, c2, c3, c4⟩ := Blk.at5 (p2.below hb2 p2.lt)
    have hbe := hb0.trans (hb2.mono hb0.size)
    have hx := Blk.at5 ((Blk.set5 q2 (.int .i64 0) (.slice none 0 0) (.slice none 0 0) (.slice none 0 0) (.slice none 0 0)).alloc (.cells #[.int .i64 0, .slice none 0 0, .slice none 0 0, .slice none 0 0] 132))
    have hB0 := below_set5 hbe (b := w.heap.size + 1) (by omega) (.int .i64 0) (.slice none 0 0) (.slice none 0 0) (.slice none 0 0) (.slice none 0 0)
    have hB := hB0.alloc hB0.size (.cells #[.int .i64 0, .slice none 0 0, .slice none 0 0, .slice none 0 0] 132)
    clear p2 hb0 hb2 hn q2 hbe hB0
    go_wp2_with fail
    refine bodyPost_ret (v := .tuple #[nilTable, .bool false]) ?_ rfl ⟨nilTable, by rw [HV.out], fun _ => rfl, (fun h => by rw [HV.out] at h; cases h), hB⟩
    obtain ⟨x0, x1, x2, x3, x4⟩ := hx
    simp [results, Tryz.results92, go_sem, nilTable, x0, x1, x2, x3, x4]
  · obtain ⟨hro, hm4⟩ := matV_facts hok
    obtain ⟨hs, _⟩ := rulesOk_facts hro
    have HS := Lib.hid hs
    have HK := Lib.hid hok
    clear hro hs hok
    rintro e w2 ⟨cv2, rfl, _, hy, hb2⟩
    obtain ⟨D, d, rfl, hI⟩ := hy rfl
    have hA := below_of w2 (.cells #[.int .i64 side, .slice A ks.length c, .slice M m.length cm, .slice D (m.length + 1) d] 132)
    have q2 := (p2.below hb2 p2.lt).alloc (.cells #[.int .i64 side, .slice A ks.length c, .slice M m.length cm, .slice D (m.length + 1) d] 132)
    have q3 := Blk.new w2 #[.int .i64 side, .slice A ks.length c, .slice M m.length cm, .slice D (m.length + 1) d] 132
    have hbe := (hb0.trans (hb2.mono hb0.size)).alloc (hb0.trans (hb2.mono hb0.size)).size (.cells #[.int .i64 side, .slice A ks.length c, .slice M m.length cm, .slice D (m.length + 1) d] 132)
    have hI3 := (hI.below hA).more hA.size
    have hI2 := hI
    have y2 := q2.lt
    have y3 := q3.lt
    clear p2 hb0 hI hA hy
    by_cases he : (z.length : Int) = numV side m.length
    · have hd : ((z.length : Int) == numV side m.length) = true := by simp [he]
      have hd2 : ((z.length : Int) != numV side m.length) = false := by simp [he]
      have HE := Lib.hid he
      clear he
      go_wp2_with fail
      generalize hW3 : w2.alloc _ = W3 at *
      generalize hbk : w2.heap.size = bk at *
      have hz3 : bk + 1 ≤ W3.heap.size := by omega
      clear hW3
      refine (many_any side A c ks.length M cm m.length D d _ hI3 HS.out hm4).mono ?_
      rintro e w4 ⟨rfl, hb4⟩
      have q2 := q2.below hb4 y2
      have q3 := Blk.below q3 hb4 y3
      have hbe4 := hbe.trans (hb4.mono hbe.size)
      have hI4 := hI3.below hb4
      have hz4 := hb4.size
      have y2 := q2.lt
      have y3 := q3.lt
      obtain ⟨f0, f1, f2, f3, f4⟩ := Blk.free5 q2
      obtain ⟨c0, c1, c2, c3, c4⟩ := Blk.at5 q2
      obtain ⟨d0, d1, d2, d3⟩ := Blk.at4 q3
      have HNE : Hid (∀ b, D = some ⟨b, 0, none⟩ → b ≠ w.heap.size + 1) := Lib.hid (fun b hb => by
        obtain ⟨b', hb', _, hc⟩ := hI4 (by rw [bases_len]; omega)
        rw [hb] at hb'
        injection hb' with hb'
        injection hb' with hb'
        subst hb'
        have h0 := hc 0 (by rw [bases_len]; omega)
        rintro rfl
        rw [c0] at h0
        exact absurd h0 (by unfold basesV; simp [iAt]))
      clear hb4 hI2 hI3
      cases hr : rangeB z
      · have HV := Lib.hid (show tabB side ks m z = false by rw [HU.out, hr]; simp)
        have HR := Lib.hid hr
        clear hr HU
        go_wp2_with fail
        refine (valsOk_any _ _ _ _ ((hV.below hbe4).more hbe4.size) hz).mono ?_
        rw [HR.out]
        rintro e w5 ⟨rfl, rfl⟩
        have hx := Blk.at5 (Blk.set5 q2 (.int .i64 0) (.slice none 0 0) (.slice none 0 0) (.slice none 0 0) (.slice none 0 0))
        have hB := below_set5 hbe4 (b := w.heap.size + 1) (by omega) (.int .i64 0) (.slice none 0 0) (.slice none 0 0) (.slice none 0 0) (.slice none 0 0)
        clear hbe hbe4
        go_wp2_with fail
        refine bodyPost_ret (v := .tuple #[nilTable, .bool false]) ?_ rfl ⟨nilTable, by rw [HV.out], fun _ => rfl, (fun h => by rw [HV.out] at h; cases h), hB⟩
        obtain ⟨x0, x1, x2, x3, x4⟩ := hx
        simp [results, Tryz.results92, go_sem, nilTable, x0, x1, x2, x3, x4]
      · have HV := Lib.hid (show tabB side ks m z = true by rw [HU.out, HK.out, decide_eq_true HE.out, hr]; rfl)
        have HR := Lib.hid hr
        clear hr HU
        have hx := Blk.at5 (Blk.set5 q2 (.int .i64 side) (.slice A ks.length c) (.slice M m.length cm) (.slice D (m.length + 1) d) (.slice V z.length cv))
        have hB := below_set5 hbe4 (b := w.heap.size + 1) (by omega) (.int .i64 side) (.slice A ks.length c) (.slice M m.length cm) (.slice D (m.length + 1) d) (.slice V z.length cv)
        have hI5 : IsInts (((((w4.setCell ⟨w.heap.size + 1, 0, none⟩ (.int .i64 side)).setCell ⟨w.heap.size + 1, 1, none⟩ (.slice A ks.length c)).setCell ⟨w.heap.size + 1, 2, none⟩ (.slice M m.length cm)).setCell ⟨w.heap.size + 1, 3, none⟩ (.slice D (m.length + 1) d)).setCell ⟨w.heap.size + 1, 4, none⟩ (.slice V z.length cv)) w4.heap.size D (basesV side m.length) :=
          IsInts.other (IsInts.other (IsInts.other (IsInts.other (IsInts.other (hI4.more (by omega)) _ _ HNE.out) _ _ HNE.out) _ _ HNE.out) _ _ HNE.out) _ _ HNE.out
        have HI5 := Lib.hid (hI5.more (by simp [World.setCell] : _ ≤ (((((w4.setCell ⟨w.heap.size + 1, 0, none⟩ (.int .i64 side)).setCell ⟨w.heap.size + 1, 1, none⟩ (.slice A ks.length c)).setCell ⟨w.heap.size + 1, 2, none⟩ (.slice M m.length cm)).setCell ⟨w.heap.size + 1, 3, none⟩ (.slice D (m.length + 1) d)).setCell ⟨w.heap.size + 1, 4, none⟩ (.slice V z.length cv)).heap.size))
        clear hbe hI4 hI5 HNE
        go_wp2_with fail
        refine (valsOk_any _ _ _ _ ((hV.below hbe4).more hbe4.size) hz).mono ?_
        rw [HR.out]
        rintro e w5 ⟨rfl, rfl⟩
        clear hbe4
        go_wp2_with fail
        refine bodyPost_ret (v := .tuple #[tableV side A c ks.length M cm m.length D d V cv z.length, .bool true]) ?_ rfl ⟨tableV side A c ks.length M cm m.length D d V cv z.length, by rw [HV.out], (fun h => by rw [HV.out] at h; cases h), fun _ => ⟨D, d, rfl, HI5.out⟩, hB⟩
        obtain ⟨x0, x1, x2, x3, x4⟩ := hx
        simp [results, Tryz.results92, go_sem, tableV, x0, x1, x2, x3, x4]
    · have hd : ((z.length : Int) == numV side m.length) = false := by simp [he]
      have hd2 : ((z.length : Int) != numV side m.length) = true := by simp [he]
      have HV := Lib.hid (show tabB side ks m z = false by rw [HU.out, decide_eq_false he]; simp)
      clear he HU
      go_wp2_with fail
      generalize hW3 : w2.alloc _ = W3 at *
      generalize hbk : w2.heap.size = bk at *
      clear hW3
      refine (many_any side A c ks.length M cm m.length D d _ hI3 HS.out hm4).mono ?_
      rintro e w4 ⟨rfl, hb4⟩
      have q2 := q2.below hb4 y2
      have hbe4 := hbe.trans (hb4.mono hbe.size)
      have y2 := q2.lt
      obtain ⟨f0, f1, f2, f3, f4⟩ := Blk.free5 q2
      obtain ⟨c0, c1, c2, c3, c4⟩ := Blk.at5 q2
      clear hb4 hI2 hI3
      have hx := Blk.at5 (Blk.set5 q2 (.int .i64 0) (.slice none 0 0) (.slice none 0 0) (.slice none 0 0) (.slice none 0 0))
      have hB := below_set5 hbe4 (b := w.heap.size + 1) (by omega) (.int .i64 0) (.slice none 0 0) (.slice none 0 0) (.slice none 0 0) (.slice none 0 0)
      clear hbe hbe4
      go_wp2_with fail
      refine bodyPost_ret (v := .tuple #[nilTable, .bool false]) ?_ rfl ⟨nilTable, by rw [HV.out], fun _ => rfl, (fun h => by rw [HV.out] at h; cases h), hB⟩
      obtain ⟨x0, x1, x2, x3, x4⟩ := hx
      simp [results, Tryz.results92, go_sem, nilTable, x0, x1, x2, x3, x4]
end Go.Proofs.YtnjhcjjeehccbaaGreatDoor.Ko

namespace Go.Proofs.YtnjhcjjeehccbaaGreatDoor.Ko
open Go.ChangeShapes Go.WideShapes Go.ChangeAt Go.RowKit Base Sq
set_option linter.unusedVariables false
set_option maxRecDepth 20000
attribute [local irreducible] wpQuiet

def codeOfV (side : Int) (ks : List Kd) (m : List Pc) (t : Int) (l : List St) : Int := if matV side ks m = true ∧ posOk side ks t l = true then codeQ side t l m else -1
theorem posOk_facts {side t : Int} {ks : List Kd} {l : List St} (h : posOk side ks t l = true) : (0 ≤ t ∧ t ≤ 1) ∧ l.length ≤ 4 ∧ (∀ i, i < l.length → 0 ≤ (stAt l i).far ∧ (stAt l i).far < side * side) := by
  unfold posOk at h
  simp only [Bool.and_eq_true] at h
  obtain ⟨h1, h2, _, _, h3⟩ := shapeB_facts h.1
  exact ⟨h1, h2, fun i hi => (h3 i hi).2.2.1⟩

set_option maxHeartbeats 4000000 in
theorem specCodeOf_any (side : Int) (A : Option Addr) (c : Nat) (ks : List Kd) (M : Option Addr) (cm : Nat) (m : List Pc) (t : Int) (N : Option Addr) (cn : Nat) (l : List St) (w : World) (hR : IsKinds w w.heap.size A ks) (hM : IsPcs w w.heap.size M m)
    (hN : IsSteps w w.heap.size N l) (hsm : Small ks) (hm : m.length ≤ 1048576) (hl : l.length ≤ 1048576) :
    Calls Tryz.prog 138 #[.agg #[.int .i64 side, .slice A ks.length c], .slice M m.length cm, .agg #[.int .i64 t, .slice N l.length cn]] w fun e w' => e = .returned (.int .i64 (codeOfV side ks m t l)) ∧ Below w.heap.size w w' := by
  have hb0 : Below w.heap.size w ((w.alloc (.cells #[.int .i64 side, .slice A ks.length c] 36)).alloc (.cells #[.int .i64 t, .slice N l.length cn] 40)) := (by repeat (first | exact Below.refl _ _ | assumption | (refine Below.alloc ?_ (by first | omega | (simp; done) | (simp; omega)) _) | (refine Below.setCell ?_ (by first | omega | (simp; done) | (simp; omega)) _) | refine Below.drew ?_))
  have p1 := (Blk.new w #[.int .i64 side, .slice A ks.length c] 36).alloc (.cells #[.int .i64 t, .slice N l.length cn] 40)
  have p2 := Blk.new (w.alloc (.cells #[.int .i64 side, .slice A ks.length c] 36)) #[.int .i64 t, .slice N l.length cn] 40
  simp only [World.size_alloc] at p2
  go_enter Tryz.func138, Tryz.ntmps138
  go_wp2_with fail
  generalize hW0 : (w.alloc _).alloc _ = W0 at *
  clear hW0
  refine (specMatOk_any _ _ _ _ _ _ _ _ ((hR.below hb0).more hb0.size) ((hM.below hb0).more hb0.size) hsm hm).mono ?_
  rintro e w2 ⟨rfl, hb2⟩
  have q1 := p1.below hb2 p1.lt
  have q2 := p2.below hb2 p2.lt
  have hbe := hb0.trans (hb2.mono hb0.size)
  have y1 := q1.lt
  have y2 := q2.lt
  obtain ⟨⟨r0, r1⟩, _⟩ := q1.at2
  obtain ⟨⟨o0, o1⟩, _⟩ := q2.at2
  clear p1 p2 hb0 hb2
  cases hok : matV side ks m
  · have HV := Lib.hid (show codeOfV side ks m t l = -1 by unfold codeOfV; rw [hok]; rfl)
    clear hok
    go_wp2_with fail
    go_ret
    exact ⟨by rw [HV.out]; rfl, hbe⟩
  · have HK := Lib.hid hok
    obtain ⟨hro, hm4⟩ := matV_facts hok
    obtain ⟨hs, _⟩ := rulesOk_facts hro
    have HRO := Lib.hid hro
    have HSD := Lib.hid hs
    clear hok hro hs
    go_wp2_with fail
    refine (l3Ok_any _ _ _ _ _ _ _ _ _ ((hR.below hbe).more hbe.size) ((hN.below hbe).more hbe.size) HRO.out hl).mono ?_
    rintro e w3 ⟨rfl, hb3⟩
    have q1 := q1.below hb3 y1
    have q2 := q2.below hb3 y2
    have hbe3 := hbe.trans (hb3.mono hbe.size)
    have y1 := q1.lt
    have y2 := q2.lt
    clear r0 r1 o0 o1 hbe hb3
    obtain ⟨⟨r0, r1⟩, _⟩ := q1.at2
    obtain ⟨⟨o0, o1⟩, _⟩ := q2.at2
    cases hpo : posOk side ks t l
    · have HV := Lib.hid (show codeOfV side ks m t l = -1 by unfold codeOfV; rw [hpo]; simp)
      clear hpo
      go_wp2_with fail
      go_ret
      exact ⟨by rw [HV.out]; rfl, hbe3⟩
    · obtain ⟨ht, hl4, hf⟩ := posOk_facts hpo
      have hv : codeOfV side ks m t l = codeQ side t l m := if_pos ⟨HK.out, hpo⟩
      have HFR := Lib.hid hf
      clear hpo hf
      go_wp2_with fail
      refine (l7Twice_any _ _ _ _ _ ((hN.below hbe3).more hbe3.size) hl).mono ?_
      rintro e w4 ⟨rfl, hb4⟩
      have q1 := q1.below hb4 y1
      have q2 := q2.below hb4 y2
      have hbe4 := hbe3.trans (hb4.mono hbe3.size)
      clear r0 r1 o0 o1 hbe3 hb4
      obtain ⟨⟨r0, r1⟩, _⟩ := q1.at2
      obtain ⟨⟨o0, o1⟩, _⟩ := q2.at2
      cases htw : twiceB l
      · have HV := Lib.hid (show codeOfV side ks m t l = codeV side t l m by rw [hv]; unfold codeQ; rw [htw]; rfl)
        clear htw hv
        go_wp2_with fail
        refine (l7Code_any side A c ks.length M cm m t N cn l _ ((hM.below hbe4).more hbe4.size) ((hN.below hbe4).more hbe4.size) HSD.out hm4 hl4 ht HFR.out).mono ?_
        rintro e w5 ⟨rfl, hb5⟩
        go_wp2_with fail
        go_ret
        exact ⟨by rw [HV.out]; rfl, hbe4.trans (hb5.mono hbe4.size)⟩
      · have HV := Lib.hid (show codeOfV side ks m t l = -1 by rw [hv]; unfold codeQ; rw [htw]; rfl)
        clear htw hv
        go_wp2_with fail
        go_ret
        exact ⟨by rw [HV.out]; rfl, hbe4⟩
end Go.Proofs.YtnjhcjjeehccbaaGreatDoor.Ko

namespace Go.Proofs.YtnjhcjjeehccbaaGreatDoor.Sc
open Go.ChangeShapes Go.WideShapes Go.ChangeAt Go.RowKit Base Sq
set_option linter.unusedVariables false
set_option maxRecDepth 20000

def lostB (v : Int) : Bool := decide (2 ≤ v) && decide (v % 2 = 0)
def wonB (v : Int) : Bool := decide (2 ≤ v) && !decide (v % 2 = 0)
def scoreV (v : Int) : Int := if v < 2 ∨ 100 < v then 0 else if v % 2 = 0 then v - 102 else 102 - v
theorem rem_two {v : Int} (h : 0 ≤ v) : v.tmod 2 = v % 2 := Int.tmod_eq_emod_of_nonneg h
theorem lost_low {v : Int} (h : v < 2) : lostB v = false ∧ wonB v = false := by unfold lostB wonB; rw [decide_eq_false (by omega)]; exact ⟨rfl, rfl⟩

theorem isLost_any (v : Int) (w : World) (h : v ≤ 1000) :
    Calls Tryz.prog 204 #[.int .i64 v] w fun e w' => e = .returned (.bool (lostB v)) ∧ w = w' := by
  by_cases h2 : 2 ≤ v
  · have ht : (v - 2).tmod 2 = v % 2 := by rw [rem_two (by omega)]; omega
    have hw : IntKind.i64.wrap (v - 2) = v - 2 := IntWalk.i64_in _ (by omega)
    have hd : decide (2 ≤ v) = true := decide_eq_true h2
    have hc : v % 2 = 0 ∨ v % 2 = 1 := by omega
    rcases hc with hc | hc
    · have hr : lostB v = true := by unfold lostB; rw [hd, decide_eq_true hc]; rfl
      have HR := Lib.hid hr
      rw [hc] at ht
      clear hr hc
      go_enter Tryz.func204, Tryz.ntmps204
      go_wp2_with fail
      go_ret
      exact ⟨rb (by rw [HR.out]), rfl⟩
    · have hr : lostB v = false := by unfold lostB; rw [hd, decide_eq_false (by omega)]; rfl
      have HR := Lib.hid hr
      rw [hc] at ht
      clear hr hc
      go_enter Tryz.func204, Tryz.ntmps204
      go_wp2_with fail
      go_ret
      exact ⟨rb (by rw [HR.out]), rfl⟩
  · have hr := (lost_low (v := v) (by omega)).1
    have HR := Lib.hid hr
    have hd : decide (2 ≤ v) = false := decide_eq_false h2
    clear hr
    go_enter Tryz.func204, Tryz.ntmps204
    go_wp2_with fail
    go_ret
    exact ⟨rb (by rw [HR.out]), rfl⟩
theorem isWon_any (v : Int) (w : World) (h : v ≤ 1000) :
    Calls Tryz.prog 203 #[.int .i64 v] w fun e w' => e = .returned (.bool (wonB v)) ∧ w = w' := by
  by_cases h2 : 2 ≤ v
  · have hd : decide (2 ≤ v) = true := decide_eq_true h2
    have hr : wonB v = !lostB v := by unfold wonB lostB; rw [hd]; simp
    have HR := Lib.hid hr
    clear hr
    go_enter Tryz.func203, Tryz.ntmps203
    go_wp2_with (go_at_call 204; refine (isLost_any _ _ (by omega)).mono ?_; rintro e w' ⟨rfl, rfl⟩)
    go_ret
    exact ⟨rb (by rw [HR.out]), rfl⟩
  · have hr := (lost_low (v := v) (by omega)).2
    have HR := Lib.hid hr
    have hd : decide (2 ≤ v) = false := decide_eq_false h2
    clear hr
    go_enter Tryz.func203, Tryz.ntmps203
    go_wp2_with fail
    go_ret
    exact ⟨rb (by rw [HR.out]), rfl⟩
theorem scoreV_out {v : Int} (h : v < 2 ∨ 100 < v) : scoreV v = 0 := if_pos h
theorem scoreV_won {v : Int} (h : v ≤ 100) (hw : wonB v = true) : scoreV v = 102 - v ∧ 2 ≤ v := by
  unfold wonB at hw
  simp only [Bool.and_eq_true, decide_eq_true_eq, Bool.not_eq_true', decide_eq_false_iff_not] at hw
  exact ⟨by unfold scoreV; rw [if_neg (by omega), if_neg hw.2], hw.1⟩
theorem scoreV_lost {v : Int} (h : v ≤ 100) (hw : lostB v = true) : scoreV v = v - 102 ∧ 2 ≤ v := by
  unfold lostB at hw
  simp only [Bool.and_eq_true, decide_eq_true_eq] at hw
  exact ⟨by unfold scoreV; rw [if_neg (by omega), if_pos hw.2], hw.1⟩
theorem scoreV_none {v : Int} (h1 : wonB v = false) (h2 : lostB v = false) : scoreV v = 0 := by
  refine scoreV_out (.inl ?_)
  unfold wonB lostB at *
  by_cases h : 2 ≤ v
  · rw [decide_eq_true h] at h1 h2; simp_all
  · omega
theorem score_any (v : Int) (w : World) :
    Calls Tryz.prog 184 #[.int .i64 v] w fun e w' => e = .returned (.int .i64 (scoreV v)) ∧ w = w' := by
  by_cases hbig : 100 < v
  · have HR := Lib.hid (scoreV_out (v := v) (.inr hbig))
    have hd : decide (100 < v) = true := decide_eq_true hbig
    go_enter Tryz.func184, Tryz.ntmps184
    go_wp2_with fail
    go_ret
    exact ⟨ri (by rw [HR.out]), rfl⟩
  · have hd : decide (100 < v) = false := decide_eq_false hbig
    cases hw : wonB v
    · cases hl : lostB v
      · have HR := Lib.hid (scoreV_none hw hl)
        have HW := Lib.hid hw
        have HL := Lib.hid hl
        clear hw hl
        go_enter Tryz.func184, Tryz.ntmps184
        go_wp2_with (first | (go_at_call 203; refine (isWon_any _ _ (by omega)).mono ?_; rw [HW.out]; rintro e w' ⟨rfl, rfl⟩) | (go_at_call 204; refine (isLost_any _ _ (by omega)).mono ?_; rw [HL.out]; rintro e w' ⟨rfl, rfl⟩))
        go_ret
        exact ⟨ri (by rw [HR.out]), rfl⟩
      · obtain ⟨hs, h2⟩ := scoreV_lost (by omega) hl
        have HR := Lib.hid hs
        have HW := Lib.hid hw
        have HL := Lib.hid hl
        have e1 : IntKind.i64.wrap (v - 2) = v - 2 := IntWalk.i64_in _ (by omega)
        have e2 : IntKind.i64.wrap (v - 2 - 100) = v - 2 - 100 := IntWalk.i64_in _ (by omega)
        clear hw hl hs
        go_enter Tryz.func184, Tryz.ntmps184
        go_wp2_with (first | (go_at_call 203; refine (isWon_any _ _ (by omega)).mono ?_; rw [HW.out]; rintro e w' ⟨rfl, rfl⟩) | (go_at_call 204; refine (isLost_any _ _ (by omega)).mono ?_; rw [HL.out]; rintro e w' ⟨rfl, rfl⟩))
        go_ret
        exact ⟨ri (by rw [HR.out]; omega), rfl⟩
    · obtain ⟨hs, h2⟩ := scoreV_won (by omega) hw
      have HR := Lib.hid hs
      have HW := Lib.hid hw
      have e1 : IntKind.i64.wrap (v - 2) = v - 2 := IntWalk.i64_in _ (by omega)
      have e2 : IntKind.i64.wrap (100 - (v - 2)) = 100 - (v - 2) := IntWalk.i64_in _ (by omega)
      clear hw hs
      go_enter Tryz.func184, Tryz.ntmps184
      go_wp2_with (first | (go_at_call 203; refine (isWon_any _ _ (by omega)).mono ?_; rw [HW.out]; rintro e w' ⟨rfl, rfl⟩))
      go_ret
      exact ⟨ri (by rw [HR.out]; omega), rfl⟩

/-! the model -/
theorem l8Lost_any (v : Int) (w : World) (h : v ≤ 1000) :
    Calls Tryz.prog 174 #[.int .i64 v] w fun e w' => e = .returned (.bool (lostB v)) ∧ w = w' := by
  by_cases h2 : 2 ≤ v
  · have ht : (v - 2).tmod 2 = v % 2 := by rw [rem_two (by omega)]; omega
    have hw : IntKind.i64.wrap (v - 2) = v - 2 := IntWalk.i64_in _ (by omega)
    have hd : decide (2 ≤ v) = true := decide_eq_true h2
    have hc : v % 2 = 0 ∨ v % 2 = 1 := by omega
    rcases hc with hc | hc
    · have hr : lostB v = true := by unfold lostB; rw [hd, decide_eq_true hc]; rfl
      have HR := Lib.hid hr
      rw [hc] at ht
      clear hr hc
      go_enter Tryz.func174, Tryz.ntmps174
      go_wp2_with fail
      go_ret
      exact ⟨rb (by rw [HR.out]), rfl⟩
    · have hr : lostB v = false := by unfold lostB; rw [hd, decide_eq_false (by omega)]; rfl
      have HR := Lib.hid hr
      rw [hc] at ht
      clear hr hc
      go_enter Tryz.func174, Tryz.ntmps174
      go_wp2_with fail
      go_ret
      exact ⟨rb (by rw [HR.out]), rfl⟩
  · have hr := (lost_low (v := v) (by omega)).1
    have HR := Lib.hid hr
    have hd : decide (2 ≤ v) = false := decide_eq_false h2
    clear hr
    go_enter Tryz.func174, Tryz.ntmps174
    go_wp2_with fail
    go_ret
    exact ⟨rb (by rw [HR.out]), rfl⟩
theorem l8Won_any (v : Int) (w : World) (h : v ≤ 1000) :
    Calls Tryz.prog 175 #[.int .i64 v] w fun e w' => e = .returned (.bool (wonB v)) ∧ w = w' := by
  by_cases h2 : 2 < v
  · have ht : (v - 2).tmod 2 = v % 2 := by rw [rem_two (by omega)]; omega
    have hw : IntKind.i64.wrap (v - 2) = v - 2 := IntWalk.i64_in _ (by omega)
    have hd : decide (2 < v) = true := decide_eq_true h2
    have hd2 : decide (2 ≤ v) = true := decide_eq_true (by omega)
    have hc : v % 2 = 0 ∨ v % 2 = 1 := by omega
    rcases hc with hc | hc
    · have hr : wonB v = false := by unfold wonB; rw [hd2, decide_eq_true hc]; rfl
      have HR := Lib.hid hr
      rw [hc] at ht
      clear hr hc hd2
      go_enter Tryz.func175, Tryz.ntmps175
      go_wp2_with fail
      go_ret
      exact ⟨rb (by rw [HR.out]), rfl⟩
    · have hr : wonB v = true := by unfold wonB; rw [hd2, decide_eq_false (by omega)]; rfl
      have HR := Lib.hid hr
      rw [hc] at ht
      clear hr hc hd2
      go_enter Tryz.func175, Tryz.ntmps175
      go_wp2_with fail
      go_ret
      exact ⟨rb (by rw [HR.out]), rfl⟩
  · have hr : wonB v = false := by
      by_cases he : v = 2
      · subst he; rfl
      · exact (lost_low (v := v) (by omega)).2
    have HR := Lib.hid hr
    have hd : decide (2 < v) = false := decide_eq_false h2
    clear hr
    go_enter Tryz.func175, Tryz.ntmps175
    go_wp2_with fail
    go_ret
    exact ⟨rb (by rw [HR.out]), rfl⟩
theorem l8Score_any (v : Int) (w : World) (h : v ≤ 100) :
    Calls Tryz.prog 140 #[.int .i64 v] w fun e w' => e = .returned (.int .i64 (scoreV v)) ∧ w = w' := by
  cases hl : lostB v
  · cases hw : wonB v
    · have HR := Lib.hid (scoreV_none hw hl)
      have HW := Lib.hid hw
      have HL := Lib.hid hl
      clear hw hl
      go_enter Tryz.func140, Tryz.ntmps140
      go_wp2_with (first | (go_at_call 175; refine (l8Won_any _ _ (by omega)).mono ?_; rw [HW.out]; rintro e w' ⟨rfl, rfl⟩) | (go_at_call 174; refine (l8Lost_any _ _ (by omega)).mono ?_; rw [HL.out]; rintro e w' ⟨rfl, rfl⟩))
      go_ret
      exact ⟨ri (by rw [HR.out]), rfl⟩
    · obtain ⟨hs, h2⟩ := scoreV_won h hw
      have HR := Lib.hid hs
      have HW := Lib.hid hw
      have HL := Lib.hid hl
      have e1 : IntKind.i64.wrap (v - 2) = v - 2 := IntWalk.i64_in _ (by omega)
      have e2 : IntKind.i64.wrap (100 - (v - 2)) = 100 - (v - 2) := IntWalk.i64_in _ (by omega)
      clear hw hs hl
      go_enter Tryz.func140, Tryz.ntmps140
      go_wp2_with (first | (go_at_call 175; refine (l8Won_any _ _ (by omega)).mono ?_; rw [HW.out]; rintro e w' ⟨rfl, rfl⟩) | (go_at_call 174; refine (l8Lost_any _ _ (by omega)).mono ?_; rw [HL.out]; rintro e w' ⟨rfl, rfl⟩))
      go_ret
      exact ⟨ri (by rw [HR.out]; omega), rfl⟩
  · obtain ⟨hs, h2⟩ := scoreV_lost h hl
    have HR := Lib.hid hs
    have HL := Lib.hid hl
    have e1 : IntKind.i64.wrap (v - 2) = v - 2 := IntWalk.i64_in _ (by omega)
    have e2 : IntKind.i64.wrap (v - 2 - 100) = v - 2 - 100 := IntWalk.i64_in _ (by omega)
    clear hl hs
    go_enter Tryz.func140, Tryz.ntmps140
    go_wp2_with (first | (go_at_call 174; refine (l8Lost_any _ _ (by omega)).mono ?_; rw [HL.out]; rintro e w' ⟨rfl, rfl⟩))
    go_ret
    exact ⟨ri (by rw [HR.out]; omega), rfl⟩
/-! what the laws ask besides -/
end Go.Proofs.YtnjhcjjeehccbaaGreatDoor.Sc

namespace Go.Proofs.YtnjhcjjeehccbaaGreatDoor.Ko
open Go.ChangeShapes Go.WideShapes Go.ChangeAt Go.RowKit Base Sq In
set_option linter.unusedVariables false
set_option maxRecDepth 20000

/-- the best of the first k moves by a score, and their score -/
def bestK (f : Mv → Int) (ms : List Mv) : Nat → List Mv × Int
  | 0 => ([], -200)
  | k + 1 => if (bestK f ms k).2 < f (mvAt ms k) then ([mvAt ms k], f (mvAt ms k)) else if f (mvAt ms k) = (bestK f ms k).2 then ((bestK f ms k).1 ++ [mvAt ms k], (bestK f ms k).2) else bestK f ms k
/-- the score of a move by the values -/
def mvS (side t : Int) (m : List Pc) (l : List St) (z : List Int) (mv : Mv) : Int := - Sc.scoreV (iAt z (kidV side t m l mv).toNat)
def canL (side : Int) (ks : List Kd) (m : List Pc) (z : List Int) (t : Int) (l : List St) : Bool := tabB side ks m z && decide (0 ≤ codeOfV side ks m t l)
def bestsL (side : Int) (ks : List Kd) (m : List Pc) (z : List Int) (t : Int) (l : List St) : List Mv := (bestK (mvS side t m l z) (movesL side ks t l) (movesL side ks t l).length).1
def bestL (side : Int) (ks : List Kd) (m : List Pc) (z : List Int) (t : Int) (l : List St) : List Mv := if canL side ks m z t l = true then bestsL side ks m z t l else []
theorem scoreV_bd (v : Int) : -100 ≤ Sc.scoreV v ∧ Sc.scoreV v ≤ 100 := by
  unfold Sc.scoreV; split
  · omega
  · rename_i h; split <;> omega
theorem mvS_bd (side t : Int) (m : List Pc) (l : List St) (z : List Int) (mv : Mv) : -100 ≤ mvS side t m l z mv ∧ mvS side t m l z mv ≤ 100 := by
  unfold mvS; have := scoreV_bd (iAt z (kidV side t m l mv).toNat); omega
theorem bestK_hit {f : Mv → Int} {ms : List Mv} {k : Nat} (h : (bestK f ms k).2 < f (mvAt ms k)) : bestK f ms (k + 1) = ([mvAt ms k], f (mvAt ms k)) := by simp only [bestK]; rw [if_pos h]
theorem bestK_eq {f : Mv → Int} {ms : List Mv} {k : Nat} (h : f (mvAt ms k) = (bestK f ms k).2) : bestK f ms (k + 1) = ((bestK f ms k).1 ++ [mvAt ms k], (bestK f ms k).2) := by simp only [bestK]; rw [if_neg (by omega), if_pos h]
theorem bestK_no {f : Mv → Int} {ms : List Mv} {k : Nat} (h : f (mvAt ms k) < (bestK f ms k).2) : bestK f ms (k + 1) = bestK f ms k := by simp only [bestK]; rw [if_neg (by omega), if_neg (by omega)]
theorem bestK_len (f : Mv → Int) (ms : List Mv) : ∀ k, (bestK f ms k).1.length ≤ k := by
  intro k
  induction k with
  | zero => simp [bestK]
  | succ k ih =>
    simp only [bestK]
    split
    · simp
    · split
      · simp only [List.length_append, List.length_cons, List.length_nil]; omega
      · omega
theorem bestK_most {f : Mv → Int} (hf : ∀ mv, -100 ≤ f mv ∧ f mv ≤ 100) (ms : List Mv) : ∀ k, -200 ≤ (bestK f ms k).2 ∧ (bestK f ms k).2 ≤ 100 ∧ (0 < k → -100 ≤ (bestK f ms k).2 ∧ 0 < (bestK f ms k).1.length) := by
  intro k
  induction k with
  | zero => simp [bestK]
  | succ k ih =>
    have h := hf (mvAt ms k)
    simp only [bestK]
    split
    · exact ⟨by show -200 ≤ f _; omega, h.2, fun _ => ⟨h.1, by simp⟩⟩
    · rename_i hn
      split
      · exact ⟨ih.1, ih.2.1, fun _ => ⟨by show -100 ≤ (bestK f ms k).2; omega, by simp⟩⟩
      · rcases Nat.eq_zero_or_pos k with rfl | hk
        · exact absurd h.1 (by simp [bestK] at hn; omega)
        · exact ⟨ih.1, ih.2.1, fun _ => ih.2.2 hk⟩
/-- a position with a code: no twins, each man is a piece of the material -/
theorem twice_nt {l : List St} (h : twiceB l = false) : NT l := by
  refine List.pairwise_iff_getElem.2 fun i j hi hj hij => ?_
  rw [Bool.eq_false_iff]
  intro hc
  have : twiceB l = true := twiceB_hit (i := j) (k := i) hj hij (by rw [stAt_el hj, stAt_el hi, sameB_comm]; exact hc)
  rw [h] at this; cases this
theorem code_found {s t : Int} {l : List St} {m : List Pc} (hU : Uniq m) (h : codeQ s t l m ≠ -1) : NT l ∧ ∀ j, j < l.length → ∃ i, i < m.length ∧ sameP (stAt l j) (pcAt m i) = true := by
  unfold codeQ at h
  cases htw : twiceB l
  · refine ⟨twice_nt htw, fun j hj => ?_⟩
    rw [htw] at h
    have hf : fndS l m m.length = l.length := by
      by_cases hc : fndS l m m.length = l.length
      · exact hc
      · exact absurd (by unfold codeV; rw [if_neg hc]; rfl) h
    refine Classical.byContradiction fun hn => ?_
    have h1 := sumL_lt (l := l) (m := m) hU (j := j) (fun i hi => by
      rw [Bool.eq_false_iff]; exact fun hc => hn ⟨i, hi, hc⟩) (k := l.length) hj
    rw [fndS_sum] at hf
    omega
  · rw [htw] at h; exact absurd rfl h
theorem kid_code {side t : Int} {ks : List Kd} {m : List Pc} {l : List St} (hs : side = 2 ∨ side = 3 ∨ side = 4) (hsh : shapeB side ks t l = true) (hU : Uniq m) (hF : ∀ j, j < l.length → ∃ i, i < m.length ∧ sameP (stAt l j) (pcAt m i) = true) {mv : Mv} (hm : mv ∈ movesL side ks t l) :
    0 ≤ kidV side t m l mv ∧ kidV side t m l mv < numV side m.length := by
  obtain ⟨n, _, h2, _, _, _, h6, h7⟩ := move_facts hs hsh hm
  rw [h6] at h7
  obtain ⟨h1', _, _, _, h5⟩ := shapeB_facts h7
  unfold kidV codeV
  rw [h6]
  have hd : ∀ j, j < (doL l n mv.2).length → ∃ i, i < m.length ∧ sameP (stAt (doL l n mv.2) j) (pcAt m i) = true := fun j hj => by
    have hmem := stAt_mem hj
    rcases mem_doL.1 hmem with e | ⟨k, hk, _, _, e⟩
    · obtain ⟨i, hi, h⟩ := hF n h2
      exact ⟨i, hi, by rw [e]; exact h⟩
    · obtain ⟨i, hi, h⟩ := hF k hk
      exact ⟨i, hi, by rw [e]; exact h⟩
  have hsum : fndS (doL l n mv.2) m m.length = (doL l n mv.2).length := by rw [fndS_sum]; exact sumL_all hU hd
  rw [if_pos hsum]
  have := codK_bd (s := side) (t := 1 - t) (l := doL l n mv.2) m hs h1' (fun i hi => (h5 i hi).2.2.1) m.length
  omega
end Go.Proofs.YtnjhcjjeehccbaaGreatDoor.Ko

namespace Go.Proofs.YtnjhcjjeehccbaaGreatDoor.Ko
open Go.ChangeShapes Go.WideShapes Go.ChangeAt Go.RowKit Base Sq In
set_option linter.unusedVariables false
set_option maxRecDepth 20000
attribute [local irreducible] wpQuiet

def MvRes (L : List Mv) (w w' : World) (e : Ending) : Prop := ∃ A c, e = .returned (.slice A L.length c) ∧ MvA w.heap.size w'.heap.size w' A L ∧ Below w.heap.size w w'
/-- the best so far -/
def LbLst (wr : World) (hi g0 : Nat) (f : Mv → Int) (ms : List Mv) (k : Nat) (x m : Value) : Prop :=
  m = .int .i64 (bestK f ms k).2 ∧ ((k = 0 ∧ x = .slice (some ⟨g0, 0, none⟩) 0 0) ∨ (0 < k ∧ ∃ B d, x = .slice B (bestK f ms k).1.length d ∧ OwnV wr hi (.slice B (bestK f ms k).1.length d) (bestK f ms k).1))

set_option maxHeartbeats 8000000 in
theorem l9Best_any (side : Int) (A : Option Addr) (c : Nat) (ks : List Kd) (M : Option Addr) (cm : Nat) (m : List Pc) (V : Option Addr) (cv : Nat) (z : List Int) (t : Int) (N : Option Addr) (cn : Nat) (l : List St) (w : World) (hR : IsKinds w w.heap.size A ks) (hM : IsPcs w w.heap.size M m)
    (hV : IsInts w w.heap.size V z) (hN : IsSteps w w.heap.size N l) (hok : matV side ks m = true) (hsh : shapeB side ks t l = true) (hzl : (z.length : Int) = numV side m.length) (hzr : ∀ i, i < z.length → 0 ≤ iAt z i ∧ iAt z i ≤ 100)
    (hF : ∀ j, j < l.length → ∃ i, i < m.length ∧ sameP (stAt l j) (pcAt m i) = true) :
    Calls Tryz.prog 89 #[.agg #[.int .i64 side, .slice A ks.length c], .slice M m.length cm, .slice V z.length cv, .agg #[.int .i64 t, .slice N l.length cn]] w fun e w' => MvRes (bestsL side ks m z t l) w w' e := by
  obtain ⟨hro, hm4⟩ := matV_facts hok
  obtain ⟨hs, _⟩ := rulesOk_facts hro
  obtain ⟨i0, hi0, hz0, hz1, hz2⟩ := info_parts mvInfo
  have hlen := movesL_len (ks := ks) (t := t) hs (shapeB_facts hsh).2.1
  have HMF := Lib.hid (fun mv (hm : mv ∈ movesL side ks t l) => move_facts hs hsh hm)
  have HKC := Lib.hid (fun mv (hm : mv ∈ movesL side ks t l) => kid_code hs hsh (matV_uniq hok) hF hm)
  have HZL := Lib.hid hzl
  have HZR := Lib.hid hzr
  have HSD := Lib.hid hs
  have HRO := Lib.hid hro
  have HSH := Lib.hid hsh
  have HR := Lib.hid hR
  have HM := Lib.hid hM
  have HN := Lib.hid hN
  have HV := Lib.hid hV
  clear hro hs hok hsh hR hM hN hV hF hzl hzr
  go_enter Tryz.func89, Tryz.ntmps89
  go_wp2_with fail
  have hb0 : Below w.heap.size w (((w.alloc (.cells #[.int .i64 side, .slice A ks.length c] 36)).alloc (.cells #[.int .i64 t, .slice N l.length cn] 40)).alloc (.cells #[] 59)) := (by repeat (first | exact Below.refl _ _ | assumption | (refine Below.alloc ?_ (by first | omega | (simp; done) | (simp; omega)) _) | (refine Below.setCell ?_ (by first | omega | (simp; done) | (simp; omega)) _) | refine Below.drew ?_))
  have p1 := ((Blk.new w #[.int .i64 side, .slice A ks.length c] 36).alloc (.cells #[.int .i64 t, .slice N l.length cn] 40)).alloc (.cells #[] 59)
  have p2 := (Blk.new (w.alloc (.cells #[.int .i64 side, .slice A ks.length c] 36)) #[.int .i64 t, .slice N l.length cn] 40).alloc (.cells #[] 59)
  simp only [World.size_alloc] at p2
  generalize hW0 : ((w.alloc _).alloc _).alloc _ = W0 at *
  have hzW0 : w.heap.size + 3 = W0.heap.size := by rw [← hW0]; simp
  clear hW0
  refine (l4All_any side A c ks t N cn l _ ((HR.out.below hb0).more hb0.size) ((HN.out.below hb0).more hb0.size) HRO.out HSH.out).mono ?_
  rintro e w2 ⟨Am, cam, rfl, hmv, hb2⟩
  have q1 := p1.below hb2 p1.lt
  have q2 := p2.below hb2 p2.lt
  have hbe := hb0.trans (hb2.mono hb0.size)
  have hz := hbe.size
  have HBL := Lib.hid (show bestsL side ks m z t l = (bestK (mvS side t m l z) (movesL side ks t l) (movesL side ks t l).length).1 from rfl)
  have HBD := Lib.hid (fun mv => mvS_bd side t m l z mv)
  have HKV := Lib.hid (fun mv => show mvS side t m l z mv = - Sc.scoreV (iAt z (kidV side t m l mv).toNat) from rfl)
  have HLO := Lib.hid (show w.heap.size ≤ W0.heap.size by omega)
  generalize hms : movesL side ks t l = ms at *
  generalize hf : mvS side t m l z = f at *
  have HMO := Lib.hid (fun k => bestK_most (f := f) HBD.out ms k)
  have HBLN := Lib.hid (fun k => bestK_len f ms k)
  clear p1 p2 hb0 hb2 hf hzW0
  have HQ1 := Lib.hid q1
  have HQ2 := Lib.hid q2
  have HMV := Lib.hid hmv
  have HBE := Lib.hid hbe
  have z1 := q1.lt
  have z2 := q2.lt
  clear hmv hbe q1 q2
  go_wp2_with fail
  generalize hhi : w2.heap.size = hi at *
  go_loopw [9, 10, 12] (fun x mo i wr => ∃ k : Nat, k ≤ ms.length ∧ i = .int .i64 k ∧ Hid (LbLst wr hi (w.heap.size + 2) f ms k x mo) ∧ Below hi w2 wr) (fun _ _ i _ => ms.length - (intOf i).toNat)
  case atStart => exact ⟨0, by omega, rfl, Lib.hid ⟨rfl, .inl ⟨rfl, rfl⟩⟩, by rw [← hhi]; exact Below.refl _ _⟩
  case round =>
    obtain ⟨k, hk, rfl, hL, hbw⟩ := hrel
    have hzw := hbw.size
    rw [hhi] at hzw
    have hbe := HBE.out.trans (hbw.mono (by rw [← hhi]; exact HBE.out.size))
    have p1 := HQ1.out.below hbw z1
    have p2 := HQ2.out.below hbw z2
    have hmv := HMV.out.below hbw
    have y1 := p1.lt
    have y2 := p2.lt
    by_cases hlt : k < ms.length
    · have hlt' : (k : Int) < (ms.length : Int) := by omega
      obtain ⟨bm, rfl, zbm, zbh, csm, hbm, hc0, hc1⟩ := hmv.cells hlt
      obtain ⟨n, hf1, hf2, hf3, _, hf5, hf6, hf7⟩ := HMF.out (mvAt ms k) (by rw [mvAt_lt hlt]; exact List.getElem_mem hlt)
      obtain ⟨hk0, hk1⟩ := HKC.out (mvAt ms k) (by rw [mvAt_lt hlt]; exact List.getElem_mem hlt)
      rw [hf6] at hf7
      have HSK := Lib.hid hf7
      have HRP := Lib.hid (resL_pos HSH.out (freeB_king (i := n) (shapeB_up HSH.out) hf5))
      obtain ⟨x, hx⟩ : ∃ x : Nat, (x : Int) = kidV side t m l (mvAt ms k) := ⟨_, Int.toNat_of_nonneg hk0⟩
      have hxl : x < z.length := by have := HZL.out; omega
      have hxl' : (x : Int) < (z.length : Int) := by omega
      have HCV := Lib.hid (show codeV side (1 - t) (doL l n (mvAt ms k).2) m = (x : Int) by rw [hx]; unfold kidV; rw [hf6])
      obtain ⟨bv, rfl, hbv, hcv⟩ := HV.out.below hbe (by omega)
      have hcx := hcv x hxl
      obtain ⟨hv0, hv1⟩ := HZR.out x hxl
      obtain ⟨y, hy⟩ : ∃ y, y = Sc.scoreV (iAt z x) := ⟨_, rfl⟩
      have HY := Lib.hid hy
      have hyb := scoreV_bd (iAt z x)
      rw [← hy] at hyb
      obtain ⟨hy0, hy1⟩ := hyb
      have HFX := Lib.hid (show f (mvAt ms k) = - y by rw [HKV.out, ← hx, Int.toNat_natCast, hy])
      have hwn : IntKind.i64.wrap (-y) = -y := IntWalk.i64_in _ (by omega)
      have hF := Lib.hid (show (stAt l n).far = (mvAt ms k).1 from hf3)
      have hn := hf2
      generalize hu : iAt z x = u at *
      clear hu hx hf1 hf3 hf5 hf6 hf7 hk0 hk1 hcv hy
      generalize hfr : (mvAt ms k).1 = fr at *
      generalize hto : (mvAt ms k).2 = to at *
      have HFR := Lib.hid hfr
      have HTO := Lib.hid hto
      have HP1 := Lib.hid p1
      have HP2 := Lib.hid p2
      have HRK := Lib.hid ((HR.out.below hbe).more hbe.size)
      have HPK := Lib.hid ((HM.out.below hbe).more hbe.size)
      have HNK := Lib.hid ((HN.out.below hbe).more hbe.size)
      have hbv' : bv < wr.heap.size := by have := hbe.size; omega
      have HS : Hid (∀ w', Below wr.heap.size wr w' → (w'.cell? ⟨w.heap.size, 0, none⟩ = some (.int .i64 side) ∧ w'.cell? ⟨w.heap.size, 1, none⟩ = some (.slice A ks.length c) ∧ w'.cell? ⟨w.heap.size + 1, 0, none⟩ = some (.int .i64 t) ∧ w'.cell? ⟨w.heap.size + 1, 1, none⟩ = some (.slice N l.length cn) ∧ w'.cell? ⟨bm, k * 2, none⟩ = some (.int .i64 fr) ∧ w'.cell? ⟨bm, k * 2 + 1, none⟩ = some (.int .i64 to) ∧ w'.cell? ⟨bv, x, none⟩ = some (.int .i64 u))) := Lib.hid (fun w' hb => by
        obtain ⟨⟨a0, a1⟩, _⟩ := (HP1.out.below hb y1).at2
        obtain ⟨⟨b0, b1⟩, _⟩ := (HP2.out.below hb y2).at2
        exact ⟨a0, a1, b0, b1, (hb.cell (p := ⟨bm, k * 2, none⟩) zbm).trans hc0, (hb.cell (p := ⟨bm, k * 2 + 1, none⟩) zbm).trans hc1, (hb.cell (p := ⟨bv, x, none⟩) hbv').trans hcx⟩)
      have hw : Below wr.heap.size wr wr.drew := (Below.refl _ _).drew
      clear p1 p2 hbm hmv hfr hto
      go_wp2_with fail
      go_region_held3 (fun w' => w'.cell? ⟨w.heap.size, 0, none⟩ = some (.int .i64 side) ∧ w'.cell? ⟨w.heap.size, 1, none⟩ = some (.slice A ks.length c) ∧ w'.cell? ⟨w.heap.size + 1, 0, none⟩ = some (.int .i64 t) ∧ w'.cell? ⟨w.heap.size + 1, 1, none⟩ = some (.slice N l.length cn) ∧ w'.cell? ⟨bm, k * 2, none⟩ = some (.int .i64 fr) ∧ w'.cell? ⟨bm, k * 2 + 1, none⟩ = some (.int .i64 to) ∧ w'.cell? ⟨bv, x, none⟩ = some (.int .i64 u))
        (first
          | exact HS.out _ hw)
        (first
          | (go_at_call 90; refine (l4Do_any t N cn l n fr to _ ((HNK.out.below hw).more hw.size) (shapeB_facts HSH.out).1 (shapeB_facts HSH.out).2.1 hn hF.out (shapeB_up HSH.out) HRP.out).mono ?_; rintro e6 w6 ⟨A6, c6, rfl, hm6, hb6⟩; have hw := hw.trans (hb6.mono hw.size))
          | (go_at_call 141; refine (l7Code_any side A c ks.length M cm m (1 - t) A6 c6 (doL l n to) _ ((HPK.out.below hw).more hw.size) hm6.is HSD.out hm4 (shapeB_facts HSK.out).2.1 (shapeB_facts HSK.out).1 (fun i hi => ((shapeB_facts HSK.out).2.2.2.2 i hi).2.2.1)).mono ?_; rw [HCV.out]; rintro e8 w8 ⟨rfl, hb8⟩; have hw := hw.trans (hb8.mono hw.size))
          | (go_at_call 140; refine (Sc.l8Score_any _ _ hv1).mono ?_; rw [← HY.out]; rintro e9 w9 ⟨rfl, rfl⟩))
      all_goals
        obtain ⟨_, _, _, _, m0, m1, _⟩ := HS.out _ hw
        have hbw8 := hbw.trans (hw.mono hzw)
        have hz8 : hi ≤ w8.heap.size := Nat.le_trans hzw hw.size
        have HME := Lib.hid (show mvAt ms k = (fr, to) by rw [← HFR.out, ← HTO.out])
        have HF2 := Lib.hid (show f (mvAt ms k) = -y from HFX.out)
        have hxx := HS
        clear HS hxx
        obtain ⟨hmo, hst⟩ := hL.out
        subst hmo
        obtain ⟨q, hq⟩ : ∃ q, q = (bestK f ms k).2 := ⟨_, rfl⟩
        have HQ := Lib.hid hq
        rw [← hq]
        have HX := Lib.hid hst
        have hL64 : (bestK f ms k).1.length ≤ 64 := by have := HBLN.out k; omega
        have hmx : (bestK f ms k).1.length + 1 ≤ maxLen := by unfold maxLen; omega
        have hmx0 : 0 + 1 ≤ maxLen := by unfold maxLen; omega
        clear hq hst hL hcx hc0 hc1 hbw
        by_cases h1 : q < -y
        · have HNX : Hid (bestK f ms (k + 1) = ([(fr, to)], -y)) := Lib.hid (by rw [bestK_hit (by rw [← HQ.out, HF2.out]; exact h1), HF2.out, HME.out])
          have hd : decide (q < -y) = true := decide_eq_true h1
          clear HX
          go_wp2_with (at_builtin; refine wpList_append_own _ rfl _ _ 41 rfl hi 59 i0 (.agg #[.int .i64 0, .int .i64 0]) 2 16 Tryz.underlying41 hi0 hz0 hz1 hz2 rfl (by decide) _ _ _ rfl (show World.ownsRow (w8.alloc (.cells #[.int .i64 fr, .int .i64 to] 59)) hi 59 2 (.slice none 0 0) 0 [] from OwnV.nil (w8.alloc (.cells #[.int .i64 fr, .int .i64 to] 59)) hi) ⟨w8.heap.size, 0, none⟩ 1 1 [.int .i64 fr, .int .i64 to] rfl rfl (news2 (Blk.new w8 #[.int .i64 fr, .int .i64 to] 59)) one2 hmx0 (by omega) (by simp; omega) ?_; intro v' w7 hown' hgrow7 hnil7; have hOn := OwnV.snoc (base := hi) (l := []) (m := (fr, to)) hown'; have hbG : Below hi (w8.alloc (.cells #[.int .i64 fr, .int .i64 to] 59)) w7 := OwnV.base (OwnV.nil (w8.alloc (.cells #[.int .i64 fr, .int .i64 to] 59)) hi) hgrow7 (Below.refl _ _) (Nat.le_refl _) (by simp; omega); have hbw7 := (hbw8.alloc hz8 (.cells #[.int .i64 fr, .int .i64 to] 59)).trans hbG; obtain ⟨B7, d7, hv7⟩ := hOn.slice; subst hv7; have HO7 := Lib.hid hOn; clear hown' hgrow7 hnil7 hbG hOn)
          go_roundw
          case rel => exact ⟨k + 1, by omega, by go_num, Lib.hid ⟨by rw [HNX.out], .inr ⟨by omega, B7, d7, by rw [HNX.out]; rfl, by rw [HNX.out]; exact HO7.out⟩⟩, hbw7⟩
          case measure => simp [intOf]; omega
        · have hd : decide (q < -y) = false := decide_eq_false h1
          obtain ⟨hk1, B, d, rfl, hO⟩ : 0 < k ∧ ∃ B d, _ = Value.slice B (bestK f ms k).1.length d ∧ OwnV wr hi (.slice B (bestK f ms k).1.length d) (bestK f ms k).1 := by
            rcases HX.out with ⟨h0, _⟩ | h
            · subst h0
              have : q = -200 := HQ.out
              omega
            · exact h
          have HO := Lib.hid (hO.below hw)
          clear hO HX
          by_cases h2 : -y = q
          · have HNX : Hid (bestK f ms (k + 1) = ((bestK f ms k).1 ++ [(fr, to)], q)) := Lib.hid (by rw [bestK_eq (by rw [← HQ.out, HF2.out]; exact h2), HME.out, HQ.out])
            have hde : (-y == q) = true := by simp [h2]
            generalize (bestK f ms k).1 = L at *
            clear h1
            go_wp2_with (at_builtin; refine wpList_append_own _ rfl _ _ 41 rfl hi 59 i0 (.agg #[.int .i64 0, .int .i64 0]) 2 16 Tryz.underlying41 hi0 hz0 hz1 hz2 rfl (by decide) _ _ _ rfl (HO.out.alloc (.cells #[.int .i64 fr, .int .i64 to] 59)) ⟨w8.heap.size, 0, none⟩ 1 1 [.int .i64 fr, .int .i64 to] rfl rfl (news2 (Blk.new w8 #[.int .i64 fr, .int .i64 to] 59)) one2 hmx (by omega) (by simp; omega) ?_; intro v' w7 hown' hgrow7 hnil7; have hOn := OwnV.snoc (l := L) (m := (fr, to)) hown'; have hbG : Below hi (w8.alloc (.cells #[.int .i64 fr, .int .i64 to] 59)) w7 := OwnV.base (HO.out.alloc (.cells #[.int .i64 fr, .int .i64 to] 59)) hgrow7 (Below.refl _ _) (Nat.le_refl _) (by simp; omega); have hbw7 := (hbw8.alloc hz8 (.cells #[.int .i64 fr, .int .i64 to] 59)).trans hbG; obtain ⟨B7, d7, hv7⟩ := hOn.slice; subst hv7; have HO7 := Lib.hid hOn; clear hown' hgrow7 hnil7 hbG hOn)
            go_roundw
            case rel => exact ⟨k + 1, by omega, by go_num, Lib.hid ⟨by rw [HNX.out], .inr ⟨by omega, B7, d7, by rw [HNX.out]; simp, by rw [HNX.out]; exact HO7.out⟩⟩, hbw7⟩
            case measure => simp [intOf]; omega
          · have HNX : Hid (bestK f ms (k + 1) = bestK f ms k) := Lib.hid (bestK_no (by rw [← HQ.out, HF2.out]; omega))
            have hde : (-y == q) = false := by simp [h2]
            clear h1 h2
            go_wp2_with fail
            go_roundw
            case rel => exact ⟨k + 1, by omega, by go_num, Lib.hid ⟨by rw [HNX.out, HQ.out], .inr ⟨by omega, B, d, by rw [HNX.out], by rw [HNX.out]; exact HO.out⟩⟩, hbw8⟩
            case measure => simp [intOf]; omega
    · obtain rfl : k = ms.length := by omega
      obtain ⟨hmo, hst⟩ := hL.out
      subst hmo
      clear hmv p1 p2
      rcases hst with ⟨hk0, rfl⟩ | ⟨hk1, B, d, rfl, hO⟩
      · have HB0 := Lib.hid (show bestsL side ks m z t l = [] by rw [HBL.out, hk0]; rfl)
        rw [hk0]
        go_wp2_with fail
        go_ret
        exact ⟨_, _, by rw [HB0.out]; rfl, by rw [HB0.out]; exact MvA.nil _ _ _ _, hbe⟩
      · obtain ⟨A2, c2, hv, hmv⟩ := hO.of
        injection hv with h1 h2 h3
        subst h1
        subst h3
        have HMV2 := Lib.hid hmv
        clear hO hmv hL
        go_wp2_with fail
        go_ret
        exact ⟨B, d, by rw [HBL.out]; rfl, by rw [HBL.out]; exact HMV2.out.more (by have := HLO.out; have := HBE.out.size; omega) (Nat.le_refl _), hbe⟩
end Go.Proofs.YtnjhcjjeehccbaaGreatDoor.Ko

namespace Go.Proofs.YtnjhcjjeehccbaaGreatDoor.Ko
open Go.ChangeShapes Go.WideShapes Go.ChangeAt Go.RowKit Base Sq In
set_option linter.unusedVariables false
set_option maxRecDepth 20000
attribute [local irreducible] wpQuiet

theorem rangeB_iAt {z : List Int} (h : rangeB z = true) : ∀ i, i < z.length → 0 ≤ iAt z i ∧ iAt z i ≤ 100 := fun i hi => by
  unfold rangeB at h
  have := List.all_eq_true.1 h i (by simpa using hi)
  unfold inB at this
  simpa using this
theorem canL_facts {side : Int} {ks : List Kd} {m : List Pc} {z : List Int} {t : Int} {l : List St} (h : canL side ks m z t l = true) :
    matV side ks m = true ∧ (z.length : Int) = numV side m.length ∧ rangeB z = true ∧ posOk side ks t l = true ∧ codeQ side t l m ≠ -1 := by
  unfold canL tabB at h
  simp only [Bool.and_eq_true, decide_eq_true_eq] at h
  obtain ⟨⟨⟨h1, h2⟩, h3⟩, h4⟩ := h
  unfold codeOfV at h4
  by_cases hc : matV side ks m = true ∧ posOk side ks t l = true
  · rw [if_pos hc] at h4
    exact ⟨h1, h2, h3, hc.2, fun h => by rw [h] at h4; omega⟩
  · rw [if_neg hc] at h4; omega

set_option maxHeartbeats 4000000 in
theorem l9Can_any (side : Int) (A : Option Addr) (c : Nat) (ks : List Kd) (M : Option Addr) (cm : Nat) (m : List Pc) (V : Option Addr) (cv : Nat) (z : List Int) (t : Int) (N : Option Addr) (cn : Nat) (l : List St) (w : World) (hR : IsKinds w w.heap.size A ks) (hM : IsPcs w w.heap.size M m)
    (hV : IsInts w w.heap.size V z) (hN : IsSteps w w.heap.size N l) (hsm : Small ks) (hm : m.length ≤ 1048576) (hz : z.length ≤ 1048576) (hl : l.length ≤ 1048576) :
    Calls Tryz.prog 88 #[.agg #[.int .i64 side, .slice A ks.length c], .slice M m.length cm, .slice V z.length cv, .agg #[.int .i64 t, .slice N l.length cn]] w fun e w' => e = .returned (.bool (canL side ks m z t l)) ∧ Below w.heap.size w w' := by
  have hb0 : Below w.heap.size w ((w.alloc (.cells #[.int .i64 side, .slice A ks.length c] 36)).alloc (.cells #[.int .i64 t, .slice N l.length cn] 40)) := (by repeat (first | exact Below.refl _ _ | assumption | (refine Below.alloc ?_ (by first | omega | (simp; done) | (simp; omega)) _) | (refine Below.setCell ?_ (by first | omega | (simp; done) | (simp; omega)) _) | refine Below.drew ?_))
  have p1 := (Blk.new w #[.int .i64 side, .slice A ks.length c] 36).alloc (.cells #[.int .i64 t, .slice N l.length cn] 40)
  have p2 := Blk.new (w.alloc (.cells #[.int .i64 side, .slice A ks.length c] 36)) #[.int .i64 t, .slice N l.length cn] 40
  simp only [World.size_alloc] at p2
  have HU := Lib.hid (show canL side ks m z t l = (matV side ks m && decide ((z.length : Int) = numV side m.length) && rangeB z && decide (0 ≤ codeOfV side ks m t l)) from rfl)
  go_enter Tryz.func88, Tryz.ntmps88
  go_wp2_with fail
  generalize hW0 : (w.alloc _).alloc _ = W0 at *
  clear hW0
  refine (specMatOk_any _ _ _ _ _ _ _ _ ((hR.below hb0).more hb0.size) ((hM.below hb0).more hb0.size) hsm hm).mono ?_
  rintro e w2 ⟨rfl, hb2⟩
  have q1 := p1.below hb2 p1.lt
  have q2 := p2.below hb2 p2.lt
  have hbe := hb0.trans (hb2.mono hb0.size)
  have y1 := q1.lt
  have y2 := q2.lt
  obtain ⟨⟨r0, r1⟩, _⟩ := q1.at2
  clear p1 p2 hb0 hb2
  cases hok : matV side ks m
  · have HV := Lib.hid (show canL side ks m z t l = false by rw [HU.out, hok]; rfl)
    clear hok
    go_wp2_with fail
    go_ret
    exact ⟨by rw [HV.out]; rfl, hbe⟩
  · have HOK := Lib.hid hok
    obtain ⟨hro, hm4⟩ := matV_facts hok
    have HSD := Lib.hid (rulesOk_facts hro).1
    clear hok hro
    go_wp2_with fail
    refine (l7Many_any side A c ks.length M cm m.length _ HSD.out hm4).mono ?_
    rintro e w3 ⟨rfl, hb3⟩
    have q1 := q1.below hb3 y1
    have q2 := q2.below hb3 y2
    have hbe := hbe.trans (hb3.mono hbe.size)
    have y1 := q1.lt
    have y2 := q2.lt
    clear r0 r1 hb3
    obtain ⟨⟨r0, r1⟩, _⟩ := q1.at2
    obtain ⟨⟨o0, o1⟩, _⟩ := q2.at2
    obtain ⟨nv, hnv⟩ : ∃ nv, nv = numV side m.length := ⟨_, rfl⟩
    rw [← hnv] at HU ⊢
    clear hnv
    by_cases hln : (z.length : Int) = nv
    · have HLN := Lib.hid hln
      have hd : ((z.length : Int) == nv) = true := by simp [hln]
      clear hln
      go_wp2_with fail
      refine (specCodeOf_any _ _ _ _ _ _ _ _ _ _ _ _ ((hR.below hbe).more hbe.size) ((hM.below hbe).more hbe.size) ((hN.below hbe).more hbe.size) hsm hm hl).mono ?_
      rintro e w4 ⟨rfl, hb4⟩
      have hbe := hbe.trans (hb4.mono hbe.size)
      clear r0 r1 o0 o1 q1 q2 hb4
      obtain ⟨cd, hcd⟩ : ∃ cd, cd = codeOfV side ks m t l := ⟨_, rfl⟩
      rw [← hcd] at HU ⊢
      clear hcd
      by_cases hc0 : 0 ≤ cd
      · have hd2 : decide (0 ≤ cd) = true := decide_eq_true hc0
        have HV := Lib.hid (show canL side ks m z t l = rangeB z by rw [HU.out, HOK.out, decide_eq_true HLN.out, hd2]; simp)
        clear HU
        go_wp2_with fail
        refine (l9Range_any _ _ _ _ ((hV.below hbe).more hbe.size) hz).mono ?_
        rintro e w5 ⟨rfl, rfl⟩
        go_wp2_with fail
        go_ret
        exact ⟨by rw [HV.out]; rfl, hbe⟩
      · have hd2 : decide (0 ≤ cd) = false := decide_eq_false hc0
        have HV := Lib.hid (show canL side ks m z t l = false by rw [HU.out, hd2]; simp)
        clear HU
        go_wp2_with fail
        go_ret
        exact ⟨by rw [HV.out]; rfl, hbe⟩
    · have HV := Lib.hid (show canL side ks m z t l = false by rw [HU.out, decide_eq_false hln]; simp)
      have hd : ((z.length : Int) == nv) = false := by simp [hln]
      clear HU hln
      go_wp2_with fail
      go_ret
      exact ⟨by rw [HV.out]; rfl, hbe⟩

theorem mvRes_up {L : List Mv} {w w1 w' : World} {e : Ending} (hb : Below w.heap.size w w1) (h : MvRes L w1 w' e) : MvRes L w w' e := by
  obtain ⟨A, c, he, h1, h2⟩ := h
  exact ⟨A, c, he, h1.more hb.size (Nat.le_refl _), hb.trans (h2.mono hb.size)⟩

end Go.Proofs.YtnjhcjjeehccbaaGreatDoor.Ko

namespace Go.Proofs.YtnjhcjjeehccbaaGreatDoor.Ko
open Go.ChangeShapes Go.WideShapes Go.ChangeAt Go.RowKit Base Sq In
set_option linter.unusedVariables false
set_option maxRecDepth 20000
attribute [local irreducible] wpQuiet

set_option maxHeartbeats 4000000 in
theorem tabHas_any (side : Int) (A : Option Addr) (c : Nat) (ks : List Kd) (M : Option Addr) (cm : Nat) (m : List Pc) (D : Option Addr) (d : Nat) (V : Option Addr) (cv zn : Nat) (t : Int) (N : Option Addr) (cn : Nat) (l : List St) (w : World) (hR : IsKinds w w.heap.size A ks) (hM : IsPcs w w.heap.size M m)
    (hD : In.IsInts w w.heap.size D (basesV side m.length)) (hN : IsSteps w w.heap.size N l) (hok : matV side ks m = true) (hsm : Small ks) (hl : l.length ≤ 1048576) :
    Calls Tryz.prog 93 #[.agg #[.int .i64 side, .slice A ks.length c, .slice M m.length cm, .slice D (m.length + 1) d, .slice V zn cv], .agg #[.int .i64 t, .slice N l.length cn]] w fun e w' => e = .returned (.bool (posOk side ks t l && decide (codeQ side t l m ≠ -1))) ∧ Below w.heap.size w w' := by
  obtain ⟨hro, hm4⟩ := matV_facts hok
  have HSD := Lib.hid (rulesOk_facts hro).1
  have HU := Lib.hid (matV_uniq hok)
  have HPB := Lib.hid (show posB side ks t l = posOk side ks t l by unfold posB; rw [hro]; rfl)
  have hb0 : Below w.heap.size w ((w.alloc (.cells #[.int .i64 side, .slice A ks.length c, .slice M m.length cm, .slice D (m.length + 1) d, .slice V zn cv] 134)).alloc (.cells #[.int .i64 t, .slice N l.length cn] 40)) := (by repeat (first | exact Below.refl _ _ | assumption | (refine Below.alloc ?_ (by first | omega | (simp; done) | (simp; omega)) _) | (refine Below.setCell ?_ (by first | omega | (simp; done) | (simp; omega)) _) | refine Below.drew ?_))
  have p1 := (Blk.new w #[.int .i64 side, .slice A ks.length c, .slice M m.length cm, .slice D (m.length + 1) d, .slice V zn cv] 134).alloc (.cells #[.int .i64 t, .slice N l.length cn] 40)
  have p2 := Blk.new (w.alloc (.cells #[.int .i64 side, .slice A ks.length c, .slice M m.length cm, .slice D (m.length + 1) d, .slice V zn cv] 134)) #[.int .i64 t, .slice N l.length cn] 40
  simp only [World.size_alloc] at p2
  clear hro hok
  go_enter Tryz.func93, Tryz.ntmps93
  go_wp2_with fail
  generalize hW0 : (w.alloc _).alloc _ = W0 at *
  clear hW0
  refine (posOk_any _ _ _ _ _ _ _ _ _ ((hR.below hb0).more hb0.size) ((hN.below hb0).more hb0.size) hsm hl).mono ?_
  rw [HPB.out]
  rintro e w2 ⟨rfl, hb2⟩
  have q1 := p1.below hb2 p1.lt
  have q2 := p2.below hb2 p2.lt
  have hbe := hb0.trans (hb2.mono hb0.size)
  obtain ⟨a0, a1, a2, a3, a4⟩ := Blk.at5 q1
  obtain ⟨⟨o0, o1⟩, _⟩ := q2.at2
  clear p1 p2 hb0 hb2 q1 q2
  cases hp : posOk side ks t l
  · have HV := Lib.hid (show (posOk side ks t l && decide (codeQ side t l m ≠ -1)) = false by rw [hp]; rfl)
    clear hp
    go_wp2_with fail
    go_ret
    exact ⟨by rw [HV.out]; rfl, hbe⟩
  · obtain ⟨ht, hl4, hf⟩ := posOk_facts hp
    obtain ⟨cq, hcq⟩ : ∃ cq, cq = codeQ side t l m := ⟨_, rfl⟩
    have HV := Lib.hid (show (posOk side ks t l && decide (codeQ side t l m ≠ -1)) = decide (cq ≠ -1) by rw [hp, hcq]; rfl)
    have HCQ := Lib.hid hcq
    have HFR := Lib.hid hf
    clear hp hf hcq
    go_wp2_with fail
    refine (code_any side A c ks.length M cm m D d t N cn l _ ((hM.below hbe).more hbe.size) ((hD.below hbe).more hbe.size) ((hN.below hbe).more hbe.size) HU.out HSD.out hm4 hl4 ht HFR.out).mono ?_
    rw [← HCQ.out]
    rintro e w3 ⟨rfl, hb3⟩
    have hbe3 := hbe.trans (hb3.mono hbe.size)
    clear hbe hb3
    by_cases h1 : cq = -1
    · subst h1
      go_wp2_with fail
      go_ret
      exact ⟨by rw [HV.out]; rfl, hbe3⟩
    · have hd : (cq != -1) = true := by simp [h1]
      have hd2 : decide (cq ≠ -1) = true := decide_eq_true h1
      go_wp2_with fail
      go_ret
      exact ⟨by rw [HV.out, hd2]; rfl, hbe3⟩

set_option maxHeartbeats 4000000 in
theorem tabScore_any (side : Int) (A : Option Addr) (c : Nat) (ks : List Kd) (M : Option Addr) (cm : Nat) (m : List Pc) (D : Option Addr) (d : Nat) (V : Option Addr) (cv : Nat) (z : List Int) (t : Int) (N : Option Addr) (cn : Nat) (l : List St) (mv : Mv) (w : World) (hM : IsPcs w w.heap.size M m)
    (hD : In.IsInts w w.heap.size D (basesV side m.length)) (hN : IsSteps w w.heap.size N l) (hV : In.IsInts w w.heap.size V z) (hok : matV side ks m = true) (hsh : shapeB side ks t l = true) (hzl : (z.length : Int) = numV side m.length)
    (hNT : NT l) (hF : ∀ j, j < l.length → ∃ i, i < m.length ∧ sameP (stAt l j) (pcAt m i) = true) (hmv : mv ∈ movesL side ks t l) :
    Calls Tryz.prog 149 #[.agg #[.int .i64 side, .slice A ks.length c, .slice M m.length cm, .slice D (m.length + 1) d, .slice V z.length cv], .agg #[.int .i64 t, .slice N l.length cn], .agg #[.int .i64 mv.1, .int .i64 mv.2]] w fun e w' => e = .returned (.int .i64 (mvS side t m l z mv)) ∧ Below w.heap.size w w' := by
  obtain ⟨hro, hm4⟩ := matV_facts hok
  have hs := (rulesOk_facts hro).1
  obtain ⟨n, hf1, hf2, _, _, hf7, hf8⟩ := kid_facts (m := m) hs hsh hNT hmv
  obtain ⟨hk0, hk1⟩ := kid_code hs hsh (matV_uniq hok) hF hmv
  obtain ⟨x, hx⟩ : ∃ x : Nat, (x : Int) = kidV side t m l mv := ⟨_, Int.toNat_of_nonneg hk0⟩
  rw [← hx] at hf8 hk1
  have hxl : x < z.length := by omega
  have hxl' : (x : Int) < (z.length : Int) := by omega
  have hx0 : (0 : Int) ≤ (x : Int) := by omega
  obtain ⟨bv, rfl, hbv, hcv⟩ := hV (by omega)
  have hcx := hcv x hxl
  obtain ⟨y, hy⟩ : ∃ y, y = Sc.scoreV (iAt z x) := ⟨_, rfl⟩
  have HY := Lib.hid hy
  have hyb := scoreV_bd (iAt z x)
  rw [← hy] at hyb
  obtain ⟨hy0, hy1⟩ := hyb
  have HVAL := Lib.hid (show mvS side t m l z mv = -y by unfold mvS; rw [← hx, Int.toNat_natCast, hy])
  have hwn : IntKind.i64.wrap (-y) = -y := IntWalk.i64_in _ (by omega)
  have HU := Lib.hid (matV_uniq hok)
  have HSD := Lib.hid hs
  have HSH := Lib.hid hsh
  have HSK := Lib.hid hf7
  have HCQ := Lib.hid hf8
  have HF1 := Lib.hid hf1
  have hn := hf2
  obtain ⟨fr, to⟩ := mv
  have HCQ := Lib.hid (show codeQ side (1 - t) (doL l n to) m = (x : Int) from HCQ.out)
  have HF1 := Lib.hid (show manV l fr = (n : Int) from HF1.out)
  generalize hu : iAt z x = u at *
  clear hu hx hf1 hf7 hf8 hk0 hk1 hcv hy hro hok hsh hs hNT hF hmv hV hzl
  have hb0 : Below w.heap.size w (((w.alloc (.cells #[.int .i64 side, .slice A ks.length c, .slice M m.length cm, .slice D (m.length + 1) d, .slice (some ⟨bv, 0, none⟩) z.length cv] 134)).alloc (.cells #[.int .i64 t, .slice N l.length cn] 40)).alloc (.cells #[.int .i64 fr, .int .i64 to] 59)) := (by repeat (first | exact Below.refl _ _ | assumption | (refine Below.alloc ?_ (by first | omega | (simp; done) | (simp; omega)) _) | (refine Below.setCell ?_ (by first | omega | (simp; done) | (simp; omega)) _) | refine Below.drew ?_))
  have p1 := ((Blk.new w #[.int .i64 side, .slice A ks.length c, .slice M m.length cm, .slice D (m.length + 1) d, .slice (some ⟨bv, 0, none⟩) z.length cv] 134).alloc (.cells #[.int .i64 t, .slice N l.length cn] 40)).alloc (.cells #[.int .i64 fr, .int .i64 to] 59)
  have p2 := (Blk.new (w.alloc (.cells #[.int .i64 side, .slice A ks.length c, .slice M m.length cm, .slice D (m.length + 1) d, .slice (some ⟨bv, 0, none⟩) z.length cv] 134)) #[.int .i64 t, .slice N l.length cn] 40).alloc (.cells #[.int .i64 fr, .int .i64 to] 59)
  have p3 := Blk.new ((w.alloc (.cells #[.int .i64 side, .slice A ks.length c, .slice M m.length cm, .slice D (m.length + 1) d, .slice (some ⟨bv, 0, none⟩) z.length cv] 134)).alloc (.cells #[.int .i64 t, .slice N l.length cn] 40)) #[.int .i64 fr, .int .i64 to] 59
  simp only [World.size_alloc] at p2 p3
  go_enter Tryz.func149, Tryz.ntmps149
  go_wp2_with fail
  generalize hW0 : ((w.alloc _).alloc _).alloc _ = W0 at *
  clear hW0
  have hz0 := hb0.size
  have HMK := Lib.hid ((hM.below hb0).more hz0)
  have HDK := Lib.hid ((hD.below hb0).more hz0)
  have HNK := Lib.hid ((hN.below hb0).more hz0)
  have hcx0 := (hb0.cell (p := ⟨bv, x, none⟩) hbv).trans hcx
  have hbv0 : bv < W0.heap.size := by omega
  have HS : Hid (∀ w', Below W0.heap.size W0 w' → (w'.cell? ⟨w.heap.size, 0, none⟩ = some (.int .i64 side) ∧ w'.cell? ⟨w.heap.size, 1, none⟩ = some (.slice A ks.length c) ∧ w'.cell? ⟨w.heap.size, 2, none⟩ = some (.slice M m.length cm) ∧ w'.cell? ⟨w.heap.size, 3, none⟩ = some (.slice D (m.length + 1) d) ∧ w'.cell? ⟨w.heap.size, 4, none⟩ = some (.slice (some ⟨bv, 0, none⟩) z.length cv) ∧ w'.cell? ⟨w.heap.size + 1, 0, none⟩ = some (.int .i64 t) ∧ w'.cell? ⟨w.heap.size + 1, 1, none⟩ = some (.slice N l.length cn) ∧ w'.cell? ⟨w.heap.size + 2, 0, none⟩ = some (.int .i64 fr) ∧ w'.cell? ⟨w.heap.size + 2, 1, none⟩ = some (.int .i64 to) ∧ w'.cell? ⟨bv, x, none⟩ = some (.int .i64 u))) := Lib.hid (fun w' hb => by
    obtain ⟨a0, a1, a2, a3, a4⟩ := Blk.at5 (p1.below hb p1.lt)
    obtain ⟨⟨b0, b1⟩, _⟩ := (p2.below hb p2.lt).at2
    obtain ⟨⟨c0, c1⟩, _⟩ := (p3.below hb p3.lt).at2
    exact ⟨a0, a1, a2, a3, a4, b0, b1, c0, c1, (hb.cell (p := ⟨bv, x, none⟩) hbv0).trans hcx0⟩)
  have hw : Below W0.heap.size W0 W0.drew := (Below.refl _ _).drew
  clear p1 p2 p3 hcx hcx0 hM hD hN
  go_region_held3 (fun w' => w'.cell? ⟨w.heap.size, 0, none⟩ = some (.int .i64 side) ∧ w'.cell? ⟨w.heap.size, 1, none⟩ = some (.slice A ks.length c) ∧ w'.cell? ⟨w.heap.size, 2, none⟩ = some (.slice M m.length cm) ∧ w'.cell? ⟨w.heap.size, 3, none⟩ = some (.slice D (m.length + 1) d) ∧ w'.cell? ⟨w.heap.size, 4, none⟩ = some (.slice (some ⟨bv, 0, none⟩) z.length cv) ∧ w'.cell? ⟨w.heap.size + 1, 0, none⟩ = some (.int .i64 t) ∧ w'.cell? ⟨w.heap.size + 1, 1, none⟩ = some (.slice N l.length cn) ∧ w'.cell? ⟨w.heap.size + 2, 0, none⟩ = some (.int .i64 fr) ∧ w'.cell? ⟨w.heap.size + 2, 1, none⟩ = some (.int .i64 to) ∧ w'.cell? ⟨bv, x, none⟩ = some (.int .i64 u))
    (first
      | exact HS.out _ hw)
    (first
      | (go_at_call 95; refine (moved_any t N cn l fr to n _ ((HNK.out.below hw).more hw.size) (shapeB_facts HSH.out).1 (shapeB_facts HSH.out).2.1 HF1.out hn (shapeB_up HSH.out)).mono ?_; rintro e6 w6 ⟨A6, c6, rfl, hm6, hb6⟩; have hw := hw.trans (hb6.mono hw.size))
      | (go_at_call 146; refine (code_any side A c ks.length M cm m D d (1 - t) A6 c6 (doL l n to) _ ((HMK.out.below hw).more hw.size) ((HDK.out.below hw).more hw.size) hm6.is HU.out HSD.out hm4 (shapeB_facts HSK.out).2.1 (shapeB_facts HSK.out).1 (fun i hi => ((shapeB_facts HSK.out).2.2.2.2 i hi).2.2.1)).mono ?_; rw [HCQ.out]; rintro e8 w8 ⟨rfl, hb8⟩; have hw := hw.trans (hb8.mono hw.size))
      | (go_at_call 184; refine (Sc.score_any _ _).mono ?_; rw [← HY.out]; rintro e9 w9 ⟨rfl, rfl⟩))
  all_goals
    go_wp2_with fail
    go_ret
    exact ⟨by rw [HVAL.out]; rfl, hb0.trans (hw.mono hz0)⟩
end Go.Proofs.YtnjhcjjeehccbaaGreatDoor.Ko

namespace Go.Proofs.YtnjhcjjeehccbaaGreatDoor.Ko
open Go.ChangeShapes Go.WideShapes Go.ChangeAt Go.RowKit Base Sq
set_option linter.unusedVariables false
set_option maxRecDepth 20000
attribute [local irreducible] wpQuiet

def IsMvs (w : World) (B : Nat) (A : Option Addr) (l : List Mv) : Prop := MvA 0 B w A l
theorem MvA.is {lo hi : Nat} {w : World} {A : Option Addr} {l : List Mv} (h : MvA lo hi w A l) : IsMvs w hi A l := MvA.more h (Nat.zero_le _) (Nat.le_refl _)
theorem IsMvs.more {w : World} {B B' : Nat} {A : Option Addr} {l : List Mv} (h : IsMvs w B A l) (hB : B ≤ B') : IsMvs w B' A l := MvA.more h (Nat.le_refl _) hB
theorem IsMvs.below {w w' : World} {B : Nat} {A : Option Addr} {l : List Mv} (h : IsMvs w B A l) (hb : Below B w w') : IsMvs w' B A l := MvA.below h hb
theorem IsMvs.at {w : World} {B : Nat} {A : Option Addr} {l : List Mv} (h : IsMvs w B A l) {i : Nat} (hi : i < l.length) : ∃ b, A = some ⟨b, 0, none⟩ ∧ b < B ∧ w.cell? ⟨b, i * 2, none⟩ = some (.int .i64 (mvAt l i).1) ∧ w.cell? ⟨b, i * 2 + 1, none⟩ = some (.int .i64 (mvAt l i).2) := MvA.at h hi
theorem MvA.span {lo hi lo' hi' : Nat} {w w' : World} {A : Option Addr} {l : List Mv} (h : MvA lo hi w A l) (hs : Span lo' hi' w w') (ho : hi ≤ lo' ∨ hi' ≤ lo) : MvA lo hi w' A l := fun hn => by
  obtain ⟨b, cs, rfl, h1, h2, h3, h4, h5⟩ := h hn
  exact ⟨b, cs, rfl, h1, h2, hs.blk h3 (by omega), h4, h5⟩
theorem eqMove_same (f q : Int) (w : World) :
    Calls Tryz.prog 43 #[.agg #[.int .i64 f, .int .i64 q], .agg #[.int .i64 f, .int .i64 q]] w fun e w' => e = .returned (.bool true) ∧ Below w.heap.size w w' := by
  go_enter Tryz.func43, Tryz.ntmps43
  go_wp2_with fail
  go_ret
  exact ⟨rfl, (by repeat (first | exact Below.refl _ _ | assumption | (refine Below.alloc ?_ (by first | omega | (simp; done) | (simp; omega)) _) | (refine Below.setCell ?_ (by first | omega | (simp; done) | (simp; omega)) _) | refine Below.drew ?_))⟩
theorem eqMoveS_same (A A' : Option Addr) (c c' : Nat) (l : List Mv) (w : World) (h : IsMvs w w.heap.size A l) (h' : IsMvs w w.heap.size A' l) (hl : l.length ≤ 1048576) :
    Calls Tryz.prog 49 #[.slice A l.length c, .slice A' l.length c'] w fun e w' => e = .returned (.bool true) ∧ Below w.heap.size w w' := by
  go_enter Tryz.func49, Tryz.ntmps49
  go_wp2_with fail
  go_loopw [5] (fun i wr => ∃ k : Nat, k ≤ l.length ∧ i = .int .i64 k ∧ Below w.heap.size w wr) (fun i _ => l.length - (intOf i).toNat)
  case atStart => exact ⟨0, by omega, rfl, Below.refl _ _⟩
  case round =>
    obtain ⟨k, hk, rfl, hbe⟩ := hrel
    by_cases hlt : k < l.length
    · obtain ⟨b, rfl, hB, c0, c1⟩ := (h.below hbe).at hlt
      obtain ⟨b', rfl, hB', d0, d1⟩ := (h'.below hbe).at hlt
      have hz := hbe.size
      have z1 : b < wr.heap.size := by omega
      have z2 : b' < wr.heap.size := by omega
      have hk1 : (k : Int) < (l.length : Int) := by omega
      have hk2 : (0 : Int) ≤ (k : Int) := by omega
      go_wp2_with fail
      refine wp_region_below (W := wr) (by kernel_rfl) (by kernel_rfl) (Below.refl _ _) ?_
      repeat (first
        | (refine qs_skip (by rfl) ?_; simp only [Act.put, List.setIfInBounds_toArray, List.set_cons_zero, List.set_cons_succ])
        | (apply qs_take
           focus rfl
           focus (
             intro wq hwq
             obtain ⟨hcq, hfq⟩ := bcell hwq
             go_simp
             all_goals first
               | exact rfl
               | (go_at_call 43; refine (eqMove_same _ _ _).mono ?_; exact fun e w2 h => ⟨h.1, hwq.trans (h.2.mono hwq.size)⟩)
               | (exact ⟨trivial, rfl⟩))
           simp only [Act.put, List.setIfInBounds_toArray, List.set_cons_zero, List.set_cons_succ]))
      refine wpQuiet_nil ?_
      intro wq hwq
      go_wp2_with fail
      go_roundw
      case rel => exact ⟨k + 1, by omega, by go_num, hbe.trans (hwq.mono (by omega))⟩
      case measure => simp [intOf]; omega
    · obtain rfl : k = l.length := by omega
      go_wp2_with fail
      go_ret
      exact ⟨rfl, hbe⟩
def marksV (k : Int) (n : Nat) : List Mv := (List.range n).map fun i : Nat => (k + 2 * i, k + 2 * i + 1)
theorem marksV_len (k : Int) (n : Nat) : (marksV k n).length = n := by simp [marksV]
theorem marksV_at {k : Int} {n i : Nat} (h : i < n) : mvAt (marksV k n) i = (k + 2 * i, k + 2 * i + 1) := by unfold mvAt marksV; simp [List.getD_eq_getElem?_getD, h]
set_option maxHeartbeats 1000000 in
theorem markMoveS_any (lo hi : Nat) (A : Option Addr) (c : Nat) (l : List Mv) (k : Int) (w : World) (h : MvA lo hi w A l) (hl : l.length ≤ 1048576) (hk0 : 0 ≤ k) (hk1 : k ≤ 1000000000000000) :
    Calls Tryz.prog 54 #[.slice A l.length c, .int .i64 k] w fun e w' => e = .returned (.int .i64 (k + 2 * l.length)) ∧ MvA lo hi w' A (marksV k l.length) ∧ Span lo hi w w' := by
  rcases Nat.eq_zero_or_pos l.length with h0 | h0
  · have hd : decide (0 < l.length) = false := decide_eq_false (by omega)
    rw [h0]
    clear h
    go_enter Tryz.func54, Tryz.ntmps54
    go_wp2_with fail
    go_loopw [1, 5] (fun x i wr => i = .int .i64 0 ∧ x = .int .i64 k ∧ wr = w) (fun _ i _ => 0)
    case atStart => exact ⟨rfl, rfl, rfl⟩
    case round =>
      obtain ⟨rfl, rfl, rfl⟩ := hrel
      go_wp2_with fail
      go_ret
      exact ⟨by simp, fun hn => by simp [marksV] at hn, Span.refl _ _ _⟩
  · obtain ⟨b, cs0, rfl, h1, h2, h3, h4, h5⟩ := h h0
    clear h h5
    go_enter Tryz.func54, Tryz.ntmps54
    go_wp2_with fail
    go_loopw [1, 5] (fun x i wr => ∃ (j : Nat) (cs : Array Value), j ≤ l.length ∧ i = .int .i64 j ∧ x = .int .i64 (k + 2 * j) ∧ Blk wr b cs 59 ∧ l.length * 2 ≤ cs.size ∧ Hid (∀ i, i < j → cs[i * 2]? = some (.int .i64 (k + 2 * i)) ∧ cs[i * 2 + 1]? = some (.int .i64 (k + 2 * i + 1))) ∧ Span lo hi w wr) (fun _ i _ => l.length - (intOf i).toNat)
    case atStart => exact ⟨0, cs0, by omega, rfl, by simp, h3, h4, Lib.hid (fun j hj => absurd hj (by omega)), Span.refl _ _ _⟩
    case round =>
      clear h3 h4
      obtain ⟨j, cs, hj, rfl, rfl, hB, hsz, hh, hS⟩ := hrel
      by_cases hlt : j < l.length
      · obtain ⟨o0, x0⟩ := old_cell (cs := cs) (i := j * 2) (by omega)
        obtain ⟨o1, x1⟩ := old_cell (cs := cs) (i := j * 2 + 1) (by omega)
        have y0 := (hB.cell (j * 2)).trans x0
        have y1 := (hB.cell (j * 2 + 1)).trans x1
        have f0 := hB.free (j * 2)
        have f1 := hB.free (j * 2 + 1)
        have HB2 := Lib.hid ((hB.set (j * 2) (.int .i64 (k + 2 * j))).set (j * 2 + 1) (.int .i64 (k + 2 * j + 1)))
        have HN : Hid (∀ i, i < j + 1 → ((cs.setIfInBounds (j * 2) (.int .i64 (k + 2 * j))).setIfInBounds (j * 2 + 1) (.int .i64 (k + 2 * j + 1)))[i * 2]? = some (.int .i64 (k + 2 * i)) ∧ ((cs.setIfInBounds (j * 2) (.int .i64 (k + 2 * j))).setIfInBounds (j * 2 + 1) (.int .i64 (k + 2 * j + 1)))[i * 2 + 1]? = some (.int .i64 (k + 2 * i + 1))) := Lib.hid (all_succ
          (fun i hi => ⟨set_get (set_get (hh.out i hi).1 (by omega)) (by omega), set_get (set_get (hh.out i hi).2 (by omega)) (by omega)⟩)
          ⟨set_get (set_same (by omega)) (by omega), set_same (by simp; omega)⟩)
        have HSZ : Hid (l.length * 2 ≤ ((cs.setIfInBounds (j * 2) (.int .i64 (k + 2 * j))).setIfInBounds (j * 2 + 1) (.int .i64 (k + 2 * j + 1))).size) := Lib.hid (by simpa using hsz)
        have HS2 := Lib.hid ((hS.setCell h1 h2 (j * 2) (.int .i64 (k + 2 * j))).setCell h1 h2 (j * 2 + 1) (.int .i64 (k + 2 * j + 1)))
        clear x0 x1 hB hS hh
        go_wp2_with fail
        go_roundw
        case rel =>
          refine ⟨j + 1, _, by omega, by go_num, by first | go_num | (congr 1; omega), ?_, HSZ.out, Lib.hid HN.out, ?_⟩
          · have := HB2.out; simpa [Int.add_assoc] using this
          · have := HS2.out; simpa [Int.add_assoc] using this
        case measure => simp [intOf]; omega
      · obtain rfl : j = l.length := by omega
        go_wp2_with fail
        go_ret
        exact ⟨rfl, fun _ => ⟨b, cs, rfl, h1, h2, hB, by rw [marksV_len]; exact hsz, fun i hi => by rw [marksV_len] at hi; rw [marksV_at hi]; exact hh.out i hi⟩, hS⟩
set_option maxHeartbeats 1000000 in
theorem heldMoveS_any (A : Option Addr) (c n B : Nat) (k : Int) (w : World) (h : IsMvs w B A (marksV k n)) (hl : n ≤ 1048576) (hk0 : 0 ≤ k) (hk1 : k ≤ 1000000000000000) :
    Calls Tryz.prog 55 #[.slice A n c, .int .i64 k] w fun e w' => e = .returned (.int .i64 (k + 2 * n)) ∧ w = w' := by
  go_enter Tryz.func55, Tryz.ntmps55
  go_wp2_with fail
  go_loopw [1, 5] (fun x i wr => ∃ j : Nat, j ≤ n ∧ i = .int .i64 j ∧ x = .int .i64 (k + 2 * j) ∧ wr = w) (fun _ i _ => n - (intOf i).toNat)
  case atStart => exact ⟨0, by omega, rfl, by simp, rfl⟩
  case round =>
    obtain ⟨j, hj, rfl, rfl, rfl⟩ := hrel
    by_cases hlt : j < n
    · obtain ⟨b, rfl, hB, c0, c1⟩ := h.at (i := j) (by rw [marksV_len]; omega)
      rw [marksV_at hlt] at c0 c1
      go_wp2_with fail
      go_roundw
      case rel => exact ⟨j + 1, by omega, by go_num, by first | go_num | (congr 1; omega), by first | rfl | trivial⟩
      case measure => simp [intOf]; omega
    · obtain rfl : j = n := by omega
      go_wp2_with fail
      go_ret
      exact ⟨rfl, rfl⟩

def movesP (side : Int) (ks : List Kd) (t : Int) (l : List St) : List Mv := if posB side ks t l = true then movesL side ks t l else []
theorem movesP_len (side : Int) (ks : List Kd) (t : Int) (l : List St) : (movesP side ks t l).length ≤ 1048576 := by
  unfold movesP
  split
  · rename_i h
    obtain ⟨hok, hsh, _⟩ := posB_facts h
    have := movesL_len (ks := ks) (t := t) (rulesOk_facts hok).1 (shapeB_facts hsh).2.1
    omega
  · simp
set_option maxHeartbeats 4000000 in
theorem movesOf_any (side : Int) (A : Option Addr) (c : Nat) (ks : List Kd) (t : Int) (M : Option Addr) (cm : Nat) (l : List St) (w : World) (hR : IsKinds w w.heap.size A ks) (hM : IsSteps w w.heap.size M l) (hT : TabAt w)
    (hsm : Small ks) (hl : l.length ≤ 1048576) :
    Calls Tryz.prog 87 #[.agg #[.int .i64 side, .slice A ks.length c], .agg #[.int .i64 t, .slice M l.length cm]] w fun e w' => MovesPost w w' (movesP side ks t l) e := by
  have hb0 := (below_of w (.cells #[.int .i64 side, .slice A ks.length c] 36)).alloc (by first | (simp; done) | (simp; omega) | omega) (.cells #[.int .i64 t, .slice M l.length cm] 40)
  have p1 := (Blk.new w #[.int .i64 side, .slice A ks.length c] 36).alloc (.cells #[.int .i64 t, .slice M l.length cm] 40)
  have p2 := Blk.new (w.alloc (.cells #[.int .i64 side, .slice A ks.length c] 36)) #[.int .i64 t, .slice M l.length cm] 40
  simp only [World.size_alloc] at p2
  have hR1 := (hR.below hb0).more hb0.size
  have hM1 := (hM.below hb0).more hb0.size
  have hT1 := hT.below hb0 hT.lt
  clear hR hM hT
  go_enter Tryz.func87, Tryz.ntmps87
  go_wp2_with fail
  generalize hW0 : (w.alloc _).alloc _ = W0 at *
  clear hW0
  refine (posOk_any _ _ _ _ _ _ _ _ _ hR1 hM1 hsm hl).mono ?_
  rintro e w2 ⟨rfl, hb2⟩
  have p1' := p1.below hb2 p1.lt
  have p2' := p2.below hb2 p2.lt
  have hR2 := (hR1.below hb2).more hb2.size
  have hM2 := (hM1.below hb2).more hb2.size
  have hT2 := hT1.keep hb2
  have hbe := hb0.trans (hb2.mono hb0.size)
  obtain ⟨⟨r0, r1⟩, _⟩ := p1'.at2
  obtain ⟨⟨o0, o1⟩, _⟩ := p2'.at2
  have hz2 := hbe.size
  clear p1 p2 hb0 hb2 hR1 hM1 hT1
  cases hp : posB side ks t l
  · have HN := Lib.hid (show movesP side ks t l = [] by unfold movesP; rw [hp]; rfl)
    clear hp
    go_wp2_with fail
    go_ret
    exact ⟨none, 0, by rw [HN.out]; rfl, by rw [HN.out]; exact MvA.nil _ _ _ _, hbe⟩
  · obtain ⟨hok, hsh, _⟩ := posB_facts hp
    have HO := Lib.hid hok
    have HS := Lib.hid hsh
    have HN := Lib.hid (show movesP side ks t l = movesL side ks t l by unfold movesP; rw [hp]; rfl)
    clear hp hok hsh
    go_wp2_with fail
    refine (movesFrom_any side A c ks t M cm l _ hR2 hM2 hT2 HO.out HS.out).mono ?_
    rintro e w3 ⟨A3, c3, rfl, hmv, hb3⟩
    go_wp2_with fail
    go_ret
    exact ⟨A3, c3, by rw [HN.out]; rfl, by rw [HN.out]; exact hmv.more hz2 (Nat.le_refl _), hbe.trans (hb3.mono hz2)⟩
end Go.Proofs.YtnjhcjjeehccbaaGreatDoor.Ko

namespace Go.Proofs.YtnjhcjjeehccbaaGreatDoor.Ko
open Go.ChangeShapes Go.WideShapes Go.ChangeAt Go.RowKit Base Sq In
set_option linter.unusedVariables false
set_option maxRecDepth 20000
attribute [local irreducible] wpQuiet

/-- what the closure of best needs, wherever it is called -/
structure BestCtx (side : Int) (A : Option Addr) (c : Nat) (ks : List Kd) (M : Option Addr) (cm : Nat) (m : List Pc) (D : Option Addr) (d : Nat) (V : Option Addr) (cv : Nat) (z : List Int) (t : Int) (N : Option Addr) (cn : Nat) (l : List St) (bt bp : Nat) (w : World) : Prop where
  tab : Blk w bt #[.int .i64 side, .slice A ks.length c, .slice M m.length cm, .slice D (m.length + 1) d, .slice V z.length cv] 134
  pos : Blk w bp #[.int .i64 t, .slice N l.length cn] 40
  hM : IsPcs w w.heap.size M m
  hD : In.IsInts w w.heap.size D (basesV side m.length)
  hN : IsSteps w w.heap.size N l
  hV : In.IsInts w w.heap.size V z
  hok : matV side ks m = true
  hsh : shapeB side ks t l = true
  hzl : (z.length : Int) = numV side m.length
  hNT : NT l
  hF : ∀ j, j < l.length → ∃ i, i < m.length ∧ sameP (stAt l j) (pcAt m i) = true
theorem BestCtx.below {side : Int} {A : Option Addr} {c : Nat} {ks : List Kd} {M : Option Addr} {cm : Nat} {m : List Pc} {D : Option Addr} {d : Nat} {V : Option Addr} {cv : Nat} {z : List Int} {t : Int} {N : Option Addr} {cn : Nat} {l : List St} {bt bp : Nat} {w w' : World}
    (h : BestCtx side A c ks M cm m D d V cv z t N cn l bt bp w) (hb : Below w.heap.size w w') : BestCtx side A c ks M cm m D d V cv z t N cn l bt bp w' :=
  ⟨h.tab.below hb h.tab.lt, h.pos.below hb h.pos.lt, (h.hM.below hb).more hb.size, (h.hD.below hb).more hb.size, (h.hN.below hb).more hb.size, (h.hV.below hb).more hb.size, h.hok, h.hsh, h.hzl, h.hNT, h.hF⟩

set_option maxHeartbeats 2000000 in
theorem bestClo_any (side : Int) (A : Option Addr) (c : Nat) (ks : List Kd) (M : Option Addr) (cm : Nat) (m : List Pc) (D : Option Addr) (d : Nat) (V : Option Addr) (cv : Nat) (z : List Int) (t : Int) (N : Option Addr) (cn : Nat) (l : List St) (bt bp : Nat) (mv : Mv) (w : World)
    (h : BestCtx side A c ks M cm m D d V cv z t N cn l bt bp w) (hmv : mv ∈ movesL side ks t l) :
    Calls Tryz.prog 148 #[.agg #[.int .i64 mv.1, .int .i64 mv.2], .pointer (some ⟨bt, 0, none⟩), .pointer (some ⟨bp, 0, none⟩)] w fun e w' => e = .returned (.int .i64 (mvS side t m l z mv)) ∧ Below w.heap.size w w' := by
  have HC := Lib.hid h
  have HMV := Lib.hid hmv
  obtain ⟨a0, a1, a2, a3, a4⟩ := Blk.at5 h.tab
  obtain ⟨⟨b0, b1⟩, _⟩ := h.pos.at2
  have z1 := h.tab.lt
  have z2 := h.pos.lt
  have hb0 : Below w.heap.size w (w.alloc (.cells #[.int .i64 mv.1, .int .i64 mv.2] 59)) := below_of _ _
  have HC2 := Lib.hid (h.below hb0)
  clear h hmv
  go_enter Tryz.func148, Tryz.ntmps148
  go_wp2_with fail
  refine (tabScore_any side A c ks M cm m D d V cv z t N cn l mv _ HC2.out.hM HC2.out.hD HC2.out.hN HC2.out.hV HC2.out.hok HC2.out.hsh HC2.out.hzl HC2.out.hNT HC2.out.hF HMV.out).mono ?_
  rintro e w3 ⟨rfl, hb3⟩
  have HB := Lib.hid (hb0.trans (hb3.mono hb0.size))
  clear hb3 hb0
  go_wp2_with fail
  go_ret
  exact ⟨rfl, HB.out⟩

/-- the best so far -/
def LgLst (wr : World) (hi : Nat) (f : Mv → Int) (ms : List Mv) (k : Nat) (x m : Value) : Prop :=
  (k = 0 ∧ x = .slice none 0 0 ∧ m = .int .i64 0) ∨ (0 < k ∧ m = .int .i64 (bestK f ms k).2 ∧ ∃ B d, x = .slice B (bestK f ms k).1.length d ∧ OwnV wr hi (.slice B (bestK f ms k).1.length d) (bestK f ms k).1)

set_option maxHeartbeats 8000000 in
theorem largest_any (side : Int) (A : Option Addr) (c : Nat) (ks : List Kd) (M : Option Addr) (cm : Nat) (m : List Pc) (D : Option Addr) (d : Nat) (V : Option Addr) (cv : Nat) (z : List Int) (t : Int) (N : Option Addr) (cn : Nat) (l : List St) (bt bp : Nat) (lo hi : Nat) (Am : Option Addr) (cam : Nat) (w : World)
    (h : BestCtx side A c ks M cm m D d V cv z t N cn l bt bp w) (hmv : MvA lo hi w Am (movesL side ks t l)) (hhi : hi ≤ w.heap.size) :
    Calls Tryz.prog 147 #[.slice Am (movesL side ks t l).length cam, .func (.func 148) #[] #[.pointer (some ⟨bt, 0, none⟩), .pointer (some ⟨bp, 0, none⟩)]] w fun e w' => MvRes (bestsL side ks m z t l) w w' e := by
  obtain ⟨i0, hi0, hz0, hz1, hz2⟩ := info_parts mvInfo
  have hlen := movesL_len (ks := ks) (t := t) (rulesOk_facts (matV_facts h.hok).1).1 (shapeB_facts h.hsh).2.1
  have HC := Lib.hid h
  have HMV := Lib.hid hmv
  have HBL := Lib.hid (show bestsL side ks m z t l = (bestK (mvS side t m l z) (movesL side ks t l) (movesL side ks t l).length).1 from rfl)
  have HBD := Lib.hid (fun mv => mvS_bd side t m l z mv)
  have HCL := Lib.hid (fun (mv : Mv) (w' : World) (hb : Below w.heap.size w w') (hm : mv ∈ movesL side ks t l) => bestClo_any side A c ks M cm m D d V cv z t N cn l bt bp mv w' (h.below hb) hm)
  clear h hmv
  generalize hms : movesL side ks t l = ms at *
  generalize hf : mvS side t m l z = f at *
  have HMO := Lib.hid (fun k => bestK_most (f := f) HBD.out ms k)
  have HBLN := Lib.hid (fun k => bestK_len f ms k)
  clear hf
  go_enter Tryz.func147, Tryz.ntmps147
  go_wp2_with fail
  go_loopw [5, 6, 12] (fun x mo i wr => ∃ k : Nat, k ≤ ms.length ∧ i = .int .i64 k ∧ Hid (LgLst wr w.heap.size f ms k x mo) ∧ Below w.heap.size w wr) (fun _ _ i _ => ms.length - (intOf i).toNat)
  case atStart => exact ⟨0, by omega, rfl, Lib.hid (.inl ⟨rfl, rfl, rfl⟩), Below.refl _ _⟩
  case round =>
    obtain ⟨k, hk, rfl, hL, hbe⟩ := hrel
    have hz := hbe.size
    by_cases hlt : k < ms.length
    · have hlt' : (k : Int) < (ms.length : Int) := by omega
      obtain ⟨bm, rfl, zbm, zbh, csm, hbm, hc0, hc1⟩ := (HMV.out.below (hbe.mono hhi)).cells hlt
      have hmem : mvAt ms k ∈ ms := by rw [mvAt_lt hlt]; exact List.getElem_mem hlt
      obtain ⟨fv, hfv⟩ : ∃ v, v = f (mvAt ms k) := ⟨_, rfl⟩
      have HFV := Lib.hid hfv
      have hfb := HBD.out (mvAt ms k)
      rw [← hfv] at hfb
      obtain ⟨hfb0, hfb1⟩ := hfb
      have hbx := (hbe.alloc hz (.cells #[.int .i64 (mvAt ms k).1, .int .i64 (mvAt ms k).2] 59))
      have px := Blk.new wr #[.int .i64 (mvAt ms k).1, .int .i64 (mvAt ms k).2] 59
      have HL := Lib.hid (hL.out)
      clear hfv hbm hL
      go_wp2_with fail
      refine (HCL.out (mvAt ms k) _ hbx hmem).mono ?_
      rw [← HFV.out]
      rintro e w5 ⟨rfl, hb5⟩
      have px := px.below hb5 (by simp)
      have hbe5 := hbx.trans (hb5.mono hbx.size)
      have hz5 := hb5.size
      have hz6 := hbe5.size
      simp only [World.size_alloc] at hz5
      have HLB := Lib.hid (show Below wr.heap.size wr w5 from (below_of wr (.cells #[.int .i64 (mvAt ms k).1, .int .i64 (mvAt ms k).2] 59)).trans (hb5.mono (by simp)))
      generalize hfr : (mvAt ms k).1 = fr at *
      generalize hto : (mvAt ms k).2 = to at *
      have HME := Lib.hid (show mvAt ms k = (fr, to) by rw [← hfr, ← hto])
      clear hfr hto
      obtain ⟨⟨m0, m1⟩, _⟩ := px.at2
      have hmx0 : 0 + 1 ≤ maxLen := by unfold maxLen; omega
      clear px hb5 hbx hc0 hc1
      rcases HL.out with ⟨hk0, rfl, rfl⟩ | ⟨hk1, rfl, B, d, rfl, hO⟩
      · have HNX : Hid (bestK f ms (k + 1) = ([(fr, to)], fv)) := Lib.hid (by rw [bestK_hit (by rw [← HFV.out, hk0]; show -200 < fv; omega), ← HFV.out, HME.out])
        clear HL hk0
        go_wp2_with (at_builtin; refine wpList_append_own _ rfl _ _ 41 rfl w.heap.size 59 i0 (.agg #[.int .i64 0, .int .i64 0]) 2 16 Tryz.underlying41 hi0 hz0 hz1 hz2 rfl (by decide) _ _ _ rfl (show World.ownsRow (w5.alloc (.cells #[.int .i64 fr, .int .i64 to] 59)) w.heap.size 59 2 (.slice none 0 0) 0 [] from OwnV.nil (w5.alloc (.cells #[.int .i64 fr, .int .i64 to] 59)) w.heap.size) ⟨w5.heap.size, 0, none⟩ 1 1 [.int .i64 fr, .int .i64 to] rfl rfl (news2 (Blk.new w5 #[.int .i64 fr, .int .i64 to] 59)) one2 hmx0 (by omega) (by simp; omega) ?_; intro v' w7 hown' hgrow7 hnil7; have hOn := OwnV.snoc (base := w.heap.size) (l := []) (m := (fr, to)) hown'; have hbG : Below w.heap.size (w5.alloc (.cells #[.int .i64 fr, .int .i64 to] 59)) w7 := OwnV.base (OwnV.nil (w5.alloc (.cells #[.int .i64 fr, .int .i64 to] 59)) w.heap.size) hgrow7 (Below.refl _ _) (Nat.le_refl _) (by simp; omega); have hbe7 := (hbe5.alloc hbe5.size (.cells #[.int .i64 fr, .int .i64 to] 59)).trans hbG; obtain ⟨B7, d7, hv7⟩ := hOn.slice; subst hv7; have HO7 := Lib.hid hOn; clear hown' hgrow7 hnil7 hbG hOn)
        go_roundw
        case rel => exact ⟨k + 1, by omega, by go_num, Lib.hid (.inr ⟨by omega, by rw [HNX.out], B7, d7, by rw [HNX.out]; rfl, by rw [HNX.out]; exact HO7.out⟩), hbe7⟩
        case measure => simp [intOf]; omega
      · obtain ⟨q, hq⟩ : ∃ q, q = (bestK f ms k).2 := ⟨_, rfl⟩
        have HQ := Lib.hid hq
        have hL0 := ((HMO.out k).2.2 hk1).2
        have hL64 : (bestK f ms k).1.length ≤ 64 := by have := HBLN.out k; omega
        have hmx : (bestK f ms k).1.length + 1 ≤ maxLen := by unfold maxLen; omega
        have hdz : (((bestK f ms k).1.length : Int) == 0) = false := by simp; exact fun h => by rw [h] at hL0; simp at hL0
        have HO := Lib.hid (hO.below HLB.out)
        rw [← hq]
        clear hO hq HL
        by_cases h1 : q < fv
        · have HNX : Hid (bestK f ms (k + 1) = ([(fr, to)], fv)) := Lib.hid (by rw [bestK_hit (by rw [← HQ.out, ← HFV.out]; exact h1), ← HFV.out, HME.out])
          have hd : decide (q < fv) = true := decide_eq_true h1
          clear HO h1
          go_wp2_with (at_builtin; refine wpList_append_own _ rfl _ _ 41 rfl w.heap.size 59 i0 (.agg #[.int .i64 0, .int .i64 0]) 2 16 Tryz.underlying41 hi0 hz0 hz1 hz2 rfl (by decide) _ _ _ rfl (show World.ownsRow (w5.alloc (.cells #[.int .i64 fr, .int .i64 to] 59)) w.heap.size 59 2 (.slice none 0 0) 0 [] from OwnV.nil (w5.alloc (.cells #[.int .i64 fr, .int .i64 to] 59)) w.heap.size) ⟨w5.heap.size, 0, none⟩ 1 1 [.int .i64 fr, .int .i64 to] rfl rfl (news2 (Blk.new w5 #[.int .i64 fr, .int .i64 to] 59)) one2 hmx0 (by omega) (by simp; omega) ?_; intro v' w7 hown' hgrow7 hnil7; have hOn := OwnV.snoc (base := w.heap.size) (l := []) (m := (fr, to)) hown'; have hbG : Below w.heap.size (w5.alloc (.cells #[.int .i64 fr, .int .i64 to] 59)) w7 := OwnV.base (OwnV.nil (w5.alloc (.cells #[.int .i64 fr, .int .i64 to] 59)) w.heap.size) hgrow7 (Below.refl _ _) (Nat.le_refl _) (by simp; omega); have hbe7 := (hbe5.alloc hbe5.size (.cells #[.int .i64 fr, .int .i64 to] 59)).trans hbG; obtain ⟨B7, d7, hv7⟩ := hOn.slice; subst hv7; have HO7 := Lib.hid hOn; clear hown' hgrow7 hnil7 hbG hOn)
          go_roundw
          case rel => exact ⟨k + 1, by omega, by go_num, Lib.hid (.inr ⟨by omega, by rw [HNX.out], B7, d7, by rw [HNX.out]; rfl, by rw [HNX.out]; exact HO7.out⟩), hbe7⟩
          case measure => simp [intOf]; omega
        · have hd : decide (q < fv) = false := decide_eq_false h1
          by_cases h2 : fv = q
          · have HNX : Hid (bestK f ms (k + 1) = ((bestK f ms k).1 ++ [(fr, to)], q)) := Lib.hid (by rw [bestK_eq (by rw [← HQ.out, ← HFV.out]; exact h2), HME.out, HQ.out])
            have hde : (fv == q) = true := by simp [h2]
            generalize (bestK f ms k).1 = L at *
            clear h1 h2
            go_wp2_with (at_builtin; refine wpList_append_own _ rfl _ _ 41 rfl w.heap.size 59 i0 (.agg #[.int .i64 0, .int .i64 0]) 2 16 Tryz.underlying41 hi0 hz0 hz1 hz2 rfl (by decide) _ _ _ rfl (HO.out.alloc (.cells #[.int .i64 fr, .int .i64 to] 59)) ⟨w5.heap.size, 0, none⟩ 1 1 [.int .i64 fr, .int .i64 to] rfl rfl (news2 (Blk.new w5 #[.int .i64 fr, .int .i64 to] 59)) one2 hmx (by omega) (by simp; omega) ?_; intro v' w7 hown' hgrow7 hnil7; have hOn := OwnV.snoc (base := w.heap.size) (l := L) (m := (fr, to)) hown'; have hbG : Below w.heap.size (w5.alloc (.cells #[.int .i64 fr, .int .i64 to] 59)) w7 := OwnV.base (HO.out.alloc (.cells #[.int .i64 fr, .int .i64 to] 59)) hgrow7 (Below.refl _ _) (Nat.le_refl _) (by simp; omega); have hbe7 := (hbe5.alloc hbe5.size (.cells #[.int .i64 fr, .int .i64 to] 59)).trans hbG; obtain ⟨B7, d7, hv7⟩ := hOn.slice; subst hv7; have HO7 := Lib.hid hOn; clear hown' hgrow7 hnil7 hbG hOn)
            go_roundw
            case rel => exact ⟨k + 1, by omega, by go_num, Lib.hid (.inr ⟨by omega, by rw [HNX.out], B7, d7, by rw [HNX.out]; simp, by rw [HNX.out]; exact HO7.out⟩), hbe7⟩
            case measure => simp [intOf]; omega
          · have HNX : Hid (bestK f ms (k + 1) = bestK f ms k) := Lib.hid (bestK_no (by rw [← HQ.out, ← HFV.out]; omega))
            have hde : (fv == q) = false := by simp [h2]
            clear h1 h2
            go_wp2_with fail
            go_roundw
            case rel => exact ⟨k + 1, by omega, by go_num, Lib.hid (.inr ⟨by omega, by rw [HNX.out, HQ.out], B, d, by rw [HNX.out], by rw [HNX.out]; exact HO.out⟩), hbe5⟩
            case measure => simp [intOf]; omega
    · obtain rfl : k = ms.length := by omega
      rcases hL.out with ⟨hk0, rfl, rfl⟩ | ⟨hk1, rfl, B, d, rfl, hO⟩
      · have HB0 := Lib.hid (show bestsL side ks m z t l = [] by rw [HBL.out, hk0]; rfl)
        rw [hk0]
        clear hL
        go_wp2_with fail
        go_ret
        exact ⟨none, 0, by rw [HB0.out]; rfl, by rw [HB0.out]; exact MvA.nil _ _ _ _, hbe⟩
      · obtain ⟨A2, c2, hv, hmv⟩ := hO.of
        injection hv with h1 h2 h3
        subst h1
        subst h3
        have HMV2 := Lib.hid hmv
        clear hO hmv hL
        go_wp2_with fail
        go_ret
        exact ⟨B, d, by rw [HBL.out]; rfl, by rw [HBL.out]; exact HMV2.out, hbe⟩

theorem codeQ_bd (side t : Int) (l : List St) (m : List Pc) (h : codeQ side t l m ≠ -1) (hs : side = 2 ∨ side = 3 ∨ side = 4) (ht : 0 ≤ t ∧ t ≤ 1) (hf : ∀ i, i < l.length → 0 ≤ (stAt l i).far ∧ (stAt l i).far < side * side) : 0 ≤ codeQ side t l m := by
  unfold codeQ codeV at *
  split
  · rename_i h1; rw [if_pos h1] at h; exact absurd rfl h
  · rename_i h1
    rw [if_neg h1] at h
    split
    · exact (codK_bd m hs ht hf _).1
    · rename_i h2; rw [if_neg h2] at h; exact absurd rfl h
/-- what the program asks is what the model asks -/
theorem canL_prog {side : Int} {ks : List Kd} {m : List Pc} {z : List Int} {t : Int} {l : List St} (h : tabB side ks m z = true) : canL side ks m z t l = (posOk side ks t l && decide (codeQ side t l m ≠ -1)) := by
  have hm : matV side ks m = true := by unfold tabB at h; simp only [Bool.and_eq_true] at h; exact h.1.1
  unfold canL codeOfV
  rw [h, hm]
  cases hp : posOk side ks t l
  · simp
  · obtain ⟨ht, _, hf⟩ := posOk_facts hp
    simp only [and_self, if_true, Bool.true_and]
    by_cases hc : codeQ side t l m = -1
    · rw [hc]; decide
    · have := codeQ_bd side t l m hc (rulesOk_facts (matV_facts hm).1).1 ht hf
      rw [decide_eq_true this, decide_eq_true hc]

set_option maxHeartbeats 4000000 in
theorem best_any (side : Int) (A : Option Addr) (c : Nat) (ks : List Kd) (M : Option Addr) (cm : Nat) (m : List Pc) (D : Option Addr) (d : Nat) (V : Option Addr) (cv : Nat) (z : List Int) (t : Int) (N : Option Addr) (cn : Nat) (l : List St) (w : World) (hR : IsKinds w w.heap.size A ks) (hM : IsPcs w w.heap.size M m)
    (hD : In.IsInts w w.heap.size D (basesV side m.length)) (hN : IsSteps w w.heap.size N l) (hV : In.IsInts w w.heap.size V z) (hT : TabAt w) (hsm : Small ks) (hl : l.length ≤ 1048576) (hok : matV side ks m = true) (hpo : posOk side ks t l = true) (hzl : (z.length : Int) = numV side m.length)
    (hNT : NT l) (hF : ∀ j, j < l.length → ∃ i, i < m.length ∧ sameP (stAt l j) (pcAt m i) = true) :
    Calls Tryz.prog 94 #[.agg #[.int .i64 side, .slice A ks.length c, .slice M m.length cm, .slice D (m.length + 1) d, .slice V z.length cv], .agg #[.int .i64 t, .slice N l.length cn]] w fun e w' => MvRes (bestsL side ks m z t l) w w' e := by
  have hsh : shapeB side ks t l = true := by
    have h := hpo
    unfold posOk at h
    simp only [Bool.and_eq_true] at h
    exact h.1
  have hb0 : Below w.heap.size w ((w.alloc (.cells #[.int .i64 side, .slice A ks.length c, .slice M m.length cm, .slice D (m.length + 1) d, .slice V z.length cv] 134)).alloc (.cells #[.int .i64 t, .slice N l.length cn] 40)) := (by repeat (first | exact Below.refl _ _ | assumption | (refine Below.alloc ?_ (by first | omega | (simp; done) | (simp; omega)) _) | (refine Below.setCell ?_ (by first | omega | (simp; done) | (simp; omega)) _) | refine Below.drew ?_))
  have p1 := (Blk.new w #[.int .i64 side, .slice A ks.length c, .slice M m.length cm, .slice D (m.length + 1) d, .slice V z.length cv] 134).alloc (.cells #[.int .i64 t, .slice N l.length cn] 40)
  have p2 := Blk.new (w.alloc (.cells #[.int .i64 side, .slice A ks.length c, .slice M m.length cm, .slice D (m.length + 1) d, .slice V z.length cv] 134)) #[.int .i64 t, .slice N l.length cn] 40
  simp only [World.size_alloc] at p2
  have hz0 := hb0.size
  have HPL := Lib.hid (show movesP side ks t l = movesL side ks t l from if_pos (by unfold posB; rw [(matV_facts hok).1, hpo]; rfl))
  have HX := Lib.hid (⟨p1, p2, (hM.below hb0).more hz0, (hD.below hb0).more hz0, (hN.below hb0).more hz0, (hV.below hb0).more hz0, hok, hsh, hzl, hNT, hF⟩ : BestCtx side A c ks M cm m D d V cv z t N cn l w.heap.size (w.heap.size + 1) _)
  have HR := Lib.hid ((hR.below hb0).more hz0)
  have HN := Lib.hid ((hN.below hb0).more hz0)
  have HT := Lib.hid (hT.keep hb0)
  have HB := Lib.hid hb0
  clear hR hM hD hN hV hT hok hpo hsh hzl hNT hF hb0 hz0 p1 p2
  go_enter Tryz.func94, Tryz.ntmps94
  go_wp2_with fail
  refine (movesOf_any _ _ _ _ _ _ _ _ _ HR.out HN.out HT.out hsm hl).mono ?_
  rw [HPL.out]
  rintro e w3 ⟨A3, c3, rfl, hm3, hb3⟩
  have HX3 := Lib.hid (HX.out.below hb3)
  have HB3 := Lib.hid (HB.out.trans (hb3.mono HB.out.size))
  have HM3 := Lib.hid hm3
  clear hm3 hb3
  go_wp2_with fail
  refine (largest_any side A c ks M cm m D d V cv z t N cn l w.heap.size (w.heap.size + 1) _ _ A3 c3 _ HX3.out HM3.out (Nat.le_refl _)).mono ?_
  rintro e w5 ⟨A5, c5, rfl, hNI, hb5⟩
  have HNI := Lib.hid (mvRes_up HB3.out ⟨A5, c5, rfl, hNI, hb5⟩)
  clear hNI hb5
  go_wp2_with fail
  go_ret
  exact HNI.out
end Go.Proofs.YtnjhcjjeehccbaaGreatDoor.Ko

namespace Go.Proofs.YtnjhcjjeehccbaaGreatDoor.Ko
open Go.ChangeShapes Go.WideShapes Go.ChangeAt Go.RowKit Base Sq In
set_option linter.unusedVariables false
set_option maxRecDepth 20000
attribute [local irreducible] wpQuiet

theorem bestL_len (side : Int) (ks : List Kd) (m : List Pc) (z : List Int) (t : Int) (l : List St) : (bestL side ks m z t l).length ≤ 1048576 := by
  unfold bestL
  split
  · rename_i h
    obtain ⟨h1, _, _, h4, _⟩ := canL_facts h
    unfold posOk at h4
    simp only [Bool.and_eq_true] at h4
    have h5 := movesL_len (ks := ks) (t := t) (rulesOk_facts (matV_facts h1).1).1 (shapeB_facts h4.1).2.1
    have := bestK_len (mvS side t m l z) (movesL side ks t l) (movesL side ks t l).length
    unfold bestsL; omega
  · simp

end Go.Proofs.YtnjhcjjeehccbaaGreatDoor.Ko

namespace Go.Proofs.YtnjhcjjeehccbaaGreatDoor.Ko
open Go.ChangeShapes Go.WideShapes Go.ChangeAt Go.RowKit Base Sq In
set_option linter.unusedVariables false
set_option maxRecDepth 20000

/-- behind a legal move the position is valid -/
theorem move_posOk {side t : Int} {ks : List Kd} {l : List St} (hs : side = 2 ∨ side = 3 ∨ side = 4) (hsh : shapeB side ks t l = true) {mv : Mv} (hm : mv ∈ movesL side ks t l) : posOk side ks (1 - t) (nextL l mv) = true := by
  obtain ⟨n, h1, h2, h3, _, _, h6, h7⟩ := move_facts hs hsh hm
  obtain ⟨_, _, i, hi, _, hf, hmay⟩ := movesL_can (shapeB_up hsh) hm
  have e : n = i := by
    have := manV_up (shapeB_up hsh) hi
    rw [← hf, h1] at this; omega
  subst e
  unfold mayB at hmay
  simp only [Bool.and_eq_true, Bool.not_eq_true'] at hmay
  unfold posOk
  rw [h7, h6, show 1 - (1 - t) = t by omega, hmay.2]; rfl
theorem bestK_mem (f : Mv → Int) (ms : List Mv) : ∀ k, k ≤ ms.length → ∀ mv ∈ (bestK f ms k).1, mv ∈ ms := by
  intro k
  induction k with
  | zero => intro _ mv h; simp [bestK] at h
  | succ k ih =>
    intro hk mv h
    have hat : mvAt ms k ∈ ms := by rw [mvAt_lt (show k < ms.length by omega)]; exact List.getElem_mem _
    simp only [bestK] at h
    split at h
    · rw [List.mem_singleton.1 h]; exact hat
    · split at h
      · rcases List.mem_append.1 h with h | h
        · exact ih (by omega) mv h
        · rw [List.mem_singleton.1 h]; exact hat
      · exact ih (by omega) mv h
theorem bestsL_mem {side : Int} {ks : List Kd} {m : List Pc} {z : List Int} {t : Int} {l : List St} {mv : Mv} (h : mv ∈ bestsL side ks m z t l) : mv ∈ movesL side ks t l := bestK_mem _ _ _ (Nat.le_refl _) mv h
/-- always the first of the best, so many times at most -/
def lineL (side : Int) (ks : List Kd) (m : List Pc) (z : List Int) : Nat → Int → List St → List Mv
  | 0, _, _ => []
  | n + 1, t, l => if (bestsL side ks m z t l).length = 0 then [] else mvAt (bestsL side ks m z t l) 0 :: lineL side ks m z n (1 - t) (nextL l (mvAt (bestsL side ks m z t l) 0))
def lineV (side : Int) (ks : List Kd) (m : List Pc) (z : List Int) (t : Int) (l : List St) : List Mv := if canL side ks m z t l = true then lineL side ks m z 20 t l else []
theorem lineL_len (side : Int) (ks : List Kd) (m : List Pc) (z : List Int) : ∀ n t l, (lineL side ks m z n t l).length ≤ n := by
  intro n
  induction n with
  | zero => intro t l; simp [lineL]
  | succ n ih =>
    intro t l
    simp only [lineL]
    split
    · simp
    · have := ih (1 - t) (nextL l (mvAt (bestsL side ks m z t l) 0))
      simp only [List.length_cons]; omega
theorem lineV_len (side : Int) (ks : List Kd) (m : List Pc) (z : List Int) (t : Int) (l : List St) : (lineV side ks m z t l).length ≤ 1048576 := by
  unfold lineV
  split
  · have := lineL_len side ks m z 20 t l; omega
  · simp
/-- what a position of a line is -/
structure LineOk (side : Int) (ks : List Kd) (m : List Pc) (t : Int) (l : List St) : Prop where
  pos : posOk side ks t l = true
  nt : NT l
  fnd : ∀ j, j < l.length → ∃ i, i < m.length ∧ sameP (stAt l j) (pcAt m i) = true
theorem LineOk.shape {side : Int} {ks : List Kd} {m : List Pc} {t : Int} {l : List St} (h : LineOk side ks m t l) : shapeB side ks t l = true := by
  have h1 := h.pos
  unfold posOk at h1
  simp only [Bool.and_eq_true] at h1
  exact h1.1
theorem LineOk.next {side : Int} {ks : List Kd} {m : List Pc} {t : Int} {l : List St} (h : LineOk side ks m t l) (hs : side = 2 ∨ side = 3 ∨ side = 4) {mv : Mv} (hm : mv ∈ movesL side ks t l) : LineOk side ks m (1 - t) (nextL l mv) := by
  obtain ⟨n, _, h2, _, _, _, h6, _⟩ := move_facts hs h.shape hm
  refine ⟨move_posOk hs h.shape hm, by rw [h6]; exact doL_nt h.nt h2 mv.2, fun j hj => ?_⟩
  rw [h6] at hj ⊢
  have hmem := stAt_mem hj
  rcases mem_doL.1 hmem with e | ⟨k, hk, _, _, e⟩
  · obtain ⟨i, hi, h⟩ := h.fnd n h2
    exact ⟨i, hi, by rw [e]; exact h⟩
  · obtain ⟨i, hi, h⟩ := h.fnd k hk
    exact ⟨i, hi, by rw [e]; exact h⟩
theorem LineOk.nil_stop {side : Int} {ks : List Kd} {m : List Pc} {z : List Int} {t : Int} {l : List St} {n : Nat} (h : (bestsL side ks m z t l).length = 0) : lineL side ks m z n t l = [] := by
  cases n with
  | zero => rfl
  | succ n => simp only [lineL]; rw [if_pos h]
theorem lineL_go {side : Int} {ks : List Kd} {m : List Pc} {z : List Int} {t : Int} {l : List St} {n : Nat} {mv : Mv} (h : 0 < (bestsL side ks m z t l).length) (hmv : mvAt (bestsL side ks m z t l) 0 = mv) : lineL side ks m z (n + 1) t l = mv :: lineL side ks m z n (1 - t) (nextL l mv) := by
  simp only [lineL]; rw [if_neg (by omega), hmv]
end Go.Proofs.YtnjhcjjeehccbaaGreatDoor.Ko

namespace Go.Proofs.YtnjhcjjeehccbaaGreatDoor.Ko
open Go.ChangeShapes Go.WideShapes Go.ChangeAt Go.RowKit Base Sq In
set_option linter.unusedVariables false
set_option maxRecDepth 20000
attribute [local irreducible] wpQuiet

theorem blk_ne {w : World} {b p : Nat} {cs cs' : Array Value} {T T' : TypeId} (h : Blk w b cs T) (h' : Blk w p cs' T') (hT : T ≠ T') : b ≠ p := fun e => by
  subst e
  unfold Blk at h h'
  rw [h] at h'
  injection h' with h1
  injection h1 with _ h2
  exact hT h2
/-- men that lie below B, or in a block of men -/
def MenE (w : World) (B : Nat) (N : Option Addr) (l : List St) : Prop := IsSteps w B N l ∨ MenA 0 w.heap.size w N l
theorem MenE.is {w : World} {B : Nat} {N : Option Addr} {l : List St} (h : MenE w B N l) (hB : B ≤ w.heap.size) : IsSteps w w.heap.size N l := by
  rcases h with h | h
  · exact h.more hB
  · exact h.is
theorem MenE.below {w w' : World} {B : Nat} {N : Option Addr} {l : List St} (h : MenE w B N l) (hb : Below w.heap.size w w') (hB : B ≤ w.heap.size) : MenE w' B N l := by
  rcases h with h | h
  · exact .inl (h.below (hb.mono hB))
  · exact .inr ((h.below hb).more (Nat.le_refl _) hb.size)
theorem ownV_block {w : World} {base : Nat} {v : Value} {l : List Mv} (h : OwnV w base v l) {g : Nat} (hk : v.ownBlock = some g) : base ≤ g ∧ g < w.heap.size ∧ ∃ cs, Blk w g cs 59 := by
  rcases h.2 with ⟨rfl, _⟩ | ⟨g', cap, cur, rfl, hB, hg, _⟩
  · simp [Value.ownBlock] at hk
  · simp [Value.ownBlock] at hk
    subst hk
    exact ⟨hB, lt_of_block hg, cur, hg⟩
theorem MenE.grown {w w' : World} {B base : Nat} {N : Option Addr} {l : List St} {v : Value} {L : List Mv} (h : MenE w B N l) (ho : OwnV w base v L) (hg : w.grownBy w' v.ownBlock) (hB : B ≤ base) (hs : B ≤ w.heap.size) : MenE w' B N l := by
  rcases h with h | h
  · exact .inl (h.below (ho.base hg (Below.refl _ _) hB hs))
  · refine .inr (fun hn => ?_)
    obtain ⟨b, cs, rfl, h1, h2, h3, h4, h5⟩ := h hn
    have hb : Blk w' b cs 155 := (hg.block b h2 (fun e => by
      obtain ⟨_, _, cs', hx⟩ := ownV_block ho e.symm
      exact blk_ne h3 hx (by decide) rfl)).trans h3
    exact ⟨b, cs, rfl, h1, hb.lt, hb, h4, h5⟩
theorem MenE.set {w : World} {B p i : Nat} {N : Option Addr} {l : List St} {u : Value} {cs : Array Value} (h : MenE w B N l) (hp : Blk w p cs 40) (hB : B ≤ p) : MenE (w.setCell ⟨p, i, none⟩ u) B N l := by
  rcases h with h | h
  · exact .inl (h.below ((Below.refl _ _).setCell hB _))
  · refine .inr (fun hn => ?_)
    obtain ⟨b, cs', rfl, h1, h2, h3, h4, h5⟩ := h hn
    have hb := h3.other ⟨p, i, none⟩ u (blk_ne h3 hp (by decide))
    exact ⟨b, cs', rfl, h1, hb.lt, hb, h4, h5⟩
def lenV : Value → Nat
  | .slice _ n _ => n
  | _ => 0
theorem grown_blk {w w' : World} {base : Nat} {v : Value} {L : List Mv} {o : Obj} {p : Nat} {cs : Array Value} {T : TypeId} (ho : OwnV w base v L) (hp : Blk (w.alloc o) p cs T) (hg : (w.alloc o).grownBy w' v.ownBlock) (hT : T ≠ 59) : Blk w' p cs T :=
  (hg.block p hp.lt (fun e => by
    obtain ⟨_, _, cs', hx⟩ := ownV_block (ho.alloc o) e.symm
    exact blk_ne hp hx hT rfl)).trans hp
theorem own_no {w : World} {base : Nat} {v : Value} {L : List Mv} {p : Nat} {cs : Array Value} (ho : OwnV w base v L) (hp : Blk w p cs 40) {g n c : Nat} (e : v = .slice (some ⟨g, 0, none⟩) n c) (he : g = p) : False := by
  subst he
  obtain ⟨_, _, cs', hx⟩ := ownV_block ho (g := g) (by rw [e]; rfl)
  exact blk_ne hp hx (by decide) rfl
/-- a line that has been begun: what holds at each round's head -/
structure LineInv (base : Nat) (w wr : World) (side : Int) (ks : List Kd) (m : List Pc) (z : List Int) (full : List Mv) (bp : Nat) (x : Value) (t : Int) (N : Option Addr) (cn : Nat) (l : List St) (L : List Mv) : Prop where
  len : L.length ≤ 20
  own : OwnV wr base x L
  pos : Blk wr bp #[.int .i64 t, .slice N l.length cn] 40
  men : MenE wr w.heap.size N l
  ok : LineOk side ks m t l
  eq : full = L ++ lineL side ks m z (20 - L.length) t l
  below : Below w.heap.size w wr
theorem LineOk.of {side : Int} {ks : List Kd} {m : List Pc} {z : List Int} {t : Int} {l : List St} (h : canL side ks m z t l = true) : LineOk side ks m t l :=
  ⟨(canL_facts h).2.2.2.1, (code_found (matV_uniq (canL_facts h).1) (canL_facts h).2.2.2.2).1, (code_found (matV_uniq (canL_facts h).1) (canL_facts h).2.2.2.2).2⟩
/-- the line goes on -/
theorem LineInv.next {base : Nat} {w w' : World} {side : Int} {ks : List Kd} {m : List Pc} {z : List Int} {full : List Mv} {bp : Nat} {x' : Value} {t : Int} {N' : Option Addr} {cn' : Nat} {l : List St} {L : List Mv} {mv : Mv} (hs : side = 2 ∨ side = 3 ∨ side = 4) (hlt : L.length < 20)
    (hok : LineOk side ks m t l) (heq : full = L ++ lineL side ks m z (20 - L.length) t l) (hb : 0 < (bestsL side ks m z t l).length) (hmv : mvAt (bestsL side ks m z t l) 0 = mv) (hown : OwnV w' base x' (L ++ [mv])) (hpos : Blk w' bp #[.int .i64 (1 - t), .slice N' (nextL l mv).length cn'] 40)
    (hmen : MenE w' w.heap.size N' (nextL l mv)) (hbe : Below w.heap.size w w') : LineInv base w w' side ks m z full bp x' (1 - t) N' cn' (nextL l mv) (L ++ [mv]) := by
  refine ⟨by simp; omega, hown, hpos, hmen, hok.next hs (bestsL_mem (by rw [← hmv, mvAt_lt hb]; exact List.getElem_mem hb)), ?_, hbe⟩
  rw [heq, List.length_append, List.length_singleton, List.append_assoc, show 20 - L.length = (20 - (L.length + 1)) + 1 by omega, lineL_go hb hmv]
  rfl

set_option maxHeartbeats 8000000 in
theorem specBestLine_any (side : Int) (A : Option Addr) (c : Nat) (ks : List Kd) (M : Option Addr) (cm : Nat) (m : List Pc) (V : Option Addr) (cv : Nat) (z : List Int) (t : Int) (N : Option Addr) (cn : Nat) (l : List St) (w : World) (hR : IsKinds w w.heap.size A ks) (hM : IsPcs w w.heap.size M m)
    (hV : IsInts w w.heap.size V z) (hN : IsSteps w w.heap.size N l) (hsm : Small ks) (hm : m.length ≤ 1048576) (hz : z.length ≤ 1048576) (hl : l.length ≤ 1048576) :
    Calls Tryz.prog 45 #[.agg #[.int .i64 side, .slice A ks.length c], .slice M m.length cm, .slice V z.length cv, .agg #[.int .i64 t, .slice N l.length cn]] w fun e w' => MvRes (lineV side ks m z t l) w w' e := by
  obtain ⟨i0, hi0, hz0, hz1, hz2⟩ := info_parts mvInfo
  have hb0 : Below w.heap.size w (((w.alloc (.cells #[.int .i64 side, .slice A ks.length c] 36)).alloc (.cells #[.int .i64 t, .slice N l.length cn] 40)).alloc (.cells #[] 59)) := (by repeat (first | exact Below.refl _ _ | assumption | (refine Below.alloc ?_ (by first | omega | (simp; done) | (simp; omega)) _) | (refine Below.setCell ?_ (by first | omega | (simp; done) | (simp; omega)) _) | refine Below.drew ?_))
  have p1 := ((Blk.new w #[.int .i64 side, .slice A ks.length c] 36).alloc (.cells #[.int .i64 t, .slice N l.length cn] 40)).alloc (.cells #[] 59)
  have p2 := (Blk.new (w.alloc (.cells #[.int .i64 side, .slice A ks.length c] 36)) #[.int .i64 t, .slice N l.length cn] 40).alloc (.cells #[] 59)
  have p3 := Blk.new ((w.alloc (.cells #[.int .i64 side, .slice A ks.length c] 36)).alloc (.cells #[.int .i64 t, .slice N l.length cn] 40)) #[] 59
  simp only [World.size_alloc] at p2 p3
  go_enter Tryz.func45, Tryz.ntmps45
  go_wp2_with fail
  generalize hW0 : ((w.alloc _).alloc _).alloc _ = W0 at *
  clear hW0
  have HL0 := Lib.hid (fun h => show lineV side ks m z t l = [] from if_neg h)
  have HL1 := Lib.hid (fun h => show lineV side ks m z t l = lineL side ks m z 20 t l from if_pos h)
  refine (l9Can_any _ _ _ _ _ _ _ _ _ _ _ _ _ _ _ ((hR.below hb0).more hb0.size) ((hM.below hb0).more hb0.size) ((hV.below hb0).more hb0.size) ((hN.below hb0).more hb0.size) hsm hm hz hl).mono ?_
  rintro e w2 ⟨rfl, hb2⟩
  have q1 := p1.below hb2 p1.lt
  have q2 := p2.below hb2 p2.lt
  have q3 := p3.below hb2 p3.lt
  have hbe := hb0.trans (hb2.mono hb0.size)
  obtain ⟨⟨r0, r1⟩, _⟩ := q1.at2
  clear p1 p2 p3 hb0 hb2
  cases hc : canL side ks m z t l
  · have HV := Lib.hid (HL0.out (by rw [hc]; decide))
    clear hc HL0 HL1
    go_wp2_with fail
    go_ret
    exact ⟨none, 0, by rw [HV.out]; rfl, by rw [HV.out]; exact MvA.nil _ _ _ _, hbe⟩
  · have HV := Lib.hid (HL1.out hc)
    have HCF := Lib.hid (canL_facts hc)
    have HI0 := Lib.hid (show LineInv w.heap.size w w2 side ks m z (lineV side ks m z t l) (w.heap.size + 1) (.slice (some ⟨w.heap.size + 2, 0, none⟩) 0 0) t N cn l [] from
      ⟨by simp, OwnV.empty (by omega) q3, q2, .inl (hN.below hbe), LineOk.of hc, by rw [HV.out]; rfl, hbe⟩)
    have HR := Lib.hid hR
    have HM := Lib.hid hM
    have HVV := Lib.hid hV
    have HQ1 := Lib.hid q1
    have HB2 := Lib.hid hbe
    have HSD := Lib.hid (rulesOk_facts (matV_facts HCF.out.1).1).1
    clear hc HL0 HL1 q1 q2 q3 hbe hR hM hV hN r0 r1
    go_wp2_with fail
    go_loopw [9] (fun x wr => ∃ (B : Option Addr) (d : Nat) (t' : Int) (N' : Option Addr) (cn' : Nat) (l' : List St) (L : List Mv), x = .slice B L.length d ∧ L.length ≤ 20 ∧ Hid (LineInv w.heap.size w wr side ks m z (lineV side ks m z t l) (w.heap.size + 1) (.slice B L.length d) t' N' cn' l' L) ∧ Hid (Blk wr w.heap.size #[.int .i64 side, .slice A ks.length c] 36)) (fun x _ => 20 - lenV x)
    case atStart => exact ⟨_, _, t, N, cn, l, [], rfl, by simp, HI0, HQ1⟩
    case round =>
      obtain ⟨B, d, t', N', cn', l', L, rfl, hL20, hI, hq⟩ := hrel
      obtain ⟨⟨r0, r1⟩, _⟩ := hq.out.at2
      obtain ⟨⟨o0, o1⟩, _⟩ := hI.out.pos.at2
      have hz1' := hI.out.pos.lt
      have hbs := hI.out.below.size
      by_cases hlt : L.length < 20
      · have hlt' : (L.length : Int) < 20 := by omega
        go_wp2_with fail
        refine (l9Best_any side A c ks M cm m V cv z t' N' cn' l' _ ((HR.out.below hI.out.below).more hbs) ((HM.out.below hI.out.below).more hbs) ((HVV.out.below hI.out.below).more hbs) (hI.out.men.is hbs) HCF.out.1 hI.out.ok.shape HCF.out.2.1 (rangeB_iAt HCF.out.2.2.1) hI.out.ok.fnd).mono ?_
        rintro e w3 ⟨A3, c3, rfl, hm3, hb3⟩
        have HM3 := Lib.hid hm3
        have HB3 := Lib.hid hb3
        have hz3 := hb3.size
        have HO3 := Lib.hid (hI.out.own.below hb3)
        have HP3 := Lib.hid (hI.out.pos.below hb3 hz1')
        have HN3 := Lib.hid (hI.out.men.below hb3 hbs)
        have HQ3 := Lib.hid (hq.out.below hb3 hq.out.lt)
        have HE3 := Lib.hid (hI.out.below.trans (hb3.mono hbs))
        clear r0 r1 o0 o1 hm3 hb3
        obtain ⟨⟨o0, o1⟩, ⟨o2, o3⟩⟩ := HP3.out.at2
        by_cases h0 : (bestsL side ks m z t' l').length = 0
        · have HEQ := Lib.hid (show lineV side ks m z t l = L by rw [hI.out.eq, LineOk.nil_stop h0, List.append_nil])
          have hd : (((bestsL side ks m z t' l').length : Int) == 0) = true := by simp [h0]
          clear h0
          go_wp2_with fail
          go_ret
          obtain ⟨A9, c9, hv9, hmv9⟩ := HO3.out.of
          injection hv9 with h1 h2 h3
          subst h1 h3
          exact ⟨_, _, by rw [HEQ.out]; rfl, by rw [HEQ.out]; exact hmv9, HE3.out⟩
        · have hpos : 0 < (bestsL side ks m z t' l').length := by omega
          have hd : (((bestsL side ks m z t' l').length : Int) == 0) = false := by simp [h0]
          have HP := Lib.hid hpos
          obtain ⟨bm, rfl, zbm, zbh, csm, hbm, hc0, hc1⟩ := HM3.out.cells hpos
          have hge : wr.heap.size ≤ bm := by
            obtain ⟨b', _, he, hlo, _⟩ := HM3.out hpos
            injection he with he
            injection he with he
            omega
          obtain ⟨mv, hmv⟩ : ∃ mv, mv = mvAt (bestsL side ks m z t' l') 0 := ⟨_, rfl⟩
          have HMV := Lib.hid hmv.symm
          rw [← hmv] at hc0 hc1
          obtain ⟨fr, to⟩ := mv
          have hmem0 : mvAt (bestsL side ks m z t' l') 0 ∈ bestsL side ks m z t' l' := by rw [mvAt_lt hpos]; exact List.getElem_mem hpos
          have hmem := bestsL_mem hmem0
          rw [HMV.out] at hmem
          obtain ⟨n, hf1, hf2, hf3, _, hf5, hf6, hf7⟩ := move_facts HSD.out hI.out.ok.shape hmem
          have HF := Lib.hid (show (stAt l' n).far = fr from hf3)
          have HRP := Lib.hid (resL_pos hI.out.ok.shape (freeB_king (i := n) (shapeB_up hI.out.ok.shape) hf5))
          have HNX := Lib.hid (show nextL l' (fr, to) = doL l' n to from hf6)
          have HSH := Lib.hid hI.out.ok.shape
          have hmx : L.length + 1 ≤ maxLen := by unfold maxLen; omega
          have HBM := Lib.hid hbm
          have HP := Lib.hid hpos
          have hblE := Lib.hid (show bestsL side ks m z t' l' = bestsL side ks m z t' l' from rfl)
          clear h0 hmv hmem hmem0 hf1 hf3 hf5 hf6 hf7 hbm
          simp only [Nat.zero_mul, Nat.zero_add] at hc0 hc1
          go_wp2_with (at_builtin; refine wpList_append_own _ rfl _ _ 41 rfl w.heap.size 59 i0 (.agg #[.int .i64 0, .int .i64 0]) 2 16 Tryz.underlying41 hi0 hz0 hz1 hz2 rfl (by decide) _ _ _ rfl (HO3.out.alloc (.cells #[.int .i64 fr, .int .i64 to] 59)) ⟨w3.heap.size, 0, none⟩ 1 1 [.int .i64 fr, .int .i64 to] rfl rfl (news2 (Blk.new w3 #[.int .i64 fr, .int .i64 to] 59)) one2 hmx (by omega) (by first | (simp; done) | (simp; omega) | omega) ?_; intro v' w7 hown' hgrow7 hnil7; have hOn := OwnV.snoc (base := w.heap.size) (l := L) (m := (fr, to)) hown'; obtain ⟨B7, d7, hv7⟩ := hOn.slice; subst hv7; have HG7 := Lib.hid hgrow7; have HO7 := Lib.hid hOn; clear hown' hgrow7 hnil7 hOn; have hp7 := grown_blk HO3.out (HP3.out.alloc (.cells #[.int .i64 fr, .int .i64 to] 59)) HG7.out (by decide); have HP7 := Lib.hid hp7; obtain ⟨⟨o0, o1⟩, ⟨o2, o3⟩⟩ := hp7.at2; have hm7 : Blk w7 bm csm 59 := (HG7.out.block bm (by first | (simp; done) | (simp; omega) | omega) (fun e => by have := (ownV_block hI.out.own e.symm).2.1; omega)).trans (HBM.out.alloc _); have HM7 := Lib.hid hm7; have hc0 : w7.cell? ⟨bm, 0, none⟩ = some (.int .i64 fr) := (hm7.cell 0).trans ((HBM.out.cell 0).symm.trans hc0); have hc1 : w7.cell? ⟨bm, 1, none⟩ = some (.int .i64 to) := (hm7.cell 1).trans ((HBM.out.cell 1).symm.trans hc1); clear hp7 hm7)
          have hs37 := HG7.out.size
          simp only [World.size_alloc] at hs37
          have HN7 := Lib.hid (show MenE w7 w.heap.size N' l' from MenE.grown (MenE.below HN3.out (below_of w3 (.cells #[.int .i64 fr, .int .i64 to] 59)) HE3.out.size) (HO3.out.alloc (.cells #[.int .i64 fr, .int .i64 to] 59)) HG7.out (Nat.le_refl _) (by have := HE3.out.size; first | (simp; done) | (simp; omega)))
          have HQ7 := Lib.hid (grown_blk HO3.out (HQ3.out.alloc (.cells #[.int .i64 fr, .int .i64 to] 59)) HG7.out (by decide))
          have HE7 := Lib.hid (show Below w.heap.size w w7 from (HE3.out.alloc HE3.out.size (.cells #[.int .i64 fr, .int .i64 to] 59)).trans (OwnV.base (HO3.out.alloc (.cells #[.int .i64 fr, .int .i64 to] 59)) HG7.out (Below.refl _ _) (Nat.le_refl _) (by have := HE3.out.size; first | (simp; done) | (simp; omega))))
          have he7 := HE7.out.size
          have hpl := HP7.out.lt
          refine wp_region_held_drew (S := (fun w' => w7.heap.size ≤ w'.heap.size)) (by kernel_rfl) ?hrg1S (fun hHeld => ?hrg1g)
          case hrg1S => (try dsimp only); (first | exact Nat.le_refl _ | exact HB6.out.size | (have := HB6.out.size; simp; omega))
          refine wpAnyH_take (i := 1) (oi := _) (v := ?hrg2v) rfl (by kernel_rfl) (by kernel_rfl) (by kernel_rfl) (fun _ _ _ h => h) (Or.inl ⟨by rfl, ?hrg2y⟩) (by assumption) ?hrg2r
          case hrg2y => (intro w hSw; (try dsimp only at hSw); go_simp; all_goals (with_reducible rfl))
          (try simp only [Act.put]); (try simp only [List.getElem_toArray]); (try simp only [List.getElem_cons_succ]); (try simp only [List.getElem_cons_zero]); (try simp only [List.setIfInBounds_toArray]); (try simp only [List.set_cons_succ]); (try simp only [List.set_cons_zero])
          refine wpAnyH_take (i := 2) (oi := _) (v := ?hrg3v) rfl (by kernel_rfl) (by kernel_rfl) (by kernel_rfl) (fun _ _ _ h => h) (Or.inl ⟨by rfl, ?hrg3y⟩) (by assumption) ?hrg3r
          case hrg3y => (intro w hSw; (try dsimp only at hSw); go_simp; all_goals (with_reducible rfl))
          (try simp only [Act.put]); (try simp only [List.getElem_toArray]); (try simp only [List.getElem_cons_succ]); (try simp only [List.getElem_cons_zero]); (try simp only [List.setIfInBounds_toArray]); (try simp only [List.set_cons_succ]); (try simp only [List.set_cons_zero])
          refine wpAnyH_ready (rs := [0, 3]) (by kernel_rfl) (by simp) ?_
          refine (AllReadyH.cons (o := _) rfl (fun K hK => ?hrg4_0) (AllReadyH.cons (o := _) rfl (fun K hK => ?hrg4_3) AllReadyH.nil))
          case' hrg4_0 =>
            go_simp
            refine hK.out _ _ ?hrg5S (fun hHeld => ?hrg5g)
            case hrg5S => (try dsimp only); (first | exact Nat.le_refl _ | exact HB6.out.size | (have := HB6.out.size; simp; omega))
            clear hK K
            (try simp only [Act.put]); (try simp only [List.getElem_toArray]); (try simp only [List.getElem_cons_succ]); (try simp only [List.getElem_cons_zero]); (try simp only [List.setIfInBounds_toArray]); (try simp only [List.set_cons_succ]); (try simp only [List.set_cons_zero])
            refine wpAnyH_ready (rs := [3]) (by kernel_rfl) (by simp) ?_
            refine (AllReadyH.cons (o := _) rfl (fun K hK => ?hrg6_3) AllReadyH.nil)
            case' hrg6_3 =>
              go_simp
              refine hK.out _ _ ?hrg7S (fun hHeld => ?hrg7g)
              case hrg7S => (try dsimp only); (first | exact Nat.le_refl _ | exact HB6.out.size | (have := HB6.out.size; simp; omega))
              clear hK K
              (try simp only [Act.put]); (try simp only [List.getElem_toArray]); (try simp only [List.getElem_cons_succ]); (try simp only [List.getElem_cons_zero]); (try simp only [List.setIfInBounds_toArray]); (try simp only [List.set_cons_succ]); (try simp only [List.set_cons_zero])
              refine wpAnyH_ready (rs := [4]) (by kernel_rfl) (by simp) ?_
              refine (AllReadyH.cons (o := _) rfl (fun K hK => ?hrg8_4) AllReadyH.nil)
              case' hrg8_4 =>
                go_simp; go_at_call 90; refine (l4Do_any t' N' cn' l' n fr to w7.drew (show IsSteps w7.drew w7.drew.heap.size N' l' from HN7.out.is (by omega)) (shapeB_facts HSH.out).1 (shapeB_facts HSH.out).2.1 hf2 HF.out (shapeB_up HSH.out) HRP.out).mono ?_; rintro e6 w6 ⟨A6, c6, rfl, hm6, hb6⟩; have HM6 := Lib.hid hm6; have HB6 := Lib.hid (show Below w7.heap.size w7 w6 from ((Below.refl w7.heap.size w7).drew).trans hb6); obtain ⟨⟨x0, x1⟩, ⟨x2, x3⟩⟩ := (HP7.out.below HB6.out HP7.out.lt).at2; clear hm6 hb6
                refine hK.out _ _ ?hrg9S (fun hHeld => ?hrg9g)
                case hrg9S => (try dsimp only); (first | exact Nat.le_refl _ | exact HB6.out.size | (have := HB6.out.size; simp; omega))
                clear hK K
                (try simp only [Act.put]); (try simp only [List.getElem_toArray]); (try simp only [List.getElem_cons_succ]); (try simp only [List.getElem_cons_zero]); (try simp only [List.setIfInBounds_toArray]); (try simp only [List.set_cons_succ]); (try simp only [List.set_cons_zero])
                refine wpAnyH_ready (rs := [5]) (by kernel_rfl) (by simp) ?_
                refine (AllReadyH.cons (o := _) rfl (fun K hK => ?hrg10_5) AllReadyH.nil)
                case' hrg10_5 =>
                  go_simp
                  refine hK.out _ _ ?hrg11S (fun hHeld => ?hrg11g)
                  case hrg11S => (try dsimp only); (first | exact Nat.le_refl _ | exact HB6.out.size | (have := HB6.out.size; simp; omega))
                  clear hK K
                  (try simp only [Act.put]); (try simp only [List.getElem_toArray]); (try simp only [List.getElem_cons_succ]); (try simp only [List.getElem_cons_zero]); (try simp only [List.setIfInBounds_toArray]); (try simp only [List.set_cons_succ]); (try simp only [List.set_cons_zero])
                  refine wpAnyH_done (by kernel_rfl) ?_ _
          case' hrg4_3 =>
            go_simp
            refine hK.out _ _ ?hrg12S (fun hHeld => ?hrg12g)
            case hrg12S => (try dsimp only); (first | exact Nat.le_refl _ | exact HB6.out.size | (have := HB6.out.size; simp; omega))
            clear hK K
            (try simp only [Act.put]); (try simp only [List.getElem_toArray]); (try simp only [List.getElem_cons_succ]); (try simp only [List.getElem_cons_zero]); (try simp only [List.setIfInBounds_toArray]); (try simp only [List.set_cons_succ]); (try simp only [List.set_cons_zero])
            refine wpAnyH_ready (rs := [0]) (by kernel_rfl) (by simp) ?_
            refine (AllReadyH.cons (o := _) rfl (fun K hK => ?hrg13_0) AllReadyH.nil)
            case' hrg13_0 =>
              go_simp
              refine hK.out _ _ ?hrg14S (fun hHeld => ?hrg14g)
              case hrg14S => (try dsimp only); (first | exact Nat.le_refl _ | exact HB6.out.size | (have := HB6.out.size; simp; omega))
              clear hK K
              (try simp only [Act.put]); (try simp only [List.getElem_toArray]); (try simp only [List.getElem_cons_succ]); (try simp only [List.getElem_cons_zero]); (try simp only [List.setIfInBounds_toArray]); (try simp only [List.set_cons_succ]); (try simp only [List.set_cons_zero])
              refine wpAnyH_ready (rs := [4]) (by kernel_rfl) (by simp) ?_
              refine (AllReadyH.cons (o := _) rfl (fun K hK => ?hrg15_4) AllReadyH.nil)
              case' hrg15_4 =>
                go_simp; go_at_call 90; refine (l4Do_any t' N' cn' l' n fr to w7.drew (show IsSteps w7.drew w7.drew.heap.size N' l' from HN7.out.is (by omega)) (shapeB_facts HSH.out).1 (shapeB_facts HSH.out).2.1 hf2 HF.out (shapeB_up HSH.out) HRP.out).mono ?_; rintro e6 w6 ⟨A6, c6, rfl, hm6, hb6⟩; have HM6 := Lib.hid hm6; have HB6 := Lib.hid (show Below w7.heap.size w7 w6 from ((Below.refl w7.heap.size w7).drew).trans hb6); obtain ⟨⟨x0, x1⟩, ⟨x2, x3⟩⟩ := (HP7.out.below HB6.out HP7.out.lt).at2; clear hm6 hb6
                refine hK.out _ _ ?hrg16S (fun hHeld => ?hrg16g)
                case hrg16S => (try dsimp only); (first | exact Nat.le_refl _ | exact HB6.out.size | (have := HB6.out.size; simp; omega))
                clear hK K
                (try simp only [Act.put]); (try simp only [List.getElem_toArray]); (try simp only [List.getElem_cons_succ]); (try simp only [List.getElem_cons_zero]); (try simp only [List.setIfInBounds_toArray]); (try simp only [List.set_cons_succ]); (try simp only [List.set_cons_zero])
                refine wpAnyH_ready (rs := [5]) (by kernel_rfl) (by simp) ?_
                refine (AllReadyH.cons (o := _) rfl (fun K hK => ?hrg17_5) AllReadyH.nil)
                case' hrg17_5 =>
                  go_simp
                  refine hK.out _ _ ?hrg18S (fun hHeld => ?hrg18g)
                  case hrg18S => (try dsimp only); (first | exact Nat.le_refl _ | exact HB6.out.size | (have := HB6.out.size; simp; omega))
                  clear hK K
                  (try simp only [Act.put]); (try simp only [List.getElem_toArray]); (try simp only [List.getElem_cons_succ]); (try simp only [List.getElem_cons_zero]); (try simp only [List.setIfInBounds_toArray]); (try simp only [List.set_cons_succ]); (try simp only [List.set_cons_zero])
                  refine wpAnyH_done (by kernel_rfl) ?_ _
          all_goals
            go_wp2_with fail
            have HB := Lib.hid (show Below w7.heap.size w7 w6 from HB6.out)
            have hp6 := HP7.out.below HB6.out hpl
            have hN6 : MenE ((w6.setCell ⟨w.heap.size + 1, 0, none⟩ (.int .i64 (1 - t'))).setCell ⟨w.heap.size + 1, 1, none⟩ (.slice A6 (doL l' n to).length c6)) w.heap.size A6 (doL l' n to) := ((MenE.set (i := 0) (u := .int .i64 (1 - t')) (.inr (HM6.out.more (Nat.zero_le _) (Nat.le_refl _)) : MenE w6 w.heap.size A6 (doL l' n to)) hp6 (by omega)).set (i := 1) (hp6.set 0 _) (by omega))
            have hO6 := OwnV.other (g' := 0) (OwnV.other (g' := 0) (HO7.out.below HB6.out) ⟨w.heap.size + 1, 0, none⟩ (.int .i64 (1 - t')) (fun g nn cc e he => own_no (HO7.out.below HB6.out) hp6 e he)) ⟨w.heap.size + 1, 1, none⟩ (.slice A6 (doL l' n to).length c6) (fun g nn cc e he => own_no (HO7.out.below HB6.out) hp6 e he)
            go_roundw
            case rel =>
              refine ⟨B7, d7, 1 - t', A6, c6, nextL l' (fr, to), L ++ [(fr, to)], by first | rfl | simp, by simp; omega, Lib.hid (LineInv.next HSD.out hlt hI.out.ok hI.out.eq HP.out HMV.out hO6 ?_ ?_ ?_), Lib.hid ?_⟩
              · rw [HNX.out]; exact hp6.set2 _ _
              · rw [HNX.out]; exact hN6
              · exact ((HE7.out.trans (HB6.out.mono he7)).setCell (by show w.heap.size ≤ w.heap.size + 1; omega) _).setCell (by show w.heap.size ≤ w.heap.size + 1; omega) _
              · exact ((HQ7.out.below HB6.out HQ7.out.lt).other _ _ (by show w.heap.size ≠ w.heap.size + 1; omega)).other _ _ (by show w.heap.size ≠ w.heap.size + 1; omega)
            case measure => simp [lenV]; omega
      · have h20 : L.length = 20 := by omega
        have HEQ := Lib.hid (show lineV side ks m z t l = L by rw [hI.out.eq, h20]; simp [lineL])
        have HE3 := Lib.hid hI.out.below
        have HO3 := Lib.hid hI.out.own
        have hlt' : ¬ (L.length : Int) < 20 := by omega
        clear h20
        go_wp2_with fail
        go_ret
        obtain ⟨A9, c9, hv9, hmv9⟩ := HO3.out.of
        injection hv9 with h1 h2 h3
        subst h1 h3
        exact ⟨_, _, by rw [HEQ.out]; rfl, by rw [HEQ.out]; exact hmv9, HE3.out⟩
end Go.Proofs.YtnjhcjjeehccbaaGreatDoor.Ko

namespace Go.Proofs.YtnjhcjjeehccbaaGreatDoor.Ko
open Go.ChangeShapes Go.WideShapes Go.ChangeAt Go.RowKit Base Sq In
set_option linter.unusedVariables false
set_option maxRecDepth 20000
attribute [local irreducible] wpQuiet

theorem LineOk.two {side : Int} {ks : List Kd} {m : List Pc} {t : Int} {l : List St} (h : LineOk side ks m t l) : 1 < (basesV side m.length).length := by
  have h1 := (shapeB_facts h.shape).2.2.1
  have hl : 0 < l.length := by
    rcases Nat.eq_zero_or_pos l.length with h0 | h0
    · rw [h0] at h1; simp [cntK] at h1
    · exact h0
  obtain ⟨i, hi, _⟩ := h.fnd 0 hl
  rw [bases_len]; omega
/-- the bases of the codes, below hi and in another block than p -/
def DAt (p hi : Nat) (w : World) (D : Option Addr) (l : List Int) : Prop := IsInts w hi D l ∧ (0 < l.length → ∀ b, D = some ⟨b, 0, none⟩ → b ≠ p)
theorem DAt.of {p : Nat} {w : World} {D : Option Addr} {l : List Int} {x : Value} {A : Option Addr} {n c : Nat} {T : TypeId} (h : IsInts w w.heap.size D l) (hl : 1 < l.length) (hp : Blk w p #[x, .slice A n c] T) : DAt p w.heap.size w D l := by
  refine ⟨h, fun h0 b e hb => ?_⟩
  obtain ⟨b', e', _, hc⟩ := h h0
  rw [e] at e'
  injection e' with e'
  injection e' with e'
  subst e' hb
  have h1 := hc 1 hl
  rw [hp.cell] at h1
  simp at h1
theorem DAt.below {p hi : Nat} {w w' : World} {D : Option Addr} {l : List Int} (h : DAt p hi w D l) (hb : Below hi w w') : DAt p hi w' D l := ⟨h.1.below hb, h.2⟩
theorem DAt.set {p hi i : Nat} {w : World} {D : Option Addr} {l : List Int} (h : DAt p hi w D l) (u : Value) : DAt p hi (w.setCell ⟨p, i, none⟩ u) D l := by
  refine ⟨fun hn => ?_, h.2⟩
  obtain ⟨b, e, hB, hc⟩ := h.1 hn
  refine ⟨b, e, hB, fun j hj => ?_⟩
  rw [← hc j hj]
  exact World.cell?_setCell_other _ _ _ _ (fun he => h.2 hn b e (by injection he with he; exact he.symm))

set_option maxHeartbeats 8000000 in
theorem BestLine_any (side : Int) (A : Option Addr) (c : Nat) (ks : List Kd) (M : Option Addr) (cm : Nat) (m : List Pc) (V : Option Addr) (cv : Nat) (z : List Int) (t : Int) (N : Option Addr) (cn : Nat) (l : List St) (w : World) (hR : IsKinds w w.heap.size A ks) (hM : IsPcs w w.heap.size M m)
    (hV : IsInts w w.heap.size V z) (hN : IsSteps w w.heap.size N l) (hT : TabAt w) (hsm : Small ks) (hm : m.length ≤ 1048576) (hz : z.length ≤ 1048576) (hl : l.length ≤ 1048576) :
    Calls Tryz.prog 48 #[.agg #[.int .i64 side, .slice A ks.length c], .slice M m.length cm, .slice V z.length cv, .agg #[.int .i64 t, .slice N l.length cn]] w fun e w' => MvRes (lineV side ks m z t l) w w' e := by
  obtain ⟨i0, hi0, hz0, hz1, hz2⟩ := info_parts mvInfo
  have hb0 : Below w.heap.size w ((w.alloc (.cells #[.int .i64 side, .slice A ks.length c] 36)).alloc (.cells #[.int .i64 t, .slice N l.length cn] 40)) := (by repeat (first | exact Below.refl _ _ | assumption | (refine Below.alloc ?_ (by first | omega | (simp; done) | (simp; omega)) _) | (refine Below.setCell ?_ (by first | omega | (simp; done) | (simp; omega)) _) | refine Below.drew ?_))
  have p2 := Blk.new (w.alloc (.cells #[.int .i64 side, .slice A ks.length c] 36)) #[.int .i64 t, .slice N l.length cn] 40
  simp only [World.size_alloc] at p2
  have HL0 := Lib.hid (fun h => show lineV side ks m z t l = [] from if_neg h)
  have HL1 := Lib.hid (fun h => show lineV side ks m z t l = lineL side ks m z 20 t l from if_pos h)
  have HT := Lib.hid hT
  clear hT
  go_enter Tryz.func48, Tryz.ntmps48
  go_wp2_with fail
  generalize hW0 : (w.alloc _).alloc _ = W0 at *
  clear hW0
  refine (tableFor_any _ _ _ _ _ _ _ _ _ _ _ ((hR.below hb0).more hb0.size) ((hM.below hb0).more hb0.size) ((hV.below hb0).more hb0.size) hsm hm hz).mono ?_
  rintro e w2 ⟨tv, rfl, hno, hyes, hb2⟩
  have hbe := hb0.trans (hb2.mono hb0.size)
  have q2 := p2.below hb2 p2.lt
  clear hb0 hb2 p2
  cases htb : tabB side ks m z
  · obtain rfl := hno htb
    have HV := Lib.hid (HL0.out (by unfold canL; rw [htb]; simp))
    clear hno hyes htb HL0 HL1
    unfold nilTable
    go_wp2_with fail
    go_ret
    exact ⟨none, 0, by rw [HV.out]; rfl, by rw [HV.out]; exact MvA.nil _ _ _ _, hbe.alloc hbe.size _⟩
  · obtain ⟨D, d, rfl, hD⟩ := hyes htb
    have HCP := Lib.hid (canL_prog (t := t) (l := l) htb)
    have hmz : matV side ks m = true ∧ (z.length : Int) = numV side m.length := by
      have h := htb
      unfold tabB at h
      simp only [Bool.and_eq_true, decide_eq_true_eq] at h
      exact h.1
    have HMZ := Lib.hid hmz
    clear hno hyes htb hmz
    unfold tableV
    have hbA := below_of w2 (.cells #[.int .i64 side, .slice A ks.length c, .slice M m.length cm, .slice D (m.length + 1) d, .slice V z.length cv] 134)
    have p5 := Blk.new w2 #[.int .i64 side, .slice A ks.length c, .slice M m.length cm, .slice D (m.length + 1) d, .slice V z.length cv] 134
    have y2 := q2.lt
    obtain ⟨⟨s0, s1⟩, _⟩ := q2.at2
    have q2 := q2.below hbA y2
    have HD := Lib.hid ((hD.below hbA).more hbA.size)
    have hbe := hbe.trans (hbA.mono hbe.size)
    obtain ⟨a0, a1, a2, a3, a4⟩ := Blk.at5 p5
    obtain ⟨⟨o0, o1⟩, _⟩ := q2.at2
    clear hD hbA
    go_wp2_with fail
    generalize hWx : w2.alloc _ = Wx at *
    generalize hbx : w2.heap.size = bx at *
    clear hWx hbx s0 s1
    refine (tabHas_any side A c ks M cm m D d V cv z.length t N cn l _ ((hR.below hbe).more hbe.size) ((hM.below hbe).more hbe.size) HD.out ((hN.below hbe).more hbe.size) HMZ.out.1 hsm hl).mono ?_
    rw [← HCP.out]
    rintro e w4 ⟨rfl, hb4⟩
    have y5 := p5.lt
    have y6 := q2.lt
    have p5 := p5.below hb4 y5
    have q2 := q2.below hb4 y6
    have hbe := hbe.trans (hb4.mono hbe.size)
    have HD := Lib.hid ((HD.out.below hb4).more hb4.size)
    clear a0 a1 a2 a3 a4 o0 o1 hb4
    obtain ⟨a0, a1, a2, a3, a4⟩ := Blk.at5 p5
    obtain ⟨⟨o0, o1⟩, _⟩ := q2.at2
    cases hc : canL side ks m z t l
    · have HV := Lib.hid (HL0.out (by rw [hc]; decide))
      clear hc HL0 HL1
      go_wp2_with fail
      go_ret
      exact ⟨none, 0, by rw [HV.out]; rfl, by rw [HV.out]; exact MvA.nil _ _ _ _, hbe⟩
    · have HV := Lib.hid (HL1.out hc)
      have HCF := Lib.hid (canL_facts hc)
      have HOK0 := LineOk.of hc
      have hI0 : LineInv w4.heap.size w w4 side ks m z (lineV side ks m z t l) (w.heap.size + 1) (.slice none 0 0) t N cn l [] :=
        ⟨by simp, OwnV.nil _ _, q2, .inl (hN.below hbe), HOK0, by rw [HV.out]; rfl, hbe⟩
      have HI0 := Lib.hid hI0
      have HP5 := Lib.hid p5
      have HR := Lib.hid hR
      have HM := Lib.hid hM
      have HVV := Lib.hid hV
      have HDA := Lib.hid (DAt.of (p := w.heap.size + 1) HD.out HOK0.two q2)
      have HSD := Lib.hid (rulesOk_facts (matV_facts HCF.out.1).1).1
      have hz4 := hbe.size
      clear hc HL0 HL1 HOK0 hI0 p5 q2 hbe hR hM hN hV HD a0 a1 a2 a3 a4 o0 o1 y5 y6
      go_wp2_with fail
      go_loopw [11] (fun x wr => ∃ (B : Option Addr) (dd : Nat) (t' : Int) (N' : Option Addr) (cn' : Nat) (l' : List St) (L : List Mv), x = .slice B L.length dd ∧ L.length ≤ 20 ∧ Hid (LineInv w4.heap.size w wr side ks m z (lineV side ks m z t l) (w.heap.size + 1) (.slice B L.length dd) t' N' cn' l' L) ∧ Hid (Blk wr bx #[.int .i64 side, .slice A ks.length c, .slice M m.length cm, .slice D (m.length + 1) d, .slice V z.length cv] 134) ∧ Hid (DAt (w.heap.size + 1) w4.heap.size wr D (basesV side m.length)) ∧ w4.heap.size ≤ wr.heap.size) (fun x _ => 20 - lenV x)
      case atStart => exact ⟨_, _, t, N, cn, l, [], rfl, by simp, HI0, HP5, HDA, Nat.le_refl _⟩
      case round =>
        obtain ⟨B, dd, t', N', cn', l', L, rfl, hL20, hI, hq, hda, hz4r⟩ := hrel
        obtain ⟨a0, a1, a2, a3, a4⟩ := Blk.at5 hq.out
        obtain ⟨⟨o0, o1⟩, _⟩ := hI.out.pos.at2
        have hz1' := hI.out.pos.lt
        have hbs := hI.out.below.size
        have hql := hq.out.lt
        by_cases hlt : L.length < 20
        · have hlt' : (L.length : Int) < 20 := by omega
          go_wp2_with fail
          refine (best_any side A c ks M cm m D d V cv z t' N' cn' l' _ ((HR.out.below hI.out.below).more hbs) ((HM.out.below hI.out.below).more hbs) (hda.out.1.more hz4r) (hI.out.men.is hbs) ((HVV.out.below hI.out.below).more hbs) (HT.out.keep hI.out.below) hsm (Nat.le_trans (shapeB_facts hI.out.ok.shape).2.1 (by omega)) HCF.out.1 hI.out.ok.pos HCF.out.2.1 hI.out.ok.nt hI.out.ok.fnd).mono ?_
          rintro e w3 ⟨A3, c3, rfl, hm3, hb3⟩
          have HM3 := Lib.hid hm3
          have HB3 := Lib.hid hb3
          have hz3 := hb3.size
          have HO3 := Lib.hid (hI.out.own.below hb3)
          have HP3 := Lib.hid (hI.out.pos.below hb3 hz1')
          have HN3 := Lib.hid (hI.out.men.below hb3 hbs)
          have HQ3 := Lib.hid (hq.out.below hb3 hql)
          have HDA3 := Lib.hid (hda.out.below (hb3.mono hz4r))
          have HE3 := Lib.hid (hI.out.below.trans (hb3.mono hbs))
          clear a0 a1 a2 a3 a4 o0 o1 hm3 hb3
          obtain ⟨⟨o0, o1⟩, ⟨o2, o3⟩⟩ := HP3.out.at2
          by_cases h0 : (bestsL side ks m z t' l').length = 0
          · have HEQ := Lib.hid (show lineV side ks m z t l = L by rw [hI.out.eq, LineOk.nil_stop h0, List.append_nil])
            have hd : (((bestsL side ks m z t' l').length : Int) == 0) = true := by simp [h0]
            clear h0
            go_wp2_with fail
            go_ret
            obtain ⟨A9, c9, hv9, hmv9⟩ := HO3.out.of
            injection hv9 with h1 h2 h3
            subst h1 h3
            exact ⟨_, _, by rw [HEQ.out]; rfl, by rw [HEQ.out]; exact hmv9.more hz4 (Nat.le_refl _), HE3.out⟩
          · have hpos : 0 < (bestsL side ks m z t' l').length := by omega
            have hd : (((bestsL side ks m z t' l').length : Int) == 0) = false := by simp [h0]
            have HP := Lib.hid hpos
            obtain ⟨bm, rfl, zbm, zbh, csm, hbm, hc0, hc1⟩ := HM3.out.cells hpos
            have hge : wr.heap.size ≤ bm := by
              obtain ⟨b', _, he, hlo, _⟩ := HM3.out hpos
              injection he with he
              injection he with he
              omega
            obtain ⟨mv, hmv⟩ : ∃ mv, mv = mvAt (bestsL side ks m z t' l') 0 := ⟨_, rfl⟩
            have HMV := Lib.hid hmv.symm
            rw [← hmv] at hc0 hc1
            obtain ⟨fr, to⟩ := mv
            have hmem0 : mvAt (bestsL side ks m z t' l') 0 ∈ bestsL side ks m z t' l' := by rw [mvAt_lt hpos]; exact List.getElem_mem hpos
            have hmem := bestsL_mem hmem0
            rw [HMV.out] at hmem
            obtain ⟨n, hf1, hf2, hf3, _, hf5, hf6, hf7⟩ := move_facts HSD.out hI.out.ok.shape hmem
            have HF := Lib.hid (show (stAt l' n).far = fr from hf3)
            have HNM := Lib.hid (show manV l' fr = (n : Int) from hf1)
            have HNX := Lib.hid (show nextL l' (fr, to) = doL l' n to from hf6)
            have HSH := Lib.hid hI.out.ok.shape
            have hmx : L.length + 1 ≤ maxLen := by unfold maxLen; omega
            have HBM := Lib.hid hbm
            have HP := Lib.hid hpos
            have hblE := Lib.hid (show bestsL side ks m z t' l' = bestsL side ks m z t' l' from rfl)
            clear h0 hmv hmem hmem0 hf1 hf3 hf5 hf6 hf7 hbm
            simp only [Nat.zero_mul, Nat.zero_add] at hc0 hc1
            go_wp2_with (at_builtin; refine wpList_append_own _ rfl _ _ 41 rfl w4.heap.size 59 i0 (.agg #[.int .i64 0, .int .i64 0]) 2 16 Tryz.underlying41 hi0 hz0 hz1 hz2 rfl (by decide) _ _ _ rfl (HO3.out.alloc (.cells #[.int .i64 fr, .int .i64 to] 59)) ⟨w3.heap.size, 0, none⟩ 1 1 [.int .i64 fr, .int .i64 to] rfl rfl (news2 (Blk.new w3 #[.int .i64 fr, .int .i64 to] 59)) one2 hmx (by omega) (by first | (simp; done) | (simp; omega) | omega) ?_; intro v' w7 hown' hgrow7 hnil7; have hOn := OwnV.snoc (base := w4.heap.size) (l := L) (m := (fr, to)) hown'; obtain ⟨B7, d7, hv7⟩ := hOn.slice; subst hv7; have HG7 := Lib.hid hgrow7; have HO7 := Lib.hid hOn; clear hown' hgrow7 hnil7 hOn; have hp7 := grown_blk HO3.out (HP3.out.alloc (.cells #[.int .i64 fr, .int .i64 to] 59)) HG7.out (by decide); have HP7 := Lib.hid hp7; obtain ⟨⟨o0, o1⟩, ⟨o2, o3⟩⟩ := hp7.at2; have hm7 : Blk w7 bm csm 59 := (HG7.out.block bm (by first | (simp; done) | (simp; omega) | omega) (fun e => by have := (ownV_block hI.out.own e.symm).2.1; omega)).trans (HBM.out.alloc _); have HM7 := Lib.hid hm7; have hc0 : w7.cell? ⟨bm, 0, none⟩ = some (.int .i64 fr) := (hm7.cell 0).trans ((HBM.out.cell 0).symm.trans hc0); have hc1 : w7.cell? ⟨bm, 1, none⟩ = some (.int .i64 to) := (hm7.cell 1).trans ((HBM.out.cell 1).symm.trans hc1); clear hp7 hm7)
            have hs37 := HG7.out.size
            simp only [World.size_alloc] at hs37
            have HN7 := Lib.hid (show MenE w7 w.heap.size N' l' from MenE.grown (MenE.below HN3.out (below_of w3 (.cells #[.int .i64 fr, .int .i64 to] 59)) HE3.out.size) (HO3.out.alloc (.cells #[.int .i64 fr, .int .i64 to] 59)) HG7.out hz4 (by have := HE3.out.size; first | (simp; done) | (simp; omega)))
            have HQ7 := Lib.hid (grown_blk HO3.out (HQ3.out.alloc (.cells #[.int .i64 fr, .int .i64 to] 59)) HG7.out (by decide))
            have HG4 := Lib.hid (show Below w4.heap.size w3 w7 from ((Below.refl _ _).alloc (Nat.le_trans hz4r hz3) (.cells #[.int .i64 fr, .int .i64 to] 59)).trans (OwnV.base (HO3.out.alloc (.cells #[.int .i64 fr, .int .i64 to] 59)) HG7.out (Below.refl _ _) (Nat.le_refl _) (by first | (simp; done) | (simp; omega))))
            have HE7 := Lib.hid (show Below w.heap.size w w7 from HE3.out.trans (HG4.out.mono hz4))
            have HDA7 := Lib.hid (HDA3.out.below HG4.out)
            have he7 := HE7.out.size
            have hpl := HP7.out.lt
            refine wp_region_held_drew (S := (fun w' => w7.heap.size ≤ w'.heap.size)) (by kernel_rfl) ?hrg1S (fun hHeld => ?hrg1g)
            case hrg1S => (try dsimp only); (first | exact Nat.le_refl _ | exact HB6.out.size | (have := HB6.out.size; simp; omega))
            refine wpAnyH_take (i := 1) (oi := _) (v := ?hrg2v) rfl (by kernel_rfl) (by kernel_rfl) (by kernel_rfl) (fun _ _ _ h => h) (Or.inl ⟨by rfl, ?hrg2y⟩) (by assumption) ?hrg2r
            case hrg2y => (intro w hSw; (try dsimp only at hSw); go_simp; all_goals (with_reducible rfl))
            (try simp only [Act.put]); (try simp only [List.getElem_toArray]); (try simp only [List.getElem_cons_succ]); (try simp only [List.getElem_cons_zero]); (try simp only [List.setIfInBounds_toArray]); (try simp only [List.set_cons_succ]); (try simp only [List.set_cons_zero])
            refine wpAnyH_take (i := 2) (oi := _) (v := ?hrg3v) rfl (by kernel_rfl) (by kernel_rfl) (by kernel_rfl) (fun _ _ _ h => h) (Or.inl ⟨by rfl, ?hrg3y⟩) (by assumption) ?hrg3r
            case hrg3y => (intro w hSw; (try dsimp only at hSw); go_simp; all_goals (with_reducible rfl))
            (try simp only [Act.put]); (try simp only [List.getElem_toArray]); (try simp only [List.getElem_cons_succ]); (try simp only [List.getElem_cons_zero]); (try simp only [List.setIfInBounds_toArray]); (try simp only [List.set_cons_succ]); (try simp only [List.set_cons_zero])
            refine wpAnyH_ready (rs := [0, 3]) (by kernel_rfl) (by simp) ?_
            refine (AllReadyH.cons (o := _) rfl (fun K hK => ?hrg4_0) (AllReadyH.cons (o := _) rfl (fun K hK => ?hrg4_3) AllReadyH.nil))
            case' hrg4_0 =>
              go_simp
              refine hK.out _ _ ?hrg5S (fun hHeld => ?hrg5g)
              case hrg5S => (try dsimp only); (first | exact Nat.le_refl _ | exact HB6.out.size | (have := HB6.out.size; simp; omega))
              clear hK K
              (try simp only [Act.put]); (try simp only [List.getElem_toArray]); (try simp only [List.getElem_cons_succ]); (try simp only [List.getElem_cons_zero]); (try simp only [List.setIfInBounds_toArray]); (try simp only [List.set_cons_succ]); (try simp only [List.set_cons_zero])
              refine wpAnyH_ready (rs := [3]) (by kernel_rfl) (by simp) ?_
              refine (AllReadyH.cons (o := _) rfl (fun K hK => ?hrg6_3) AllReadyH.nil)
              case' hrg6_3 =>
                go_simp
                refine hK.out _ _ ?hrg7S (fun hHeld => ?hrg7g)
                case hrg7S => (try dsimp only); (first | exact Nat.le_refl _ | exact HB6.out.size | (have := HB6.out.size; simp; omega))
                clear hK K
                (try simp only [Act.put]); (try simp only [List.getElem_toArray]); (try simp only [List.getElem_cons_succ]); (try simp only [List.getElem_cons_zero]); (try simp only [List.setIfInBounds_toArray]); (try simp only [List.set_cons_succ]); (try simp only [List.set_cons_zero])
                refine wpAnyH_ready (rs := [4]) (by kernel_rfl) (by simp) ?_
                refine (AllReadyH.cons (o := _) rfl (fun K hK => ?hrg8_4) AllReadyH.nil)
                case' hrg8_4 =>
                  go_simp; go_at_call 95; refine (moved_any t' N' cn' l' fr to n w7.drew (show IsSteps w7.drew w7.drew.heap.size N' l' from HN7.out.is (by omega)) (shapeB_facts HSH.out).1 (shapeB_facts HSH.out).2.1 HNM.out hf2 (shapeB_up HSH.out)).mono ?_; rintro e6 w6 ⟨A6, c6, rfl, hm6, hb6⟩; have HM6 := Lib.hid hm6; have HB6 := Lib.hid (show Below w7.heap.size w7 w6 from ((Below.refl w7.heap.size w7).drew).trans hb6); obtain ⟨⟨x0, x1⟩, ⟨x2, x3⟩⟩ := (HP7.out.below HB6.out HP7.out.lt).at2; clear hm6 hb6
                  refine hK.out _ _ ?hrg9S (fun hHeld => ?hrg9g)
                  case hrg9S => (try dsimp only); (first | exact Nat.le_refl _ | exact HB6.out.size | (have := HB6.out.size; simp; omega))
                  clear hK K
                  (try simp only [Act.put]); (try simp only [List.getElem_toArray]); (try simp only [List.getElem_cons_succ]); (try simp only [List.getElem_cons_zero]); (try simp only [List.setIfInBounds_toArray]); (try simp only [List.set_cons_succ]); (try simp only [List.set_cons_zero])
                  refine wpAnyH_ready (rs := [5]) (by kernel_rfl) (by simp) ?_
                  refine (AllReadyH.cons (o := _) rfl (fun K hK => ?hrg10_5) AllReadyH.nil)
                  case' hrg10_5 =>
                    go_simp
                    refine hK.out _ _ ?hrg11S (fun hHeld => ?hrg11g)
                    case hrg11S => (try dsimp only); (first | exact Nat.le_refl _ | exact HB6.out.size | (have := HB6.out.size; simp; omega))
                    clear hK K
                    (try simp only [Act.put]); (try simp only [List.getElem_toArray]); (try simp only [List.getElem_cons_succ]); (try simp only [List.getElem_cons_zero]); (try simp only [List.setIfInBounds_toArray]); (try simp only [List.set_cons_succ]); (try simp only [List.set_cons_zero])
                    refine wpAnyH_done (by kernel_rfl) ?_ _
            case' hrg4_3 =>
              go_simp
              refine hK.out _ _ ?hrg12S (fun hHeld => ?hrg12g)
              case hrg12S => (try dsimp only); (first | exact Nat.le_refl _ | exact HB6.out.size | (have := HB6.out.size; simp; omega))
              clear hK K
              (try simp only [Act.put]); (try simp only [List.getElem_toArray]); (try simp only [List.getElem_cons_succ]); (try simp only [List.getElem_cons_zero]); (try simp only [List.setIfInBounds_toArray]); (try simp only [List.set_cons_succ]); (try simp only [List.set_cons_zero])
              refine wpAnyH_ready (rs := [0]) (by kernel_rfl) (by simp) ?_
              refine (AllReadyH.cons (o := _) rfl (fun K hK => ?hrg13_0) AllReadyH.nil)
              case' hrg13_0 =>
                go_simp
                refine hK.out _ _ ?hrg14S (fun hHeld => ?hrg14g)
                case hrg14S => (try dsimp only); (first | exact Nat.le_refl _ | exact HB6.out.size | (have := HB6.out.size; simp; omega))
                clear hK K
                (try simp only [Act.put]); (try simp only [List.getElem_toArray]); (try simp only [List.getElem_cons_succ]); (try simp only [List.getElem_cons_zero]); (try simp only [List.setIfInBounds_toArray]); (try simp only [List.set_cons_succ]); (try simp only [List.set_cons_zero])
                refine wpAnyH_ready (rs := [4]) (by kernel_rfl) (by simp) ?_
                refine (AllReadyH.cons (o := _) rfl (fun K hK => ?hrg15_4) AllReadyH.nil)
                case' hrg15_4 =>
                  go_simp; go_at_call 95; refine (moved_any t' N' cn' l' fr to n w7.drew (show IsSteps w7.drew w7.drew.heap.size N' l' from HN7.out.is (by omega)) (shapeB_facts HSH.out).1 (shapeB_facts HSH.out).2.1 HNM.out hf2 (shapeB_up HSH.out)).mono ?_; rintro e6 w6 ⟨A6, c6, rfl, hm6, hb6⟩; have HM6 := Lib.hid hm6; have HB6 := Lib.hid (show Below w7.heap.size w7 w6 from ((Below.refl w7.heap.size w7).drew).trans hb6); obtain ⟨⟨x0, x1⟩, ⟨x2, x3⟩⟩ := (HP7.out.below HB6.out HP7.out.lt).at2; clear hm6 hb6
                  refine hK.out _ _ ?hrg16S (fun hHeld => ?hrg16g)
                  case hrg16S => (try dsimp only); (first | exact Nat.le_refl _ | exact HB6.out.size | (have := HB6.out.size; simp; omega))
                  clear hK K
                  (try simp only [Act.put]); (try simp only [List.getElem_toArray]); (try simp only [List.getElem_cons_succ]); (try simp only [List.getElem_cons_zero]); (try simp only [List.setIfInBounds_toArray]); (try simp only [List.set_cons_succ]); (try simp only [List.set_cons_zero])
                  refine wpAnyH_ready (rs := [5]) (by kernel_rfl) (by simp) ?_
                  refine (AllReadyH.cons (o := _) rfl (fun K hK => ?hrg17_5) AllReadyH.nil)
                  case' hrg17_5 =>
                    go_simp
                    refine hK.out _ _ ?hrg18S (fun hHeld => ?hrg18g)
                    case hrg18S => (try dsimp only); (first | exact Nat.le_refl _ | exact HB6.out.size | (have := HB6.out.size; simp; omega))
                    clear hK K
                    (try simp only [Act.put]); (try simp only [List.getElem_toArray]); (try simp only [List.getElem_cons_succ]); (try simp only [List.getElem_cons_zero]); (try simp only [List.setIfInBounds_toArray]); (try simp only [List.set_cons_succ]); (try simp only [List.set_cons_zero])
                    refine wpAnyH_done (by kernel_rfl) ?_ _
            all_goals
              go_wp2_with fail
              have hp6 := HP7.out.below HB6.out hpl
              have hq6 := HQ7.out.below HB6.out HQ7.out.lt
              have hd6 := HDA7.out.below (HB6.out.mono (by omega))
              have hN6 : MenE ((w6.setCell ⟨w.heap.size + 1, 0, none⟩ (.int .i64 (1 - t'))).setCell ⟨w.heap.size + 1, 1, none⟩ (.slice A6 (doL l' n to).length c6)) w.heap.size A6 (doL l' n to) := ((MenE.set (i := 0) (u := .int .i64 (1 - t')) (.inr (HM6.out.more (Nat.zero_le _) (Nat.le_refl _)) : MenE w6 w.heap.size A6 (doL l' n to)) hp6 (by omega)).set (i := 1) (hp6.set 0 _) (by omega))
              have hO6 := OwnV.other (g' := 0) (OwnV.other (g' := 0) (HO7.out.below HB6.out) ⟨w.heap.size + 1, 0, none⟩ (.int .i64 (1 - t')) (fun g nn cc e he => own_no (HO7.out.below HB6.out) hp6 e he)) ⟨w.heap.size + 1, 1, none⟩ (.slice A6 (doL l' n to).length c6) (fun g nn cc e he => own_no (HO7.out.below HB6.out) hp6 e he)
              have hne : bx ≠ w.heap.size + 1 := blk_ne hq6 hp6 (by decide)
              have hs6 := HB6.out.size
              go_roundw
              case rel =>
                refine ⟨B7, d7, 1 - t', A6, c6, nextL l' (fr, to), L ++ [(fr, to)], by first | rfl | simp, by simp; omega, Lib.hid (LineInv.next HSD.out hlt hI.out.ok hI.out.eq HP.out HMV.out hO6 ?_ ?_ ?_), Lib.hid ?_, Lib.hid ((hd6.set _).set _), by simp only [size_set]; omega⟩
                · rw [HNX.out]; exact hp6.set2 _ _
                · rw [HNX.out]; exact hN6
                · exact ((HE7.out.trans (HB6.out.mono he7)).setCell (by show w.heap.size ≤ w.heap.size + 1; omega) _).setCell (by show w.heap.size ≤ w.heap.size + 1; omega) _
                · exact (hq6.other _ _ hne).other _ _ hne
              case measure => simp [lenV]; omega

        · have h20 : L.length = 20 := by omega
          have HEQ := Lib.hid (show lineV side ks m z t l = L by rw [hI.out.eq, h20]; simp [lineL])
          have HE3 := Lib.hid hI.out.below
          have HO3 := Lib.hid hI.out.own
          have hlt' : ¬ (L.length : Int) < 20 := by omega
          clear h20
          go_wp2_with fail
          go_ret
          obtain ⟨A9, c9, hv9, hmv9⟩ := HO3.out.of
          injection hv9 with h1 h2 h3
          subst h1 h3
          exact ⟨_, _, by rw [HEQ.out]; rfl, by rw [HEQ.out]; exact hmv9.more hz4 (Nat.le_refl _), HE3.out⟩
end Go.Proofs.YtnjhcjjeehccbaaGreatDoor.Ko

namespace Go.Proofs.YtnjhcjjeehccbaaGreatDoor.Opn
open Go.ChangeShapes Go.WideShapes Go.ChangeAt Go.RowKit Base Ko Go.Deep
set_option linter.unusedVariables false
set_option maxRecDepth 20000
section
variable {H : Type} {enc : TypeId × Value → H} {w : World}
theorem cMan : Tryz.prog.cellsOf 166 = 3 := by kernel_rfl
theorem cPos : Tryz.prog.cellsOf 27 = 2 := by kernel_rfl
theorem rd_man {fuel : Nat} {cs : List Value} {x : DataW H × List MemPlace} (h : DataW.trod enc Tryz.prog w 0 (fun _ => true) true fuel 166 cs = some x) :
    ∃ s : St, cs = [.int .i64 s.dx, .int .i64 s.dy, .int .i64 s.far] := by
  obtain ⟨c0, c1, c2, y0, y1, y2, m, rfl, h0, h1, h2⟩ := rd3 Tryz.underlying166 (by kernel_rfl) cMan h
  obtain ⟨a, rfl, _⟩ := rd_int Tryz.underlying3 h0
  obtain ⟨b, rfl, _⟩ := rd_int Tryz.underlying3 h1
  obtain ⟨c, rfl, _⟩ := rd_int Tryz.underlying3 h2
  exact ⟨⟨a, b, c⟩, rfl⟩
theorem rd_men {fuel : Nat} {c : Value} {x : DataW H × List MemPlace} (h : DataW.trod enc Tryz.prog w 0 (fun _ => true) true fuel 25 [c] = some x) :
    ∃ A cap, ∃ l : List St, c = .slice A l.length cap ∧ l.length ≤ maxLen ∧ IsSteps w w.heap.size A l := by
  obtain ⟨A, len, cap, hcs, hl, hm, hi⟩ := rd_slice Tryz.underlying25 cMan (by omega) h
  simp at hcs
  subst hcs
  rcases Nat.eq_zero_or_pos len with rfl | h0
  · exact ⟨A, cap, [], rfl, Nat.zero_le _, fun h => absurd h (by simp)⟩
  · obtain ⟨b, off, rfl, hb, he⟩ := hi h0
    obtain ⟨f, hf⟩ := choose_lt (p := fun i (s : St) => w.cell? ⟨b, off + i * 3, none⟩ = some (.int .i64 s.dx) ∧ w.cell? ⟨b, off + i * 3 + 1, none⟩ = some (.int .i64 s.dy) ∧ w.cell? ⟨b, off + i * 3 + 2, none⟩ = some (.int .i64 s.far)) (n := len) (fun i hi' => by
      obtain ⟨cs', m, y, _, hat, ht⟩ := he i hi'
      obtain ⟨s, rfl⟩ := rd_man ht
      exact ⟨s, hat 0 (by omega), hat 1 (by omega), hat 2 (by omega)⟩)
    refine ⟨_, cap, (List.range len).map f, by simp, by simp; omega, fun _ => ⟨b, off, rfl, hb, fun i hi' => ?_⟩⟩
    have hi2 : i < len := by simpa using hi'
    unfold stAt
    rw [map_range_getD f len i _ hi2]
    exact hf i hi2
theorem rd_pos {fuel : Nat} {cs : List Value} {x : DataW H × List MemPlace} (h : DataW.trod enc Tryz.prog w 0 (fun _ => true) true fuel 27 cs = some x) :
    ∃ t A cap, ∃ l : List St, cs = [.int .i64 t, .slice A l.length cap] ∧ l.length ≤ maxLen ∧ (Lit.int .i64 t).wf = true ∧ IsSteps w w.heap.size A l := by
  obtain ⟨c0, c1, y0, y1, m, rfl, h0, h1⟩ := rd2 Tryz.underlying27 (by kernel_rfl) cPos h
  obtain ⟨a, rfl, hwf⟩ := rd_int Tryz.underlying3 h0
  obtain ⟨A, cap, l, rfl, hl, hs⟩ := rd_men h1
  exact ⟨a, A, cap, l, rfl, hl, hwf, hs⟩
/-- an argument of the type laws.Pos -/
theorem open_pos {v : Value} {d : DataW H} {p : List MemPlace} {b0 : Nat} (hv : Value.okWide Tryz.prog w .any b0 27 v) (h : DataW.Trod enc Tryz.prog w 0 (fun _ => true) true 27 v d p) :
    ∃ t A cap, ∃ l : List St, v = .agg #[.int .i64 t, .slice A l.length cap] ∧ l.length ≤ maxLen ∧ (Lit.int .i64 t).wf = true ∧ IsSteps w w.heap.size A l := by
  obtain ⟨cs, rfl, hsz⟩ := okWide_struct Tryz.underlying27 hv
  obtain ⟨fuel, hf⟩ := h
  obtain ⟨t, A, cap, l, hcs, hl, hwf, hs⟩ := rd_pos (cs := cs.toList) (by simpa [Value.cells] using hf)
  exact ⟨t, A, cap, l, by rw [← Array.toArray_toList (xs := cs), hcs], hl, hwf, hs⟩
end
end Go.Proofs.YtnjhcjjeehccbaaGreatDoor.Opn

namespace Go.Proofs.YtnjhcjjeehccbaaGreatDoor.Ko
open Go.ChangeShapes Go.WideShapes Go.ChangeAt Go.WideElems Go.RowKit Base
set_option linter.unusedVariables false
set_option maxRecDepth 20000

theorem gTab : Tryz.prog.globalNamed "math/bits.deBruijn64tab" = some 0 := by kernel_rfl
theorem tTab : (Tryz.prog.globals[0]?).map (·.type) = some 230 := by kernel_rfl
theorem datTab : (Rows.laid_math_bits_deBruijn64tab : DataW Unit) = .agg (Go.Lib.deBruijn64tab.map fun n : Nat => .lit (.int .u8 (n : Int))) := rfl
theorem tab_of_laid {W : World} (h : laidMetH Tryz.prog [("math/bits.deBruijn64tab", Rows.laid_math_bits_deBruijn64tab)] W) : TabAt W := by
  rw [MakeChecks.laidMetH_plain _ _ _ (by kernel_rfl)] at h
  obtain ⟨ps, ⟨g0, t0, cs0, f0, p0, q0, hg0, ht0, hv0, hd0, _⟩, _, _⟩ := h
  obtain rfl := Option.some.inj (gTab.symm.trans hg0)
  obtain rfl := Option.some.inj (tTab.symm.trans ht0)
  obtain ⟨xs, m1, rfl, hx1, hlen, hn3, hel⟩ := DataW.trod_array Tryz.underlying230 hd0
  rw [datTab] at hx1
  simp only [Prod.mk.injEq, DataW.agg.injEq] at hx1
  have c5 : Tryz.prog.cellsOf 5 = 1 := by kernel_rfl
  intro j hj
  have hc := World.var?_cell hg0 hv0 j
  have hj1 := hel j hj
  have hjx : j < xs.length := by omega
  rw [List.getElem?_eq_getElem hjx, c5, Nat.mul_one] at hj1
  obtain ⟨n, e1, e2, _⟩ := DataW.trod_int Tryz.underlying5 hj1
  have hd : (xs.map (·.1))[j]? = (Go.Lib.deBruijn64tab.map fun n : Nat => (DataW.lit (.int .u8 (n : Int)) : DataW Unit))[j]? := by rw [← hx1.1]
  rw [List.getElem?_map, List.getElem?_map, List.getElem?_eq_getElem hjx, e2] at hd
  have hjt : j < Go.Lib.deBruijn64tab.length := hj
  rw [List.getElem?_eq_getElem hjt] at hd
  simp only [Option.map_some, Option.some.injEq, DataW.lit.injEq, Lit.int.injEq, true_and] at hd
  rw [hc]
  have hcj : cs0.toList[j]? = some (.int .u8 n) := by
    have h0 := congrArg (fun l => l[0]?) e1
    simpa using h0
  rw [show cs0[j]? = some (.int .u8 n) from by simpa using hcj]
  rw [List.getD_eq_getElem?_getD, List.getElem?_eq_getElem hjt]
  simp [hd]
end Go.Proofs.YtnjhcjjeehccbaaGreatDoor.Ko
