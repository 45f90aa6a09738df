/- Values that are in their range: of the program and of the model. tableFor, Gen.table and GenOk of the program. CodeOf of the model and of the program. The score of a value: program and model, over whole numbers alone. The best moves: values (no program is named). The best moves of the model: l9Best. BestMoves of the model. The table of the program: has, score, the closure of best. Slices of moves in the exact laws: compared, marked, held; MovesOf of the program and of the model. The best moves of the program: the closure, largest, best, BestMoves. BestMoves of the program. What is known of a position that was read as data. The walk of the exact law FnExactBestMoves. FnExactBestMoves: for every input the law returns true and its arguments read as before. The library's table math/bits.deBruijn64tab is tied to the program's text by the card. Its conditions: none. -/
import Derived.Test.YtmfcgikfgikbfaaGreatDoorSq
import Derived.Test.YtmfcgikfgikbfaaGreatDoorIn
import Derived.Test.YtmfcgikfgikbfaaGreatDoorY1
import Derived.Test.YtmfcgikfgikbfaaGreatDoorY5
import Derived.Test.YtmfcgikfgikbfaaGreatDoorPk
import Derived.Test.YtmfcgikfgikbfaaGreatDoorY3
import Derived.Test.YtmfcgikfgikbfaaGreatDoorMk
import Derived.Test.YtmfcgikfgikbfaaGreatDoorOpr
import Derived.Test.YtmfcgikfgikbfaaGreatDoorCp
import Derived.Test.YtmfcgikfgikbfaaGreatDoorY2
import Derived.Deep.RegionHeld3
import Derived.Test.YtmfcgikfgikbfaaGreatDoorY4
import Derived.Test.YtmfcgikfgikbfaaGreatDoorCards
import Derived.Test.YtmfcgikfgikbfaaGreatDoorTie
import Derived.ProofKit
import Derived.LaidMore
import Derived.OpenShut
import Derived.Stop.Joined
import Derived.SevenTiedAt
import Derived.ShutString
import Derived.ChangeOld
import Derived.Carry
namespace Go.Proofs.YtmfcgikfgikbfaaGreatDoor.Ko
open Go.ChangeShapes Go.WideShapes Go.ChangeAt Go.RowKit Base Sq In
set_option linter.unusedVariables false
set_option maxRecDepth 20000
attribute [local irreducible] wpQuiet

/-- no value is out of range -/
def rangeB (z : List Int) : Bool := (List.range z.length).all fun i => inB (iAt z i) 0 100
theorem rangeB_bad {z : List Int} {k : Nat} (hk : k < z.length) (h : inB (iAt z k) 0 100 = false) : rangeB z = false := by
  unfold rangeB; rw [List.all_eq_false]; exact ⟨k, by simpa using hk, by simp [h]⟩
theorem rangeB_end {z : List Int} (h : ∀ j, j < z.length → inB (iAt z j) 0 100 = true) : rangeB z = true := by
  unfold rangeB; rw [List.all_eq_true]; intro j hj; exact h j (by simpa using hj)
theorem rangeB_at {z : List Int} (h : rangeB z = true) {k : Nat} (hk : k < z.length) : 0 ≤ iAt z k ∧ iAt z k ≤ 100 := by
  unfold rangeB at h; rw [List.all_eq_true] at h
  exact of_decide_eq_true (h k (by simpa using hk))

set_option maxHeartbeats 1000000 in
theorem l9Range_any (V : Option Addr) (cv : Nat) (z : List Int) (w : World) (hV : IsInts w w.heap.size V z) (hz : z.length ≤ 1048576) :
    Calls Tryz.prog 86 #[.slice V z.length cv] w fun e w' => e = .returned (.bool (rangeB z)) ∧ w = w' := by
  go_enter Tryz.func86, Tryz.ntmps86
  go_wp2_with fail
  go_loop [3] (fun i => ∃ k : Nat, k ≤ z.length ∧ i = .int .i64 k ∧ Hid (∀ j, j < k → inB (iAt z j) 0 100 = true)) (fun i => z.length - (intOf i).toNat)
  case atStart => exact ⟨0, by omega, rfl, Lib.hid (fun j hj => absurd hj (by omega))⟩
  case round =>
    obtain ⟨k, hk, rfl, hg⟩ := hrel
    by_cases hlt : k < z.length
    · obtain ⟨b, rfl, hB, hc⟩ := hV (by omega)
      have c0 := hc k hlt
      have hlt' : (k : Int) < (z.length : Int) := by omega
      clear hc
      cases hb : inB (iAt z k) 0 100
      · have HB := Lib.hid hb
        clear hb
        go_wp2_with (go_at_call 79; refine (in_any _ _ _ _).mono ?_; rw [HB.out]; rintro e w' ⟨rfl, rfl⟩)
        go_ret
        exact ⟨rb (rangeB_bad hlt HB.out).symm, rfl⟩
      · have HB := Lib.hid hb
        clear hb
        go_wp2_with (go_at_call 79; refine (in_any _ _ _ _).mono ?_; rw [HB.out]; rintro e w' ⟨rfl, rfl⟩)
        go_round
        case rel => exact ⟨k + 1, by omega, by go_num, Lib.hid (all_succ hg.out HB.out)⟩
        case measure => simp [intOf]; omega
    · obtain rfl : k = z.length := by omega
      go_wp2_with fail
      go_ret
      exact ⟨rb (rangeB_end hg.out).symm, rfl⟩

/-- the program's test -/
theorem valsOk1_any (x : Int) (w : World) :
    Calls Tryz.prog 128 #[.int .i64 x] w fun e w' => e = .returned (.bool (!inB x 0 100)) ∧ w = w' := by
  by_cases h1 : x < 0
  · have HB := Lib.hid (show inB x 0 100 = false from decide_eq_false (by omega))
    go_enter Tryz.func128, Tryz.ntmps128
    go_wp2_with fail
    go_ret
    exact ⟨by rw [HB.out]; rfl, rfl⟩
  · have hd : decide (x < 0) = false := decide_eq_false h1
    by_cases h2 : 100 < x
    · have HB := Lib.hid (show inB x 0 100 = false from decide_eq_false (by omega))
      clear h1
      go_enter Tryz.func128, Tryz.ntmps128
      go_wp2_with fail
      go_ret
      exact ⟨by rw [HB.out]; first | rfl | simp, rfl⟩
    · have HB := Lib.hid (show inB x 0 100 = true from decide_eq_true (by omega))
      have hd2 : decide (100 < x) = false := decide_eq_false h2
      clear h1 h2
      go_enter Tryz.func128, Tryz.ntmps128
      go_wp2_with fail
      go_ret
      exact ⟨by rw [HB.out]; first | rfl | simp, rfl⟩
set_option maxHeartbeats 1000000 in
theorem indexFunc_any (V : Option Addr) (cv : Nat) (z : List Int) (w : World) (hV : IsInts w w.heap.size V z) (hz : z.length ≤ 1048576) :
    Calls Tryz.prog 145 #[.slice V z.length cv, .func (.func 128) #[] #[]] w fun e w' => (∃ i : Int, e = .returned (.int .i64 i) ∧ -1 ≤ i ∧ i ≤ 1048576 ∧ rangeB z = decide (i < 0)) ∧ w = w' := by
  go_enter Tryz.func145, Tryz.ntmps145
  go_wp2_with fail
  go_loop [8] (fun i => ∃ k : Nat, k ≤ z.length ∧ i = .int .i64 k ∧ Hid (∀ j, j < k → inB (iAt z j) 0 100 = true)) (fun i => z.length - (intOf i).toNat)
  case atStart => exact ⟨0, by omega, rfl, Lib.hid (fun j hj => absurd hj (by omega))⟩
  case round =>
    obtain ⟨k, hk, rfl, hg⟩ := hrel
    by_cases hlt : k < z.length
    · obtain ⟨b, rfl, hB, hc⟩ := hV (by omega)
      have c0 := hc k hlt
      have hlt' : (k : Int) < (z.length : Int) := by omega
      clear hc
      cases hb : inB (iAt z k) 0 100
      · have HB := Lib.hid hb
        clear hb
        go_wp2_with fail
        refine (valsOk1_any _ _).mono ?_
        rw [HB.out]
        rintro e w' ⟨rfl, rfl⟩
        go_wp2_with fail
        go_ret
        exact ⟨⟨k, rfl, by omega, by omega, by rw [rangeB_bad hlt HB.out]; exact (decide_eq_false (by omega)).symm⟩, rfl⟩
      · have HB := Lib.hid hb
        clear hb
        go_wp2_with fail
        refine (valsOk1_any _ _).mono ?_
        rw [HB.out]
        rintro e w' ⟨rfl, rfl⟩
        go_wp2_with fail
        go_round
        case rel => exact ⟨k + 1, by omega, by go_num, Lib.hid (all_succ hg.out HB.out)⟩
        case measure => simp [intOf]; omega
    · obtain rfl : k = z.length := by omega
      go_wp2_with fail
      go_ret
      exact ⟨⟨-1, rfl, by omega, by omega, by rw [rangeB_end hg.out]; rfl⟩, rfl⟩
theorem containsFunc_any (V : Option Addr) (cv : Nat) (z : List Int) (w : World) (hV : IsInts w w.heap.size V z) (hz : z.length ≤ 1048576) :
    Calls Tryz.prog 127 #[.slice V z.length cv, .func (.func 128) #[] #[]] w fun e w' => e = .returned (.bool (!rangeB z)) ∧ w = w' := by
  go_enter Tryz.func127, Tryz.ntmps127
  go_wp2_with fail
  refine (indexFunc_any _ _ _ _ hV hz).mono ?_
  rintro e w' ⟨⟨i, rfl, h1, h2, hr⟩, rfl⟩
  have HR := Lib.hid hr
  clear hr
  go_wp2_with fail
  go_ret
  exact ⟨by rw [HR.out]; apply rb; rw [Bool.eq_iff_iff]; simp, rfl⟩
theorem valsOk_any (V : Option Addr) (cv : Nat) (z : List Int) (w : World) (hV : IsInts w w.heap.size V z) (hz : z.length ≤ 1048576) :
    Calls Tryz.prog 89 #[.slice V z.length cv] w fun e w' => e = .returned (.bool (rangeB z)) ∧ w = w' := by
  go_enter Tryz.func89, Tryz.ntmps89
  go_wp2_with fail
  refine (containsFunc_any _ _ _ _ hV hz).mono ?_
  rintro e w' ⟨rfl, rfl⟩
  go_wp2_with fail
  go_ret
  exact ⟨rb (by simp), rfl⟩
end Go.Proofs.YtmfcgikfgikbfaaGreatDoor.Ko

namespace Go.Proofs.YtmfcgikfgikbfaaGreatDoor.Ko
open Go.ChangeShapes Go.WideShapes Go.ChangeAt Go.RowKit Base Sq In
set_option linter.unusedVariables false
set_option maxRecDepth 20000
attribute [local irreducible] wpQuiet

/-- there is a table -/
def tabB (side : Int) (ks : List Kd) (m : List Pc) (z : List Int) : Bool := matV side ks m && decide ((z.length : Int) = numV side m.length) && rangeB z
def nilTable : Value := .agg #[.int .i64 0, .slice none 0 0, .slice none 0 0, .slice none 0 0, .slice none 0 0]
def tableV (side : Int) (A : Option Addr) (c n : Nat) (M : Option Addr) (cm m : Nat) (D : Option Addr) (d : Nat) (V : Option Addr) (cv z : Nat) : Value :=
  .agg #[.int .i64 side, .slice A n c, .slice M m cm, .slice D (m + 1) d, .slice V z cv]
/-- what tableFor returns: a table of the material and the values, or none -/
def TabPost (side : Int) (A : Option Addr) (c : Nat) (ks : List Kd) (M : Option Addr) (cm : Nat) (m : List Pc) (V : Option Addr) (cv : Nat) (z : List Int) (b : Bool) (w w' : World) (e : Ending) : Prop :=
  ∃ tv, e = .returned (.tuple #[tv, .bool b]) ∧ (b = false → tv = nilTable) ∧
    (b = true → ∃ D d, tv = tableV side A c ks.length M cm m.length D d V cv z.length ∧ IsInts w' w'.heap.size D (basesV side m.length)) ∧ Below w.heap.size w w'
theorem Blk.at5 {w : World} {b : Nat} {x y z u v : Value} {T : TypeId} (h : Blk w b #[x, y, z, u, v] T) :
    w.cell? ⟨b, 0, none⟩ = some x ∧ w.cell? ⟨b, 1, none⟩ = some y ∧ w.cell? ⟨b, 2, none⟩ = some z ∧ w.cell? ⟨b, 3, none⟩ = some u ∧ w.cell? ⟨b, 4, none⟩ = some v := ⟨h.cell 0, h.cell 1, h.cell 2, h.cell 3, h.cell 4⟩
theorem Blk.free5 {w : World} {b : Nat} {x y z u v : Value} {T : TypeId} (h : Blk w b #[x, y, z, u, v] T) :
    w.frozen? ⟨b, 0, none⟩ = false ∧ w.frozen? ⟨b, 1, none⟩ = false ∧ w.frozen? ⟨b, 2, none⟩ = false ∧ w.frozen? ⟨b, 3, none⟩ = false ∧ w.frozen? ⟨b, 4, none⟩ = false := ⟨h.free 0, h.free 1, h.free 2, h.free 3, h.free 4⟩
theorem Blk.set5 {w : World} {b : Nat} {x y z u v : Value} {T : TypeId} (h : Blk w b #[x, y, z, u, v] T) (x' y' z' u' v' : Value) :
    Blk (((((w.setCell ⟨b, 0, none⟩ x').setCell ⟨b, 1, none⟩ y').setCell ⟨b, 2, none⟩ z').setCell ⟨b, 3, none⟩ u').setCell ⟨b, 4, none⟩ v') b #[x', y', z', u', v'] T :=
  ((((h.set 0 x').set 1 y').set 2 z').set 3 u').set 4 v'
theorem below_set5 {B : Nat} {w w' : World} (h : Below B w w') {b : Nat} (hb : B ≤ b) (x y z u v : Value) :
    Below B w (((((w'.setCell ⟨b, 0, none⟩ x).setCell ⟨b, 1, none⟩ y).setCell ⟨b, 2, none⟩ z).setCell ⟨b, 3, none⟩ u).setCell ⟨b, 4, none⟩ v) :=
  ((((h.setCell (p := ⟨b, 0, none⟩) hb _).setCell (p := ⟨b, 1, none⟩) hb _).setCell (p := ⟨b, 2, none⟩) hb _).setCell (p := ⟨b, 3, none⟩) hb _).setCell (p := ⟨b, 4, none⟩) hb _
theorem IsInts.other {w : World} {B : Nat} {A : Option Addr} {l : List Int} (h : IsInts w B A l) (a : Addr) (u : Value) (hne : ∀ b, A = some ⟨b, 0, none⟩ → b ≠ a.block) : IsInts (w.setCell a u) B A l := fun hn => by
  obtain ⟨b, rfl, hB, hc⟩ := h hn
  exact ⟨b, rfl, hB, fun i hi => (World.cell?_of_block (Below.heap_setCell w a u b (hne b rfl))).trans (hc i hi)⟩

set_option maxHeartbeats 4000000 in
theorem tableFor_any (side : Int) (A : Option Addr) (c : Nat) (ks : List Kd) (M : Option Addr) (cm : Nat) (m : List Pc) (V : Option Addr) (cv : Nat) (z : List Int) (w : World) (hR : IsKinds w w.heap.size A ks) (hM : IsPcs w w.heap.size M m) (hV : IsInts w w.heap.size V z)
    (hsm : Small ks) (hm : m.length ≤ 1048576) (hz : z.length ≤ 1048576) :
    Calls Tryz.prog 54 #[.agg #[.int .i64 side, .slice A ks.length c], .slice M m.length cm, .slice V z.length cv] w fun e w' => TabPost side A c ks M cm m V cv z (tabB side ks m z) w w' e := by
  have hb0 : Below w.heap.size w ((w.alloc (.cells #[.int .i64 side, .slice A ks.length c] 34)).alloc (.cells #[.int .i64 0, .slice none 0 0, .slice none 0 0, .slice none 0 0, .slice none 0 0] 91)) := (by repeat (first | exact Below.refl _ _ | assumption | (refine Below.alloc ?_ (by first | omega | (simp; done) | (simp; omega)) _) | (refine Below.setCell ?_ (by first | omega | (simp; done) | (simp; omega)) _) | refine Below.drew ?_))
  have p2 := Blk.new (w.alloc (.cells #[.int .i64 side, .slice A ks.length c] 34)) #[.int .i64 0, .slice none 0 0, .slice none 0 0, .slice none 0 0, .slice none 0 0] 91
  simp only [World.size_alloc] at p2
  have HU := Lib.hid (show tabB side ks m z = (matV side ks m && decide ((z.length : Int) = numV side m.length) && rangeB z) from rfl)
  go_enter Tryz.func54, Tryz.ntmps54
  go_wp2_with fail
  generalize hW0 : (w.alloc _).alloc _ = W0 at *
  clear hW0
  have hR1 := (hR.below hb0).more hb0.size
  have hM1 := (hM.below hb0).more hb0.size
  have hV1 := (hV.below hb0).more hb0.size
  refine (coderOf_any _ _ _ _ _ _ _ _ hR1 hM1 hsm hm).mono ?_
  unfold CoderPost
  cases hok : matV side ks m
  · have HV := Lib.hid (show tabB side ks m z = false by rw [HU.out, hok]; rfl)
    clear hok HU
    rintro e w2 ⟨cv2, rfl, hn, _, hb2⟩
    obtain rfl := hn rfl
    unfold nilCoder
    have q2 := p2.below hb2 p2.lt
    have y2 := (p2.below hb2 p2.lt).lt
    obtain ⟨f0, f1, f2, f3, f4⟩ := Blk.free5 (p2.below hb2 p2.lt)
    obtain ⟨c0, c1, c2, c3, c4⟩ := Blk.at5 (p2.below hb2 p2.lt)
    have hbe := hb0.trans (hb2.mono hb0.size)
    have hx := Blk.at5 ((Blk.set5 q2 (.int .i64 0) (.slice none 0 0) (.slice none 0 0) (.slice none 0 0) (.slice none 0 0)).alloc (.cells #[.int .i64 0, .slice none 0 0, .slice none 0 0, .slice none 0 0] 74))
    have hB0 := below_set5 hbe (b := w.heap.size + 1) (by omega) (.int .i64 0) (.slice none 0 0) (.slice none 0 0) (.slice none 0 0) (.slice none 0 0)
    have hB := hB0.alloc hB0.size (.cells #[.int .i64 0, .slice none 0 0, .slice none 0 0, .slice none 0 0] 74)
    clear p2 hb0 hb2 hn q2 hbe hB0
    go_wp2_with fail
    refine bodyPost_ret (v := .tuple #[nilTable, .bool false]) ?_ rfl ⟨nilTable, by rw [HV.out], fun _ => rfl, (fun h => by rw [HV.out] at h; cases h), hB⟩
    obtain ⟨x0, x1, x2, x3, x4⟩ := hx
    simp [results, Tryz.results54, go_sem, nilTable, x0, x1, x2, x3, x4]
  · obtain ⟨hro, hm4⟩ := matV_facts hok
    obtain ⟨hs, _⟩ := rulesOk_facts hro
    have HS := Lib.hid hs
    have HK := Lib.hid hok
    clear hro hs hok
    rintro e w2 ⟨cv2, rfl, _, hy, hb2⟩
    obtain ⟨D, d, rfl, hI⟩ := hy rfl
    have hA := below_of w2 (.cells #[.int .i64 side, .slice A ks.length c, .slice M m.length cm, .slice D (m.length + 1) d] 74)
    have q2 := (p2.below hb2 p2.lt).alloc (.cells #[.int .i64 side, .slice A ks.length c, .slice M m.length cm, .slice D (m.length + 1) d] 74)
    have q3 := Blk.new w2 #[.int .i64 side, .slice A ks.length c, .slice M m.length cm, .slice D (m.length + 1) d] 74
    have hbe := (hb0.trans (hb2.mono hb0.size)).alloc (hb0.trans (hb2.mono hb0.size)).size (.cells #[.int .i64 side, .slice A ks.length c, .slice M m.length cm, .slice D (m.length + 1) d] 74)
    have hI3 := (hI.below hA).more hA.size
    have hI2 := hI
    have y2 := q2.lt
    have y3 := q3.lt
    clear p2 hb0 hI hA hy
    by_cases he : (z.length : Int) = numV side m.length
    · have hd : ((z.length : Int) == numV side m.length) = true := by simp [he]
      have hd2 : ((z.length : Int) != numV side m.length) = false := by simp [he]
      have HE := Lib.hid he
      clear he
      go_wp2_with fail
      generalize hW3 : w2.alloc _ = W3 at *
      generalize hbk : w2.heap.size = bk at *
      have hz3 : bk + 1 ≤ W3.heap.size := by omega
      clear hW3
      refine (many_any side A c ks.length M cm m.length D d _ hI3 HS.out hm4).mono ?_
      rintro e w4 ⟨rfl, hb4⟩
      have q2 := q2.below hb4 y2
      have q3 := Blk.below q3 hb4 y3
      have hbe4 := hbe.trans (hb4.mono hbe.size)
      have hI4 := hI3.below hb4
      have hz4 := hb4.size
      have y2 := q2.lt
      have y3 := q3.lt
      obtain ⟨f0, f1, f2, f3, f4⟩ := Blk.free5 q2
      obtain ⟨c0, c1, c2, c3, c4⟩ := Blk.at5 q2
      obtain ⟨d0, d1, d2, d3⟩ := Blk.at4 q3
      have HNE : Hid (∀ b, D = some ⟨b, 0, none⟩ → b ≠ w.heap.size + 1) := Lib.hid (fun b hb => by
        obtain ⟨b', hb', _, hc⟩ := hI4 (by rw [bases_len]; omega)
        rw [hb] at hb'
        injection hb' with hb'
        injection hb' with hb'
        subst hb'
        have h0 := hc 0 (by rw [bases_len]; omega)
        rintro rfl
        rw [c0] at h0
        exact absurd h0 (by unfold basesV; simp [iAt]))
      clear hb4 hI2 hI3
      cases hr : rangeB z
      · have HV := Lib.hid (show tabB side ks m z = false by rw [HU.out, hr]; simp)
        have HR := Lib.hid hr
        clear hr HU
        go_wp2_with fail
        refine (valsOk_any _ _ _ _ ((hV.below hbe4).more hbe4.size) hz).mono ?_
        rw [HR.out]
        rintro e w5 ⟨rfl, rfl⟩
        have hx := Blk.at5 (Blk.set5 q2 (.int .i64 0) (.slice none 0 0) (.slice none 0 0) (.slice none 0 0) (.slice none 0 0))
        have hB := below_set5 hbe4 (b := w.heap.size + 1) (by omega) (.int .i64 0) (.slice none 0 0) (.slice none 0 0) (.slice none 0 0) (.slice none 0 0)
        clear hbe hbe4
        go_wp2_with fail
        refine bodyPost_ret (v := .tuple #[nilTable, .bool false]) ?_ rfl ⟨nilTable, by rw [HV.out], fun _ => rfl, (fun h => by rw [HV.out] at h; cases h), hB⟩
        obtain ⟨x0, x1, x2, x3, x4⟩ := hx
        simp [results, Tryz.results54, go_sem, nilTable, x0, x1, x2, x3, x4]
      · have HV := Lib.hid (show tabB side ks m z = true by rw [HU.out, HK.out, decide_eq_true HE.out, hr]; rfl)
        have HR := Lib.hid hr
        clear hr HU
        have hx := Blk.at5 (Blk.set5 q2 (.int .i64 side) (.slice A ks.length c) (.slice M m.length cm) (.slice D (m.length + 1) d) (.slice V z.length cv))
        have hB := below_set5 hbe4 (b := w.heap.size + 1) (by omega) (.int .i64 side) (.slice A ks.length c) (.slice M m.length cm) (.slice D (m.length + 1) d) (.slice V z.length cv)
        have hI5 : IsInts (((((w4.setCell ⟨w.heap.size + 1, 0, none⟩ (.int .i64 side)).setCell ⟨w.heap.size + 1, 1, none⟩ (.slice A ks.length c)).setCell ⟨w.heap.size + 1, 2, none⟩ (.slice M m.length cm)).setCell ⟨w.heap.size + 1, 3, none⟩ (.slice D (m.length + 1) d)).setCell ⟨w.heap.size + 1, 4, none⟩ (.slice V z.length cv)) w4.heap.size D (basesV side m.length) :=
          IsInts.other (IsInts.other (IsInts.other (IsInts.other (IsInts.other (hI4.more (by omega)) _ _ HNE.out) _ _ HNE.out) _ _ HNE.out) _ _ HNE.out) _ _ HNE.out
        have HI5 := Lib.hid (hI5.more (by simp [World.setCell] : _ ≤ (((((w4.setCell ⟨w.heap.size + 1, 0, none⟩ (.int .i64 side)).setCell ⟨w.heap.size + 1, 1, none⟩ (.slice A ks.length c)).setCell ⟨w.heap.size + 1, 2, none⟩ (.slice M m.length cm)).setCell ⟨w.heap.size + 1, 3, none⟩ (.slice D (m.length + 1) d)).setCell ⟨w.heap.size + 1, 4, none⟩ (.slice V z.length cv)).heap.size))
        clear hbe hI4 hI5 HNE
        go_wp2_with fail
        refine (valsOk_any _ _ _ _ ((hV.below hbe4).more hbe4.size) hz).mono ?_
        rw [HR.out]
        rintro e w5 ⟨rfl, rfl⟩
        clear hbe4
        go_wp2_with fail
        refine bodyPost_ret (v := .tuple #[tableV side A c ks.length M cm m.length D d V cv z.length, .bool true]) ?_ rfl ⟨tableV side A c ks.length M cm m.length D d V cv z.length, by rw [HV.out], (fun h => by rw [HV.out] at h; cases h), fun _ => ⟨D, d, rfl, HI5.out⟩, hB⟩
        obtain ⟨x0, x1, x2, x3, x4⟩ := hx
        simp [results, Tryz.results54, go_sem, tableV, x0, x1, x2, x3, x4]
    · have hd : ((z.length : Int) == numV side m.length) = false := by simp [he]
      have hd2 : ((z.length : Int) != numV side m.length) = true := by simp [he]
      have HV := Lib.hid (show tabB side ks m z = false by rw [HU.out, decide_eq_false he]; simp)
      clear he HU
      go_wp2_with fail
      generalize hW3 : w2.alloc _ = W3 at *
      generalize hbk : w2.heap.size = bk at *
      clear hW3
      refine (many_any side A c ks.length M cm m.length D d _ hI3 HS.out hm4).mono ?_
      rintro e w4 ⟨rfl, hb4⟩
      have q2 := q2.below hb4 y2
      have hbe4 := hbe.trans (hb4.mono hbe.size)
      have y2 := q2.lt
      obtain ⟨f0, f1, f2, f3, f4⟩ := Blk.free5 q2
      obtain ⟨c0, c1, c2, c3, c4⟩ := Blk.at5 q2
      clear hb4 hI2 hI3
      have hx := Blk.at5 (Blk.set5 q2 (.int .i64 0) (.slice none 0 0) (.slice none 0 0) (.slice none 0 0) (.slice none 0 0))
      have hB := below_set5 hbe4 (b := w.heap.size + 1) (by omega) (.int .i64 0) (.slice none 0 0) (.slice none 0 0) (.slice none 0 0) (.slice none 0 0)
      clear hbe hbe4
      go_wp2_with fail
      refine bodyPost_ret (v := .tuple #[nilTable, .bool false]) ?_ rfl ⟨nilTable, by rw [HV.out], fun _ => rfl, (fun h => by rw [HV.out] at h; cases h), hB⟩
      obtain ⟨x0, x1, x2, x3, x4⟩ := hx
      simp [results, Tryz.results54, go_sem, nilTable, x0, x1, x2, x3, x4]
end Go.Proofs.YtmfcgikfgikbfaaGreatDoor.Ko

namespace Go.Proofs.YtmfcgikfgikbfaaGreatDoor.Ko
open Go.ChangeShapes Go.WideShapes Go.ChangeAt Go.RowKit Base Sq
set_option linter.unusedVariables false
set_option maxRecDepth 20000
attribute [local irreducible] wpQuiet

def codeOfV (side : Int) (ks : List Kd) (m : List Pc) (t : Int) (l : List St) : Int := if matV side ks m = true ∧ posOk side ks t l = true then codeQ side t l m else -1
theorem posOk_facts {side t : Int} {ks : List Kd} {l : List St} (h : posOk side ks t l = true) : (0 ≤ t ∧ t ≤ 1) ∧ l.length ≤ 4 ∧ (∀ i, i < l.length → 0 ≤ (stAt l i).far ∧ (stAt l i).far < side * side) := by
  unfold posOk at h
  simp only [Bool.and_eq_true] at h
  obtain ⟨h1, h2, _, _, h3⟩ := shapeB_facts h.1
  exact ⟨h1, h2, fun i hi => (h3 i hi).2.2.1⟩

set_option maxHeartbeats 4000000 in
theorem specCodeOf_any (side : Int) (A : Option Addr) (c : Nat) (ks : List Kd) (M : Option Addr) (cm : Nat) (m : List Pc) (t : Int) (N : Option Addr) (cn : Nat) (l : List St) (w : World) (hR : IsKinds w w.heap.size A ks) (hM : IsPcs w w.heap.size M m)
    (hN : IsSteps w w.heap.size N l) (hsm : Small ks) (hm : m.length ≤ 1048576) (hl : l.length ≤ 1048576) :
    Calls Tryz.prog 85 #[.agg #[.int .i64 side, .slice A ks.length c], .slice M m.length cm, .agg #[.int .i64 t, .slice N l.length cn]] w fun e w' => e = .returned (.int .i64 (codeOfV side ks m t l)) ∧ Below w.heap.size w w' := by
  have hb0 : Below w.heap.size w ((w.alloc (.cells #[.int .i64 side, .slice A ks.length c] 34)).alloc (.cells #[.int .i64 t, .slice N l.length cn] 58)) := (by repeat (first | exact Below.refl _ _ | assumption | (refine Below.alloc ?_ (by first | omega | (simp; done) | (simp; omega)) _) | (refine Below.setCell ?_ (by first | omega | (simp; done) | (simp; omega)) _) | refine Below.drew ?_))
  have p1 := (Blk.new w #[.int .i64 side, .slice A ks.length c] 34).alloc (.cells #[.int .i64 t, .slice N l.length cn] 58)
  have p2 := Blk.new (w.alloc (.cells #[.int .i64 side, .slice A ks.length c] 34)) #[.int .i64 t, .slice N l.length cn] 58
  simp only [World.size_alloc] at p2
  go_enter Tryz.func85, Tryz.ntmps85
  go_wp2_with fail
  generalize hW0 : (w.alloc _).alloc _ = W0 at *
  clear hW0
  refine (specMatOk_any _ _ _ _ _ _ _ _ ((hR.below hb0).more hb0.size) ((hM.below hb0).more hb0.size) hsm hm).mono ?_
  rintro e w2 ⟨rfl, hb2⟩
  have q1 := p1.below hb2 p1.lt
  have q2 := p2.below hb2 p2.lt
  have hbe := hb0.trans (hb2.mono hb0.size)
  have y1 := q1.lt
  have y2 := q2.lt
  obtain ⟨⟨r0, r1⟩, _⟩ := q1.at2
  obtain ⟨⟨o0, o1⟩, _⟩ := q2.at2
  clear p1 p2 hb0 hb2
  cases hok : matV side ks m
  · have HV := Lib.hid (show codeOfV side ks m t l = -1 by unfold codeOfV; rw [hok]; rfl)
    clear hok
    go_wp2_with fail
    go_ret
    exact ⟨by rw [HV.out]; rfl, hbe⟩
  · have HK := Lib.hid hok
    obtain ⟨hro, hm4⟩ := matV_facts hok
    obtain ⟨hs, _⟩ := rulesOk_facts hro
    have HRO := Lib.hid hro
    have HSD := Lib.hid hs
    clear hok hro hs
    go_wp2_with fail
    refine (l3Ok_any _ _ _ _ _ _ _ _ _ ((hR.below hbe).more hbe.size) ((hN.below hbe).more hbe.size) HRO.out hl).mono ?_
    rintro e w3 ⟨rfl, hb3⟩
    have q1 := q1.below hb3 y1
    have q2 := q2.below hb3 y2
    have hbe3 := hbe.trans (hb3.mono hbe.size)
    have y1 := q1.lt
    have y2 := q2.lt
    clear r0 r1 o0 o1 hbe hb3
    obtain ⟨⟨r0, r1⟩, _⟩ := q1.at2
    obtain ⟨⟨o0, o1⟩, _⟩ := q2.at2
    cases hpo : posOk side ks t l
    · have HV := Lib.hid (show codeOfV side ks m t l = -1 by unfold codeOfV; rw [hpo]; simp)
      clear hpo
      go_wp2_with fail
      go_ret
      exact ⟨by rw [HV.out]; rfl, hbe3⟩
    · obtain ⟨ht, hl4, hf⟩ := posOk_facts hpo
      have hv : codeOfV side ks m t l = codeQ side t l m := if_pos ⟨HK.out, hpo⟩
      have HFR := Lib.hid hf
      clear hpo hf
      go_wp2_with fail
      refine (l7Twice_any _ _ _ _ _ ((hN.below hbe3).more hbe3.size) hl).mono ?_
      rintro e w4 ⟨rfl, hb4⟩
      have q1 := q1.below hb4 y1
      have q2 := q2.below hb4 y2
      have hbe4 := hbe3.trans (hb4.mono hbe3.size)
      clear r0 r1 o0 o1 hbe3 hb4
      obtain ⟨⟨r0, r1⟩, _⟩ := q1.at2
      obtain ⟨⟨o0, o1⟩, _⟩ := q2.at2
      cases htw : twiceB l
      · have HV := Lib.hid (show codeOfV side ks m t l = codeV side t l m by rw [hv]; unfold codeQ; rw [htw]; rfl)
        clear htw hv
        go_wp2_with fail
        refine (l7Code_any side A c ks.length M cm m t N cn l _ ((hM.below hbe4).more hbe4.size) ((hN.below hbe4).more hbe4.size) HSD.out hm4 hl4 ht HFR.out).mono ?_
        rintro e w5 ⟨rfl, hb5⟩
        go_wp2_with fail
        go_ret
        exact ⟨by rw [HV.out]; rfl, hbe4.trans (hb5.mono hbe4.size)⟩
      · have HV := Lib.hid (show codeOfV side ks m t l = -1 by rw [hv]; unfold codeQ; rw [htw]; rfl)
        clear htw hv
        go_wp2_with fail
        go_ret
        exact ⟨by rw [HV.out]; rfl, hbe4⟩
end Go.Proofs.YtmfcgikfgikbfaaGreatDoor.Ko

namespace Go.Proofs.YtmfcgikfgikbfaaGreatDoor.Sc
open Go.ChangeShapes Go.WideShapes Go.ChangeAt Go.RowKit Base Sq
set_option linter.unusedVariables false
set_option maxRecDepth 20000

def lostB (v : Int) : Bool := decide (2 ≤ v) && decide (v % 2 = 0)
def wonB (v : Int) : Bool := decide (2 ≤ v) && !decide (v % 2 = 0)
def scoreV (v : Int) : Int := if v < 2 ∨ 100 < v then 0 else if v % 2 = 0 then v - 102 else 102 - v
theorem rem_two {v : Int} (h : 0 ≤ v) : v.tmod 2 = v % 2 := Int.tmod_eq_emod_of_nonneg h
theorem lost_low {v : Int} (h : v < 2) : lostB v = false ∧ wonB v = false := by unfold lostB wonB; rw [decide_eq_false (by omega)]; exact ⟨rfl, rfl⟩

theorem isLost_any (v : Int) (w : World) (h : v ≤ 1000) :
    Calls Tryz.prog 147 #[.int .i64 v] w fun e w' => e = .returned (.bool (lostB v)) ∧ w = w' := by
  by_cases h2 : 2 ≤ v
  · have ht : (v - 2).tmod 2 = v % 2 := by rw [rem_two (by omega)]; omega
    have hw : IntKind.i64.wrap (v - 2) = v - 2 := IntWalk.i64_in _ (by omega)
    have hd : decide (2 ≤ v) = true := decide_eq_true h2
    have hc : v % 2 = 0 ∨ v % 2 = 1 := by omega
    rcases hc with hc | hc
    · have hr : lostB v = true := by unfold lostB; rw [hd, decide_eq_true hc]; rfl
      have HR := Lib.hid hr
      rw [hc] at ht
      clear hr hc
      go_enter Tryz.func147, Tryz.ntmps147
      go_wp2_with fail
      go_ret
      exact ⟨rb (by rw [HR.out]), rfl⟩
    · have hr : lostB v = false := by unfold lostB; rw [hd, decide_eq_false (by omega)]; rfl
      have HR := Lib.hid hr
      rw [hc] at ht
      clear hr hc
      go_enter Tryz.func147, Tryz.ntmps147
      go_wp2_with fail
      go_ret
      exact ⟨rb (by rw [HR.out]), rfl⟩
  · have hr := (lost_low (v := v) (by omega)).1
    have HR := Lib.hid hr
    have hd : decide (2 ≤ v) = false := decide_eq_false h2
    clear hr
    go_enter Tryz.func147, Tryz.ntmps147
    go_wp2_with fail
    go_ret
    exact ⟨rb (by rw [HR.out]), rfl⟩
theorem isWon_any (v : Int) (w : World) (h : v ≤ 1000) :
    Calls Tryz.prog 146 #[.int .i64 v] w fun e w' => e = .returned (.bool (wonB v)) ∧ w = w' := by
  by_cases h2 : 2 ≤ v
  · have hd : decide (2 ≤ v) = true := decide_eq_true h2
    have hr : wonB v = !lostB v := by unfold wonB lostB; rw [hd]; simp
    have HR := Lib.hid hr
    clear hr
    go_enter Tryz.func146, Tryz.ntmps146
    go_wp2_with (go_at_call 147; refine (isLost_any _ _ (by omega)).mono ?_; rintro e w' ⟨rfl, rfl⟩)
    go_ret
    exact ⟨rb (by rw [HR.out]), rfl⟩
  · have hr := (lost_low (v := v) (by omega)).2
    have HR := Lib.hid hr
    have hd : decide (2 ≤ v) = false := decide_eq_false h2
    clear hr
    go_enter Tryz.func146, Tryz.ntmps146
    go_wp2_with fail
    go_ret
    exact ⟨rb (by rw [HR.out]), rfl⟩
theorem scoreV_out {v : Int} (h : v < 2 ∨ 100 < v) : scoreV v = 0 := if_pos h
theorem scoreV_won {v : Int} (h : v ≤ 100) (hw : wonB v = true) : scoreV v = 102 - v ∧ 2 ≤ v := by
  unfold wonB at hw
  simp only [Bool.and_eq_true, decide_eq_true_eq, Bool.not_eq_true', decide_eq_false_iff_not] at hw
  exact ⟨by unfold scoreV; rw [if_neg (by omega), if_neg hw.2], hw.1⟩
theorem scoreV_lost {v : Int} (h : v ≤ 100) (hw : lostB v = true) : scoreV v = v - 102 ∧ 2 ≤ v := by
  unfold lostB at hw
  simp only [Bool.and_eq_true, decide_eq_true_eq] at hw
  exact ⟨by unfold scoreV; rw [if_neg (by omega), if_pos hw.2], hw.1⟩
theorem scoreV_none {v : Int} (h1 : wonB v = false) (h2 : lostB v = false) : scoreV v = 0 := by
  refine scoreV_out (.inl ?_)
  unfold wonB lostB at *
  by_cases h : 2 ≤ v
  · rw [decide_eq_true h] at h1 h2; simp_all
  · omega
theorem score_any (v : Int) (w : World) :
    Calls Tryz.prog 129 #[.int .i64 v] w fun e w' => e = .returned (.int .i64 (scoreV v)) ∧ w = w' := by
  by_cases hbig : 100 < v
  · have HR := Lib.hid (scoreV_out (v := v) (.inr hbig))
    have hd : decide (100 < v) = true := decide_eq_true hbig
    go_enter Tryz.func129, Tryz.ntmps129
    go_wp2_with fail
    go_ret
    exact ⟨ri (by rw [HR.out]), rfl⟩
  · have hd : decide (100 < v) = false := decide_eq_false hbig
    cases hw : wonB v
    · cases hl : lostB v
      · have HR := Lib.hid (scoreV_none hw hl)
        have HW := Lib.hid hw
        have HL := Lib.hid hl
        clear hw hl
        go_enter Tryz.func129, Tryz.ntmps129
        go_wp2_with (first | (go_at_call 146; refine (isWon_any _ _ (by omega)).mono ?_; rw [HW.out]; rintro e w' ⟨rfl, rfl⟩) | (go_at_call 147; refine (isLost_any _ _ (by omega)).mono ?_; rw [HL.out]; rintro e w' ⟨rfl, rfl⟩))
        go_ret
        exact ⟨ri (by rw [HR.out]), rfl⟩
      · obtain ⟨hs, h2⟩ := scoreV_lost (by omega) hl
        have HR := Lib.hid hs
        have HW := Lib.hid hw
        have HL := Lib.hid hl
        have e1 : IntKind.i64.wrap (v - 2) = v - 2 := IntWalk.i64_in _ (by omega)
        have e2 : IntKind.i64.wrap (v - 2 - 100) = v - 2 - 100 := IntWalk.i64_in _ (by omega)
        clear hw hl hs
        go_enter Tryz.func129, Tryz.ntmps129
        go_wp2_with (first | (go_at_call 146; refine (isWon_any _ _ (by omega)).mono ?_; rw [HW.out]; rintro e w' ⟨rfl, rfl⟩) | (go_at_call 147; refine (isLost_any _ _ (by omega)).mono ?_; rw [HL.out]; rintro e w' ⟨rfl, rfl⟩))
        go_ret
        exact ⟨ri (by rw [HR.out]; omega), rfl⟩
    · obtain ⟨hs, h2⟩ := scoreV_won (by omega) hw
      have HR := Lib.hid hs
      have HW := Lib.hid hw
      have e1 : IntKind.i64.wrap (v - 2) = v - 2 := IntWalk.i64_in _ (by omega)
      have e2 : IntKind.i64.wrap (100 - (v - 2)) = 100 - (v - 2) := IntWalk.i64_in _ (by omega)
      clear hw hs
      go_enter Tryz.func129, Tryz.ntmps129
      go_wp2_with (first | (go_at_call 146; refine (isWon_any _ _ (by omega)).mono ?_; rw [HW.out]; rintro e w' ⟨rfl, rfl⟩))
      go_ret
      exact ⟨ri (by rw [HR.out]; omega), rfl⟩

/-! the model -/
theorem l8Lost_any (v : Int) (w : World) (h : v ≤ 1000) :
    Calls Tryz.prog 125 #[.int .i64 v] w fun e w' => e = .returned (.bool (lostB v)) ∧ w = w' := by
  by_cases h2 : 2 ≤ v
  · have ht : (v - 2).tmod 2 = v % 2 := by rw [rem_two (by omega)]; omega
    have hw : IntKind.i64.wrap (v - 2) = v - 2 := IntWalk.i64_in _ (by omega)
    have hd : decide (2 ≤ v) = true := decide_eq_true h2
    have hc : v % 2 = 0 ∨ v % 2 = 1 := by omega
    rcases hc with hc | hc
    · have hr : lostB v = true := by unfold lostB; rw [hd, decide_eq_true hc]; rfl
      have HR := Lib.hid hr
      rw [hc] at ht
      clear hr hc
      go_enter Tryz.func125, Tryz.ntmps125
      go_wp2_with fail
      go_ret
      exact ⟨rb (by rw [HR.out]), rfl⟩
    · have hr : lostB v = false := by unfold lostB; rw [hd, decide_eq_false (by omega)]; rfl
      have HR := Lib.hid hr
      rw [hc] at ht
      clear hr hc
      go_enter Tryz.func125, Tryz.ntmps125
      go_wp2_with fail
      go_ret
      exact ⟨rb (by rw [HR.out]), rfl⟩
  · have hr := (lost_low (v := v) (by omega)).1
    have HR := Lib.hid hr
    have hd : decide (2 ≤ v) = false := decide_eq_false h2
    clear hr
    go_enter Tryz.func125, Tryz.ntmps125
    go_wp2_with fail
    go_ret
    exact ⟨rb (by rw [HR.out]), rfl⟩
theorem l8Won_any (v : Int) (w : World) (h : v ≤ 1000) :
    Calls Tryz.prog 126 #[.int .i64 v] w fun e w' => e = .returned (.bool (wonB v)) ∧ w = w' := by
  by_cases h2 : 2 < v
  · have ht : (v - 2).tmod 2 = v % 2 := by rw [rem_two (by omega)]; omega
    have hw : IntKind.i64.wrap (v - 2) = v - 2 := IntWalk.i64_in _ (by omega)
    have hd : decide (2 < v) = true := decide_eq_true h2
    have hd2 : decide (2 ≤ v) = true := decide_eq_true (by omega)
    have hc : v % 2 = 0 ∨ v % 2 = 1 := by omega
    rcases hc with hc | hc
    · have hr : wonB v = false := by unfold wonB; rw [hd2, decide_eq_true hc]; rfl
      have HR := Lib.hid hr
      rw [hc] at ht
      clear hr hc hd2
      go_enter Tryz.func126, Tryz.ntmps126
      go_wp2_with fail
      go_ret
      exact ⟨rb (by rw [HR.out]), rfl⟩
    · have hr : wonB v = true := by unfold wonB; rw [hd2, decide_eq_false (by omega)]; rfl
      have HR := Lib.hid hr
      rw [hc] at ht
      clear hr hc hd2
      go_enter Tryz.func126, Tryz.ntmps126
      go_wp2_with fail
      go_ret
      exact ⟨rb (by rw [HR.out]), rfl⟩
  · have hr : wonB v = false := by
      by_cases he : v = 2
      · subst he; rfl
      · exact (lost_low (v := v) (by omega)).2
    have HR := Lib.hid hr
    have hd : decide (2 < v) = false := decide_eq_false h2
    clear hr
    go_enter Tryz.func126, Tryz.ntmps126
    go_wp2_with fail
    go_ret
    exact ⟨rb (by rw [HR.out]), rfl⟩
theorem l8Score_any (v : Int) (w : World) (h : v ≤ 100) :
    Calls Tryz.prog 87 #[.int .i64 v] w fun e w' => e = .returned (.int .i64 (scoreV v)) ∧ w = w' := by
  cases hl : lostB v
  · cases hw : wonB v
    · have HR := Lib.hid (scoreV_none hw hl)
      have HW := Lib.hid hw
      have HL := Lib.hid hl
      clear hw hl
      go_enter Tryz.func87, Tryz.ntmps87
      go_wp2_with (first | (go_at_call 126; refine (l8Won_any _ _ (by omega)).mono ?_; rw [HW.out]; rintro e w' ⟨rfl, rfl⟩) | (go_at_call 125; refine (l8Lost_any _ _ (by omega)).mono ?_; rw [HL.out]; rintro e w' ⟨rfl, rfl⟩))
      go_ret
      exact ⟨ri (by rw [HR.out]), rfl⟩
    · obtain ⟨hs, h2⟩ := scoreV_won h hw
      have HR := Lib.hid hs
      have HW := Lib.hid hw
      have HL := Lib.hid hl
      have e1 : IntKind.i64.wrap (v - 2) = v - 2 := IntWalk.i64_in _ (by omega)
      have e2 : IntKind.i64.wrap (100 - (v - 2)) = 100 - (v - 2) := IntWalk.i64_in _ (by omega)
      clear hw hs hl
      go_enter Tryz.func87, Tryz.ntmps87
      go_wp2_with (first | (go_at_call 126; refine (l8Won_any _ _ (by omega)).mono ?_; rw [HW.out]; rintro e w' ⟨rfl, rfl⟩) | (go_at_call 125; refine (l8Lost_any _ _ (by omega)).mono ?_; rw [HL.out]; rintro e w' ⟨rfl, rfl⟩))
      go_ret
      exact ⟨ri (by rw [HR.out]; omega), rfl⟩
  · obtain ⟨hs, h2⟩ := scoreV_lost h hl
    have HR := Lib.hid hs
    have HL := Lib.hid hl
    have e1 : IntKind.i64.wrap (v - 2) = v - 2 := IntWalk.i64_in _ (by omega)
    have e2 : IntKind.i64.wrap (v - 2 - 100) = v - 2 - 100 := IntWalk.i64_in _ (by omega)
    clear hl hs
    go_enter Tryz.func87, Tryz.ntmps87
    go_wp2_with (first | (go_at_call 125; refine (l8Lost_any _ _ (by omega)).mono ?_; rw [HL.out]; rintro e w' ⟨rfl, rfl⟩))
    go_ret
    exact ⟨ri (by rw [HR.out]; omega), rfl⟩
/-! what the laws ask besides -/
end Go.Proofs.YtmfcgikfgikbfaaGreatDoor.Sc

namespace Go.Proofs.YtmfcgikfgikbfaaGreatDoor.Ko
open Go.ChangeShapes Go.WideShapes Go.ChangeAt Go.RowKit Base Sq In
set_option linter.unusedVariables false
set_option maxRecDepth 20000

/-- the best of the first k moves by a score, and their score -/
def bestK (f : Mv → Int) (ms : List Mv) : Nat → List Mv × Int
  | 0 => ([], -200)
  | k + 1 => if (bestK f ms k).2 < f (mvAt ms k) then ([mvAt ms k], f (mvAt ms k)) else if f (mvAt ms k) = (bestK f ms k).2 then ((bestK f ms k).1 ++ [mvAt ms k], (bestK f ms k).2) else bestK f ms k
/-- the score of a move by the values -/
def mvS (side t : Int) (m : List Pc) (l : List St) (z : List Int) (mv : Mv) : Int := - Sc.scoreV (iAt z (kidV side t m l mv).toNat)
def canL (side : Int) (ks : List Kd) (m : List Pc) (z : List Int) (t : Int) (l : List St) : Bool := tabB side ks m z && decide (0 ≤ codeOfV side ks m t l)
def bestsL (side : Int) (ks : List Kd) (m : List Pc) (z : List Int) (t : Int) (l : List St) : List Mv := (bestK (mvS side t m l z) (movesL side ks t l) (movesL side ks t l).length).1
def bestL (side : Int) (ks : List Kd) (m : List Pc) (z : List Int) (t : Int) (l : List St) : List Mv := if canL side ks m z t l = true then bestsL side ks m z t l else []
theorem scoreV_bd (v : Int) : -100 ≤ Sc.scoreV v ∧ Sc.scoreV v ≤ 100 := by
  unfold Sc.scoreV; split
  · omega
  · rename_i h; split <;> omega
theorem mvS_bd (side t : Int) (m : List Pc) (l : List St) (z : List Int) (mv : Mv) : -100 ≤ mvS side t m l z mv ∧ mvS side t m l z mv ≤ 100 := by
  unfold mvS; have := scoreV_bd (iAt z (kidV side t m l mv).toNat); omega
theorem bestK_hit {f : Mv → Int} {ms : List Mv} {k : Nat} (h : (bestK f ms k).2 < f (mvAt ms k)) : bestK f ms (k + 1) = ([mvAt ms k], f (mvAt ms k)) := by simp only [bestK]; rw [if_pos h]
theorem bestK_eq {f : Mv → Int} {ms : List Mv} {k : Nat} (h : f (mvAt ms k) = (bestK f ms k).2) : bestK f ms (k + 1) = ((bestK f ms k).1 ++ [mvAt ms k], (bestK f ms k).2) := by simp only [bestK]; rw [if_neg (by omega), if_pos h]
theorem bestK_no {f : Mv → Int} {ms : List Mv} {k : Nat} (h : f (mvAt ms k) < (bestK f ms k).2) : bestK f ms (k + 1) = bestK f ms k := by simp only [bestK]; rw [if_neg (by omega), if_neg (by omega)]
theorem bestK_len (f : Mv → Int) (ms : List Mv) : ∀ k, (bestK f ms k).1.length ≤ k := by
  intro k
  induction k with
  | zero => simp [bestK]
  | succ k ih =>
    simp only [bestK]
    split
    · simp
    · split
      · simp only [List.length_append, List.length_cons, List.length_nil]; omega
      · omega
theorem bestK_most {f : Mv → Int} (hf : ∀ mv, -100 ≤ f mv ∧ f mv ≤ 100) (ms : List Mv) : ∀ k, -200 ≤ (bestK f ms k).2 ∧ (bestK f ms k).2 ≤ 100 ∧ (0 < k → -100 ≤ (bestK f ms k).2 ∧ 0 < (bestK f ms k).1.length) := by
  intro k
  induction k with
  | zero => simp [bestK]
  | succ k ih =>
    have h := hf (mvAt ms k)
    simp only [bestK]
    split
    · exact ⟨by show -200 ≤ f _; omega, h.2, fun _ => ⟨h.1, by simp⟩⟩
    · rename_i hn
      split
      · exact ⟨ih.1, ih.2.1, fun _ => ⟨by show -100 ≤ (bestK f ms k).2; omega, by simp⟩⟩
      · rcases Nat.eq_zero_or_pos k with rfl | hk
        · exact absurd h.1 (by simp [bestK] at hn; omega)
        · exact ⟨ih.1, ih.2.1, fun _ => ih.2.2 hk⟩
/-- a position with a code: no twins, each man is a piece of the material -/
theorem twice_nt {l : List St} (h : twiceB l = false) : NT l := by
  refine List.pairwise_iff_getElem.2 fun i j hi hj hij => ?_
  rw [Bool.eq_false_iff]
  intro hc
  have : twiceB l = true := twiceB_hit (i := j) (k := i) hj hij (by rw [stAt_el hj, stAt_el hi, sameB_comm]; exact hc)
  rw [h] at this; cases this
theorem code_found {s t : Int} {l : List St} {m : List Pc} (hU : Uniq m) (h : codeQ s t l m ≠ -1) : NT l ∧ ∀ j, j < l.length → ∃ i, i < m.length ∧ sameP (stAt l j) (pcAt m i) = true := by
  unfold codeQ at h
  cases htw : twiceB l
  · refine ⟨twice_nt htw, fun j hj => ?_⟩
    rw [htw] at h
    have hf : fndS l m m.length = l.length := by
      by_cases hc : fndS l m m.length = l.length
      · exact hc
      · exact absurd (by unfold codeV; rw [if_neg hc]; rfl) h
    refine Classical.byContradiction fun hn => ?_
    have h1 := sumL_lt (l := l) (m := m) hU (j := j) (fun i hi => by
      rw [Bool.eq_false_iff]; exact fun hc => hn ⟨i, hi, hc⟩) (k := l.length) hj
    rw [fndS_sum] at hf
    omega
  · rw [htw] at h; exact absurd rfl h
theorem kid_code {side t : Int} {ks : List Kd} {m : List Pc} {l : List St} (hs : side = 2 ∨ side = 3 ∨ side = 4) (hsh : shapeB side ks t l = true) (hU : Uniq m) (hF : ∀ j, j < l.length → ∃ i, i < m.length ∧ sameP (stAt l j) (pcAt m i) = true) {mv : Mv} (hm : mv ∈ movesL side ks t l) :
    0 ≤ kidV side t m l mv ∧ kidV side t m l mv < numV side m.length := by
  obtain ⟨n, _, h2, _, _, _, h6, h7⟩ := move_facts hs hsh hm
  rw [h6] at h7
  obtain ⟨h1', _, _, _, h5⟩ := shapeB_facts h7
  unfold kidV codeV
  rw [h6]
  have hd : ∀ j, j < (doL l n mv.2).length → ∃ i, i < m.length ∧ sameP (stAt (doL l n mv.2) j) (pcAt m i) = true := fun j hj => by
    have hmem := stAt_mem hj
    rcases mem_doL.1 hmem with e | ⟨k, hk, _, _, e⟩
    · obtain ⟨i, hi, h⟩ := hF n h2
      exact ⟨i, hi, by rw [e]; exact h⟩
    · obtain ⟨i, hi, h⟩ := hF k hk
      exact ⟨i, hi, by rw [e]; exact h⟩
  have hsum : fndS (doL l n mv.2) m m.length = (doL l n mv.2).length := by rw [fndS_sum]; exact sumL_all hU hd
  rw [if_pos hsum]
  have := codK_bd (s := side) (t := 1 - t) (l := doL l n mv.2) m hs h1' (fun i hi => (h5 i hi).2.2.1) m.length
  omega
end Go.Proofs.YtmfcgikfgikbfaaGreatDoor.Ko

namespace Go.Proofs.YtmfcgikfgikbfaaGreatDoor.Ko
open Go.ChangeShapes Go.WideShapes Go.ChangeAt Go.RowKit Base Sq In
set_option linter.unusedVariables false
set_option maxRecDepth 20000
attribute [local irreducible] wpQuiet

def MvRes (L : List Mv) (w w' : World) (e : Ending) : Prop := ∃ A c, e = .returned (.slice A L.length c) ∧ MvA w.heap.size w'.heap.size w' A L ∧ Below w.heap.size w w'
/-- the best so far -/
def LbLst (wr : World) (hi g0 : Nat) (f : Mv → Int) (ms : List Mv) (k : Nat) (x m : Value) : Prop :=
  m = .int .i64 (bestK f ms k).2 ∧ ((k = 0 ∧ x = .slice (some ⟨g0, 0, none⟩) 0 0) ∨ (0 < k ∧ ∃ B d, x = .slice B (bestK f ms k).1.length d ∧ OwnV wr hi (.slice B (bestK f ms k).1.length d) (bestK f ms k).1))

set_option maxHeartbeats 8000000 in
theorem l9Best_any (side : Int) (A : Option Addr) (c : Nat) (ks : List Kd) (M : Option Addr) (cm : Nat) (m : List Pc) (V : Option Addr) (cv : Nat) (z : List Int) (t : Int) (N : Option Addr) (cn : Nat) (l : List St) (w : World) (hR : IsKinds w w.heap.size A ks) (hM : IsPcs w w.heap.size M m)
    (hV : IsInts w w.heap.size V z) (hN : IsSteps w w.heap.size N l) (hok : matV side ks m = true) (hsh : shapeB side ks t l = true) (hzl : (z.length : Int) = numV side m.length) (hzr : ∀ i, i < z.length → 0 ≤ iAt z i ∧ iAt z i ≤ 100)
    (hF : ∀ j, j < l.length → ∃ i, i < m.length ∧ sameP (stAt l j) (pcAt m i) = true) :
    Calls Tryz.prog 52 #[.agg #[.int .i64 side, .slice A ks.length c], .slice M m.length cm, .slice V z.length cv, .agg #[.int .i64 t, .slice N l.length cn]] w fun e w' => MvRes (bestsL side ks m z t l) w w' e := by
  obtain ⟨hro, hm4⟩ := matV_facts hok
  obtain ⟨hs, _⟩ := rulesOk_facts hro
  obtain ⟨i0, hi0, hz0, hz1, hz2⟩ := info_parts mvInfo
  have hlen := movesL_len (ks := ks) (t := t) hs (shapeB_facts hsh).2.1
  have HMF := Lib.hid (fun mv (hm : mv ∈ movesL side ks t l) => move_facts hs hsh hm)
  have HKC := Lib.hid (fun mv (hm : mv ∈ movesL side ks t l) => kid_code hs hsh (matV_uniq hok) hF hm)
  have HZL := Lib.hid hzl
  have HZR := Lib.hid hzr
  have HSD := Lib.hid hs
  have HRO := Lib.hid hro
  have HSH := Lib.hid hsh
  have HR := Lib.hid hR
  have HM := Lib.hid hM
  have HN := Lib.hid hN
  have HV := Lib.hid hV
  clear hro hs hok hsh hR hM hN hV hF hzl hzr
  go_enter Tryz.func52, Tryz.ntmps52
  go_wp2_with fail
  have hb0 : Below w.heap.size w (((w.alloc (.cells #[.int .i64 side, .slice A ks.length c] 34)).alloc (.cells #[.int .i64 t, .slice N l.length cn] 58)).alloc (.cells #[] 98)) := (by repeat (first | exact Below.refl _ _ | assumption | (refine Below.alloc ?_ (by first | omega | (simp; done) | (simp; omega)) _) | (refine Below.setCell ?_ (by first | omega | (simp; done) | (simp; omega)) _) | refine Below.drew ?_))
  have p1 := ((Blk.new w #[.int .i64 side, .slice A ks.length c] 34).alloc (.cells #[.int .i64 t, .slice N l.length cn] 58)).alloc (.cells #[] 98)
  have p2 := (Blk.new (w.alloc (.cells #[.int .i64 side, .slice A ks.length c] 34)) #[.int .i64 t, .slice N l.length cn] 58).alloc (.cells #[] 98)
  simp only [World.size_alloc] at p2
  generalize hW0 : ((w.alloc _).alloc _).alloc _ = W0 at *
  have hzW0 : w.heap.size + 3 = W0.heap.size := by rw [← hW0]; simp
  clear hW0
  refine (l4All_any side A c ks t N cn l _ ((HR.out.below hb0).more hb0.size) ((HN.out.below hb0).more hb0.size) HRO.out HSH.out).mono ?_
  rintro e w2 ⟨Am, cam, rfl, hmv, hb2⟩
  have q1 := p1.below hb2 p1.lt
  have q2 := p2.below hb2 p2.lt
  have hbe := hb0.trans (hb2.mono hb0.size)
  have hz := hbe.size
  have HBL := Lib.hid (show bestsL side ks m z t l = (bestK (mvS side t m l z) (movesL side ks t l) (movesL side ks t l).length).1 from rfl)
  have HBD := Lib.hid (fun mv => mvS_bd side t m l z mv)
  have HKV := Lib.hid (fun mv => show mvS side t m l z mv = - Sc.scoreV (iAt z (kidV side t m l mv).toNat) from rfl)
  have HLO := Lib.hid (show w.heap.size ≤ W0.heap.size by omega)
  generalize hms : movesL side ks t l = ms at *
  generalize hf : mvS side t m l z = f at *
  have HMO := Lib.hid (fun k => bestK_most (f := f) HBD.out ms k)
  have HBLN := Lib.hid (fun k => bestK_len f ms k)
  clear p1 p2 hb0 hb2 hf hzW0
  have HQ1 := Lib.hid q1
  have HQ2 := Lib.hid q2
  have HMV := Lib.hid hmv
  have HBE := Lib.hid hbe
  have z1 := q1.lt
  have z2 := q2.lt
  clear hmv hbe q1 q2
  go_wp2_with fail
  generalize hhi : w2.heap.size = hi at *
  go_loopw [9, 10, 12] (fun x mo i wr => ∃ k : Nat, k ≤ ms.length ∧ i = .int .i64 k ∧ Hid (LbLst wr hi (w.heap.size + 2) f ms k x mo) ∧ Below hi w2 wr) (fun _ _ i _ => ms.length - (intOf i).toNat)
  case atStart => exact ⟨0, by omega, rfl, Lib.hid ⟨rfl, .inl ⟨rfl, rfl⟩⟩, by rw [← hhi]; exact Below.refl _ _⟩
  case round =>
    obtain ⟨k, hk, rfl, hL, hbw⟩ := hrel
    have hzw := hbw.size
    rw [hhi] at hzw
    have hbe := HBE.out.trans (hbw.mono (by rw [← hhi]; exact HBE.out.size))
    have p1 := HQ1.out.below hbw z1
    have p2 := HQ2.out.below hbw z2
    have hmv := HMV.out.below hbw
    have y1 := p1.lt
    have y2 := p2.lt
    by_cases hlt : k < ms.length
    · have hlt' : (k : Int) < (ms.length : Int) := by omega
      obtain ⟨bm, rfl, zbm, zbh, csm, hbm, hc0, hc1⟩ := hmv.cells hlt
      obtain ⟨n, hf1, hf2, hf3, _, hf5, hf6, hf7⟩ := HMF.out (mvAt ms k) (by rw [mvAt_lt hlt]; exact List.getElem_mem hlt)
      obtain ⟨hk0, hk1⟩ := HKC.out (mvAt ms k) (by rw [mvAt_lt hlt]; exact List.getElem_mem hlt)
      rw [hf6] at hf7
      have HSK := Lib.hid hf7
      have HRP := Lib.hid (resL_pos HSH.out (freeB_king (i := n) (shapeB_up HSH.out) hf5))
      obtain ⟨x, hx⟩ : ∃ x : Nat, (x : Int) = kidV side t m l (mvAt ms k) := ⟨_, Int.toNat_of_nonneg hk0⟩
      have hxl : x < z.length := by have := HZL.out; omega
      have hxl' : (x : Int) < (z.length : Int) := by omega
      have HCV := Lib.hid (show codeV side (1 - t) (doL l n (mvAt ms k).2) m = (x : Int) by rw [hx]; unfold kidV; rw [hf6])
      obtain ⟨bv, rfl, hbv, hcv⟩ := HV.out.below hbe (by omega)
      have hcx := hcv x hxl
      obtain ⟨hv0, hv1⟩ := HZR.out x hxl
      obtain ⟨y, hy⟩ : ∃ y, y = Sc.scoreV (iAt z x) := ⟨_, rfl⟩
      have HY := Lib.hid hy
      have hyb := scoreV_bd (iAt z x)
      rw [← hy] at hyb
      obtain ⟨hy0, hy1⟩ := hyb
      have HFX := Lib.hid (show f (mvAt ms k) = - y by rw [HKV.out, ← hx, Int.toNat_natCast, hy])
      have hwn : IntKind.i64.wrap (-y) = -y := IntWalk.i64_in _ (by omega)
      have hF := Lib.hid (show (stAt l n).far = (mvAt ms k).1 from hf3)
      have hn := hf2
      generalize hu : iAt z x = u at *
      clear hu hx hf1 hf3 hf5 hf6 hf7 hk0 hk1 hcv hy
      generalize hfr : (mvAt ms k).1 = fr at *
      generalize hto : (mvAt ms k).2 = to at *
      have HFR := Lib.hid hfr
      have HTO := Lib.hid hto
      have HP1 := Lib.hid p1
      have HP2 := Lib.hid p2
      have HRK := Lib.hid ((HR.out.below hbe).more hbe.size)
      have HPK := Lib.hid ((HM.out.below hbe).more hbe.size)
      have HNK := Lib.hid ((HN.out.below hbe).more hbe.size)
      have hbv' : bv < wr.heap.size := by have := hbe.size; omega
      have HS : Hid (∀ w', Below wr.heap.size wr w' → (w'.cell? ⟨w.heap.size, 0, none⟩ = some (.int .i64 side) ∧ w'.cell? ⟨w.heap.size, 1, none⟩ = some (.slice A ks.length c) ∧ w'.cell? ⟨w.heap.size + 1, 0, none⟩ = some (.int .i64 t) ∧ w'.cell? ⟨w.heap.size + 1, 1, none⟩ = some (.slice N l.length cn) ∧ w'.cell? ⟨bm, k * 2, none⟩ = some (.int .i64 fr) ∧ w'.cell? ⟨bm, k * 2 + 1, none⟩ = some (.int .i64 to) ∧ w'.cell? ⟨bv, x, none⟩ = some (.int .i64 u))) := Lib.hid (fun w' hb => by
        obtain ⟨⟨a0, a1⟩, _⟩ := (HP1.out.below hb y1).at2
        obtain ⟨⟨b0, b1⟩, _⟩ := (HP2.out.below hb y2).at2
        exact ⟨a0, a1, b0, b1, (hb.cell (p := ⟨bm, k * 2, none⟩) zbm).trans hc0, (hb.cell (p := ⟨bm, k * 2 + 1, none⟩) zbm).trans hc1, (hb.cell (p := ⟨bv, x, none⟩) hbv').trans hcx⟩)
      have hw : Below wr.heap.size wr wr.drew := (Below.refl _ _).drew
      clear p1 p2 hbm hmv hfr hto
      go_wp2_with fail
      go_region_held3 (fun w' => w'.cell? ⟨w.heap.size, 0, none⟩ = some (.int .i64 side) ∧ w'.cell? ⟨w.heap.size, 1, none⟩ = some (.slice A ks.length c) ∧ w'.cell? ⟨w.heap.size + 1, 0, none⟩ = some (.int .i64 t) ∧ w'.cell? ⟨w.heap.size + 1, 1, none⟩ = some (.slice N l.length cn) ∧ w'.cell? ⟨bm, k * 2, none⟩ = some (.int .i64 fr) ∧ w'.cell? ⟨bm, k * 2 + 1, none⟩ = some (.int .i64 to) ∧ w'.cell? ⟨bv, x, none⟩ = some (.int .i64 u))
        (first
          | exact HS.out _ hw)
        (first
          | (go_at_call 82; refine (l4Do_any t N cn l n fr to _ ((HNK.out.below hw).more hw.size) (shapeB_facts HSH.out).1 (shapeB_facts HSH.out).2.1 hn hF.out (shapeB_up HSH.out) HRP.out).mono ?_; rintro e6 w6 ⟨A6, c6, rfl, hm6, hb6⟩; have hw := hw.trans (hb6.mono hw.size))
          | (go_at_call 81; refine (l7Code_any side A c ks.length M cm m (1 - t) A6 c6 (doL l n to) _ ((HPK.out.below hw).more hw.size) hm6.is HSD.out hm4 (shapeB_facts HSK.out).2.1 (shapeB_facts HSK.out).1 (fun i hi => ((shapeB_facts HSK.out).2.2.2.2 i hi).2.2.1)).mono ?_; rw [HCV.out]; rintro e8 w8 ⟨rfl, hb8⟩; have hw := hw.trans (hb8.mono hw.size))
          | (go_at_call 87; refine (Sc.l8Score_any _ _ hv1).mono ?_; rw [← HY.out]; rintro e9 w9 ⟨rfl, rfl⟩))
      all_goals
        obtain ⟨_, _, _, _, m0, m1, _⟩ := HS.out _ hw
        have hbw8 := hbw.trans (hw.mono hzw)
        have hz8 : hi ≤ w8.heap.size := Nat.le_trans hzw hw.size
        have HME := Lib.hid (show mvAt ms k = (fr, to) by rw [← HFR.out, ← HTO.out])
        have HF2 := Lib.hid (show f (mvAt ms k) = -y from HFX.out)
        have hxx := HS
        clear HS hxx
        obtain ⟨hmo, hst⟩ := hL.out
        subst hmo
        obtain ⟨q, hq⟩ : ∃ q, q = (bestK f ms k).2 := ⟨_, rfl⟩
        have HQ := Lib.hid hq
        rw [← hq]
        have HX := Lib.hid hst
        have hL64 : (bestK f ms k).1.length ≤ 64 := by have := HBLN.out k; omega
        have hmx : (bestK f ms k).1.length + 1 ≤ maxLen := by unfold maxLen; omega
        have hmx0 : 0 + 1 ≤ maxLen := by unfold maxLen; omega
        clear hq hst hL hcx hc0 hc1 hbw
        by_cases h1 : q < -y
        · have HNX : Hid (bestK f ms (k + 1) = ([(fr, to)], -y)) := Lib.hid (by rw [bestK_hit (by rw [← HQ.out, HF2.out]; exact h1), HF2.out, HME.out])
          have hd : decide (q < -y) = true := decide_eq_true h1
          clear HX
          go_wp2_with (at_builtin; refine wpList_append_own _ rfl _ _ 53 rfl hi 98 i0 (.agg #[.int .i64 0, .int .i64 0]) 2 16 Tryz.underlying53 hi0 hz0 hz1 hz2 rfl (by decide) _ _ _ rfl (show World.ownsRow (w8.alloc (.cells #[.int .i64 fr, .int .i64 to] 98)) hi 98 2 (.slice none 0 0) 0 [] from OwnV.nil (w8.alloc (.cells #[.int .i64 fr, .int .i64 to] 98)) hi) ⟨w8.heap.size, 0, none⟩ 1 1 [.int .i64 fr, .int .i64 to] rfl rfl (news2 (Blk.new w8 #[.int .i64 fr, .int .i64 to] 98)) one2 hmx0 (by omega) (by simp; omega) ?_; intro v' w7 hown' hgrow7 hnil7; have hOn := OwnV.snoc (base := hi) (l := []) (m := (fr, to)) hown'; have hbG : Below hi (w8.alloc (.cells #[.int .i64 fr, .int .i64 to] 98)) w7 := OwnV.base (OwnV.nil (w8.alloc (.cells #[.int .i64 fr, .int .i64 to] 98)) hi) hgrow7 (Below.refl _ _) (Nat.le_refl _) (by simp; omega); have hbw7 := (hbw8.alloc hz8 (.cells #[.int .i64 fr, .int .i64 to] 98)).trans hbG; obtain ⟨B7, d7, hv7⟩ := hOn.slice; subst hv7; have HO7 := Lib.hid hOn; clear hown' hgrow7 hnil7 hbG hOn)
          go_roundw
          case rel => exact ⟨k + 1, by omega, by go_num, Lib.hid ⟨by rw [HNX.out], .inr ⟨by omega, B7, d7, by rw [HNX.out]; rfl, by rw [HNX.out]; exact HO7.out⟩⟩, hbw7⟩
          case measure => simp [intOf]; omega
        · have hd : decide (q < -y) = false := decide_eq_false h1
          obtain ⟨hk1, B, d, rfl, hO⟩ : 0 < k ∧ ∃ B d, _ = Value.slice B (bestK f ms k).1.length d ∧ OwnV wr hi (.slice B (bestK f ms k).1.length d) (bestK f ms k).1 := by
            rcases HX.out with ⟨h0, _⟩ | h
            · subst h0
              have : q = -200 := HQ.out
              omega
            · exact h
          have HO := Lib.hid (hO.below hw)
          clear hO HX
          by_cases h2 : -y = q
          · have HNX : Hid (bestK f ms (k + 1) = ((bestK f ms k).1 ++ [(fr, to)], q)) := Lib.hid (by rw [bestK_eq (by rw [← HQ.out, HF2.out]; exact h2), HME.out, HQ.out])
            have hde : (-y == q) = true := by simp [h2]
            generalize (bestK f ms k).1 = L at *
            clear h1
            go_wp2_with (at_builtin; refine wpList_append_own _ rfl _ _ 53 rfl hi 98 i0 (.agg #[.int .i64 0, .int .i64 0]) 2 16 Tryz.underlying53 hi0 hz0 hz1 hz2 rfl (by decide) _ _ _ rfl (HO.out.alloc (.cells #[.int .i64 fr, .int .i64 to] 98)) ⟨w8.heap.size, 0, none⟩ 1 1 [.int .i64 fr, .int .i64 to] rfl rfl (news2 (Blk.new w8 #[.int .i64 fr, .int .i64 to] 98)) one2 hmx (by omega) (by simp; omega) ?_; intro v' w7 hown' hgrow7 hnil7; have hOn := OwnV.snoc (l := L) (m := (fr, to)) hown'; have hbG : Below hi (w8.alloc (.cells #[.int .i64 fr, .int .i64 to] 98)) w7 := OwnV.base (HO.out.alloc (.cells #[.int .i64 fr, .int .i64 to] 98)) hgrow7 (Below.refl _ _) (Nat.le_refl _) (by simp; omega); have hbw7 := (hbw8.alloc hz8 (.cells #[.int .i64 fr, .int .i64 to] 98)).trans hbG; obtain ⟨B7, d7, hv7⟩ := hOn.slice; subst hv7; have HO7 := Lib.hid hOn; clear hown' hgrow7 hnil7 hbG hOn)
            go_roundw
            case rel => exact ⟨k + 1, by omega, by go_num, Lib.hid ⟨by rw [HNX.out], .inr ⟨by omega, B7, d7, by rw [HNX.out]; simp, by rw [HNX.out]; exact HO7.out⟩⟩, hbw7⟩
            case measure => simp [intOf]; omega
          · have HNX : Hid (bestK f ms (k + 1) = bestK f ms k) := Lib.hid (bestK_no (by rw [← HQ.out, HF2.out]; omega))
            have hde : (-y == q) = false := by simp [h2]
            clear h1 h2
            go_wp2_with fail
            go_roundw
            case rel => exact ⟨k + 1, by omega, by go_num, Lib.hid ⟨by rw [HNX.out, HQ.out], .inr ⟨by omega, B, d, by rw [HNX.out], by rw [HNX.out]; exact HO.out⟩⟩, hbw8⟩
            case measure => simp [intOf]; omega
    · obtain rfl : k = ms.length := by omega
      obtain ⟨hmo, hst⟩ := hL.out
      subst hmo
      clear hmv p1 p2
      rcases hst with ⟨hk0, rfl⟩ | ⟨hk1, B, d, rfl, hO⟩
      · have HB0 := Lib.hid (show bestsL side ks m z t l = [] by rw [HBL.out, hk0]; rfl)
        rw [hk0]
        go_wp2_with fail
        go_ret
        exact ⟨_, _, by rw [HB0.out]; rfl, by rw [HB0.out]; exact MvA.nil _ _ _ _, hbe⟩
      · obtain ⟨A2, c2, hv, hmv⟩ := hO.of
        injection hv with h1 h2 h3
        subst h1
        subst h3
        have HMV2 := Lib.hid hmv
        clear hO hmv hL
        go_wp2_with fail
        go_ret
        exact ⟨B, d, by rw [HBL.out]; rfl, by rw [HBL.out]; exact HMV2.out.more (by have := HLO.out; have := HBE.out.size; omega) (Nat.le_refl _), hbe⟩
end Go.Proofs.YtmfcgikfgikbfaaGreatDoor.Ko

namespace Go.Proofs.YtmfcgikfgikbfaaGreatDoor.Ko
open Go.ChangeShapes Go.WideShapes Go.ChangeAt Go.RowKit Base Sq In
set_option linter.unusedVariables false
set_option maxRecDepth 20000
attribute [local irreducible] wpQuiet

theorem rangeB_iAt {z : List Int} (h : rangeB z = true) : ∀ i, i < z.length → 0 ≤ iAt z i ∧ iAt z i ≤ 100 := fun i hi => by
  unfold rangeB at h
  have := List.all_eq_true.1 h i (by simpa using hi)
  unfold inB at this
  simpa using this
theorem canL_facts {side : Int} {ks : List Kd} {m : List Pc} {z : List Int} {t : Int} {l : List St} (h : canL side ks m z t l = true) :
    matV side ks m = true ∧ (z.length : Int) = numV side m.length ∧ rangeB z = true ∧ posOk side ks t l = true ∧ codeQ side t l m ≠ -1 := by
  unfold canL tabB at h
  simp only [Bool.and_eq_true, decide_eq_true_eq] at h
  obtain ⟨⟨⟨h1, h2⟩, h3⟩, h4⟩ := h
  unfold codeOfV at h4
  by_cases hc : matV side ks m = true ∧ posOk side ks t l = true
  · rw [if_pos hc] at h4
    exact ⟨h1, h2, h3, hc.2, fun h => by rw [h] at h4; omega⟩
  · rw [if_neg hc] at h4; omega

set_option maxHeartbeats 4000000 in
theorem l9Can_any (side : Int) (A : Option Addr) (c : Nat) (ks : List Kd) (M : Option Addr) (cm : Nat) (m : List Pc) (V : Option Addr) (cv : Nat) (z : List Int) (t : Int) (N : Option Addr) (cn : Nat) (l : List St) (w : World) (hR : IsKinds w w.heap.size A ks) (hM : IsPcs w w.heap.size M m)
    (hV : IsInts w w.heap.size V z) (hN : IsSteps w w.heap.size N l) (hsm : Small ks) (hm : m.length ≤ 1048576) (hz : z.length ≤ 1048576) (hl : l.length ≤ 1048576) :
    Calls Tryz.prog 51 #[.agg #[.int .i64 side, .slice A ks.length c], .slice M m.length cm, .slice V z.length cv, .agg #[.int .i64 t, .slice N l.length cn]] w fun e w' => e = .returned (.bool (canL side ks m z t l)) ∧ Below w.heap.size w w' := by
  have hb0 : Below w.heap.size w ((w.alloc (.cells #[.int .i64 side, .slice A ks.length c] 34)).alloc (.cells #[.int .i64 t, .slice N l.length cn] 58)) := (by repeat (first | exact Below.refl _ _ | assumption | (refine Below.alloc ?_ (by first | omega | (simp; done) | (simp; omega)) _) | (refine Below.setCell ?_ (by first | omega | (simp; done) | (simp; omega)) _) | refine Below.drew ?_))
  have p1 := (Blk.new w #[.int .i64 side, .slice A ks.length c] 34).alloc (.cells #[.int .i64 t, .slice N l.length cn] 58)
  have p2 := Blk.new (w.alloc (.cells #[.int .i64 side, .slice A ks.length c] 34)) #[.int .i64 t, .slice N l.length cn] 58
  simp only [World.size_alloc] at p2
  have HU := Lib.hid (show canL side ks m z t l = (matV side ks m && decide ((z.length : Int) = numV side m.length) && rangeB z && decide (0 ≤ codeOfV side ks m t l)) from rfl)
  go_enter Tryz.func51, Tryz.ntmps51
  go_wp2_with fail
  generalize hW0 : (w.alloc _).alloc _ = W0 at *
  clear hW0
  refine (specMatOk_any _ _ _ _ _ _ _ _ ((hR.below hb0).more hb0.size) ((hM.below hb0).more hb0.size) hsm hm).mono ?_
  rintro e w2 ⟨rfl, hb2⟩
  have q1 := p1.below hb2 p1.lt
  have q2 := p2.below hb2 p2.lt
  have hbe := hb0.trans (hb2.mono hb0.size)
  have y1 := q1.lt
  have y2 := q2.lt
  obtain ⟨⟨r0, r1⟩, _⟩ := q1.at2
  clear p1 p2 hb0 hb2
  cases hok : matV side ks m
  · have HV := Lib.hid (show canL side ks m z t l = false by rw [HU.out, hok]; rfl)
    clear hok
    go_wp2_with fail
    go_ret
    exact ⟨by rw [HV.out]; rfl, hbe⟩
  · have HOK := Lib.hid hok
    obtain ⟨hro, hm4⟩ := matV_facts hok
    have HSD := Lib.hid (rulesOk_facts hro).1
    clear hok hro
    go_wp2_with fail
    refine (l7Many_any side A c ks.length M cm m.length _ HSD.out hm4).mono ?_
    rintro e w3 ⟨rfl, hb3⟩
    have q1 := q1.below hb3 y1
    have q2 := q2.below hb3 y2
    have hbe := hbe.trans (hb3.mono hbe.size)
    have y1 := q1.lt
    have y2 := q2.lt
    clear r0 r1 hb3
    obtain ⟨⟨r0, r1⟩, _⟩ := q1.at2
    obtain ⟨⟨o0, o1⟩, _⟩ := q2.at2
    obtain ⟨nv, hnv⟩ : ∃ nv, nv = numV side m.length := ⟨_, rfl⟩
    rw [← hnv] at HU ⊢
    clear hnv
    by_cases hln : (z.length : Int) = nv
    · have HLN := Lib.hid hln
      have hd : ((z.length : Int) == nv) = true := by simp [hln]
      clear hln
      go_wp2_with fail
      refine (specCodeOf_any _ _ _ _ _ _ _ _ _ _ _ _ ((hR.below hbe).more hbe.size) ((hM.below hbe).more hbe.size) ((hN.below hbe).more hbe.size) hsm hm hl).mono ?_
      rintro e w4 ⟨rfl, hb4⟩
      have hbe := hbe.trans (hb4.mono hbe.size)
      clear r0 r1 o0 o1 q1 q2 hb4
      obtain ⟨cd, hcd⟩ : ∃ cd, cd = codeOfV side ks m t l := ⟨_, rfl⟩
      rw [← hcd] at HU ⊢
      clear hcd
      by_cases hc0 : 0 ≤ cd
      · have hd2 : decide (0 ≤ cd) = true := decide_eq_true hc0
        have HV := Lib.hid (show canL side ks m z t l = rangeB z by rw [HU.out, HOK.out, decide_eq_true HLN.out, hd2]; simp)
        clear HU
        go_wp2_with fail
        refine (l9Range_any _ _ _ _ ((hV.below hbe).more hbe.size) hz).mono ?_
        rintro e w5 ⟨rfl, rfl⟩
        go_wp2_with fail
        go_ret
        exact ⟨by rw [HV.out]; rfl, hbe⟩
      · have hd2 : decide (0 ≤ cd) = false := decide_eq_false hc0
        have HV := Lib.hid (show canL side ks m z t l = false by rw [HU.out, hd2]; simp)
        clear HU
        go_wp2_with fail
        go_ret
        exact ⟨by rw [HV.out]; rfl, hbe⟩
    · have HV := Lib.hid (show canL side ks m z t l = false by rw [HU.out, decide_eq_false hln]; simp)
      have hd : ((z.length : Int) == nv) = false := by simp [hln]
      clear HU hln
      go_wp2_with fail
      go_ret
      exact ⟨by rw [HV.out]; rfl, hbe⟩

theorem mvRes_up {L : List Mv} {w w1 w' : World} {e : Ending} (hb : Below w.heap.size w w1) (h : MvRes L w1 w' e) : MvRes L w w' e := by
  obtain ⟨A, c, he, h1, h2⟩ := h
  exact ⟨A, c, he, h1.more hb.size (Nat.le_refl _), hb.trans (h2.mono hb.size)⟩

set_option maxHeartbeats 4000000 in
theorem specBestMoves_any (side : Int) (A : Option Addr) (c : Nat) (ks : List Kd) (M : Option Addr) (cm : Nat) (m : List Pc) (V : Option Addr) (cv : Nat) (z : List Int) (t : Int) (N : Option Addr) (cn : Nat) (l : List St) (w : World) (hR : IsKinds w w.heap.size A ks) (hM : IsPcs w w.heap.size M m)
    (hV : IsInts w w.heap.size V z) (hN : IsSteps w w.heap.size N l) (hsm : Small ks) (hm : m.length ≤ 1048576) (hz : z.length ≤ 1048576) (hl : l.length ≤ 1048576) :
    Calls Tryz.prog 25 #[.agg #[.int .i64 side, .slice A ks.length c], .slice M m.length cm, .slice V z.length cv, .agg #[.int .i64 t, .slice N l.length cn]] w fun e w' => MvRes (bestL side ks m z t l) w w' e := by
  have hb0 : Below w.heap.size w ((w.alloc (.cells #[.int .i64 side, .slice A ks.length c] 34)).alloc (.cells #[.int .i64 t, .slice N l.length cn] 58)) := (by repeat (first | exact Below.refl _ _ | assumption | (refine Below.alloc ?_ (by first | omega | (simp; done) | (simp; omega)) _) | (refine Below.setCell ?_ (by first | omega | (simp; done) | (simp; omega)) _) | refine Below.drew ?_))
  have p1 := (Blk.new w #[.int .i64 side, .slice A ks.length c] 34).alloc (.cells #[.int .i64 t, .slice N l.length cn] 58)
  have p2 := Blk.new (w.alloc (.cells #[.int .i64 side, .slice A ks.length c] 34)) #[.int .i64 t, .slice N l.length cn] 58
  simp only [World.size_alloc] at p2
  go_enter Tryz.func25, Tryz.ntmps25
  go_wp2_with fail
  generalize hW0 : (w.alloc _).alloc _ = W0 at *
  clear hW0
  have HL0 := Lib.hid (fun h => show bestL side ks m z t l = [] from if_neg h)
  have HL1 := Lib.hid (fun h => show bestL side ks m z t l = bestsL side ks m z t l from if_pos h)
  refine (l9Can_any _ _ _ _ _ _ _ _ _ _ _ _ _ _ _ ((hR.below hb0).more hb0.size) ((hM.below hb0).more hb0.size) ((hV.below hb0).more hb0.size) ((hN.below hb0).more hb0.size) hsm hm hz hl).mono ?_
  rintro e w2 ⟨rfl, hb2⟩
  have q1 := p1.below hb2 p1.lt
  have q2 := p2.below hb2 p2.lt
  have hbe := hb0.trans (hb2.mono hb0.size)
  obtain ⟨⟨r0, r1⟩, _⟩ := q1.at2
  obtain ⟨⟨o0, o1⟩, _⟩ := q2.at2
  clear p1 p2 hb0 hb2 q1 q2
  cases hc : canL side ks m z t l
  · have HV := Lib.hid (HL0.out (by rw [hc]; decide))
    clear hc HL0 HL1
    go_wp2_with fail
    go_ret
    exact ⟨none, 0, by rw [HV.out]; rfl, by rw [HV.out]; exact MvA.nil _ _ _ _, hbe⟩
  · have HV := Lib.hid (HL1.out hc)
    have HCF := Lib.hid (canL_facts hc)
    clear hc HL0 HL1
    go_wp2_with fail
    refine (l9Best_any side A c ks M cm m V cv z t N cn l _ ((hR.below hbe).more hbe.size) ((hM.below hbe).more hbe.size) ((hV.below hbe).more hbe.size) ((hN.below hbe).more hbe.size) HCF.out.1 (by
      have := HCF.out.2.2.2.1
      unfold posOk at this
      simp only [Bool.and_eq_true] at this
      exact this.1) HCF.out.2.1 (rangeB_iAt HCF.out.2.2.1) (code_found (matV_uniq HCF.out.1) HCF.out.2.2.2.2).2).mono ?_
    rintro e w5 ⟨A5, c5, rfl, hNI, hb5⟩
    have HNI := Lib.hid (mvRes_up hbe ⟨A5, c5, rfl, hNI, hb5⟩)
    clear hNI hb5
    go_wp2_with fail
    go_ret
    rw [HV.out]
    exact HNI.out
end Go.Proofs.YtmfcgikfgikbfaaGreatDoor.Ko

namespace Go.Proofs.YtmfcgikfgikbfaaGreatDoor.Ko
open Go.ChangeShapes Go.WideShapes Go.ChangeAt Go.RowKit Base Sq In
set_option linter.unusedVariables false
set_option maxRecDepth 20000
attribute [local irreducible] wpQuiet

set_option maxHeartbeats 4000000 in
theorem tabHas_any (side : Int) (A : Option Addr) (c : Nat) (ks : List Kd) (M : Option Addr) (cm : Nat) (m : List Pc) (D : Option Addr) (d : Nat) (V : Option Addr) (cv zn : Nat) (t : Int) (N : Option Addr) (cn : Nat) (l : List St) (w : World) (hR : IsKinds w w.heap.size A ks) (hM : IsPcs w w.heap.size M m)
    (hD : In.IsInts w w.heap.size D (basesV side m.length)) (hN : IsSteps w w.heap.size N l) (hok : matV side ks m = true) (hsm : Small ks) (hl : l.length ≤ 1048576) :
    Calls Tryz.prog 55 #[.agg #[.int .i64 side, .slice A ks.length c, .slice M m.length cm, .slice D (m.length + 1) d, .slice V zn cv], .agg #[.int .i64 t, .slice N l.length cn]] w fun e w' => e = .returned (.bool (posOk side ks t l && decide (codeQ side t l m ≠ -1))) ∧ Below w.heap.size w w' := by
  obtain ⟨hro, hm4⟩ := matV_facts hok
  have HSD := Lib.hid (rulesOk_facts hro).1
  have HU := Lib.hid (matV_uniq hok)
  have HPB := Lib.hid (show posB side ks t l = posOk side ks t l by unfold posB; rw [hro]; rfl)
  have hb0 : Below w.heap.size w ((w.alloc (.cells #[.int .i64 side, .slice A ks.length c, .slice M m.length cm, .slice D (m.length + 1) d, .slice V zn cv] 91)).alloc (.cells #[.int .i64 t, .slice N l.length cn] 58)) := (by repeat (first | exact Below.refl _ _ | assumption | (refine Below.alloc ?_ (by first | omega | (simp; done) | (simp; omega)) _) | (refine Below.setCell ?_ (by first | omega | (simp; done) | (simp; omega)) _) | refine Below.drew ?_))
  have p1 := (Blk.new w #[.int .i64 side, .slice A ks.length c, .slice M m.length cm, .slice D (m.length + 1) d, .slice V zn cv] 91).alloc (.cells #[.int .i64 t, .slice N l.length cn] 58)
  have p2 := Blk.new (w.alloc (.cells #[.int .i64 side, .slice A ks.length c, .slice M m.length cm, .slice D (m.length + 1) d, .slice V zn cv] 91)) #[.int .i64 t, .slice N l.length cn] 58
  simp only [World.size_alloc] at p2
  clear hro hok
  go_enter Tryz.func55, Tryz.ntmps55
  go_wp2_with fail
  generalize hW0 : (w.alloc _).alloc _ = W0 at *
  clear hW0
  refine (posOk_any _ _ _ _ _ _ _ _ _ ((hR.below hb0).more hb0.size) ((hN.below hb0).more hb0.size) hsm hl).mono ?_
  rw [HPB.out]
  rintro e w2 ⟨rfl, hb2⟩
  have q1 := p1.below hb2 p1.lt
  have q2 := p2.below hb2 p2.lt
  have hbe := hb0.trans (hb2.mono hb0.size)
  obtain ⟨a0, a1, a2, a3, a4⟩ := Blk.at5 q1
  obtain ⟨⟨o0, o1⟩, _⟩ := q2.at2
  clear p1 p2 hb0 hb2 q1 q2
  cases hp : posOk side ks t l
  · have HV := Lib.hid (show (posOk side ks t l && decide (codeQ side t l m ≠ -1)) = false by rw [hp]; rfl)
    clear hp
    go_wp2_with fail
    go_ret
    exact ⟨by rw [HV.out]; rfl, hbe⟩
  · obtain ⟨ht, hl4, hf⟩ := posOk_facts hp
    obtain ⟨cq, hcq⟩ : ∃ cq, cq = codeQ side t l m := ⟨_, rfl⟩
    have HV := Lib.hid (show (posOk side ks t l && decide (codeQ side t l m ≠ -1)) = decide (cq ≠ -1) by rw [hp, hcq]; rfl)
    have HCQ := Lib.hid hcq
    have HFR := Lib.hid hf
    clear hp hf hcq
    go_wp2_with fail
    refine (code_any side A c ks.length M cm m D d t N cn l _ ((hM.below hbe).more hbe.size) ((hD.below hbe).more hbe.size) ((hN.below hbe).more hbe.size) HU.out HSD.out hm4 hl4 ht HFR.out).mono ?_
    rw [← HCQ.out]
    rintro e w3 ⟨rfl, hb3⟩
    have hbe3 := hbe.trans (hb3.mono hbe.size)
    clear hbe hb3
    by_cases h1 : cq = -1
    · subst h1
      go_wp2_with fail
      go_ret
      exact ⟨by rw [HV.out]; rfl, hbe3⟩
    · have hd : (cq != -1) = true := by simp [h1]
      have hd2 : decide (cq ≠ -1) = true := decide_eq_true h1
      go_wp2_with fail
      go_ret
      exact ⟨by rw [HV.out, hd2]; rfl, hbe3⟩

set_option maxHeartbeats 4000000 in
theorem tabScore_any (side : Int) (A : Option Addr) (c : Nat) (ks : List Kd) (M : Option Addr) (cm : Nat) (m : List Pc) (D : Option Addr) (d : Nat) (V : Option Addr) (cv : Nat) (z : List Int) (t : Int) (N : Option Addr) (cn : Nat) (l : List St) (mv : Mv) (w : World) (hM : IsPcs w w.heap.size M m)
    (hD : In.IsInts w w.heap.size D (basesV side m.length)) (hN : IsSteps w w.heap.size N l) (hV : In.IsInts w w.heap.size V z) (hok : matV side ks m = true) (hsh : shapeB side ks t l = true) (hzl : (z.length : Int) = numV side m.length)
    (hNT : NT l) (hF : ∀ j, j < l.length → ∃ i, i < m.length ∧ sameP (stAt l j) (pcAt m i) = true) (hmv : mv ∈ movesL side ks t l) :
    Calls Tryz.prog 93 #[.agg #[.int .i64 side, .slice A ks.length c, .slice M m.length cm, .slice D (m.length + 1) d, .slice V z.length cv], .agg #[.int .i64 t, .slice N l.length cn], .agg #[.int .i64 mv.1, .int .i64 mv.2]] w fun e w' => e = .returned (.int .i64 (mvS side t m l z mv)) ∧ Below w.heap.size w w' := by
  obtain ⟨hro, hm4⟩ := matV_facts hok
  have hs := (rulesOk_facts hro).1
  obtain ⟨n, hf1, hf2, _, _, hf7, hf8⟩ := kid_facts (m := m) hs hsh hNT hmv
  obtain ⟨hk0, hk1⟩ := kid_code hs hsh (matV_uniq hok) hF hmv
  obtain ⟨x, hx⟩ : ∃ x : Nat, (x : Int) = kidV side t m l mv := ⟨_, Int.toNat_of_nonneg hk0⟩
  rw [← hx] at hf8 hk1
  have hxl : x < z.length := by omega
  have hxl' : (x : Int) < (z.length : Int) := by omega
  have hx0 : (0 : Int) ≤ (x : Int) := by omega
  obtain ⟨bv, rfl, hbv, hcv⟩ := hV (by omega)
  have hcx := hcv x hxl
  obtain ⟨y, hy⟩ : ∃ y, y = Sc.scoreV (iAt z x) := ⟨_, rfl⟩
  have HY := Lib.hid hy
  have hyb := scoreV_bd (iAt z x)
  rw [← hy] at hyb
  obtain ⟨hy0, hy1⟩ := hyb
  have HVAL := Lib.hid (show mvS side t m l z mv = -y by unfold mvS; rw [← hx, Int.toNat_natCast, hy])
  have hwn : IntKind.i64.wrap (-y) = -y := IntWalk.i64_in _ (by omega)
  have HU := Lib.hid (matV_uniq hok)
  have HSD := Lib.hid hs
  have HSH := Lib.hid hsh
  have HSK := Lib.hid hf7
  have HCQ := Lib.hid hf8
  have HF1 := Lib.hid hf1
  have hn := hf2
  obtain ⟨fr, to⟩ := mv
  have HCQ := Lib.hid (show codeQ side (1 - t) (doL l n to) m = (x : Int) from HCQ.out)
  have HF1 := Lib.hid (show manV l fr = (n : Int) from HF1.out)
  generalize hu : iAt z x = u at *
  clear hu hx hf1 hf7 hf8 hk0 hk1 hcv hy hro hok hsh hs hNT hF hmv hV hzl
  have hb0 : Below w.heap.size w (((w.alloc (.cells #[.int .i64 side, .slice A ks.length c, .slice M m.length cm, .slice D (m.length + 1) d, .slice (some ⟨bv, 0, none⟩) z.length cv] 91)).alloc (.cells #[.int .i64 t, .slice N l.length cn] 58)).alloc (.cells #[.int .i64 fr, .int .i64 to] 98)) := (by repeat (first | exact Below.refl _ _ | assumption | (refine Below.alloc ?_ (by first | omega | (simp; done) | (simp; omega)) _) | (refine Below.setCell ?_ (by first | omega | (simp; done) | (simp; omega)) _) | refine Below.drew ?_))
  have p1 := ((Blk.new w #[.int .i64 side, .slice A ks.length c, .slice M m.length cm, .slice D (m.length + 1) d, .slice (some ⟨bv, 0, none⟩) z.length cv] 91).alloc (.cells #[.int .i64 t, .slice N l.length cn] 58)).alloc (.cells #[.int .i64 fr, .int .i64 to] 98)
  have p2 := (Blk.new (w.alloc (.cells #[.int .i64 side, .slice A ks.length c, .slice M m.length cm, .slice D (m.length + 1) d, .slice (some ⟨bv, 0, none⟩) z.length cv] 91)) #[.int .i64 t, .slice N l.length cn] 58).alloc (.cells #[.int .i64 fr, .int .i64 to] 98)
  have p3 := Blk.new ((w.alloc (.cells #[.int .i64 side, .slice A ks.length c, .slice M m.length cm, .slice D (m.length + 1) d, .slice (some ⟨bv, 0, none⟩) z.length cv] 91)).alloc (.cells #[.int .i64 t, .slice N l.length cn] 58)) #[.int .i64 fr, .int .i64 to] 98
  simp only [World.size_alloc] at p2 p3
  go_enter Tryz.func93, Tryz.ntmps93
  go_wp2_with fail
  generalize hW0 : ((w.alloc _).alloc _).alloc _ = W0 at *
  clear hW0
  have hz0 := hb0.size
  have HMK := Lib.hid ((hM.below hb0).more hz0)
  have HDK := Lib.hid ((hD.below hb0).more hz0)
  have HNK := Lib.hid ((hN.below hb0).more hz0)
  have hcx0 := (hb0.cell (p := ⟨bv, x, none⟩) hbv).trans hcx
  have hbv0 : bv < W0.heap.size := by omega
  have HS : Hid (∀ w', Below W0.heap.size W0 w' → (w'.cell? ⟨w.heap.size, 0, none⟩ = some (.int .i64 side) ∧ w'.cell? ⟨w.heap.size, 1, none⟩ = some (.slice A ks.length c) ∧ w'.cell? ⟨w.heap.size, 2, none⟩ = some (.slice M m.length cm) ∧ w'.cell? ⟨w.heap.size, 3, none⟩ = some (.slice D (m.length + 1) d) ∧ w'.cell? ⟨w.heap.size, 4, none⟩ = some (.slice (some ⟨bv, 0, none⟩) z.length cv) ∧ w'.cell? ⟨w.heap.size + 1, 0, none⟩ = some (.int .i64 t) ∧ w'.cell? ⟨w.heap.size + 1, 1, none⟩ = some (.slice N l.length cn) ∧ w'.cell? ⟨w.heap.size + 2, 0, none⟩ = some (.int .i64 fr) ∧ w'.cell? ⟨w.heap.size + 2, 1, none⟩ = some (.int .i64 to) ∧ w'.cell? ⟨bv, x, none⟩ = some (.int .i64 u))) := Lib.hid (fun w' hb => by
    obtain ⟨a0, a1, a2, a3, a4⟩ := Blk.at5 (p1.below hb p1.lt)
    obtain ⟨⟨b0, b1⟩, _⟩ := (p2.below hb p2.lt).at2
    obtain ⟨⟨c0, c1⟩, _⟩ := (p3.below hb p3.lt).at2
    exact ⟨a0, a1, a2, a3, a4, b0, b1, c0, c1, (hb.cell (p := ⟨bv, x, none⟩) hbv0).trans hcx0⟩)
  have hw : Below W0.heap.size W0 W0.drew := (Below.refl _ _).drew
  clear p1 p2 p3 hcx hcx0 hM hD hN
  go_region_held3 (fun w' => w'.cell? ⟨w.heap.size, 0, none⟩ = some (.int .i64 side) ∧ w'.cell? ⟨w.heap.size, 1, none⟩ = some (.slice A ks.length c) ∧ w'.cell? ⟨w.heap.size, 2, none⟩ = some (.slice M m.length cm) ∧ w'.cell? ⟨w.heap.size, 3, none⟩ = some (.slice D (m.length + 1) d) ∧ w'.cell? ⟨w.heap.size, 4, none⟩ = some (.slice (some ⟨bv, 0, none⟩) z.length cv) ∧ w'.cell? ⟨w.heap.size + 1, 0, none⟩ = some (.int .i64 t) ∧ w'.cell? ⟨w.heap.size + 1, 1, none⟩ = some (.slice N l.length cn) ∧ w'.cell? ⟨w.heap.size + 2, 0, none⟩ = some (.int .i64 fr) ∧ w'.cell? ⟨w.heap.size + 2, 1, none⟩ = some (.int .i64 to) ∧ w'.cell? ⟨bv, x, none⟩ = some (.int .i64 u))
    (first
      | exact HS.out _ hw)
    (first
      | (go_at_call 84; refine (moved_any t N cn l fr to n _ ((HNK.out.below hw).more hw.size) (shapeB_facts HSH.out).1 (shapeB_facts HSH.out).2.1 HF1.out hn (shapeB_up HSH.out)).mono ?_; rintro e6 w6 ⟨A6, c6, rfl, hm6, hb6⟩; have hw := hw.trans (hb6.mono hw.size))
      | (go_at_call 83; refine (code_any side A c ks.length M cm m D d (1 - t) A6 c6 (doL l n to) _ ((HMK.out.below hw).more hw.size) ((HDK.out.below hw).more hw.size) hm6.is HU.out HSD.out hm4 (shapeB_facts HSK.out).2.1 (shapeB_facts HSK.out).1 (fun i hi => ((shapeB_facts HSK.out).2.2.2.2 i hi).2.2.1)).mono ?_; rw [HCQ.out]; rintro e8 w8 ⟨rfl, hb8⟩; have hw := hw.trans (hb8.mono hw.size))
      | (go_at_call 129; refine (Sc.score_any _ _).mono ?_; rw [← HY.out]; rintro e9 w9 ⟨rfl, rfl⟩))
  all_goals
    go_wp2_with fail
    go_ret
    exact ⟨by rw [HVAL.out]; rfl, hb0.trans (hw.mono hz0)⟩
end Go.Proofs.YtmfcgikfgikbfaaGreatDoor.Ko

namespace Go.Proofs.YtmfcgikfgikbfaaGreatDoor.Ko
open Go.ChangeShapes Go.WideShapes Go.ChangeAt Go.RowKit Base Sq
set_option linter.unusedVariables false
set_option maxRecDepth 20000
attribute [local irreducible] wpQuiet

def IsMvs (w : World) (B : Nat) (A : Option Addr) (l : List Mv) : Prop := MvA 0 B w A l
theorem MvA.is {lo hi : Nat} {w : World} {A : Option Addr} {l : List Mv} (h : MvA lo hi w A l) : IsMvs w hi A l := MvA.more h (Nat.zero_le _) (Nat.le_refl _)
theorem IsMvs.more {w : World} {B B' : Nat} {A : Option Addr} {l : List Mv} (h : IsMvs w B A l) (hB : B ≤ B') : IsMvs w B' A l := MvA.more h (Nat.le_refl _) hB
theorem IsMvs.below {w w' : World} {B : Nat} {A : Option Addr} {l : List Mv} (h : IsMvs w B A l) (hb : Below B w w') : IsMvs w' B A l := MvA.below h hb
theorem IsMvs.at {w : World} {B : Nat} {A : Option Addr} {l : List Mv} (h : IsMvs w B A l) {i : Nat} (hi : i < l.length) : ∃ b, A = some ⟨b, 0, none⟩ ∧ b < B ∧ w.cell? ⟨b, i * 2, none⟩ = some (.int .i64 (mvAt l i).1) ∧ w.cell? ⟨b, i * 2 + 1, none⟩ = some (.int .i64 (mvAt l i).2) := MvA.at h hi
theorem MvA.span {lo hi lo' hi' : Nat} {w w' : World} {A : Option Addr} {l : List Mv} (h : MvA lo hi w A l) (hs : Span lo' hi' w w') (ho : hi ≤ lo' ∨ hi' ≤ lo) : MvA lo hi w' A l := fun hn => by
  obtain ⟨b, cs, rfl, h1, h2, h3, h4, h5⟩ := h hn
  exact ⟨b, cs, rfl, h1, h2, hs.blk h3 (by omega), h4, h5⟩
theorem eqMove_same (f q : Int) (w : World) :
    Calls Tryz.prog 57 #[.agg #[.int .i64 f, .int .i64 q], .agg #[.int .i64 f, .int .i64 q]] w fun e w' => e = .returned (.bool true) ∧ Below w.heap.size w w' := by
  go_enter Tryz.func57, Tryz.ntmps57
  go_wp2_with fail
  go_ret
  exact ⟨rfl, (by repeat (first | exact Below.refl _ _ | assumption | (refine Below.alloc ?_ (by first | omega | (simp; done) | (simp; omega)) _) | (refine Below.setCell ?_ (by first | omega | (simp; done) | (simp; omega)) _) | refine Below.drew ?_))⟩
theorem eqMoveS_same (A A' : Option Addr) (c c' : Nat) (l : List Mv) (w : World) (h : IsMvs w w.heap.size A l) (h' : IsMvs w w.heap.size A' l) (hl : l.length ≤ 1048576) :
    Calls Tryz.prog 29 #[.slice A l.length c, .slice A' l.length c'] w fun e w' => e = .returned (.bool true) ∧ Below w.heap.size w w' := by
  go_enter Tryz.func29, Tryz.ntmps29
  go_wp2_with fail
  go_loopw [5] (fun i wr => ∃ k : Nat, k ≤ l.length ∧ i = .int .i64 k ∧ Below w.heap.size w wr) (fun i _ => l.length - (intOf i).toNat)
  case atStart => exact ⟨0, by omega, rfl, Below.refl _ _⟩
  case round =>
    obtain ⟨k, hk, rfl, hbe⟩ := hrel
    by_cases hlt : k < l.length
    · obtain ⟨b, rfl, hB, c0, c1⟩ := (h.below hbe).at hlt
      obtain ⟨b', rfl, hB', d0, d1⟩ := (h'.below hbe).at hlt
      have hz := hbe.size
      have z1 : b < wr.heap.size := by omega
      have z2 : b' < wr.heap.size := by omega
      have hk1 : (k : Int) < (l.length : Int) := by omega
      have hk2 : (0 : Int) ≤ (k : Int) := by omega
      go_wp2_with fail
      refine wp_region_below (W := wr) (by kernel_rfl) (by kernel_rfl) (Below.refl _ _) ?_
      repeat (first
        | (refine qs_skip (by rfl) ?_; simp only [Act.put, List.setIfInBounds_toArray, List.set_cons_zero, List.set_cons_succ])
        | (apply qs_take
           focus rfl
           focus (
             intro wq hwq
             obtain ⟨hcq, hfq⟩ := bcell hwq
             go_simp
             all_goals first
               | exact rfl
               | (go_at_call 57; refine (eqMove_same _ _ _).mono ?_; exact fun e w2 h => ⟨h.1, hwq.trans (h.2.mono hwq.size)⟩)
               | (exact ⟨trivial, rfl⟩))
           simp only [Act.put, List.setIfInBounds_toArray, List.set_cons_zero, List.set_cons_succ]))
      refine wpQuiet_nil ?_
      intro wq hwq
      go_wp2_with fail
      go_roundw
      case rel => exact ⟨k + 1, by omega, by go_num, hbe.trans (hwq.mono (by omega))⟩
      case measure => simp [intOf]; omega
    · obtain rfl : k = l.length := by omega
      go_wp2_with fail
      go_ret
      exact ⟨rfl, hbe⟩
def marksV (k : Int) (n : Nat) : List Mv := (List.range n).map fun i : Nat => (k + 2 * i, k + 2 * i + 1)
theorem marksV_len (k : Int) (n : Nat) : (marksV k n).length = n := by simp [marksV]
theorem marksV_at {k : Int} {n i : Nat} (h : i < n) : mvAt (marksV k n) i = (k + 2 * i, k + 2 * i + 1) := by unfold mvAt marksV; simp [List.getD_eq_getElem?_getD, h]
set_option maxHeartbeats 1000000 in
theorem markMoveS_any (lo hi : Nat) (A : Option Addr) (c : Nat) (l : List Mv) (k : Int) (w : World) (h : MvA lo hi w A l) (hl : l.length ≤ 1048576) (hk0 : 0 ≤ k) (hk1 : k ≤ 1000000000000000) :
    Calls Tryz.prog 32 #[.slice A l.length c, .int .i64 k] w fun e w' => e = .returned (.int .i64 (k + 2 * l.length)) ∧ MvA lo hi w' A (marksV k l.length) ∧ Span lo hi w w' := by
  rcases Nat.eq_zero_or_pos l.length with h0 | h0
  · have hd : decide (0 < l.length) = false := decide_eq_false (by omega)
    rw [h0]
    clear h
    go_enter Tryz.func32, Tryz.ntmps32
    go_wp2_with fail
    go_loopw [1, 5] (fun x i wr => i = .int .i64 0 ∧ x = .int .i64 k ∧ wr = w) (fun _ i _ => 0)
    case atStart => exact ⟨rfl, rfl, rfl⟩
    case round =>
      obtain ⟨rfl, rfl, rfl⟩ := hrel
      go_wp2_with fail
      go_ret
      exact ⟨by simp, fun hn => by simp [marksV] at hn, Span.refl _ _ _⟩
  · obtain ⟨b, cs0, rfl, h1, h2, h3, h4, h5⟩ := h h0
    clear h h5
    go_enter Tryz.func32, Tryz.ntmps32
    go_wp2_with fail
    go_loopw [1, 5] (fun x i wr => ∃ (j : Nat) (cs : Array Value), j ≤ l.length ∧ i = .int .i64 j ∧ x = .int .i64 (k + 2 * j) ∧ Blk wr b cs 98 ∧ l.length * 2 ≤ cs.size ∧ Hid (∀ i, i < j → cs[i * 2]? = some (.int .i64 (k + 2 * i)) ∧ cs[i * 2 + 1]? = some (.int .i64 (k + 2 * i + 1))) ∧ Span lo hi w wr) (fun _ i _ => l.length - (intOf i).toNat)
    case atStart => exact ⟨0, cs0, by omega, rfl, by simp, h3, h4, Lib.hid (fun j hj => absurd hj (by omega)), Span.refl _ _ _⟩
    case round =>
      clear h3 h4
      obtain ⟨j, cs, hj, rfl, rfl, hB, hsz, hh, hS⟩ := hrel
      by_cases hlt : j < l.length
      · obtain ⟨o0, x0⟩ := old_cell (cs := cs) (i := j * 2) (by omega)
        obtain ⟨o1, x1⟩ := old_cell (cs := cs) (i := j * 2 + 1) (by omega)
        have y0 := (hB.cell (j * 2)).trans x0
        have y1 := (hB.cell (j * 2 + 1)).trans x1
        have f0 := hB.free (j * 2)
        have f1 := hB.free (j * 2 + 1)
        have HB2 := Lib.hid ((hB.set (j * 2) (.int .i64 (k + 2 * j))).set (j * 2 + 1) (.int .i64 (k + 2 * j + 1)))
        have HN : Hid (∀ i, i < j + 1 → ((cs.setIfInBounds (j * 2) (.int .i64 (k + 2 * j))).setIfInBounds (j * 2 + 1) (.int .i64 (k + 2 * j + 1)))[i * 2]? = some (.int .i64 (k + 2 * i)) ∧ ((cs.setIfInBounds (j * 2) (.int .i64 (k + 2 * j))).setIfInBounds (j * 2 + 1) (.int .i64 (k + 2 * j + 1)))[i * 2 + 1]? = some (.int .i64 (k + 2 * i + 1))) := Lib.hid (all_succ
          (fun i hi => ⟨set_get (set_get (hh.out i hi).1 (by omega)) (by omega), set_get (set_get (hh.out i hi).2 (by omega)) (by omega)⟩)
          ⟨set_get (set_same (by omega)) (by omega), set_same (by simp; omega)⟩)
        have HSZ : Hid (l.length * 2 ≤ ((cs.setIfInBounds (j * 2) (.int .i64 (k + 2 * j))).setIfInBounds (j * 2 + 1) (.int .i64 (k + 2 * j + 1))).size) := Lib.hid (by simpa using hsz)
        have HS2 := Lib.hid ((hS.setCell h1 h2 (j * 2) (.int .i64 (k + 2 * j))).setCell h1 h2 (j * 2 + 1) (.int .i64 (k + 2 * j + 1)))
        clear x0 x1 hB hS hh
        go_wp2_with fail
        go_roundw
        case rel =>
          refine ⟨j + 1, _, by omega, by go_num, by first | go_num | (congr 1; omega), ?_, HSZ.out, Lib.hid HN.out, ?_⟩
          · have := HB2.out; simpa [Int.add_assoc] using this
          · have := HS2.out; simpa [Int.add_assoc] using this
        case measure => simp [intOf]; omega
      · obtain rfl : j = l.length := by omega
        go_wp2_with fail
        go_ret
        exact ⟨rfl, fun _ => ⟨b, cs, rfl, h1, h2, hB, by rw [marksV_len]; exact hsz, fun i hi => by rw [marksV_len] at hi; rw [marksV_at hi]; exact hh.out i hi⟩, hS⟩
set_option maxHeartbeats 1000000 in
theorem heldMoveS_any (A : Option Addr) (c n B : Nat) (k : Int) (w : World) (h : IsMvs w B A (marksV k n)) (hl : n ≤ 1048576) (hk0 : 0 ≤ k) (hk1 : k ≤ 1000000000000000) :
    Calls Tryz.prog 33 #[.slice A n c, .int .i64 k] w fun e w' => e = .returned (.int .i64 (k + 2 * n)) ∧ w = w' := by
  go_enter Tryz.func33, Tryz.ntmps33
  go_wp2_with fail
  go_loopw [1, 5] (fun x i wr => ∃ j : Nat, j ≤ n ∧ i = .int .i64 j ∧ x = .int .i64 (k + 2 * j) ∧ wr = w) (fun _ i _ => n - (intOf i).toNat)
  case atStart => exact ⟨0, by omega, rfl, by simp, rfl⟩
  case round =>
    obtain ⟨j, hj, rfl, rfl, rfl⟩ := hrel
    by_cases hlt : j < n
    · obtain ⟨b, rfl, hB, c0, c1⟩ := h.at (i := j) (by rw [marksV_len]; omega)
      rw [marksV_at hlt] at c0 c1
      go_wp2_with fail
      go_roundw
      case rel => exact ⟨j + 1, by omega, by go_num, by first | go_num | (congr 1; omega), by first | rfl | trivial⟩
      case measure => simp [intOf]; omega
    · obtain rfl : j = n := by omega
      go_wp2_with fail
      go_ret
      exact ⟨rfl, rfl⟩

def movesP (side : Int) (ks : List Kd) (t : Int) (l : List St) : List Mv := if posB side ks t l = true then movesL side ks t l else []
theorem movesP_len (side : Int) (ks : List Kd) (t : Int) (l : List St) : (movesP side ks t l).length ≤ 1048576 := by
  unfold movesP
  split
  · rename_i h
    obtain ⟨hok, hsh, _⟩ := posB_facts h
    have := movesL_len (ks := ks) (t := t) (rulesOk_facts hok).1 (shapeB_facts hsh).2.1
    omega
  · simp
set_option maxHeartbeats 4000000 in
theorem movesOf_any (side : Int) (A : Option Addr) (c : Nat) (ks : List Kd) (t : Int) (M : Option Addr) (cm : Nat) (l : List St) (w : World) (hR : IsKinds w w.heap.size A ks) (hM : IsSteps w w.heap.size M l) (hT : TabAt w)
    (hsm : Small ks) (hl : l.length ≤ 1048576) :
    Calls Tryz.prog 91 #[.agg #[.int .i64 side, .slice A ks.length c], .agg #[.int .i64 t, .slice M l.length cm]] w fun e w' => MovesPost w w' (movesP side ks t l) e := by
  have hb0 := (below_of w (.cells #[.int .i64 side, .slice A ks.length c] 34)).alloc (by first | (simp; done) | (simp; omega) | omega) (.cells #[.int .i64 t, .slice M l.length cm] 58)
  have p1 := (Blk.new w #[.int .i64 side, .slice A ks.length c] 34).alloc (.cells #[.int .i64 t, .slice M l.length cm] 58)
  have p2 := Blk.new (w.alloc (.cells #[.int .i64 side, .slice A ks.length c] 34)) #[.int .i64 t, .slice M l.length cm] 58
  simp only [World.size_alloc] at p2
  have hR1 := (hR.below hb0).more hb0.size
  have hM1 := (hM.below hb0).more hb0.size
  have hT1 := hT.below hb0 hT.lt
  clear hR hM hT
  go_enter Tryz.func91, Tryz.ntmps91
  go_wp2_with fail
  generalize hW0 : (w.alloc _).alloc _ = W0 at *
  clear hW0
  refine (posOk_any _ _ _ _ _ _ _ _ _ hR1 hM1 hsm hl).mono ?_
  rintro e w2 ⟨rfl, hb2⟩
  have p1' := p1.below hb2 p1.lt
  have p2' := p2.below hb2 p2.lt
  have hR2 := (hR1.below hb2).more hb2.size
  have hM2 := (hM1.below hb2).more hb2.size
  have hT2 := hT1.keep hb2
  have hbe := hb0.trans (hb2.mono hb0.size)
  obtain ⟨⟨r0, r1⟩, _⟩ := p1'.at2
  obtain ⟨⟨o0, o1⟩, _⟩ := p2'.at2
  have hz2 := hbe.size
  clear p1 p2 hb0 hb2 hR1 hM1 hT1
  cases hp : posB side ks t l
  · have HN := Lib.hid (show movesP side ks t l = [] by unfold movesP; rw [hp]; rfl)
    clear hp
    go_wp2_with fail
    go_ret
    exact ⟨none, 0, by rw [HN.out]; rfl, by rw [HN.out]; exact MvA.nil _ _ _ _, hbe⟩
  · obtain ⟨hok, hsh, _⟩ := posB_facts hp
    have HO := Lib.hid hok
    have HS := Lib.hid hsh
    have HN := Lib.hid (show movesP side ks t l = movesL side ks t l by unfold movesP; rw [hp]; rfl)
    clear hp hok hsh
    go_wp2_with fail
    refine (movesFrom_any side A c ks t M cm l _ hR2 hM2 hT2 HO.out HS.out).mono ?_
    rintro e w3 ⟨A3, c3, rfl, hmv, hb3⟩
    go_wp2_with fail
    go_ret
    exact ⟨A3, c3, by rw [HN.out]; rfl, by rw [HN.out]; exact hmv.more hz2 (Nat.le_refl _), hbe.trans (hb3.mono hz2)⟩
end Go.Proofs.YtmfcgikfgikbfaaGreatDoor.Ko

namespace Go.Proofs.YtmfcgikfgikbfaaGreatDoor.Ko
open Go.ChangeShapes Go.WideShapes Go.ChangeAt Go.RowKit Base Sq In
set_option linter.unusedVariables false
set_option maxRecDepth 20000
attribute [local irreducible] wpQuiet

/-- what the closure of best needs, wherever it is called -/
structure BestCtx (side : Int) (A : Option Addr) (c : Nat) (ks : List Kd) (M : Option Addr) (cm : Nat) (m : List Pc) (D : Option Addr) (d : Nat) (V : Option Addr) (cv : Nat) (z : List Int) (t : Int) (N : Option Addr) (cn : Nat) (l : List St) (bt bp : Nat) (w : World) : Prop where
  tab : Blk w bt #[.int .i64 side, .slice A ks.length c, .slice M m.length cm, .slice D (m.length + 1) d, .slice V z.length cv] 91
  pos : Blk w bp #[.int .i64 t, .slice N l.length cn] 58
  hM : IsPcs w w.heap.size M m
  hD : In.IsInts w w.heap.size D (basesV side m.length)
  hN : IsSteps w w.heap.size N l
  hV : In.IsInts w w.heap.size V z
  hok : matV side ks m = true
  hsh : shapeB side ks t l = true
  hzl : (z.length : Int) = numV side m.length
  hNT : NT l
  hF : ∀ j, j < l.length → ∃ i, i < m.length ∧ sameP (stAt l j) (pcAt m i) = true
theorem BestCtx.below {side : Int} {A : Option Addr} {c : Nat} {ks : List Kd} {M : Option Addr} {cm : Nat} {m : List Pc} {D : Option Addr} {d : Nat} {V : Option Addr} {cv : Nat} {z : List Int} {t : Int} {N : Option Addr} {cn : Nat} {l : List St} {bt bp : Nat} {w w' : World}
    (h : BestCtx side A c ks M cm m D d V cv z t N cn l bt bp w) (hb : Below w.heap.size w w') : BestCtx side A c ks M cm m D d V cv z t N cn l bt bp w' :=
  ⟨h.tab.below hb h.tab.lt, h.pos.below hb h.pos.lt, (h.hM.below hb).more hb.size, (h.hD.below hb).more hb.size, (h.hN.below hb).more hb.size, (h.hV.below hb).more hb.size, h.hok, h.hsh, h.hzl, h.hNT, h.hF⟩

set_option maxHeartbeats 2000000 in
theorem bestClo_any (side : Int) (A : Option Addr) (c : Nat) (ks : List Kd) (M : Option Addr) (cm : Nat) (m : List Pc) (D : Option Addr) (d : Nat) (V : Option Addr) (cv : Nat) (z : List Int) (t : Int) (N : Option Addr) (cn : Nat) (l : List St) (bt bp : Nat) (mv : Mv) (w : World)
    (h : BestCtx side A c ks M cm m D d V cv z t N cn l bt bp w) (hmv : mv ∈ movesL side ks t l) :
    Calls Tryz.prog 92 #[.agg #[.int .i64 mv.1, .int .i64 mv.2], .pointer (some ⟨bt, 0, none⟩), .pointer (some ⟨bp, 0, none⟩)] w fun e w' => e = .returned (.int .i64 (mvS side t m l z mv)) ∧ Below w.heap.size w w' := by
  have HC := Lib.hid h
  have HMV := Lib.hid hmv
  obtain ⟨a0, a1, a2, a3, a4⟩ := Blk.at5 h.tab
  obtain ⟨⟨b0, b1⟩, _⟩ := h.pos.at2
  have z1 := h.tab.lt
  have z2 := h.pos.lt
  have hb0 : Below w.heap.size w (w.alloc (.cells #[.int .i64 mv.1, .int .i64 mv.2] 98)) := below_of _ _
  have HC2 := Lib.hid (h.below hb0)
  clear h hmv
  go_enter Tryz.func92, Tryz.ntmps92
  go_wp2_with fail
  refine (tabScore_any side A c ks M cm m D d V cv z t N cn l mv _ HC2.out.hM HC2.out.hD HC2.out.hN HC2.out.hV HC2.out.hok HC2.out.hsh HC2.out.hzl HC2.out.hNT HC2.out.hF HMV.out).mono ?_
  rintro e w3 ⟨rfl, hb3⟩
  have HB := Lib.hid (hb0.trans (hb3.mono hb0.size))
  clear hb3 hb0
  go_wp2_with fail
  go_ret
  exact ⟨rfl, HB.out⟩

/-- the best so far -/
def LgLst (wr : World) (hi : Nat) (f : Mv → Int) (ms : List Mv) (k : Nat) (x m : Value) : Prop :=
  (k = 0 ∧ x = .slice none 0 0 ∧ m = .int .i64 0) ∨ (0 < k ∧ m = .int .i64 (bestK f ms k).2 ∧ ∃ B d, x = .slice B (bestK f ms k).1.length d ∧ OwnV wr hi (.slice B (bestK f ms k).1.length d) (bestK f ms k).1)

set_option maxHeartbeats 8000000 in
theorem largest_any (side : Int) (A : Option Addr) (c : Nat) (ks : List Kd) (M : Option Addr) (cm : Nat) (m : List Pc) (D : Option Addr) (d : Nat) (V : Option Addr) (cv : Nat) (z : List Int) (t : Int) (N : Option Addr) (cn : Nat) (l : List St) (bt bp : Nat) (lo hi : Nat) (Am : Option Addr) (cam : Nat) (w : World)
    (h : BestCtx side A c ks M cm m D d V cv z t N cn l bt bp w) (hmv : MvA lo hi w Am (movesL side ks t l)) (hhi : hi ≤ w.heap.size) :
    Calls Tryz.prog 90 #[.slice Am (movesL side ks t l).length cam, .func (.func 92) #[] #[.pointer (some ⟨bt, 0, none⟩), .pointer (some ⟨bp, 0, none⟩)]] w fun e w' => MvRes (bestsL side ks m z t l) w w' e := by
  obtain ⟨i0, hi0, hz0, hz1, hz2⟩ := info_parts mvInfo
  have hlen := movesL_len (ks := ks) (t := t) (rulesOk_facts (matV_facts h.hok).1).1 (shapeB_facts h.hsh).2.1
  have HC := Lib.hid h
  have HMV := Lib.hid hmv
  have HBL := Lib.hid (show bestsL side ks m z t l = (bestK (mvS side t m l z) (movesL side ks t l) (movesL side ks t l).length).1 from rfl)
  have HBD := Lib.hid (fun mv => mvS_bd side t m l z mv)
  have HCL := Lib.hid (fun (mv : Mv) (w' : World) (hb : Below w.heap.size w w') (hm : mv ∈ movesL side ks t l) => bestClo_any side A c ks M cm m D d V cv z t N cn l bt bp mv w' (h.below hb) hm)
  clear h hmv
  generalize hms : movesL side ks t l = ms at *
  generalize hf : mvS side t m l z = f at *
  have HMO := Lib.hid (fun k => bestK_most (f := f) HBD.out ms k)
  have HBLN := Lib.hid (fun k => bestK_len f ms k)
  clear hf
  go_enter Tryz.func90, Tryz.ntmps90
  go_wp2_with fail
  go_loopw [5, 6, 12] (fun x mo i wr => ∃ k : Nat, k ≤ ms.length ∧ i = .int .i64 k ∧ Hid (LgLst wr w.heap.size f ms k x mo) ∧ Below w.heap.size w wr) (fun _ _ i _ => ms.length - (intOf i).toNat)
  case atStart => exact ⟨0, by omega, rfl, Lib.hid (.inl ⟨rfl, rfl, rfl⟩), Below.refl _ _⟩
  case round =>
    obtain ⟨k, hk, rfl, hL, hbe⟩ := hrel
    have hz := hbe.size
    by_cases hlt : k < ms.length
    · have hlt' : (k : Int) < (ms.length : Int) := by omega
      obtain ⟨bm, rfl, zbm, zbh, csm, hbm, hc0, hc1⟩ := (HMV.out.below (hbe.mono hhi)).cells hlt
      have hmem : mvAt ms k ∈ ms := by rw [mvAt_lt hlt]; exact List.getElem_mem hlt
      obtain ⟨fv, hfv⟩ : ∃ v, v = f (mvAt ms k) := ⟨_, rfl⟩
      have HFV := Lib.hid hfv
      have hfb := HBD.out (mvAt ms k)
      rw [← hfv] at hfb
      obtain ⟨hfb0, hfb1⟩ := hfb
      have hbx := (hbe.alloc hz (.cells #[.int .i64 (mvAt ms k).1, .int .i64 (mvAt ms k).2] 98))
      have px := Blk.new wr #[.int .i64 (mvAt ms k).1, .int .i64 (mvAt ms k).2] 98
      have HL := Lib.hid (hL.out)
      clear hfv hbm hL
      go_wp2_with fail
      refine (HCL.out (mvAt ms k) _ hbx hmem).mono ?_
      rw [← HFV.out]
      rintro e w5 ⟨rfl, hb5⟩
      have px := px.below hb5 (by simp)
      have hbe5 := hbx.trans (hb5.mono hbx.size)
      have hz5 := hb5.size
      have hz6 := hbe5.size
      simp only [World.size_alloc] at hz5
      have HLB := Lib.hid (show Below wr.heap.size wr w5 from (below_of wr (.cells #[.int .i64 (mvAt ms k).1, .int .i64 (mvAt ms k).2] 98)).trans (hb5.mono (by simp)))
      generalize hfr : (mvAt ms k).1 = fr at *
      generalize hto : (mvAt ms k).2 = to at *
      have HME := Lib.hid (show mvAt ms k = (fr, to) by rw [← hfr, ← hto])
      clear hfr hto
      obtain ⟨⟨m0, m1⟩, _⟩ := px.at2
      have hmx0 : 0 + 1 ≤ maxLen := by unfold maxLen; omega
      clear px hb5 hbx hc0 hc1
      rcases HL.out with ⟨hk0, rfl, rfl⟩ | ⟨hk1, rfl, B, d, rfl, hO⟩
      · have HNX : Hid (bestK f ms (k + 1) = ([(fr, to)], fv)) := Lib.hid (by rw [bestK_hit (by rw [← HFV.out, hk0]; show -200 < fv; omega), ← HFV.out, HME.out])
        clear HL hk0
        go_wp2_with (at_builtin; refine wpList_append_own _ rfl _ _ 53 rfl w.heap.size 98 i0 (.agg #[.int .i64 0, .int .i64 0]) 2 16 Tryz.underlying53 hi0 hz0 hz1 hz2 rfl (by decide) _ _ _ rfl (show World.ownsRow (w5.alloc (.cells #[.int .i64 fr, .int .i64 to] 98)) w.heap.size 98 2 (.slice none 0 0) 0 [] from OwnV.nil (w5.alloc (.cells #[.int .i64 fr, .int .i64 to] 98)) w.heap.size) ⟨w5.heap.size, 0, none⟩ 1 1 [.int .i64 fr, .int .i64 to] rfl rfl (news2 (Blk.new w5 #[.int .i64 fr, .int .i64 to] 98)) one2 hmx0 (by omega) (by simp; omega) ?_; intro v' w7 hown' hgrow7 hnil7; have hOn := OwnV.snoc (base := w.heap.size) (l := []) (m := (fr, to)) hown'; have hbG : Below w.heap.size (w5.alloc (.cells #[.int .i64 fr, .int .i64 to] 98)) w7 := OwnV.base (OwnV.nil (w5.alloc (.cells #[.int .i64 fr, .int .i64 to] 98)) w.heap.size) hgrow7 (Below.refl _ _) (Nat.le_refl _) (by simp; omega); have hbe7 := (hbe5.alloc hbe5.size (.cells #[.int .i64 fr, .int .i64 to] 98)).trans hbG; obtain ⟨B7, d7, hv7⟩ := hOn.slice; subst hv7; have HO7 := Lib.hid hOn; clear hown' hgrow7 hnil7 hbG hOn)
        go_roundw
        case rel => exact ⟨k + 1, by omega, by go_num, Lib.hid (.inr ⟨by omega, by rw [HNX.out], B7, d7, by rw [HNX.out]; rfl, by rw [HNX.out]; exact HO7.out⟩), hbe7⟩
        case measure => simp [intOf]; omega
      · obtain ⟨q, hq⟩ : ∃ q, q = (bestK f ms k).2 := ⟨_, rfl⟩
        have HQ := Lib.hid hq
        have hL0 := ((HMO.out k).2.2 hk1).2
        have hL64 : (bestK f ms k).1.length ≤ 64 := by have := HBLN.out k; omega
        have hmx : (bestK f ms k).1.length + 1 ≤ maxLen := by unfold maxLen; omega
        have hdz : (((bestK f ms k).1.length : Int) == 0) = false := by simp; exact fun h => by rw [h] at hL0; simp at hL0
        have HO := Lib.hid (hO.below HLB.out)
        rw [← hq]
        clear hO hq HL
        by_cases h1 : q < fv
        · have HNX : Hid (bestK f ms (k + 1) = ([(fr, to)], fv)) := Lib.hid (by rw [bestK_hit (by rw [← HQ.out, ← HFV.out]; exact h1), ← HFV.out, HME.out])
          have hd : decide (q < fv) = true := decide_eq_true h1
          clear HO h1
          go_wp2_with (at_builtin; refine wpList_append_own _ rfl _ _ 53 rfl w.heap.size 98 i0 (.agg #[.int .i64 0, .int .i64 0]) 2 16 Tryz.underlying53 hi0 hz0 hz1 hz2 rfl (by decide) _ _ _ rfl (show World.ownsRow (w5.alloc (.cells #[.int .i64 fr, .int .i64 to] 98)) w.heap.size 98 2 (.slice none 0 0) 0 [] from OwnV.nil (w5.alloc (.cells #[.int .i64 fr, .int .i64 to] 98)) w.heap.size) ⟨w5.heap.size, 0, none⟩ 1 1 [.int .i64 fr, .int .i64 to] rfl rfl (news2 (Blk.new w5 #[.int .i64 fr, .int .i64 to] 98)) one2 hmx0 (by omega) (by simp; omega) ?_; intro v' w7 hown' hgrow7 hnil7; have hOn := OwnV.snoc (base := w.heap.size) (l := []) (m := (fr, to)) hown'; have hbG : Below w.heap.size (w5.alloc (.cells #[.int .i64 fr, .int .i64 to] 98)) w7 := OwnV.base (OwnV.nil (w5.alloc (.cells #[.int .i64 fr, .int .i64 to] 98)) w.heap.size) hgrow7 (Below.refl _ _) (Nat.le_refl _) (by simp; omega); have hbe7 := (hbe5.alloc hbe5.size (.cells #[.int .i64 fr, .int .i64 to] 98)).trans hbG; obtain ⟨B7, d7, hv7⟩ := hOn.slice; subst hv7; have HO7 := Lib.hid hOn; clear hown' hgrow7 hnil7 hbG hOn)
          go_roundw
          case rel => exact ⟨k + 1, by omega, by go_num, Lib.hid (.inr ⟨by omega, by rw [HNX.out], B7, d7, by rw [HNX.out]; rfl, by rw [HNX.out]; exact HO7.out⟩), hbe7⟩
          case measure => simp [intOf]; omega
        · have hd : decide (q < fv) = false := decide_eq_false h1
          by_cases h2 : fv = q
          · have HNX : Hid (bestK f ms (k + 1) = ((bestK f ms k).1 ++ [(fr, to)], q)) := Lib.hid (by rw [bestK_eq (by rw [← HQ.out, ← HFV.out]; exact h2), HME.out, HQ.out])
            have hde : (fv == q) = true := by simp [h2]
            generalize (bestK f ms k).1 = L at *
            clear h1 h2
            go_wp2_with (at_builtin; refine wpList_append_own _ rfl _ _ 53 rfl w.heap.size 98 i0 (.agg #[.int .i64 0, .int .i64 0]) 2 16 Tryz.underlying53 hi0 hz0 hz1 hz2 rfl (by decide) _ _ _ rfl (HO.out.alloc (.cells #[.int .i64 fr, .int .i64 to] 98)) ⟨w5.heap.size, 0, none⟩ 1 1 [.int .i64 fr, .int .i64 to] rfl rfl (news2 (Blk.new w5 #[.int .i64 fr, .int .i64 to] 98)) one2 hmx (by omega) (by simp; omega) ?_; intro v' w7 hown' hgrow7 hnil7; have hOn := OwnV.snoc (base := w.heap.size) (l := L) (m := (fr, to)) hown'; have hbG : Below w.heap.size (w5.alloc (.cells #[.int .i64 fr, .int .i64 to] 98)) w7 := OwnV.base (HO.out.alloc (.cells #[.int .i64 fr, .int .i64 to] 98)) hgrow7 (Below.refl _ _) (Nat.le_refl _) (by simp; omega); have hbe7 := (hbe5.alloc hbe5.size (.cells #[.int .i64 fr, .int .i64 to] 98)).trans hbG; obtain ⟨B7, d7, hv7⟩ := hOn.slice; subst hv7; have HO7 := Lib.hid hOn; clear hown' hgrow7 hnil7 hbG hOn)
            go_roundw
            case rel => exact ⟨k + 1, by omega, by go_num, Lib.hid (.inr ⟨by omega, by rw [HNX.out], B7, d7, by rw [HNX.out]; simp, by rw [HNX.out]; exact HO7.out⟩), hbe7⟩
            case measure => simp [intOf]; omega
          · have HNX : Hid (bestK f ms (k + 1) = bestK f ms k) := Lib.hid (bestK_no (by rw [← HQ.out, ← HFV.out]; omega))
            have hde : (fv == q) = false := by simp [h2]
            clear h1 h2
            go_wp2_with fail
            go_roundw
            case rel => exact ⟨k + 1, by omega, by go_num, Lib.hid (.inr ⟨by omega, by rw [HNX.out, HQ.out], B, d, by rw [HNX.out], by rw [HNX.out]; exact HO.out⟩), hbe5⟩
            case measure => simp [intOf]; omega
    · obtain rfl : k = ms.length := by omega
      rcases hL.out with ⟨hk0, rfl, rfl⟩ | ⟨hk1, rfl, B, d, rfl, hO⟩
      · have HB0 := Lib.hid (show bestsL side ks m z t l = [] by rw [HBL.out, hk0]; rfl)
        rw [hk0]
        clear hL
        go_wp2_with fail
        go_ret
        exact ⟨none, 0, by rw [HB0.out]; rfl, by rw [HB0.out]; exact MvA.nil _ _ _ _, hbe⟩
      · obtain ⟨A2, c2, hv, hmv⟩ := hO.of
        injection hv with h1 h2 h3
        subst h1
        subst h3
        have HMV2 := Lib.hid hmv
        clear hO hmv hL
        go_wp2_with fail
        go_ret
        exact ⟨B, d, by rw [HBL.out]; rfl, by rw [HBL.out]; exact HMV2.out, hbe⟩

theorem codeQ_bd (side t : Int) (l : List St) (m : List Pc) (h : codeQ side t l m ≠ -1) (hs : side = 2 ∨ side = 3 ∨ side = 4) (ht : 0 ≤ t ∧ t ≤ 1) (hf : ∀ i, i < l.length → 0 ≤ (stAt l i).far ∧ (stAt l i).far < side * side) : 0 ≤ codeQ side t l m := by
  unfold codeQ codeV at *
  split
  · rename_i h1; rw [if_pos h1] at h; exact absurd rfl h
  · rename_i h1
    rw [if_neg h1] at h
    split
    · exact (codK_bd m hs ht hf _).1
    · rename_i h2; rw [if_neg h2] at h; exact absurd rfl h
/-- what the program asks is what the model asks -/
theorem canL_prog {side : Int} {ks : List Kd} {m : List Pc} {z : List Int} {t : Int} {l : List St} (h : tabB side ks m z = true) : canL side ks m z t l = (posOk side ks t l && decide (codeQ side t l m ≠ -1)) := by
  have hm : matV side ks m = true := by unfold tabB at h; simp only [Bool.and_eq_true] at h; exact h.1.1
  unfold canL codeOfV
  rw [h, hm]
  cases hp : posOk side ks t l
  · simp
  · obtain ⟨ht, _, hf⟩ := posOk_facts hp
    simp only [and_self, if_true, Bool.true_and]
    by_cases hc : codeQ side t l m = -1
    · rw [hc]; decide
    · have := codeQ_bd side t l m hc (rulesOk_facts (matV_facts hm).1).1 ht hf
      rw [decide_eq_true this, decide_eq_true hc]

set_option maxHeartbeats 4000000 in
theorem best_any (side : Int) (A : Option Addr) (c : Nat) (ks : List Kd) (M : Option Addr) (cm : Nat) (m : List Pc) (D : Option Addr) (d : Nat) (V : Option Addr) (cv : Nat) (z : List Int) (t : Int) (N : Option Addr) (cn : Nat) (l : List St) (w : World) (hR : IsKinds w w.heap.size A ks) (hM : IsPcs w w.heap.size M m)
    (hD : In.IsInts w w.heap.size D (basesV side m.length)) (hN : IsSteps w w.heap.size N l) (hV : In.IsInts w w.heap.size V z) (hT : TabAt w) (hsm : Small ks) (hl : l.length ≤ 1048576) (hok : matV side ks m = true) (hpo : posOk side ks t l = true) (hzl : (z.length : Int) = numV side m.length)
    (hNT : NT l) (hF : ∀ j, j < l.length → ∃ i, i < m.length ∧ sameP (stAt l j) (pcAt m i) = true) :
    Calls Tryz.prog 56 #[.agg #[.int .i64 side, .slice A ks.length c, .slice M m.length cm, .slice D (m.length + 1) d, .slice V z.length cv], .agg #[.int .i64 t, .slice N l.length cn]] w fun e w' => MvRes (bestsL side ks m z t l) w w' e := by
  have hsh : shapeB side ks t l = true := by
    have h := hpo
    unfold posOk at h
    simp only [Bool.and_eq_true] at h
    exact h.1
  have hb0 : Below w.heap.size w ((w.alloc (.cells #[.int .i64 side, .slice A ks.length c, .slice M m.length cm, .slice D (m.length + 1) d, .slice V z.length cv] 91)).alloc (.cells #[.int .i64 t, .slice N l.length cn] 58)) := (by repeat (first | exact Below.refl _ _ | assumption | (refine Below.alloc ?_ (by first | omega | (simp; done) | (simp; omega)) _) | (refine Below.setCell ?_ (by first | omega | (simp; done) | (simp; omega)) _) | refine Below.drew ?_))
  have p1 := (Blk.new w #[.int .i64 side, .slice A ks.length c, .slice M m.length cm, .slice D (m.length + 1) d, .slice V z.length cv] 91).alloc (.cells #[.int .i64 t, .slice N l.length cn] 58)
  have p2 := Blk.new (w.alloc (.cells #[.int .i64 side, .slice A ks.length c, .slice M m.length cm, .slice D (m.length + 1) d, .slice V z.length cv] 91)) #[.int .i64 t, .slice N l.length cn] 58
  simp only [World.size_alloc] at p2
  have hz0 := hb0.size
  have HPL := Lib.hid (show movesP side ks t l = movesL side ks t l from if_pos (by unfold posB; rw [(matV_facts hok).1, hpo]; rfl))
  have HX := Lib.hid (⟨p1, p2, (hM.below hb0).more hz0, (hD.below hb0).more hz0, (hN.below hb0).more hz0, (hV.below hb0).more hz0, hok, hsh, hzl, hNT, hF⟩ : BestCtx side A c ks M cm m D d V cv z t N cn l w.heap.size (w.heap.size + 1) _)
  have HR := Lib.hid ((hR.below hb0).more hz0)
  have HN := Lib.hid ((hN.below hb0).more hz0)
  have HT := Lib.hid (hT.keep hb0)
  have HB := Lib.hid hb0
  clear hR hM hD hN hV hT hok hpo hsh hzl hNT hF hb0 hz0 p1 p2
  go_enter Tryz.func56, Tryz.ntmps56
  go_wp2_with fail
  refine (movesOf_any _ _ _ _ _ _ _ _ _ HR.out HN.out HT.out hsm hl).mono ?_
  rw [HPL.out]
  rintro e w3 ⟨A3, c3, rfl, hm3, hb3⟩
  have HX3 := Lib.hid (HX.out.below hb3)
  have HB3 := Lib.hid (HB.out.trans (hb3.mono HB.out.size))
  have HM3 := Lib.hid hm3
  clear hm3 hb3
  go_wp2_with fail
  refine (largest_any side A c ks M cm m D d V cv z t N cn l w.heap.size (w.heap.size + 1) _ _ A3 c3 _ HX3.out HM3.out (Nat.le_refl _)).mono ?_
  rintro e w5 ⟨A5, c5, rfl, hNI, hb5⟩
  have HNI := Lib.hid (mvRes_up HB3.out ⟨A5, c5, rfl, hNI, hb5⟩)
  clear hNI hb5
  go_wp2_with fail
  go_ret
  exact HNI.out
end Go.Proofs.YtmfcgikfgikbfaaGreatDoor.Ko

namespace Go.Proofs.YtmfcgikfgikbfaaGreatDoor.Ko
open Go.ChangeShapes Go.WideShapes Go.ChangeAt Go.RowKit Base Sq In
set_option linter.unusedVariables false
set_option maxRecDepth 20000
attribute [local irreducible] wpQuiet

theorem bestL_len (side : Int) (ks : List Kd) (m : List Pc) (z : List Int) (t : Int) (l : List St) : (bestL side ks m z t l).length ≤ 1048576 := by
  unfold bestL
  split
  · rename_i h
    obtain ⟨h1, _, _, h4, _⟩ := canL_facts h
    unfold posOk at h4
    simp only [Bool.and_eq_true] at h4
    have h5 := movesL_len (ks := ks) (t := t) (rulesOk_facts (matV_facts h1).1).1 (shapeB_facts h4.1).2.1
    have := bestK_len (mvS side t m l z) (movesL side ks t l) (movesL side ks t l).length
    unfold bestsL; omega
  · simp

set_option maxHeartbeats 4000000 in
theorem BestMoves_any (side : Int) (A : Option Addr) (c : Nat) (ks : List Kd) (M : Option Addr) (cm : Nat) (m : List Pc) (V : Option Addr) (cv : Nat) (z : List Int) (t : Int) (N : Option Addr) (cn : Nat) (l : List St) (w : World) (hR : IsKinds w w.heap.size A ks) (hM : IsPcs w w.heap.size M m)
    (hV : IsInts w w.heap.size V z) (hN : IsSteps w w.heap.size N l) (hT : TabAt w) (hsm : Small ks) (hm : m.length ≤ 1048576) (hz : z.length ≤ 1048576) (hl : l.length ≤ 1048576) :
    Calls Tryz.prog 28 #[.agg #[.int .i64 side, .slice A ks.length c], .slice M m.length cm, .slice V z.length cv, .agg #[.int .i64 t, .slice N l.length cn]] w fun e w' => MvRes (bestL side ks m z t l) w w' e := by
  have hb0 : Below w.heap.size w ((w.alloc (.cells #[.int .i64 side, .slice A ks.length c] 34)).alloc (.cells #[.int .i64 t, .slice N l.length cn] 58)) := (by repeat (first | exact Below.refl _ _ | assumption | (refine Below.alloc ?_ (by first | omega | (simp; done) | (simp; omega)) _) | (refine Below.setCell ?_ (by first | omega | (simp; done) | (simp; omega)) _) | refine Below.drew ?_))
  have p2 := Blk.new (w.alloc (.cells #[.int .i64 side, .slice A ks.length c] 34)) #[.int .i64 t, .slice N l.length cn] 58
  simp only [World.size_alloc] at p2
  have HL0 := Lib.hid (fun h => show bestL side ks m z t l = [] from if_neg h)
  have HL1 := Lib.hid (fun h => show bestL side ks m z t l = bestsL side ks m z t l from if_pos h)
  have HT := Lib.hid hT
  clear hT
  go_enter Tryz.func28, Tryz.ntmps28
  go_wp2_with fail
  generalize hW0 : (w.alloc _).alloc _ = W0 at *
  clear hW0
  refine (tableFor_any _ _ _ _ _ _ _ _ _ _ _ ((hR.below hb0).more hb0.size) ((hM.below hb0).more hb0.size) ((hV.below hb0).more hb0.size) hsm hm hz).mono ?_
  rintro e w2 ⟨tv, rfl, hno, hyes, hb2⟩
  have hbe := hb0.trans (hb2.mono hb0.size)
  have q2 := p2.below hb2 p2.lt
  clear hb0 hb2 p2
  cases htb : tabB side ks m z
  · obtain rfl := hno htb
    have HV := Lib.hid (HL0.out (by unfold canL; rw [htb]; simp))
    clear hno hyes htb HL0 HL1
    unfold nilTable
    go_wp2_with fail
    go_ret
    exact ⟨none, 0, by rw [HV.out]; rfl, by rw [HV.out]; exact MvA.nil _ _ _ _, hbe.alloc hbe.size _⟩
  · obtain ⟨D, d, rfl, hD⟩ := hyes htb
    have HCP := Lib.hid (canL_prog (t := t) (l := l) htb)
    have hmz : matV side ks m = true ∧ (z.length : Int) = numV side m.length := by
      have h := htb
      unfold tabB at h
      simp only [Bool.and_eq_true, decide_eq_true_eq] at h
      exact h.1
    have HMZ := Lib.hid hmz
    clear hno hyes htb hmz
    unfold tableV
    have hbA := below_of w2 (.cells #[.int .i64 side, .slice A ks.length c, .slice M m.length cm, .slice D (m.length + 1) d, .slice V z.length cv] 91)
    have p5 := Blk.new w2 #[.int .i64 side, .slice A ks.length c, .slice M m.length cm, .slice D (m.length + 1) d, .slice V z.length cv] 91
    have y2 := q2.lt
    obtain ⟨⟨s0, s1⟩, _⟩ := q2.at2
    have q2 := q2.below hbA y2
    have HD := Lib.hid ((hD.below hbA).more hbA.size)
    have hbe := hbe.trans (hbA.mono hbe.size)
    obtain ⟨a0, a1, a2, a3, a4⟩ := Blk.at5 p5
    obtain ⟨⟨o0, o1⟩, _⟩ := q2.at2
    clear hD hbA
    go_wp2_with fail
    generalize hWx : w2.alloc _ = Wx at *
    generalize hbx : w2.heap.size = bx at *
    clear hWx hbx s0 s1
    refine (tabHas_any side A c ks M cm m D d V cv z.length t N cn l _ ((hR.below hbe).more hbe.size) ((hM.below hbe).more hbe.size) HD.out ((hN.below hbe).more hbe.size) HMZ.out.1 hsm hl).mono ?_
    rw [← HCP.out]
    rintro e w4 ⟨rfl, hb4⟩
    have y5 := p5.lt
    have y6 := q2.lt
    have p5 := p5.below hb4 y5
    have q2 := q2.below hb4 y6
    have hbe := hbe.trans (hb4.mono hbe.size)
    have HD := Lib.hid ((HD.out.below hb4).more hb4.size)
    clear a0 a1 a2 a3 a4 o0 o1 hb4
    obtain ⟨a0, a1, a2, a3, a4⟩ := Blk.at5 p5
    obtain ⟨⟨o0, o1⟩, _⟩ := q2.at2
    cases hc : canL side ks m z t l
    · have HV := Lib.hid (HL0.out (by rw [hc]; decide))
      clear hc HL0 HL1
      go_wp2_with fail
      go_ret
      exact ⟨none, 0, by rw [HV.out]; rfl, by rw [HV.out]; exact MvA.nil _ _ _ _, hbe⟩
    · have HV := Lib.hid (HL1.out hc)
      have HCF := Lib.hid (canL_facts hc)
      clear hc HL0 HL1
      go_wp2_with fail
      refine (best_any side A c ks M cm m D d V cv z t N cn l _ ((hR.below hbe).more hbe.size) ((hM.below hbe).more hbe.size) HD.out ((hN.below hbe).more hbe.size) ((hV.below hbe).more hbe.size) (HT.out.keep hbe) hsm hl HMZ.out.1 HCF.out.2.2.2.1 HMZ.out.2 (code_found (matV_uniq HMZ.out.1) HCF.out.2.2.2.2).1 (code_found (matV_uniq HMZ.out.1) HCF.out.2.2.2.2).2).mono ?_
      rintro e w5 ⟨A5, c5, rfl, hNI, hb5⟩
      have HNI := Lib.hid (mvRes_up hbe ⟨A5, c5, rfl, hNI, hb5⟩)
      clear hNI hb5
      go_wp2_with fail
      go_ret
      rw [HV.out]
      exact HNI.out
end Go.Proofs.YtmfcgikfgikbfaaGreatDoor.Ko

namespace Go.Proofs.YtmfcgikfgikbfaaGreatDoor.Opn
open Go.ChangeShapes Go.WideShapes Go.ChangeAt Go.RowKit Base Ko Go.Deep
set_option linter.unusedVariables false
set_option maxRecDepth 20000
section
variable {H : Type} {enc : TypeId × Value → H} {w : World}
theorem cMan : Tryz.prog.cellsOf 132 = 3 := by kernel_rfl
theorem cPos : Tryz.prog.cellsOf 51 = 2 := by kernel_rfl
theorem rd_man {fuel : Nat} {cs : List Value} {x : DataW H × List MemPlace} (h : DataW.trod enc Tryz.prog w 0 (fun _ => true) true fuel 132 cs = some x) :
    ∃ s : St, cs = [.int .i64 s.dx, .int .i64 s.dy, .int .i64 s.far] := by
  obtain ⟨c0, c1, c2, y0, y1, y2, m, rfl, h0, h1, h2⟩ := rd3 Tryz.underlying132 (by kernel_rfl) cMan h
  obtain ⟨a, rfl, _⟩ := rd_int Tryz.underlying3 h0
  obtain ⟨b, rfl, _⟩ := rd_int Tryz.underlying3 h1
  obtain ⟨c, rfl, _⟩ := rd_int Tryz.underlying3 h2
  exact ⟨⟨a, b, c⟩, rfl⟩
theorem rd_men {fuel : Nat} {c : Value} {x : DataW H × List MemPlace} (h : DataW.trod enc Tryz.prog w 0 (fun _ => true) true fuel 49 [c] = some x) :
    ∃ A cap, ∃ l : List St, c = .slice A l.length cap ∧ l.length ≤ maxLen ∧ IsSteps w w.heap.size A l := by
  obtain ⟨A, len, cap, hcs, hl, hm, hi⟩ := rd_slice Tryz.underlying49 cMan (by omega) h
  simp at hcs
  subst hcs
  rcases Nat.eq_zero_or_pos len with rfl | h0
  · exact ⟨A, cap, [], rfl, Nat.zero_le _, fun h => absurd h (by simp)⟩
  · obtain ⟨b, off, rfl, hb, he⟩ := hi h0
    obtain ⟨f, hf⟩ := choose_lt (p := fun i (s : St) => w.cell? ⟨b, off + i * 3, none⟩ = some (.int .i64 s.dx) ∧ w.cell? ⟨b, off + i * 3 + 1, none⟩ = some (.int .i64 s.dy) ∧ w.cell? ⟨b, off + i * 3 + 2, none⟩ = some (.int .i64 s.far)) (n := len) (fun i hi' => by
      obtain ⟨cs', m, y, _, hat, ht⟩ := he i hi'
      obtain ⟨s, rfl⟩ := rd_man ht
      exact ⟨s, hat 0 (by omega), hat 1 (by omega), hat 2 (by omega)⟩)
    refine ⟨_, cap, (List.range len).map f, by simp, by simp; omega, fun _ => ⟨b, off, rfl, hb, fun i hi' => ?_⟩⟩
    have hi2 : i < len := by simpa using hi'
    unfold stAt
    rw [map_range_getD f len i _ hi2]
    exact hf i hi2
theorem rd_pos {fuel : Nat} {cs : List Value} {x : DataW H × List MemPlace} (h : DataW.trod enc Tryz.prog w 0 (fun _ => true) true fuel 51 cs = some x) :
    ∃ t A cap, ∃ l : List St, cs = [.int .i64 t, .slice A l.length cap] ∧ l.length ≤ maxLen ∧ (Lit.int .i64 t).wf = true ∧ IsSteps w w.heap.size A l := by
  obtain ⟨c0, c1, y0, y1, m, rfl, h0, h1⟩ := rd2 Tryz.underlying51 (by kernel_rfl) cPos h
  obtain ⟨a, rfl, hwf⟩ := rd_int Tryz.underlying3 h0
  obtain ⟨A, cap, l, rfl, hl, hs⟩ := rd_men h1
  exact ⟨a, A, cap, l, rfl, hl, hwf, hs⟩
/-- an argument of the type laws.Pos -/
theorem open_pos {v : Value} {d : DataW H} {p : List MemPlace} {b0 : Nat} (hv : Value.okWide Tryz.prog w .any b0 51 v) (h : DataW.Trod enc Tryz.prog w 0 (fun _ => true) true 51 v d p) :
    ∃ t A cap, ∃ l : List St, v = .agg #[.int .i64 t, .slice A l.length cap] ∧ l.length ≤ maxLen ∧ (Lit.int .i64 t).wf = true ∧ IsSteps w w.heap.size A l := by
  obtain ⟨cs, rfl, hsz⟩ := okWide_struct Tryz.underlying51 hv
  obtain ⟨fuel, hf⟩ := h
  obtain ⟨t, A, cap, l, hcs, hl, hwf, hs⟩ := rd_pos (cs := cs.toList) (by simpa [Value.cells] using hf)
  exact ⟨t, A, cap, l, by rw [← Array.toArray_toList (xs := cs), hcs], hl, hwf, hs⟩
end
end Go.Proofs.YtmfcgikfgikbfaaGreatDoor.Opn

namespace Go.Proofs.YtmfcgikfgikbfaaGreatDoor.Laws
open Go.ChangeShapes Go.WideShapes Go.ChangeAt Go.RowKit Base Sq Ko Opn
set_option linter.unusedVariables false
set_option maxRecDepth 20000

set_option maxHeartbeats 16000000 in
theorem fnExactBestMoves_walk {H : Type} {enc : TypeId × Value → H} {b0 : Nat} {d0 : DataW H} {pl0 : List MemPlace} {d1 : DataW H} {pl1 : List MemPlace} {d2 : DataW H} {pl2 : List MemPlace} {d3 : DataW H} {pl3 : List MemPlace} (w : World)
    (v0 : Value) (hv0 : Value.okWide Tryz.prog w .any b0 24 v0) (h0 : DataW.Trod enc Tryz.prog w 0 (fun _ => true) true 24 v0 d0 pl0)
    (v1 : Value) (hv1 : Value.okWide Tryz.prog w .any b0 25 v1) (h1 : DataW.Trod enc Tryz.prog w 0 (fun _ => true) true 25 v1 d1 pl1)
    (v2 : Value) (hv2 : Value.okWide Tryz.prog w .any b0 28 v2) (h2 : DataW.Trod enc Tryz.prog w 0 (fun _ => true) true 28 v2 d2 pl2)
    (v3 : Value) (hv3 : Value.okWide Tryz.prog w .any b0 51 v3) (h3 : DataW.Trod enc Tryz.prog w 0 (fun _ => true) true 51 v3 d3 pl3) (hT : TabAt w) :
    Calls Tryz.prog 5 #[v0, v1, v2, v3] w fun e w' => e = .returned (.bool true) ∧ Below w.heap.size w w' := by
  obtain ⟨sd0, A0, c0, ks0, rfl, hl0, hs0⟩ := open_rules hv0 h0
  obtain ⟨A1, c1, m1, rfl, hn1, hs1⟩ := open_pieces hv1 h1
  obtain ⟨A2, c2, z2, rfl, hn2, _, hs2⟩ := open_nums hv2 h2
  obtain ⟨t3, A3, c3, l3, rfl, hn3, _, hs3⟩ := open_pos hv3 h3
  clear hv0 h0 hv1 h1 hv2 h2 hv3 h3
  have HT := Lib.hid hT
  have hT0 := hT.lt
  clear hT
  unfold maxLen at hn1
  unfold maxLen at hn2
  unfold maxLen at hn3
  by_cases hbig2 : (1048576 : Int) < (z2.length : Int)
  · go_enter Tryz.func5, Tryz.ntmps5
    go_wp2_with fail
    go_ret
    exact ⟨rfl, (by repeat (first | exact Below.refl _ _ | assumption | (refine Below.alloc ?_ (by first | omega | (simp; done) | (simp; omega)) _) | (refine Below.setCell ?_ (by first | omega | (simp; done) | (simp; omega)) _) | refine Below.drew ?_))⟩
  have hl2 : z2.length ≤ 1048576 := by omega
  go_enter Tryz.func5, Tryz.ntmps5
  go_wp2_with fail
  clear hbig2
  have hW0 : Below w.heap.size w ((w.alloc (.cells #[.int .i64 sd0, .slice A0 ks0.length c0] 24)).alloc (.cells #[.int .i64 t3, .slice A3 l3.length c3] 51)) := (by repeat (first | exact Below.refl _ _ | assumption | (refine Below.alloc ?_ (by first | omega | (simp; done) | (simp; omega)) _) | (refine Below.setCell ?_ (by first | omega | (simp; done) | (simp; omega)) _) | refine Below.drew ?_))
  have pB0_0 := (Blk.new w #[.int .i64 sd0, .slice A0 ks0.length c0] 24).alloc (.cells #[.int .i64 t3, .slice A3 l3.length c3] 51)
  have pB3_0 := (Blk.new (w.alloc (.cells #[.int .i64 sd0, .slice A0 ks0.length c0] 24)) #[.int .i64 t3, .slice A3 l3.length c3] 51)
  simp only [World.size_alloc] at pB3_0
  generalize hWx : ((w.alloc _).alloc _) = W0 at *
  clear hWx
  have HO0 := Lib.hid hs0
  clear hs0
  have HO1 := Lib.hid hs1
  clear hs1
  have HO2 := Lib.hid hs2
  clear hs2
  have HO3 := Lib.hid hs3
  clear hs3
  refine (szRules_any _ _ _ _ _ _ ((HO0.out.below hW0).more hW0.size) hl0 (by omega) (by omega)).mono ?_
  rintro e w10 ⟨lf0, rfl, hle0, hor0, hb⟩
  clear hl0
  have pB0_1 := pB0_0.below hb pB0_0.lt
  have pB3_1 := pB3_0.below hb pB3_0.lt
  have hW_1 := hW0.trans (hb.mono hW0.size)
  clear pB0_0 pB3_0 hW0
  clear hb
  rcases hor0 with rfl | ⟨hnn0, hsm0⟩
  · go_wp2_with fail
    go_ret
    exact ⟨rfl, hW_1⟩
  have HSM0 := Lib.hid hsm0
  clear hsm0
  obtain ⟨⟨a00, a01⟩, _⟩ := pB0_1.at2
  obtain ⟨⟨a30, a31⟩, _⟩ := pB3_1.at2
  by_cases hbig : lf0 - (m1.length : Int) < 0
  · have HN := Lib.hid hbig
    clear hbig
    go_wp2_with fail
    refine (szPieceS_any _ _ _ _ _ (by omega) hnn0 hle0).mono ?_
    rw [if_pos (by have := HN.out; omega)]
    rintro e w2 ⟨rfl, rfl⟩
    go_wp2_with fail
    go_ret
    exact ⟨rfl, hW_1⟩
  have hl1 : m1.length ≤ 1048576 := by omega
  have HN := Lib.hid hbig
  clear hbig
  go_wp2_with fail
  refine (szPieceS_any _ _ _ _ _ (by omega) hnn0 hle0).mono ?_
  rw [if_neg (by have := HN.out; omega)]
  rintro e w2 ⟨rfl, rfl⟩
  have hnn1 : 0 ≤ lf0 - (m1.length : Int) := by have := HN.out; omega
  have hle1 : lf0 - (m1.length : Int) ≤ 1048576 := by omega
  generalize hvm : lf0 - (m1.length : Int) = lf1 at *
  clear hvm HN
  by_cases hbig : lf1 - (l3.length : Int) < 0
  · have HN := Lib.hid hbig
    clear hbig
    go_wp2_with fail
    refine (szPos_any _ _ _ _ _ _ (by omega) hnn1 hle1).mono ?_
    rw [if_pos (by have := HN.out; omega)]
    rintro e w2 ⟨rfl, hb2⟩
    go_wp2_with fail
    go_ret
    exact ⟨rfl, hW_1.trans (hb2.mono hW_1.size)⟩
  have hl3 : l3.length ≤ 1048576 := by omega
  have HN := Lib.hid hbig
  clear hbig
  go_wp2_with fail
  refine (szPos_any _ _ _ _ _ _ (by omega) hnn1 hle1).mono ?_
  rw [if_neg (by have := HN.out; omega)]
  rintro e w13 ⟨rfl, hb⟩
  clear a00 a01 a30 a31
  have pB0_2 := pB0_1.below hb pB0_1.lt
  have pB3_2 := pB3_1.below hb pB3_1.lt
  have hW_2 := hW_1.trans (hb.mono hW_1.size)
  clear pB0_1 pB3_1 hW_1
  clear hb
  obtain ⟨⟨a00, a01⟩, _⟩ := pB0_2.at2
  obtain ⟨⟨a30, a31⟩, _⟩ := pB3_2.at2
  have hnn3 : 0 ≤ lf1 - (l3.length : Int) := by have := HN.out; omega
  have hle3 : lf1 - (l3.length : Int) ≤ 1048576 := by omega
  generalize hvm : lf1 - (l3.length : Int) = lf3 at *
  clear hvm HN
  go_wp2_with fail
  have hlenL : (bestL sd0 ks0 m1 z2 t3 l3).length ≤ 1048576 := bestL_len sd0 ks0 m1 z2 t3 l3
  obtain ⟨LL, hLL⟩ : ∃ LL, LL = bestL sd0 ks0 m1 z2 t3 l3 := ⟨_, rfl⟩
  rw [← hLL] at hlenL
  have HLL := Lib.hid hLL
  clear hLL
  have hz_w0 := hW_2.size
  have hz_b0 := pB0_2.lt
  have hz_b3 := pB3_2.lt
  clear a00 a01 a30 a31
  obtain ⟨⟨z_pB00, z_pB01⟩, _⟩ := pB0_2.at2
  obtain ⟨⟨z_pB30, z_pB31⟩, _⟩ := pB3_2.at2
  clear z_pB00 z_pB01 z_pB30 z_pB31
  -- the model's
  have hO0 := ((HO0.out.below hW_2).more hW_2.size)
  have hO1 := ((HO1.out.below hW_2).more hW_2.size)
  have hO2 := ((HO2.out.below hW_2).more hW_2.size)
  have hO3 := ((HO3.out.below hW_2).more hW_2.size)
  go_cut [10] from 38 (fun sx wx => ∃ (Aw : Option Addr) (cw : Nat), sx = .slice Aw LL.length cw ∧ MvA w13.heap.size wx.heap.size wx Aw LL ∧ Below w13.heap.size w13 wx)
  case first =>
    have HS : Hid (∀ w', Below w13.heap.size w13 w' → (w'.cell? ⟨w.heap.size, 0, none⟩ = some (.int .i64 sd0) ∧ w'.cell? ⟨w.heap.size, 1, none⟩ = some (.slice A0 ks0.length c0) ∧ w'.cell? ⟨w.heap.size + 1, 0, none⟩ = some (.int .i64 t3) ∧ w'.cell? ⟨w.heap.size + 1, 1, none⟩ = some (.slice A3 l3.length c3))) := Lib.hid (fun w' hb => by
      obtain ⟨⟨e00, e01⟩, _⟩ := (pB0_2.below hb pB0_2.lt).at2
      obtain ⟨⟨e10, e11⟩, _⟩ := (pB3_2.below hb pB3_2.lt).at2
      exact ⟨e00, e01, e10, e11⟩)
    have hw : Below w13.heap.size w13 w13.drew := (Below.refl _ _).drew
    go_region_held3 (fun w' => w'.cell? ⟨w.heap.size, 0, none⟩ = some (.int .i64 sd0) ∧ w'.cell? ⟨w.heap.size, 1, none⟩ = some (.slice A0 ks0.length c0) ∧ w'.cell? ⟨w.heap.size + 1, 0, none⟩ = some (.int .i64 t3) ∧ w'.cell? ⟨w.heap.size + 1, 1, none⟩ = some (.slice A3 l3.length c3))
      (exact HS.out _ hw)
      (first
        | (go_at_call 9; refine (toRules_any _ _ _ _ _ ((hO0.below hw).more hw.size) HSM0.out).mono ?_; rintro e wn0 ⟨gn0, cn0, rfl, hN0, hbn0⟩; have hw := hw.trans (hbn0.mono hw.size); try (have hN1 := hN1.below hbn0); try (have hN2 := hN2.below hbn0); try (have hN3 := hN3.below hbn0))
        | (go_at_call 10; refine (toPieceS_any _ _ _ _ ((hO1.below hw).more hw.size) hl1).mono ?_; rintro e wn1 ⟨gn1, cn1, rfl, hN1, hbn1⟩; have hw := hw.trans (hbn1.mono hw.size); try (have hN0 := hN0.below hbn1); try (have hN2 := hN2.below hbn1); try (have hN3 := hN3.below hbn1))
        | (go_at_call 26; refine (toIntS_any _ _ _ _ ((hO2.below hw).more hw.size) hl2).mono ?_; rintro e wn2 ⟨gn2, cn2, rfl, hN2, hbn2⟩; have hw := hw.trans (hbn2.mono hw.size); try (have hN0 := hN0.below hbn2); try (have hN1 := hN1.below hbn2); try (have hN3 := hN3.below hbn2))
        | (go_at_call 27; refine (toPos_any _ _ _ _ _ ((hO3.below hw).more hw.size) hl3).mono ?_; rintro e wn3 ⟨gn3, cn3, rfl, hN3, hbn3⟩; have hw := hw.trans (hbn3.mono hw.size); try (have hN0 := hN0.below hbn3); try (have hN1 := hN1.below hbn3); try (have hN2 := hN2.below hbn3))
        | (go_at_call 25; refine (specBestMoves_any _ _ _ _ _ _ _ _ _ _ _ _ _ _ _ hN0.is hN1.is hN2.is hN3.is HSM0.out hl1 hl2 hl3).mono ?_; rw [← HLL.out]; rintro e wsp ⟨Aw, cw, rfl, hIw, hbs⟩; have hwq := hw.size; have hw := hw.trans (hbs.mono hw.size)))
    all_goals
      go_wp2_with fail
      go_meet
      exact ⟨_, _, rfl, hIw.more hwq (Nat.le_refl _), hw⟩
  clear hO0 hO1 hO2 hO3
  obtain ⟨Afs, cfs, rfl, hIx, hb⟩ := hcut
  have pB0_3 := pB0_2.below hb pB0_2.lt
  have pB3_3 := pB3_2.below hb pB3_2.lt
  have hW_3 := hW_2.trans (hb.mono hW_2.size)
  have hz_3 := hb.size
  clear pB0_2 pB3_2 hW_2
  have Is_3 := hIx
  clear hIx hb
  obtain ⟨⟨z_pB00, z_pB01⟩, _⟩ := pB0_3.at2
  obtain ⟨⟨z_pB30, z_pB31⟩, _⟩ := pB3_3.at2
  go_wp2_with fail
  clear z_pB00 z_pB01 z_pB30 z_pB31
  refine (toRules_any _ _ _ _ _ ((HO0.out.below hW_3).more hW_3.size) HSM0.out).mono ?_
  rintro e wr0 ⟨gr0, cr0, rfl, hNx, hb⟩
  have hXx := Blk.new wr0 #[.int .i64 sd0, .slice (some ⟨gr0, 0, none⟩) ks0.length cr0] 34
  have hA := below_of wr0 (.cells #[.int .i64 sd0, .slice (some ⟨gr0, 0, none⟩) ks0.length cr0] 34)
  have hbA := hb.trans (hA.mono hb.size)
  have hs_xr0 : (wr0.alloc (.cells #[.int .i64 sd0, .slice (some ⟨gr0, 0, none⟩) ks0.length cr0] 34)).heap.size = wr0.heap.size + 1 := by simp
  have hq_xr0 := hb.size
  have n_hn0 := hNx.below hA
  have n_KS := hNx.shape.below hA
  have lt_pB0 := (pB0_3.below hb pB0_3.lt).lt
  obtain ⟨⟨y_pB00, y_pB01⟩, _⟩ := (pB0_3.below hb pB0_3.lt).at2
  have lt_pB3 := (pB3_3.below hb pB3_3.lt).lt
  obtain ⟨⟨y_pB30, y_pB31⟩, _⟩ := (pB3_3.below hb pB3_3.lt).at2
  have pB0_4 := pB0_3.below hbA pB0_3.lt
  have pB3_4 := pB3_3.below hbA pB3_3.lt
  have hW_4 := hW_3.trans (hbA.mono hW_3.size)
  have Is_4 := Is_3.below (hbA.mono (by omega))
  have hz_4 := hbA.size
  clear pB0_3 pB3_3 hW_3 Is_3
  have hn0_4 := n_hn0
  clear n_hn0
  have KS_4 := n_KS
  clear n_KS
  have pxr0_4 := hXx
  clear hXx
  obtain ⟨⟨z_pB00, z_pB01⟩, _⟩ := pB0_4.at2
  obtain ⟨⟨z_pB30, z_pB31⟩, _⟩ := pB3_4.at2
  obtain ⟨⟨z_pxr00, z_pxr01⟩, _⟩ := pxr0_4.at2
  go_wp2_with fail
  generalize hZx : wr0.alloc _ = Wr0 at *
  generalize hzx : wr0.heap.size = xr0 at *
  clear hZx hzx hb hA hbA
  clear y_pB00 y_pB01 y_pB30 y_pB31 z_pB00 z_pB01 z_pB30 z_pB31 z_pxr00 z_pxr01 lt_pB0 lt_pB3
  clear hNx
  refine (toPieceS_any _ _ _ _ ((HO1.out.below hW_4).more hW_4.size) hl1).mono ?_
  rintro e wr1 ⟨gr1, cr1, rfl, hNx, hb⟩
  have hgr1 := hNx.lt
  have hgq1 : _ ≤ gr1 := (by obtain ⟨_, hh, _⟩ := hNx; exact hh)
  have pB0_5 := pB0_4.below hb pB0_4.lt
  have pB3_5 := pB3_4.below hb pB3_4.lt
  have hW_5 := hW_4.trans (hb.mono hW_4.size)
  have Is_5 := Is_4.below (hb.mono (by omega))
  have hn0_5 := hn0_4.below hb
  have KS_5 := KS_4.below (hb.mono (by omega))
  have pxr0_5 := pxr0_4.below hb pxr0_4.lt
  have hz_5 := hb.size
  clear pB0_4 pB3_4 hW_4 Is_4 hn0_4 KS_4 pxr0_4
  have hn1_5 := hNx
  have MB_5 := hNx.big
  clear hNx hb
  obtain ⟨⟨z_pB00, z_pB01⟩, _⟩ := pB0_5.at2
  obtain ⟨⟨z_pB30, z_pB31⟩, _⟩ := pB3_5.at2
  obtain ⟨⟨z_pxr00, z_pxr01⟩, _⟩ := pxr0_5.at2
  go_wp2_with fail
  clear z_pB00 z_pB01 z_pB30 z_pB31 z_pxr00 z_pxr01
  refine (toIntS_any _ _ _ _ ((HO2.out.below hW_5).more hW_5.size) hl2).mono ?_
  rintro e wr2 ⟨gr2, cr2, rfl, hNx, hb⟩
  have hgr2 := hNx.lt
  have hgq2 : _ ≤ gr2 := (by obtain ⟨_, hh, _⟩ := hNx; exact hh)
  have hIZ : NewInts gr2 (gr2 + 1) wr2 (some ⟨gr2, 0, none⟩) z2 := fun _ => by
    obtain ⟨cs, _, hbk, hsz, hin⟩ := hNx
    exact ⟨gr2, cs, rfl, Nat.le_refl _, Nat.lt_succ_self _, hbk, Nat.le_of_eq hsz.symm, hin⟩
  have pB0_6 := pB0_5.below hb pB0_5.lt
  have pB3_6 := pB3_5.below hb pB3_5.lt
  have hW_6 := hW_5.trans (hb.mono hW_5.size)
  have Is_6 := Is_5.below (hb.mono (by omega))
  have hn0_6 := hn0_5.below hb
  have KS_6 := KS_5.below (hb.mono (by omega))
  have pxr0_6 := pxr0_5.below hb pxr0_5.lt
  have hn1_6 := hn1_5.below hb
  have MB_6 := MB_5.below hb MB_5.lt
  have hz_6 := hb.size
  clear pB0_5 pB3_5 hW_5 Is_5 hn0_5 KS_5 pxr0_5 hn1_5 MB_5
  have hn2_6 := hNx
  have IZ_6 := hIZ
  clear hIZ
  clear hNx hb
  obtain ⟨⟨z_pB00, z_pB01⟩, _⟩ := pB0_6.at2
  obtain ⟨⟨z_pB30, z_pB31⟩, _⟩ := pB3_6.at2
  obtain ⟨⟨z_pxr00, z_pxr01⟩, _⟩ := pxr0_6.at2
  go_wp2_with fail
  clear z_pB00 z_pB01 z_pB30 z_pB31 z_pxr00 z_pxr01
  refine (toPos_any _ _ _ _ _ ((HO3.out.below hW_6).more hW_6.size) hl3).mono ?_
  rintro e wr3 ⟨gr3, cr3, rfl, hNx, hb⟩
  have hgr3 := hNx.lt
  have hgq3 : _ ≤ gr3 := (by obtain ⟨_, hh, _⟩ := hNx; exact hh)
  have hXx := Blk.new wr3 #[.int .i64 t3, .slice (some ⟨gr3, 0, none⟩) l3.length cr3] 58
  have hA := below_of wr3 (.cells #[.int .i64 t3, .slice (some ⟨gr3, 0, none⟩) l3.length cr3] 58)
  have hbA := hb.trans (hA.mono hb.size)
  have hs_xr3 : (wr3.alloc (.cells #[.int .i64 t3, .slice (some ⟨gr3, 0, none⟩) l3.length cr3] 58)).heap.size = wr3.heap.size + 1 := by simp
  have hq_xr3 := hb.size
  have n_hn3 := hNx.below hA
  have n_MP := hNx.big.below hA hNx.lt
  have lt_pB0 := (pB0_6.below hb pB0_6.lt).lt
  obtain ⟨⟨y_pB00, y_pB01⟩, _⟩ := (pB0_6.below hb pB0_6.lt).at2
  have lt_pB3 := (pB3_6.below hb pB3_6.lt).lt
  obtain ⟨⟨y_pB30, y_pB31⟩, _⟩ := (pB3_6.below hb pB3_6.lt).at2
  have lt_pxr0 := (pxr0_6.below hb pxr0_6.lt).lt
  obtain ⟨⟨y_pxr00, y_pxr01⟩, _⟩ := (pxr0_6.below hb pxr0_6.lt).at2
  have pB0_7 := pB0_6.below hbA pB0_6.lt
  have pB3_7 := pB3_6.below hbA pB3_6.lt
  have hW_7 := hW_6.trans (hbA.mono hW_6.size)
  have Is_7 := Is_6.below (hbA.mono (by omega))
  have hn0_7 := hn0_6.below hbA
  have KS_7 := KS_6.below (hbA.mono (by omega))
  have pxr0_7 := pxr0_6.below hbA pxr0_6.lt
  have hn1_7 := hn1_6.below hbA
  have MB_7 := MB_6.below hbA MB_6.lt
  have hn2_7 := hn2_6.below hbA
  have IZ_7 := IZ_6.below (hbA.mono (by omega))
  have hz_7 := hbA.size
  clear pB0_6 pB3_6 hW_6 Is_6 hn0_6 KS_6 pxr0_6 hn1_6 MB_6 hn2_6 IZ_6
  have hn3_7 := n_hn3
  clear n_hn3
  have MP_7 := n_MP
  clear n_MP
  have pxr3_7 := hXx
  clear hXx
  obtain ⟨⟨z_pB00, z_pB01⟩, _⟩ := pB0_7.at2
  obtain ⟨⟨z_pB30, z_pB31⟩, _⟩ := pB3_7.at2
  obtain ⟨⟨z_pxr00, z_pxr01⟩, _⟩ := pxr0_7.at2
  obtain ⟨⟨z_pxr30, z_pxr31⟩, _⟩ := pxr3_7.at2
  go_wp2_with fail
  generalize hZx : wr3.alloc _ = Wr3 at *
  generalize hzx : wr3.heap.size = xr3 at *
  clear hZx hzx hb hA hbA
  clear y_pB00 y_pB01 y_pB30 y_pB31 y_pxr00 y_pxr01 z_pB00 z_pB01 z_pB30 z_pB31 z_pxr00 z_pxr01 z_pxr30 z_pxr31 lt_pB0 lt_pB3 lt_pxr0
  clear hNx
  refine (BestMoves_any _ _ _ _ _ _ _ _ _ _ _ _ _ _ _ hn0_7.is hn1_7.is hn2_7.is hn3_7.is (HT.out.below hW_7 hT0) HSM0.out hl1 hl2 hl3).mono ?_
  rw [← HLL.out]
  rintro e wfg ⟨Afg, cfg, rfl, hIx, hb⟩
  have pB0_8 := pB0_7.below hb pB0_7.lt
  have pB3_8 := pB3_7.below hb pB3_7.lt
  have hW_8 := hW_7.trans (hb.mono hW_7.size)
  have Is_8 := Is_7.below (hb.mono (by omega))
  have hn0_8 := hn0_7.below hb
  have KS_8 := KS_7.below (hb.mono (by omega))
  have pxr0_8 := pxr0_7.below hb pxr0_7.lt
  have hn1_8 := hn1_7.below hb
  have MB_8 := MB_7.below hb MB_7.lt
  have hn2_8 := hn2_7.below hb
  have IZ_8 := IZ_7.below (hb.mono (by omega))
  have hn3_8 := hn3_7.below hb
  have MP_8 := MP_7.below hb MP_7.lt
  have pxr3_8 := pxr3_7.below hb pxr3_7.lt
  have hz_8 := hb.size
  clear pB0_7 pB3_7 hW_7 Is_7 hn0_7 KS_7 pxr0_7 hn1_7 MB_7 hn2_7 IZ_7 hn3_7 MP_7 pxr3_7
  have Ig_8 := hIx
  clear hIx hb
  obtain ⟨⟨z_pB00, z_pB01⟩, _⟩ := pB0_8.at2
  obtain ⟨⟨z_pB30, z_pB31⟩, _⟩ := pB3_8.at2
  obtain ⟨⟨z_pxr00, z_pxr01⟩, _⟩ := pxr0_8.at2
  obtain ⟨⟨z_pxr30, z_pxr31⟩, _⟩ := pxr3_8.at2
  go_wp2_with fail
  clear z_pB00 z_pB01 z_pB30 z_pB31 z_pxr00 z_pxr01 z_pxr30 z_pxr31
  refine (eqMoveS_same _ _ _ _ _ _ (Ig_8.is.more (by omega)) (Is_8.is.more (by omega)) hlenL).mono ?_
  rintro e we1 ⟨rfl, hb⟩
  have pB0_9 := pB0_8.below hb pB0_8.lt
  have pB3_9 := pB3_8.below hb pB3_8.lt
  have hW_9 := hW_8.trans (hb.mono hW_8.size)
  have Is_9 := Is_8.below (hb.mono (by omega))
  have hn0_9 := hn0_8.below hb
  have KS_9 := KS_8.below (hb.mono (by omega))
  have pxr0_9 := pxr0_8.below hb pxr0_8.lt
  have hn1_9 := hn1_8.below hb
  have MB_9 := MB_8.below hb MB_8.lt
  have hn2_9 := hn2_8.below hb
  have IZ_9 := IZ_8.below (hb.mono (by omega))
  have hn3_9 := hn3_8.below hb
  have MP_9 := MP_8.below hb MP_8.lt
  have pxr3_9 := pxr3_8.below hb pxr3_8.lt
  have Ig_9 := Ig_8.below (hb.mono (by omega))
  have hz_9 := hb.size
  clear pB0_8 pB3_8 hW_8 Is_8 hn0_8 KS_8 pxr0_8 hn1_8 MB_8 hn2_8 IZ_8 hn3_8 MP_8 pxr3_8 Ig_8
  clear hb
  obtain ⟨⟨z_pB00, z_pB01⟩, _⟩ := pB0_9.at2
  obtain ⟨⟨z_pB30, z_pB31⟩, _⟩ := pB3_9.at2
  obtain ⟨⟨z_pxr00, z_pxr01⟩, _⟩ := pxr0_9.at2
  obtain ⟨⟨z_pxr30, z_pxr31⟩, _⟩ := pxr3_9.at2
  go_wp2_with fail
  clear z_pB00 z_pB01 z_pB30 z_pB31 z_pxr00 z_pxr01 z_pxr30 z_pxr31
  have HS : Hid (∀ w', Below we1.heap.size we1 w' → (w'.cell? ⟨w.heap.size, 0, none⟩ = some (.int .i64 sd0) ∧ w'.cell? ⟨w.heap.size, 1, none⟩ = some (.slice A0 ks0.length c0) ∧ w'.cell? ⟨xr0, 0, none⟩ = some (.int .i64 sd0) ∧ w'.cell? ⟨xr0, 1, none⟩ = some (.slice (some ⟨gr0, 0, none⟩) ks0.length cr0))) := Lib.hid (fun w' hb => by
    obtain ⟨⟨e00, e01⟩, _⟩ := (pB0_9.below hb pB0_9.lt).at2
    obtain ⟨⟨e10, e11⟩, _⟩ := (pxr0_9.below hb pxr0_9.lt).at2
    exact ⟨e00, e01, e10, e11⟩)
  have hw : Below we1.heap.size we1 we1.drew := (Below.refl _ _).drew
  have hO := ((HO0.out.below hW_9).more hW_9.size)
  have hNk := hn0_9
  go_region_held3 (fun w' => w'.cell? ⟨w.heap.size, 0, none⟩ = some (.int .i64 sd0) ∧ w'.cell? ⟨w.heap.size, 1, none⟩ = some (.slice A0 ks0.length c0) ∧ w'.cell? ⟨xr0, 0, none⟩ = some (.int .i64 sd0) ∧ w'.cell? ⟨xr0, 1, none⟩ = some (.slice (some ⟨gr0, 0, none⟩) ks0.length cr0))
    (exact HS.out _ hw)
    (first
      | (go_at_call 9; refine (toRules_any _ _ _ _ _ ((hO.below hw).more hw.size) HSM0.out).mono ?_; rintro e wa0 ⟨ga, ca, rfl, hna, hba⟩; have hw := hw.trans (hba.mono hw.size))
      | (go_at_call 13; refine (eqRules_same _ _ _ _ _ _ _ (hNk.below hw).is hna.is HSM0.out).mono ?_; rintro e wq0 ⟨rfl, hbb⟩; have hw := hw.trans (hbb.mono hw.size)))
  clear HS hO hNk hna
  have pB0_10 := pB0_9.below hw pB0_9.lt
  have pB3_10 := pB3_9.below hw pB3_9.lt
  have hW_10 := hW_9.trans (hw.mono hW_9.size)
  have Is_10 := Is_9.below (hw.mono (by omega))
  have KS_10 := KS_9.below (hw.mono (by omega))
  have pxr0_10 := pxr0_9.below hw pxr0_9.lt
  have hn1_10 := hn1_9.below hw
  have MB_10 := MB_9.below hw MB_9.lt
  have hn2_10 := hn2_9.below hw
  have IZ_10 := IZ_9.below (hw.mono (by omega))
  have hn3_10 := hn3_9.below hw
  have MP_10 := MP_9.below hw MP_9.lt
  have pxr3_10 := pxr3_9.below hw pxr3_9.lt
  have Ig_10 := Ig_9.below (hw.mono (by omega))
  have hz_10 := hw.size
  clear pB0_9 pB3_9 hW_9 Is_9 hn0_9 KS_9 pxr0_9 hn1_9 MB_9 hn2_9 IZ_9 hn3_9 MP_9 pxr3_9 Ig_9
  clear hw
  obtain ⟨⟨z_pB00, z_pB01⟩, _⟩ := pB0_10.at2
  obtain ⟨⟨z_pB30, z_pB31⟩, _⟩ := pB3_10.at2
  obtain ⟨⟨z_pxr00, z_pxr01⟩, _⟩ := pxr0_10.at2
  obtain ⟨⟨z_pxr30, z_pxr31⟩, _⟩ := pxr3_10.at2
  go_wp2_with fail
  clear z_pB00 z_pB01 z_pB30 z_pB31 z_pxr00 z_pxr01 z_pxr30 z_pxr31
  refine (toPieceS_any _ _ _ _ ((HO1.out.below hW_10).more hW_10.size) hl1).mono ?_
  rintro e wa1 ⟨ga, ca, rfl, hna, hba⟩
  have hNk := hn1_10.below hba
  go_wp2_with fail
  refine (eqPieceS_same _ _ _ _ _ _ hNk.is hna.is hl1).mono ?_
  rintro e wq1 ⟨rfl, hbb⟩
  have hb := hba.trans (hbb.mono hba.size)
  clear hba hbb hna hNk
  have pB0_11 := pB0_10.below hb pB0_10.lt
  have pB3_11 := pB3_10.below hb pB3_10.lt
  have hW_11 := hW_10.trans (hb.mono hW_10.size)
  have Is_11 := Is_10.below (hb.mono (by omega))
  have KS_11 := KS_10.below (hb.mono (by omega))
  have pxr0_11 := pxr0_10.below hb pxr0_10.lt
  have MB_11 := MB_10.below hb MB_10.lt
  have hn2_11 := hn2_10.below hb
  have IZ_11 := IZ_10.below (hb.mono (by omega))
  have hn3_11 := hn3_10.below hb
  have MP_11 := MP_10.below hb MP_10.lt
  have pxr3_11 := pxr3_10.below hb pxr3_10.lt
  have Ig_11 := Ig_10.below (hb.mono (by omega))
  have hz_11 := hb.size
  clear pB0_10 pB3_10 hW_10 Is_10 KS_10 pxr0_10 hn1_10 MB_10 hn2_10 IZ_10 hn3_10 MP_10 pxr3_10 Ig_10
  clear hb
  obtain ⟨⟨z_pB00, z_pB01⟩, _⟩ := pB0_11.at2
  obtain ⟨⟨z_pB30, z_pB31⟩, _⟩ := pB3_11.at2
  obtain ⟨⟨z_pxr00, z_pxr01⟩, _⟩ := pxr0_11.at2
  obtain ⟨⟨z_pxr30, z_pxr31⟩, _⟩ := pxr3_11.at2
  go_wp2_with fail
  clear z_pB00 z_pB01 z_pB30 z_pB31 z_pxr00 z_pxr01 z_pxr30 z_pxr31
  refine (toIntS_any _ _ _ _ ((HO2.out.below hW_11).more hW_11.size) hl2).mono ?_
  rintro e wa2 ⟨ga, ca, rfl, hna, hba⟩
  have hNk := hn2_11.below hba
  go_wp2_with fail
  refine (eqIntS_same _ _ _ _ _ _ hNk.is hna.is hl2).mono ?_
  rintro e wq2 ⟨rfl, hbb⟩
  have hb := hba.trans (hbb.mono hba.size)
  clear hba hbb hna hNk
  have pB0_12 := pB0_11.below hb pB0_11.lt
  have pB3_12 := pB3_11.below hb pB3_11.lt
  have hW_12 := hW_11.trans (hb.mono hW_11.size)
  have Is_12 := Is_11.below (hb.mono (by omega))
  have KS_12 := KS_11.below (hb.mono (by omega))
  have pxr0_12 := pxr0_11.below hb pxr0_11.lt
  have MB_12 := MB_11.below hb MB_11.lt
  have IZ_12 := IZ_11.below (hb.mono (by omega))
  have hn3_12 := hn3_11.below hb
  have MP_12 := MP_11.below hb MP_11.lt
  have pxr3_12 := pxr3_11.below hb pxr3_11.lt
  have Ig_12 := Ig_11.below (hb.mono (by omega))
  have hz_12 := hb.size
  clear pB0_11 pB3_11 hW_11 Is_11 KS_11 pxr0_11 MB_11 hn2_11 IZ_11 hn3_11 MP_11 pxr3_11 Ig_11
  clear hb
  obtain ⟨⟨z_pB00, z_pB01⟩, _⟩ := pB0_12.at2
  obtain ⟨⟨z_pB30, z_pB31⟩, _⟩ := pB3_12.at2
  obtain ⟨⟨z_pxr00, z_pxr01⟩, _⟩ := pxr0_12.at2
  obtain ⟨⟨z_pxr30, z_pxr31⟩, _⟩ := pxr3_12.at2
  go_wp2_with fail
  clear z_pB00 z_pB01 z_pB30 z_pB31 z_pxr00 z_pxr01 z_pxr30 z_pxr31
  have HS : Hid (∀ w', Below wq2.heap.size wq2 w' → (w'.cell? ⟨w.heap.size + 1, 0, none⟩ = some (.int .i64 t3) ∧ w'.cell? ⟨w.heap.size + 1, 1, none⟩ = some (.slice A3 l3.length c3) ∧ w'.cell? ⟨xr3, 0, none⟩ = some (.int .i64 t3) ∧ w'.cell? ⟨xr3, 1, none⟩ = some (.slice (some ⟨gr3, 0, none⟩) l3.length cr3))) := Lib.hid (fun w' hb => by
    obtain ⟨⟨e00, e01⟩, _⟩ := (pB3_12.below hb pB3_12.lt).at2
    obtain ⟨⟨e10, e11⟩, _⟩ := (pxr3_12.below hb pxr3_12.lt).at2
    exact ⟨e00, e01, e10, e11⟩)
  have hw : Below wq2.heap.size wq2 wq2.drew := (Below.refl _ _).drew
  have hO := ((HO3.out.below hW_12).more hW_12.size)
  have hNk := hn3_12
  go_region_held3 (fun w' => w'.cell? ⟨w.heap.size + 1, 0, none⟩ = some (.int .i64 t3) ∧ w'.cell? ⟨w.heap.size + 1, 1, none⟩ = some (.slice A3 l3.length c3) ∧ w'.cell? ⟨xr3, 0, none⟩ = some (.int .i64 t3) ∧ w'.cell? ⟨xr3, 1, none⟩ = some (.slice (some ⟨gr3, 0, none⟩) l3.length cr3))
    (exact HS.out _ hw)
    (first
      | (go_at_call 27; refine (toPos_any _ _ _ _ _ ((hO.below hw).more hw.size) hl3).mono ?_; rintro e wa3 ⟨ga, ca, rfl, hna, hba⟩; have hw := hw.trans (hba.mono hw.size))
      | (go_at_call 30; refine (eqPos_same _ _ _ _ _ _ _ (hNk.below hw).is hna.is hl3).mono ?_; rintro e wq3 ⟨rfl, hbb⟩; have hw := hw.trans (hbb.mono hw.size)))
  clear HS hO hNk hna
  have pB0_13 := pB0_12.below hw pB0_12.lt
  have pB3_13 := pB3_12.below hw pB3_12.lt
  have hW_13 := hW_12.trans (hw.mono hW_12.size)
  have Is_13 := Is_12.below (hw.mono (by omega))
  have KS_13 := KS_12.below (hw.mono (by omega))
  have pxr0_13 := pxr0_12.below hw pxr0_12.lt
  have MB_13 := MB_12.below hw MB_12.lt
  have IZ_13 := IZ_12.below (hw.mono (by omega))
  have MP_13 := MP_12.below hw MP_12.lt
  have pxr3_13 := pxr3_12.below hw pxr3_12.lt
  have Ig_13 := Ig_12.below (hw.mono (by omega))
  have hz_13 := hw.size
  clear pB0_12 pB3_12 hW_12 Is_12 KS_12 pxr0_12 MB_12 IZ_12 hn3_12 MP_12 pxr3_12 Ig_12
  clear hw
  obtain ⟨⟨z_pB00, z_pB01⟩, _⟩ := pB0_13.at2
  obtain ⟨⟨z_pB30, z_pB31⟩, _⟩ := pB3_13.at2
  obtain ⟨⟨z_pxr00, z_pxr01⟩, _⟩ := pxr0_13.at2
  obtain ⟨⟨z_pxr30, z_pxr31⟩, _⟩ := pxr3_13.at2
  go_wp2_with fail
  clear z_pB00 z_pB01 z_pB30 z_pB31 z_pxr00 z_pxr01 z_pxr30 z_pxr31
  -- marks
  have lx0 := pxr0_13.lt
  have lx3 := pxr3_13.lt
  refine (markRules_any _ _ _ _ _ _ _ _ KS_13 HSM0.out (by omega) (by omega) (by omega)).mono ?_
  rintro e wk0 ⟨k1, rfl, hk11, hk12, sp⟩
  have pB0_14 := sp.blk pB0_13 (by omega)
  have pB3_14 := sp.blk pB3_13 (by omega)
  have hW_14 := hW_13.trans (sp.toBelow (B := w.heap.size) (by omega) (by omega))
  have Is_14 := Is_13.span sp (by omega)
  have pxr0_14 := sp.blk pxr0_13 (by omega)
  have MB_14 := sp.shape _ _ _ MB_13
  have IZ_14 := IZ_13.span sp (by omega)
  have MP_14 := sp.shape _ _ _ MP_13
  have pxr3_14 := sp.blk pxr3_13 (by omega)
  have Ig_14 := Ig_13.span sp (by omega)
  have hz_14 := sp.size
  clear pB0_13 pB3_13 hW_13 Is_13 KS_13 pxr0_13 MB_13 IZ_13 MP_13 pxr3_13 Ig_13
  clear sp
  obtain ⟨⟨z_pB00, z_pB01⟩, _⟩ := pB0_14.at2
  obtain ⟨⟨z_pB30, z_pB31⟩, _⟩ := pB3_14.at2
  obtain ⟨⟨z_pxr00, z_pxr01⟩, _⟩ := pxr0_14.at2
  obtain ⟨⟨z_pxr30, z_pxr31⟩, _⟩ := pxr3_14.at2
  go_wp2_with fail
  clear z_pB00 z_pB01 z_pB30 z_pB31 z_pxr00 z_pxr01 z_pxr30 z_pxr31
  refine (markPieceS_any _ _ _ _ _ MB_14 hl1 (by omega) (by omega)).mono ?_
  rintro e wk1 ⟨rfl, sp⟩
  have pB0_15 := sp.blk pB0_14 (by omega)
  have pB3_15 := sp.blk pB3_14 (by omega)
  have hW_15 := hW_14.trans (sp.toBelow (B := w.heap.size) (by omega) (by omega))
  have Is_15 := Is_14.span sp (by omega)
  have pxr0_15 := sp.blk pxr0_14 (by omega)
  have IZ_15 := IZ_14.span sp (by omega)
  have MP_15 := sp.shape _ _ _ MP_14
  have pxr3_15 := sp.blk pxr3_14 (by omega)
  have Ig_15 := Ig_14.span sp (by omega)
  have hz_15 := sp.size
  clear pB0_14 pB3_14 hW_14 Is_14 pxr0_14 MB_14 IZ_14 MP_14 pxr3_14 Ig_14
  clear sp
  obtain ⟨⟨z_pB00, z_pB01⟩, _⟩ := pB0_15.at2
  obtain ⟨⟨z_pB30, z_pB31⟩, _⟩ := pB3_15.at2
  obtain ⟨⟨z_pxr00, z_pxr01⟩, _⟩ := pxr0_15.at2
  obtain ⟨⟨z_pxr30, z_pxr31⟩, _⟩ := pxr3_15.at2
  go_wp2_with fail
  clear z_pB00 z_pB01 z_pB30 z_pB31 z_pxr00 z_pxr01 z_pxr30 z_pxr31
  refine (markIntS_any _ _ _ _ _ _ _ IZ_15 hl2 (by omega) (by omega)).mono ?_
  rintro e wk2 ⟨rfl, _, sp⟩
  have pB0_16 := sp.blk pB0_15 (by omega)
  have pB3_16 := sp.blk pB3_15 (by omega)
  have hW_16 := hW_15.trans (sp.toBelow (B := w.heap.size) (by omega) (by omega))
  have Is_16 := Is_15.span sp (by omega)
  have pxr0_16 := sp.blk pxr0_15 (by omega)
  have MP_16 := sp.shape _ _ _ MP_15
  have pxr3_16 := sp.blk pxr3_15 (by omega)
  have Ig_16 := Ig_15.span sp (by omega)
  have hz_16 := sp.size
  clear pB0_15 pB3_15 hW_15 Is_15 pxr0_15 IZ_15 MP_15 pxr3_15 Ig_15
  clear sp
  obtain ⟨⟨z_pB00, z_pB01⟩, _⟩ := pB0_16.at2
  obtain ⟨⟨z_pB30, z_pB31⟩, _⟩ := pB3_16.at2
  obtain ⟨⟨z_pxr00, z_pxr01⟩, _⟩ := pxr0_16.at2
  obtain ⟨⟨z_pxr30, z_pxr31⟩, _⟩ := pxr3_16.at2
  go_wp2_with fail
  clear z_pB00 z_pB01 z_pB30 z_pB31 z_pxr00 z_pxr01 z_pxr30 z_pxr31
  refine (markPos_any gr3 (gr3 + 1) _ _ _ _ _ _ MP_16 (by omega) (by omega) hl3 (by omega) (by omega)).mono ?_
  rintro e wk3 ⟨k2, rfl, hk21, hk22, sp⟩
  have pB0_17 := sp.blk pB0_16 (by omega)
  have pB3_17 := sp.blk pB3_16 (by omega)
  have hW_17 := hW_16.trans (sp.toBelow (B := w.heap.size) (by omega) (by omega))
  have Is_17 := Is_16.span sp (by omega)
  have pxr0_17 := sp.blk pxr0_16 (by omega)
  have pxr3_17 := sp.blk pxr3_16 (by omega)
  have Ig_17 := Ig_16.span sp (by omega)
  have hz_17 := sp.size
  clear pB0_16 pB3_16 hW_16 Is_16 pxr0_16 MP_16 pxr3_16 Ig_16
  clear sp
  have hkn : decide (k2 < 0) = false := decide_eq_false (by omega)
  obtain ⟨⟨z_pB00, z_pB01⟩, _⟩ := pB0_17.at2
  obtain ⟨⟨z_pB30, z_pB31⟩, _⟩ := pB3_17.at2
  obtain ⟨⟨z_pxr00, z_pxr01⟩, _⟩ := pxr0_17.at2
  obtain ⟨⟨z_pxr30, z_pxr31⟩, _⟩ := pxr3_17.at2
  go_wp2_with fail
  clear z_pB00 z_pB01 z_pB30 z_pB31 z_pxr00 z_pxr01 z_pxr30 z_pxr31
  refine (eqMoveS_same _ _ _ _ _ _ (Ig_17.is.more (by omega)) (Is_17.is.more (by omega)) hlenL).mono ?_
  rintro e we2 ⟨rfl, hb⟩
  have pB0_18 := pB0_17.below hb pB0_17.lt
  have pB3_18 := pB3_17.below hb pB3_17.lt
  have hW_18 := hW_17.trans (hb.mono hW_17.size)
  have Is_18 := Is_17.below (hb.mono (by omega))
  have pxr0_18 := pxr0_17.below hb pxr0_17.lt
  have pxr3_18 := pxr3_17.below hb pxr3_17.lt
  have Ig_18 := Ig_17.below (hb.mono (by omega))
  have hz_18 := hb.size
  clear pB0_17 pB3_17 hW_17 Is_17 pxr0_17 pxr3_17 Ig_17
  clear hb
  obtain ⟨⟨z_pB00, z_pB01⟩, _⟩ := pB0_18.at2
  obtain ⟨⟨z_pB30, z_pB31⟩, _⟩ := pB3_18.at2
  obtain ⟨⟨z_pxr00, z_pxr01⟩, _⟩ := pxr0_18.at2
  obtain ⟨⟨z_pxr30, z_pxr31⟩, _⟩ := pxr3_18.at2
  go_wp2_with fail
  clear z_pB00 z_pB01 z_pB30 z_pB31 z_pxr00 z_pxr01 z_pxr30 z_pxr31
  have hln : decide (1 + 2 * (LL.length : Int) < 0) = false := decide_eq_false (by omega)
  refine (markMoveS_any _ _ _ _ _ _ _ Ig_18 hlenL (by omega) (by omega)).mono ?_
  rintro e wo ⟨rfl, hIm, sp⟩
  have pB0_19 := sp.blk pB0_18 (by omega)
  have pB3_19 := sp.blk pB3_18 (by omega)
  have hW_19 := hW_18.trans (sp.toBelow (B := w.heap.size) (by omega) (by omega))
  have Is_19 := Is_18.span sp (by omega)
  have pxr0_19 := sp.blk pxr0_18 (by omega)
  have pxr3_19 := sp.blk pxr3_18 (by omega)
  have hz_19 := sp.size
  clear pB0_18 pB3_18 hW_18 Is_18 pxr0_18 pxr3_18 Ig_18
  have Im_19 := hIm
  clear sp hIm
  obtain ⟨⟨z_pB00, z_pB01⟩, _⟩ := pB0_19.at2
  obtain ⟨⟨z_pB30, z_pB31⟩, _⟩ := pB3_19.at2
  obtain ⟨⟨z_pxr00, z_pxr01⟩, _⟩ := pxr0_19.at2
  obtain ⟨⟨z_pxr30, z_pxr31⟩, _⟩ := pxr3_19.at2
  go_wp2_with fail
  clear z_pB00 z_pB01 z_pB30 z_pB31 z_pxr00 z_pxr01 z_pxr30 z_pxr31
  refine (heldMoveS_any _ _ _ _ _ _ Im_19.is hlenL (by omega) (by omega)).mono ?_
  rintro e wh ⟨rfl, rfl⟩
  obtain ⟨⟨z_pB00, z_pB01⟩, _⟩ := pB0_19.at2
  obtain ⟨⟨z_pB30, z_pB31⟩, _⟩ := pB3_19.at2
  obtain ⟨⟨z_pxr00, z_pxr01⟩, _⟩ := pxr0_19.at2
  obtain ⟨⟨z_pxr30, z_pxr31⟩, _⟩ := pxr3_19.at2
  go_wp2_with fail
  clear z_pB00 z_pB01 z_pB30 z_pB31 z_pxr00 z_pxr01 z_pxr30 z_pxr31
  have hO0 := ((HO0.out.below hW_19).more hW_19.size)
  have hO1 := ((HO1.out.below hW_19).more hW_19.size)
  have hO2 := ((HO2.out.below hW_19).more hW_19.size)
  have hO3 := ((HO3.out.below hW_19).more hW_19.size)
  have HTB := Lib.hid (HT.out.below hW_19 hT0)
  go_cut [19] from 115 (fun sx wx => ∃ (Aw : Option Addr) (cw : Nat), sx = .slice Aw LL.length cw ∧ MvA wo.heap.size wx.heap.size wx Aw LL ∧ Below wo.heap.size wo wx)
  case first =>
    have HS : Hid (∀ w', Below wo.heap.size wo w' → (w'.cell? ⟨w.heap.size, 0, none⟩ = some (.int .i64 sd0) ∧ w'.cell? ⟨w.heap.size, 1, none⟩ = some (.slice A0 ks0.length c0) ∧ w'.cell? ⟨w.heap.size + 1, 0, none⟩ = some (.int .i64 t3) ∧ w'.cell? ⟨w.heap.size + 1, 1, none⟩ = some (.slice A3 l3.length c3))) := Lib.hid (fun w' hb => by
      obtain ⟨⟨e00, e01⟩, _⟩ := (pB0_19.below hb pB0_19.lt).at2
      obtain ⟨⟨e10, e11⟩, _⟩ := (pB3_19.below hb pB3_19.lt).at2
      exact ⟨e00, e01, e10, e11⟩)
    have hw : Below wo.heap.size wo wo.drew := (Below.refl _ _).drew
    go_region_held3 (fun w' => w'.cell? ⟨w.heap.size, 0, none⟩ = some (.int .i64 sd0) ∧ w'.cell? ⟨w.heap.size, 1, none⟩ = some (.slice A0 ks0.length c0) ∧ w'.cell? ⟨w.heap.size + 1, 0, none⟩ = some (.int .i64 t3) ∧ w'.cell? ⟨w.heap.size + 1, 1, none⟩ = some (.slice A3 l3.length c3))
      (exact HS.out _ hw)
      (first
        | (go_at_call 9; refine (toRules_any _ _ _ _ _ ((hO0.below hw).more hw.size) HSM0.out).mono ?_; rintro e wn0 ⟨gn0, cn0, rfl, hN0, hbn0⟩; have hw := hw.trans (hbn0.mono hw.size); try (have hN1 := hN1.below hbn0); try (have hN2 := hN2.below hbn0); try (have hN3 := hN3.below hbn0))
        | (go_at_call 10; refine (toPieceS_any _ _ _ _ ((hO1.below hw).more hw.size) hl1).mono ?_; rintro e wn1 ⟨gn1, cn1, rfl, hN1, hbn1⟩; have hw := hw.trans (hbn1.mono hw.size); try (have hN0 := hN0.below hbn1); try (have hN2 := hN2.below hbn1); try (have hN3 := hN3.below hbn1))
        | (go_at_call 26; refine (toIntS_any _ _ _ _ ((hO2.below hw).more hw.size) hl2).mono ?_; rintro e wn2 ⟨gn2, cn2, rfl, hN2, hbn2⟩; have hw := hw.trans (hbn2.mono hw.size); try (have hN0 := hN0.below hbn2); try (have hN1 := hN1.below hbn2); try (have hN3 := hN3.below hbn2))
        | (go_at_call 27; refine (toPos_any _ _ _ _ _ ((hO3.below hw).more hw.size) hl3).mono ?_; rintro e wn3 ⟨gn3, cn3, rfl, hN3, hbn3⟩; have hw := hw.trans (hbn3.mono hw.size); try (have hN0 := hN0.below hbn3); try (have hN1 := hN1.below hbn3); try (have hN2 := hN2.below hbn3))
        | (go_at_call 28; refine (BestMoves_any _ _ _ _ _ _ _ _ _ _ _ _ _ _ _ hN0.is hN1.is hN2.is hN3.is (HTB.out.keep hw) HSM0.out hl1 hl2 hl3).mono ?_; rw [← HLL.out]; rintro e wsp ⟨Aw, cw, rfl, hIw, hbs⟩; have hwq := hw.size; have hw := hw.trans (hbs.mono hw.size)))
    all_goals
      go_wp2_with fail
      go_meet
      exact ⟨_, _, rfl, hIw.more hwq (Nat.le_refl _), hw⟩
  clear hO0 hO1 hO2 hO3
  obtain ⟨Afh, cfh, rfl, hIx, hb⟩ := hcut
  have pB0_20 := pB0_19.below hb pB0_19.lt
  have pB3_20 := pB3_19.below hb pB3_19.lt
  have hW_20 := hW_19.trans (hb.mono hW_19.size)
  have Is_20 := Is_19.below (hb.mono (by omega))
  have pxr0_20 := pxr0_19.below hb pxr0_19.lt
  have pxr3_20 := pxr3_19.below hb pxr3_19.lt
  have Im_20 := Im_19.below (hb.mono (by omega))
  have hz_20 := hb.size
  clear pB0_19 pB3_19 hW_19 Is_19 pxr0_19 pxr3_19 Im_19
  have Ih_20 := hIx
  clear hIx hb
  obtain ⟨⟨z_pB00, z_pB01⟩, _⟩ := pB0_20.at2
  obtain ⟨⟨z_pB30, z_pB31⟩, _⟩ := pB3_20.at2
  obtain ⟨⟨z_pxr00, z_pxr01⟩, _⟩ := pxr0_20.at2
  obtain ⟨⟨z_pxr30, z_pxr31⟩, _⟩ := pxr3_20.at2
  go_wp2_with fail
  clear z_pB00 z_pB01 z_pB30 z_pB31 z_pxr00 z_pxr01 z_pxr30 z_pxr31
  refine (eqMoveS_same _ _ _ _ _ _ (Ih_20.is.more (by omega)) (Is_20.is.more (by omega)) hlenL).mono ?_
  rintro e we3 ⟨rfl, hb⟩
  have pB0_21 := pB0_20.below hb pB0_20.lt
  have pB3_21 := pB3_20.below hb pB3_20.lt
  have hW_21 := hW_20.trans (hb.mono hW_20.size)
  have Is_21 := Is_20.below (hb.mono (by omega))
  have pxr0_21 := pxr0_20.below hb pxr0_20.lt
  have pxr3_21 := pxr3_20.below hb pxr3_20.lt
  have Im_21 := Im_20.below (hb.mono (by omega))
  have Ih_21 := Ih_20.below (hb.mono (by omega))
  have hz_21 := hb.size
  clear pB0_20 pB3_20 hW_20 Is_20 pxr0_20 pxr3_20 Im_20 Ih_20
  clear hb
  obtain ⟨⟨z_pB00, z_pB01⟩, _⟩ := pB0_21.at2
  obtain ⟨⟨z_pB30, z_pB31⟩, _⟩ := pB3_21.at2
  obtain ⟨⟨z_pxr00, z_pxr01⟩, _⟩ := pxr0_21.at2
  obtain ⟨⟨z_pxr30, z_pxr31⟩, _⟩ := pxr3_21.at2
  go_wp2_with fail
  clear z_pB00 z_pB01 z_pB30 z_pB31 z_pxr00 z_pxr01 z_pxr30 z_pxr31
  refine (heldMoveS_any _ _ _ _ _ _ Im_21.is hlenL (by omega) (by omega)).mono ?_
  rintro e wh ⟨rfl, rfl⟩
  obtain ⟨⟨z_pB00, z_pB01⟩, _⟩ := pB0_21.at2
  obtain ⟨⟨z_pB30, z_pB31⟩, _⟩ := pB3_21.at2
  obtain ⟨⟨z_pxr00, z_pxr01⟩, _⟩ := pxr0_21.at2
  obtain ⟨⟨z_pxr30, z_pxr31⟩, _⟩ := pxr3_21.at2
  go_wp2_with fail
  clear z_pB00 z_pB01 z_pB30 z_pB31 z_pxr00 z_pxr01 z_pxr30 z_pxr31
  go_ret
  exact ⟨rfl, hW_21⟩
end Go.Proofs.YtmfcgikfgikbfaaGreatDoor.Laws

namespace Go.Proofs.YtmfcgikfgikbfaaGreatDoor.fnExactBestMoves
open Go.ChangeShapes Go.WideShapes Go.ChangeAt Go.RowKit Base Laws
open Go.ChangeMaps (open_string shut_string)
set_option linter.unusedVariables false
set_option maxRecDepth 20000
theorem own : ownKnob Tryz.prog.godebug = none := by kernel_rfl
theorem laidOut : laidOutB Tryz.prog = true := by kernel_rfl
abbrev LD := Rows.fnExactBestMovesRow.laid
theorem door_met (os : Os) (args : Array Value) : laidMetH Tryz.prog LD ((World.doorLaid Tryz.prog 4000 os).forCall (fun _ _ => 0) ⟨#[], args, []⟩).memory :=
  laidMetH_of_parts3 (fuel := 8) (laidMet_of_run' 8 (by kernel_rfl) (by kernel_rfl)) (by kernel_rfl) (by kernel_rfl)
set_option maxRecDepth 100000 in
theorem lifted (os : Os) (started : os.Started) (H : Type) (enc : TypeId × Value → H) :
    ReturnsInHanded {} Tryz.checked os 5 .any (fun w args => (Rows.fnExactBestMovesSpec.pre enc Tryz.prog Tryz.f5 [] false w args ∧ laidMetH Tryz.prog LD w) ∧ sizedMet enc Tryz.prog Tryz.f5 (OpenSpec.ofChange Rows.fnExactBestMovesSpec) false w args)
      (Rows.fnExactBestMovesSpec.post enc Tryz.prog Tryz.f5 false true false false) := by
  refine returnsInHanded_of_change_and (C := Tryz.checked) (X := fun w _ => laidMetH Tryz.prog LD w) (fun _ _ _ hh h => h.of_heap hh) own started (by kernel_rfl) Tryz.func5
    (ChangeSpec.witness_shaped (enc := enc) (C := Tryz.checked) (os := os) (X := fun w _ => laidMetH Tryz.prog LD w) false (World.doorLaid Tryz.prog 4000 os) #[.agg #[.int .i64 0, .slice none 0 0], .slice none 0 0, .slice none 0 0, .agg #[.int .i64 0, .slice none 0 0]] 8 rfl (World.shaped_of_RefB (by kernel_rfl) (by kernel_rfl)) (by kernel_rfl) (by kernel_rfl) (by kernel_rfl) (door_met os _)) ?_
  intro W base args ds gs before hval0 hW _ _ hL _
  have hval : ∀ (j : Nat) t v, Tryz.f5.params[j]? = some t → args[j]? = some v → Value.okWide Tryz.prog W .any base t v := hval0
  have hW' := hW
  obtain ⟨p, q, hA0, hV, rfl, hfz, hnd⟩ := hW
  have hA : DataW.TrodAll enc Tryz.prog W 0 (fun _ => true) true Tryz.f5.params.toList args.toList ds p := hA0
  rw [Tryz.params5] at hA hval
  obtain ⟨v0, vs0, d0, ds0, p0, q0, hargs, rfl, rfl, h0, r0⟩ := trodAll_cons hA
  obtain ⟨v1, vs1, d1, ds1, p1, q1, rfl, rfl, rfl, h1, r1⟩ := trodAll_cons r0
  obtain ⟨v2, vs2, d2, ds2, p2, q2, rfl, rfl, rfl, h2, r2⟩ := trodAll_cons r1
  obtain ⟨v3, vs3, d3, ds3, p3, q3, rfl, rfl, rfl, h3, r3⟩ := trodAll_cons r2
  obtain ⟨rfl, rfl, rfl⟩ := trodAll_nil r3
  obtain rfl : args = #[v0, v1, v2, v3] := by cases args; simp_all
  obtain ⟨rfl, rfl⟩ := trodVars_none hV
  have k0 := h0
  have lt0 : ∀ x ∈ p0, x.block < W.heap.size := by obtain ⟨m, hm⟩ := k0; exact DataW.trod_lt m _ _ _ hm
  have k1 := h1
  have lt1 : ∀ x ∈ p1, x.block < W.heap.size := by obtain ⟨m, hm⟩ := k1; exact DataW.trod_lt m _ _ _ hm
  have k2 := h2
  have lt2 : ∀ x ∈ p2, x.block < W.heap.size := by obtain ⟨m, hm⟩ := k2; exact DataW.trod_lt m _ _ _ hm
  have k3 := h3
  have lt3 : ∀ x ∈ p3, x.block < W.heap.size := by obtain ⟨m, hm⟩ := k3; exact DataW.trod_lt m _ _ _ hm
  clear hA0 hval0
  refine (fnExactBestMoves_walk W v0 (hval 0 24 v0 rfl rfl) h0 v1 (hval 1 25 v1 rfl rfl) h1 v2 (hval 2 28 v2 rfl rfl) h2 v3 (hval 3 51 v3 rfl rfl) h3 (Ko.tab_of_laid hL)).mono fun e W' ⟨he, bel⟩ => ?_
  subst he
  exact ⟨_, rfl, _, _, _, [], _, [], hW', trodAll_mk1 (shut_bool Tryz.underlying4 _), (trodAll_cons_mk (Below.trod laidOut (by kernel_rfl) (of_decide_eq_true (by kernel_rfl)) k0 bel lt0) (trodAll_cons_mk (Below.trod laidOut (by kernel_rfl) (of_decide_eq_true (by kernel_rfl)) k1 bel lt1) (trodAll_cons_mk (Below.trod laidOut (by kernel_rfl) (of_decide_eq_true (by kernel_rfl)) k2 bel lt2) (trodAll_cons_mk (Below.trod laidOut (by kernel_rfl) (of_decide_eq_true (by kernel_rfl)) k3 bel lt3) trodAll_mk0)))), rfl, bel.frame _, fun h => by cases h⟩
theorem said : Rows.FnExactBestMovesSaid :=
  OpenClaim.holds_of_wide 5 Tryz.f5 rfl rfl rfl rfl rfl rfl rfl ⟨rfl, rfl, rfl, rfl, rfl⟩ rfl rfl rfl rfl rfl (by kernel_rfl) Tryz.func5 (by kernel_rfl)
    (of_decide_eq_true (by kernel_rfl)) (by unfold Func.isWrapper; first | (rw [if_pos (by decide +kernel)]; kernel_rfl) | (rw [if_neg (by decide +kernel)]; exact ⟨rfl, rfl⟩))
    (fun os started H enc _ => lifted os started H enc)
theorem proved : Rows.FnExactBestMovesCardSaid :=
  Claim7.holds_tied_plain_at .later [] [.data] true (true, Rows.fnExactBestMovesCard.stood.harness.2) false
    said (fun _ h => by cases h) (by kernel_rfl) (fun _ h => by cases h) fnExactBestMoves_row_tie rfl ⟨rfl, rfl⟩ (by kernel_rfl) rfl
    (fun f fn hf hfn => by
      obtain rfl : f = 5 := Option.some.inj ((show Tryz.prog.funcNamed "loop.example/zugzwang/laws.FnExactBestMoves" = some 5 by kernel_rfl).symm.trans hf) |>.symm
      obtain rfl : fn = Tryz.f5 := (Option.some.inj (Tryz.func5.symm.trans hfn)).symm
      exact ⟨by kernel_rfl, fun j t ht => by
        rw [Tryz.params5] at ht
        have hm : t ∈ [24, 25, 28, 51] := by simpa using Array.mem_of_getElem? ht
        have hall : ([24, 25, 28, 51].all fun u => !Tryz.prog.wantsStandIn u) = true := by kernel_rfl
        exact (show Tryz.prog.wantsStandIn t = false by simpa using List.all_eq_true.1 hall t hm)⟩)
    (by kernel_rfl)
end Go.Proofs.YtmfcgikfgikbfaaGreatDoor.fnExactBestMoves
