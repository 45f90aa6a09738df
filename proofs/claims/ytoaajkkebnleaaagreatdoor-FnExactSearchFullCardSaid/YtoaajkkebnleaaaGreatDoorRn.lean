/- The results of a search (no program is named). The search behind a move: the program's bounds.after and search.behind. A search as it visits a position: the program's run. The results of a full search: none is so good that the rest is passed over (no program is named). -/
import Derived.Test.YtoaajkkebnleaaaGreatDoorLv
import Derived.Test.YtoaajkkebnleaaaGreatDoorSo
import Derived.Test.YtoaajkkebnleaaaGreatDoorMdv
import Derived.Deep.LoopGhost
namespace Go.Proofs.YtoaajkkebnleaaaGreatDoor.Ko
open Go.ChangeShapes Go.WideShapes Go.ChangeAt Go.RowKit Base Sq
set_option linter.unusedVariables false
set_option maxRecDepth 20000

/-- the best result and the visited positions behind the first k moves: no move is looked at once the best is hi or more -/
def stepsV (g : Int → Mv → Int × Int) (hi : Int) (ms : List Mv) : Nat → Int × Int
  | 0 => (-200, 1)
  | k + 1 => if (stepsV g hi ms k).1 < hi then (max (stepsV g hi ms k).1 (-(g (stepsV g hi ms k).1 (mvAt ms k)).1), (stepsV g hi ms k).2 + (g (stepsV g hi ms k).1 (mvAt ms k)).2) else stepsV g hi ms k
def loV (pr : Bool) (lo hi : Int) : Int := if pr = true then -hi else lo
def hiV (pr : Bool) (lo hi best : Int) : Int := if pr = true then -(max lo best) else hi
def runV (side : Int) (ks : List Kd) (pr : Bool) : Nat → Int → Int → Int → Int → List St → Int × Int
  | 0, m, _, _, t, l => if stateV side ks t l = 2 then (m - 100, 1) else (0, 1)
  | r + 1, m, lo, hi, t, l => if stateV side ks t l = 2 then (m - 100, 1) else if stateV side ks t l = 3 then (0, 1) else
    stepsV (fun best mv => runV side ks pr r (m + 1) (loV pr lo hi) (hiV pr lo hi best) (1 - t) (nextL l mv)) hi (movesL side ks t l) (movesL side ks t l).length
theorem steps_next {g : Int → Mv → Int × Int} {hi : Int} {ms : List Mv} {k : Nat} (h : (stepsV g hi ms k).1 < hi) : stepsV g hi ms (k + 1) = (max (stepsV g hi ms k).1 (-(g (stepsV g hi ms k).1 (mvAt ms k)).1), (stepsV g hi ms k).2 + (g (stepsV g hi ms k).1 (mvAt ms k)).2) := by
  rw [stepsV, if_pos h]
theorem steps_stop {g : Int → Mv → Int × Int} {hi : Int} {ms : List Mv} {k : Nat} (h : ¬ (stepsV g hi ms k).1 < hi) : ∀ n, k ≤ n → stepsV g hi ms n = stepsV g hi ms k := by
  intro n hn
  induction n with
  | zero => have : k = 0 := by omega
            subst this; rfl
  | succ n ih =>
    by_cases he : k = n + 1
    · subst he; rfl
    · have h1 := ih (by omega)
      rw [stepsV, if_neg (by rw [h1]; exact h), h1]
theorem steps_bd {g : Int → Mv → Int × Int} {hi : Int} {ms : List Mv} {V : Int} (hV : 0 ≤ V) (hg : ∀ m ∈ ms, ∀ best, -200 ≤ best ∧ best ≤ 200 → (-200 ≤ (g best m).1 ∧ (g best m).1 ≤ 200) ∧ 0 ≤ (g best m).2 ∧ (g best m).2 ≤ V) :
    ∀ k, k ≤ ms.length → (-200 ≤ (stepsV g hi ms k).1 ∧ (stepsV g hi ms k).1 ≤ 200) ∧ 1 ≤ (stepsV g hi ms k).2 ∧ (stepsV g hi ms k).2 ≤ 1 + k * V := by
  intro k hk
  induction k with
  | zero => simp [stepsV]
  | succ k ih =>
    obtain ⟨h1, h2, h3⟩ := ih (by omega)
    have e : ((k + 1 : Nat) : Int) * V = (k : Int) * V + V := by rw [Int.natCast_add, Int.add_mul]; simp
    by_cases hc : (stepsV g hi ms k).1 < hi
    · obtain ⟨h4, h5, h6⟩ := hg _ (mvAt_mem (show k < ms.length by omega)) _ h1
      rw [steps_next hc]
      refine ⟨?_, ?_, ?_⟩ <;> simp only [] <;> omega
    · rw [stepsV, if_neg hc]
      exact ⟨h1, h2, by omega⟩
theorem loV_bd {pr : Bool} {lo hi : Int} (h1 : -200 ≤ lo ∧ lo ≤ 200) (h2 : -200 ≤ hi ∧ hi ≤ 200) : -200 ≤ loV pr lo hi ∧ loV pr lo hi ≤ 200 := by unfold loV; split <;> omega
theorem hiV_bd {pr : Bool} {lo hi best : Int} (h1 : -200 ≤ lo ∧ lo ≤ 200) (h2 : -200 ≤ hi ∧ hi ≤ 200) (h3 : -200 ≤ best ∧ best ≤ 200) : -200 ≤ hiV pr lo hi best ∧ hiV pr lo hi best ≤ 200 := by unfold hiV; split <;> omega
theorem run_bd {side : Int} {ks : List Kd} (hs : side = 2 ∨ side = 3 ∨ side = 4) (pr : Bool) : ∀ (r : Nat) (m lo hi t : Int) (l : List St), 0 ≤ m ∧ m + r ≤ 3 → shapeB side ks t l = true →
    (-200 ≤ (runV side ks pr r m lo hi t l).1 ∧ (runV side ks pr r m lo hi t l).1 ≤ 200) ∧ 0 ≤ (runV side ks pr r m lo hi t l).2 ∧ (runV side ks pr r m lo hi t l).2 ≤ 65 ^ r := by
  intro r
  induction r with
  | zero => intro m lo hi t l hm _; unfold runV; split <;> simp <;> omega
  | succ r ih =>
    intro m lo hi t l hm hsh
    have hp : (1 : Int) ≤ 65 ^ (r + 1) := by
      have : (0 : Int) < 65 ^ (r + 1) := Int.pow_pos (by decide)
      omega
    unfold runV
    split
    · simp; omega
    · split
      · simp; omega
      · have h1 := steps_bd (hi := hi) (ms := movesL side ks t l) (V := 65 ^ r) (Int.pow_nonneg (by decide)) (g := fun best mv => runV side ks pr r (m + 1) (loV pr lo hi) (hiV pr lo hi best) (1 - t) (nextL l mv)) (fun mv hmv best _ => by
          obtain ⟨_, _, _, _, _, _, _, h⟩ := move_facts hs hsh hmv
          exact ih _ _ _ _ _ (by omega) h) _ (Nat.le_refl _)
        obtain ⟨h2, h3, h4⟩ := h1
        have h5 := movesL_len (ks := ks) (t := t) hs (shapeB_facts hsh).2.1
        have h6 : ((movesL side ks t l).length : Int) * 65 ^ r ≤ 64 * 65 ^ r := Int.mul_le_mul_of_nonneg_right (by omega) (Int.pow_nonneg (by decide))
        have h7 : (1 : Int) ≤ 65 ^ r := by
          have : (0 : Int) < 65 ^ r := Int.pow_pos (by decide)
          omega
        refine ⟨h2, by omega, ?_⟩
        rw [Int.pow_succ, Int.mul_comm (65 ^ r) 65]
        omega
/-- what is known behind the first k moves, of a depth that is searched -/
theorem run_part {side : Int} {ks : List Kd} (hs : side = 2 ∨ side = 3 ∨ side = 4) (pr : Bool) {r : Nat} {m lo hi t : Int} {l : List St} (hm : 0 ≤ m ∧ m + (r + 1 : Nat) ≤ 3) (hsh : shapeB side ks t l = true) {k : Nat} (hk : k ≤ (movesL side ks t l).length) :
    (-200 ≤ (stepsV (fun best mv => runV side ks pr r (m + 1) (loV pr lo hi) (hiV pr lo hi best) (1 - t) (nextL l mv)) hi (movesL side ks t l) k).1 ∧ (stepsV (fun best mv => runV side ks pr r (m + 1) (loV pr lo hi) (hiV pr lo hi best) (1 - t) (nextL l mv)) hi (movesL side ks t l) k).1 ≤ 200) ∧
      1 ≤ (stepsV (fun best mv => runV side ks pr r (m + 1) (loV pr lo hi) (hiV pr lo hi best) (1 - t) (nextL l mv)) hi (movesL side ks t l) k).2 ∧ (stepsV (fun best mv => runV side ks pr r (m + 1) (loV pr lo hi) (hiV pr lo hi best) (1 - t) (nextL l mv)) hi (movesL side ks t l) k).2 ≤ 100000000 := by
  have h1 := steps_bd (hi := hi) (ms := movesL side ks t l) (V := 274625) (by decide) (g := fun best mv => runV side ks pr r (m + 1) (loV pr lo hi) (hiV pr lo hi best) (1 - t) (nextL l mv)) (fun mv hmv best _ => by
    obtain ⟨_, _, _, _, _, _, _, h⟩ := move_facts hs hsh hmv
    obtain ⟨a, b, c⟩ := run_bd hs pr r (m + 1) (loV pr lo hi) (hiV pr lo hi best) _ _ (by omega) h
    refine ⟨a, b, Int.le_trans c ?_⟩
    have h4 : r = 0 ∨ r = 1 ∨ r = 2 := by omega
    rcases h4 with rfl | rfl | rfl <;> decide) k hk
  have h5 := movesL_len (ks := ks) (t := t) hs (shapeB_facts hsh).2.1
  obtain ⟨a, b, c⟩ := h1
  refine ⟨a, b, Int.le_trans c ?_⟩
  have : (k : Int) * 274625 ≤ 64 * 274625 := Int.mul_le_mul_of_nonneg_right (by omega) (by decide)
  omega
end Go.Proofs.YtoaajkkebnleaaaGreatDoor.Ko

namespace Go.Proofs.YtoaajkkebnleaaaGreatDoor.Ko
open Go.ChangeShapes Go.WideShapes Go.ChangeAt Go.RowKit Base Sq
set_option linter.unusedVariables false
attribute [local irreducible] wpQuiet

theorem _root_.Go.Proofs.YtoaajkkebnleaaaGreatDoor.Base.Blk.at9 {w : World} {b : Nat} {x0 x1 x2 x3 x4 x5 x6 x7 x8 : Value} {T : TypeId} (h : Blk w b #[x0, x1, x2, x3, x4, x5, x6, x7, x8] T) :
    (w.cell? ⟨b, 0, none⟩ = some x0 ∧ w.cell? ⟨b, 1, none⟩ = some x1 ∧ w.cell? ⟨b, 2, none⟩ = some x2 ∧ w.cell? ⟨b, 3, none⟩ = some x3 ∧ w.cell? ⟨b, 4, none⟩ = some x4 ∧ w.cell? ⟨b, 5, none⟩ = some x5 ∧ w.cell? ⟨b, 6, none⟩ = some x6 ∧ w.cell? ⟨b, 7, none⟩ = some x7 ∧ w.cell? ⟨b, 8, none⟩ = some x8) ∧
    (w.frozen? ⟨b, 0, none⟩ = false ∧ w.frozen? ⟨b, 1, none⟩ = false ∧ w.frozen? ⟨b, 6, none⟩ = false ∧ w.frozen? ⟨b, 7, none⟩ = false ∧ w.frozen? ⟨b, 8, none⟩ = false) :=
  ⟨⟨h.cell 0, h.cell 1, h.cell 2, h.cell 3, h.cell 4, h.cell 5, h.cell 6, h.cell 7, h.cell 8⟩, h.free 0, h.free 1, h.free 6, h.free 7, h.free 8⟩
theorem _root_.Go.Proofs.YtoaajkkebnleaaaGreatDoor.Base.Blk.fz9 {w : World} {b : Nat} {vs : Array Value} {T : TypeId} (h : Blk w b vs T) :
    (w.frozen? ⟨b, 0, none⟩ = false ∧ w.frozen? ⟨b, 1, none⟩ = false ∧ w.frozen? ⟨b, 2, none⟩ = false ∧ w.frozen? ⟨b, 3, none⟩ = false ∧ w.frozen? ⟨b, 4, none⟩ = false ∧ w.frozen? ⟨b, 5, none⟩ = false ∧ w.frozen? ⟨b, 6, none⟩ = false ∧ w.frozen? ⟨b, 7, none⟩ = false ∧ w.frozen? ⟨b, 8, none⟩ = false) :=
  ⟨h.free 0, h.free 1, h.free 2, h.free 3, h.free 4, h.free 5, h.free 6, h.free 7, h.free 8⟩
theorem _root_.Go.Proofs.YtoaajkkebnleaaaGreatDoor.Base.Blk.set9 {w : World} {b : Nat} {x0 x1 x2 x3 x4 x5 x6 x7 x8 : Value} {T : TypeId} (h : Blk w b #[x0, x1, x2, x3, x4, x5, x6, x7, x8] T) (y0 y1 y2 y3 y4 y5 y6 y7 y8 : Value) :
    Blk (((((((((w.setCell ⟨b, 0, none⟩ y0).setCell ⟨b, 1, none⟩ y1).setCell ⟨b, 2, none⟩ y2).setCell ⟨b, 3, none⟩ y3).setCell ⟨b, 4, none⟩ y4).setCell ⟨b, 5, none⟩ y5).setCell ⟨b, 6, none⟩ y6).setCell ⟨b, 7, none⟩ y7).setCell ⟨b, 8, none⟩ y8) b #[y0, y1, y2, y3, y4, y5, y6, y7, y8] T := by
  have e0 : Blk _ b #[y0, x1, x2, x3, x4, x5, x6, x7, x8] T := h.set 0 y0
  have e1 : Blk _ b #[y0, y1, x2, x3, x4, x5, x6, x7, x8] T := e0.set 1 y1
  have e2 : Blk _ b #[y0, y1, y2, x3, x4, x5, x6, x7, x8] T := e1.set 2 y2
  have e3 : Blk _ b #[y0, y1, y2, y3, x4, x5, x6, x7, x8] T := e2.set 3 y3
  have e4 : Blk _ b #[y0, y1, y2, y3, y4, x5, x6, x7, x8] T := e3.set 4 y4
  have e5 : Blk _ b #[y0, y1, y2, y3, y4, y5, x6, x7, x8] T := e4.set 5 y5
  have e6 : Blk _ b #[y0, y1, y2, y3, y4, y5, y6, x7, x8] T := e5.set 6 y6
  have e7 : Blk _ b #[y0, y1, y2, y3, y4, y5, y6, y7, x8] T := e6.set 7 y7
  exact e7.set 8 y8
theorem below9 {B : Nat} {a w : World} (h : Below B a w) {b : Nat} (hb : B ≤ b) (y0 y1 y2 y3 y4 y5 y6 y7 y8 : Value) :
    Below B a (((((((((w.setCell ⟨b, 0, none⟩ y0).setCell ⟨b, 1, none⟩ y1).setCell ⟨b, 2, none⟩ y2).setCell ⟨b, 3, none⟩ y3).setCell ⟨b, 4, none⟩ y4).setCell ⟨b, 5, none⟩ y5).setCell ⟨b, 6, none⟩ y6).setCell ⟨b, 7, none⟩ y7).setCell ⟨b, 8, none⟩ y8) :=
  ((((((((h.setCell hb _).setCell hb _).setCell hb _).setCell hb _).setCell hb _).setCell hb _).setCell hb _).setCell hb _).setCell hb _
abbrev searchC (lo hi side : Int) (A : Option Addr) (n c : Nat) (depth : Int) (pr : Bool) (t : Int) (M : Option Addr) (k cm : Nat) (made : Int) : Array Value :=
  #[.int .i64 lo, .int .i64 hi, .int .i64 side, .slice A n c, .int .i64 depth, .bool pr, .int .i64 t, .slice M k cm, .int .i64 made]

set_option maxHeartbeats 1000000 in
theorem after2_any (lo hi best : Int) (w : World) (h1 : -200 ≤ lo ∧ lo ≤ 200) (h2 : -200 ≤ hi ∧ hi ≤ 200) (h3 : -200 ≤ best ∧ best ≤ 200) :
    Calls Tryz.prog 87 #[.agg #[.int .i64 lo, .int .i64 hi], .int .i64 best] w fun e w' => e = .returned (.agg #[.int .i64 (-hi), .int .i64 (-(max lo best))]) ∧ Below w.heap.size w w' := by
  have hw1 : IntKind.i64.wrap (-hi) = -hi := IntWalk.i64_in _ (by omega)
  have hw2 : IntKind.i64.wrap (-(max lo best)) = -(max lo best) := IntWalk.i64_in _ (by omega)
  go_enter Tryz.func87, Tryz.ntmps87
  go_wp2_with fail
  refine bodyPost_ret (v := .agg #[.int .i64 (-hi), .int .i64 (-(max lo best))]) (by simp [results, Tryz.results87, go_sem]) rfl ⟨rfl, ?_⟩
  exact (by repeat (first | exact Below.refl _ _ | assumption | (refine Below.alloc ?_ (by first | omega | (simp; done) | (simp; omega)) _) | (refine Below.setCell ?_ (by first | omega | (simp; done) | (simp; omega)) _) | refine Below.drew ?_))
theorem MenA.at_other {lo hi : Nat} {w : World} {A : Option Addr} {l : List St} (h : MenA lo hi w A l) (a : Addr) (u : Value) (ha : a.block < lo) : MenA lo hi (w.setCell a u) A l := fun hn => by
  obtain ⟨b, cs, rfl, h1, h2, h3, h4, h5⟩ := h hn
  exact ⟨b, cs, rfl, h1, h2, h3.other a u (by omega), h4, h5⟩
theorem MenA.keep9 {lo hi : Nat} {w : World} {A : Option Addr} {l : List St} (h : MenA lo hi w A l) {b : Nat} (hb : b < lo) (y0 y1 y2 y3 y4 y5 y6 y7 y8 : Value) :
    MenA lo hi (((((((((w.setCell ⟨b, 0, none⟩ y0).setCell ⟨b, 1, none⟩ y1).setCell ⟨b, 2, none⟩ y2).setCell ⟨b, 3, none⟩ y3).setCell ⟨b, 4, none⟩ y4).setCell ⟨b, 5, none⟩ y5).setCell ⟨b, 6, none⟩ y6).setCell ⟨b, 7, none⟩ y7).setCell ⟨b, 8, none⟩ y8) A l :=
  ((((((((h.at_other ⟨b, 0, none⟩ y0 hb).at_other ⟨b, 1, none⟩ y1 hb).at_other ⟨b, 2, none⟩ y2 hb).at_other ⟨b, 3, none⟩ y3 hb).at_other ⟨b, 4, none⟩ y4 hb).at_other ⟨b, 5, none⟩ y5 hb).at_other ⟨b, 6, none⟩ y6 hb).at_other ⟨b, 7, none⟩ y7 hb).at_other ⟨b, 8, none⟩ y8 hb
theorem size9 (w : World) (b : Nat) (y0 y1 y2 y3 y4 y5 y6 y7 y8 : Value) : (((((((((w.setCell ⟨b, 0, none⟩ y0).setCell ⟨b, 1, none⟩ y1).setCell ⟨b, 2, none⟩ y2).setCell ⟨b, 3, none⟩ y3).setCell ⟨b, 4, none⟩ y4).setCell ⟨b, 5, none⟩ y5).setCell ⟨b, 6, none⟩ y6).setCell ⟨b, 7, none⟩ y7).setCell ⟨b, 8, none⟩ y8).heap.size = w.heap.size := by simp only [size_set]
def BehindPost (w w' : World) (lo hi side : Int) (A : Option Addr) (n c : Nat) (depth : Int) (pr : Bool) (t : Int) (l : List St) (made best : Int) (e : Ending) : Prop :=
  ∃ Aa ca, e = .returned (.agg (searchC (loV pr lo hi) (hiV pr lo hi best) side A n c depth pr (1 - t) Aa l.length ca (made + 1))) ∧ MenA w.heap.size w'.heap.size w' Aa l ∧ Below w.heap.size w w'

set_option maxRecDepth 100000 in
set_option maxHeartbeats 4000000 in
theorem behind_any (lo hi side : Int) (A : Option Addr) (n c : Nat) (depth : Int) (pr : Bool) (t : Int) (M : Option Addr) (cm : Nat) (l : List St) (made f q best : Int) (i : Nat) (w : World) (hM : IsSteps w w.heap.size M l) (ht : 0 ≤ t ∧ t ≤ 1) (hl : l.length ≤ 4)
    (hn : manV l f = (i : Int)) (hi' : i < l.length) (hu : Up l) (h1 : -200 ≤ lo ∧ lo ≤ 200) (h2 : -200 ≤ hi ∧ hi ≤ 200) (h3 : -200 ≤ best ∧ best ≤ 200) (hm : 0 ≤ made ∧ made ≤ 3) :
    Calls Tryz.prog 66 #[.agg (searchC lo hi side A n c depth pr t M l.length cm made), .agg #[.int .i64 f, .int .i64 q], .int .i64 best] w fun e w' => BehindPost w w' lo hi side A n c depth pr t (doL l i q) made best e := by
  have hwm : IntKind.i64.wrap (made + 1) = made + 1 := IntWalk.i64_in _ (by omega)
  have hb0 : Below w.heap.size w (((w.alloc (.cells (searchC lo hi side A n c depth pr t M l.length cm made) 71)).alloc (.cells #[.int .i64 f, .int .i64 q] 60)).alloc (.cells (searchC 0 0 0 none 0 0 0 false 0 none 0 0 0) 71)) := (by repeat (first | exact Below.refl _ _ | assumption | (refine Below.alloc ?_ (by first | omega | (simp; done) | (simp; omega)) _) | (refine Below.setCell ?_ (by first | omega | (simp; done) | (simp; omega)) _) | refine Below.drew ?_))
  have p1 := ((Blk.new w (searchC lo hi side A n c depth pr t M l.length cm made) 71).alloc (.cells #[.int .i64 f, .int .i64 q] 60)).alloc (.cells (searchC 0 0 0 none 0 0 0 false 0 none 0 0 0) 71)
  have p2 := (Blk.new (w.alloc (.cells (searchC lo hi side A n c depth pr t M l.length cm made) 71)) #[.int .i64 f, .int .i64 q] 60).alloc (.cells (searchC 0 0 0 none 0 0 0 false 0 none 0 0 0) 71)
  have p3 := Blk.new ((w.alloc (.cells (searchC lo hi side A n c depth pr t M l.length cm made) 71)).alloc (.cells #[.int .i64 f, .int .i64 q] 60)) (searchC 0 0 0 none 0 0 0 false 0 none 0 0 0) 71
  simp only [World.size_alloc] at p2 p3
  have HNN := Lib.hid hn
  have HU := Lib.hid hu
  have HM := Lib.hid hM
  have HL := Lib.hid (And.intro h1 (And.intro h2 h3))
  clear hn hu hM h1 h2 h3
  go_enter Tryz.func66, Tryz.ntmps66
  go_wp2_with fail
  generalize hW0 : ((w.alloc _).alloc _).alloc _ = W0 at *
  clear hW0
  refine (moved_any _ _ _ _ _ _ i _ ((HM.out.below hb0).more hb0.size) ht hl HNN.out hi' HU.out).mono ?_
  rintro e w2 ⟨Aa, ca, rfl, hna, hb2⟩
  have q1 := p1.below hb2 p1.lt
  have q3 := p3.below hb2 p3.lt
  have z3 := p3.lt
  have hbe := hb0.trans (hb2.mono hb0.size)
  obtain ⟨⟨a0, a1, a2, a3, a4, a5, a6, a7, a8⟩, f0, f1, f6, f7, f8⟩ := q1.at9
  have hlow0 := hb2.size
  clear p1 p2 p3 hb0 hb2
  obtain ⟨⟨r0, r1, r2, r3, r4, r5, r6, r7, r8⟩, _⟩ := q3.at9
  obtain ⟨g0, g1, g2, g3, g4, g5, g6, g7, g8⟩ := q3.fz9
  have hz2 := hbe.size
  have hlow := hlow0
  cases pr
  · have q5 : Blk (((w2.setCell ⟨w.heap.size, 6, none⟩ (.int .i64 (1 - t))).setCell ⟨w.heap.size, 7, none⟩ (.slice Aa (doL l i q).length ca)).setCell ⟨w.heap.size, 8, none⟩ (.int .i64 (made + 1))) (w.heap.size + 1 + 1) (searchC 0 0 0 none 0 0 0 false 0 none 0 0 0) 71 :=
      ((q3.other ⟨w.heap.size, 6, none⟩ _ (by show w.heap.size + 1 + 1 ≠ w.heap.size; omega)).other ⟨w.heap.size, 7, none⟩ _ (by show w.heap.size + 1 + 1 ≠ w.heap.size; omega)).other ⟨w.heap.size, 8, none⟩ _ (by show w.heap.size + 1 + 1 ≠ w.heap.size; omega)
    have hna5 : MenA W0.heap.size w2.heap.size (((w2.setCell ⟨w.heap.size, 6, none⟩ (.int .i64 (1 - t))).setCell ⟨w.heap.size, 7, none⟩ (.slice Aa (doL l i q).length ca)).setCell ⟨w.heap.size, 8, none⟩ (.int .i64 (made + 1))) Aa (doL l i q) :=
      ((hna.at_other ⟨w.heap.size, 6, none⟩ _ (by show w.heap.size < _; omega)).at_other ⟨w.heap.size, 7, none⟩ _ (by show w.heap.size < _; omega)).at_other ⟨w.heap.size, 8, none⟩ _ (by show w.heap.size < _; omega)
    have hbe5 : Below w.heap.size w (((w2.setCell ⟨w.heap.size, 6, none⟩ (.int .i64 (1 - t))).setCell ⟨w.heap.size, 7, none⟩ (.slice Aa (doL l i q).length ca)).setCell ⟨w.heap.size, 8, none⟩ (.int .i64 (made + 1))) := (by repeat (first | exact Below.refl _ _ | assumption | (refine Below.alloc ?_ (by first | omega | (simp; done) | (simp; omega)) _) | (refine Below.setCell ?_ (by first | omega | (simp; done) | (simp; omega)) _) | refine Below.drew ?_))
    have hs5 : w2.heap.size ≤ (((w2.setCell ⟨w.heap.size, 6, none⟩ (.int .i64 (1 - t))).setCell ⟨w.heap.size, 7, none⟩ (.slice Aa (doL l i q).length ca)).setCell ⟨w.heap.size, 8, none⟩ (.int .i64 (made + 1))).heap.size := by simp
    go_wp2_with fail
    refine bodyPost_ret (v := .agg (searchC lo hi side A n c depth false (1 - t) Aa (doL l i q).length ca (made + 1))) ?_ rfl ⟨Aa, ca, by simp [loV, hiV], ?_, ?_⟩
    · obtain ⟨⟨d0, d1, d2, d3, d4, d5, d6, d7, d8⟩, _⟩ := (q5.set9 (.int .i64 lo) (.int .i64 hi) (.int .i64 side) (.slice A n c) (.int .i64 depth) (.bool false) (.int .i64 (1 - t)) (.slice Aa (doL l i q).length ca) (.int .i64 (made + 1))).at9
      simp [results, Tryz.results66, go_sem, d0, d1, d2, d3, d4, d5, d6, d7, d8]
    · rw [size9]
      exact (hna5.keep9 z3 _ _ _ _ _ _ _ _ _).more (by omega) hs5
    · exact below9 hbe5 (by omega) _ _ _ _ _ _ _ _ _
  · go_wp2_with fail
    have q5 : Blk (((w2.setCell ⟨w.heap.size, 6, none⟩ (.int .i64 (1 - t))).setCell ⟨w.heap.size, 7, none⟩ (.slice Aa (doL l i q).length ca)).setCell ⟨w.heap.size, 8, none⟩ (.int .i64 (made + 1))) w.heap.size (searchC lo hi side A n c depth true (1 - t) Aa (doL l i q).length ca (made + 1)) 71 := by
      have e6 : Blk _ w.heap.size (searchC lo hi side A n c depth true (1 - t) M l.length cm made) 71 := q1.set 6 (.int .i64 (1 - t))
      have e7 : Blk _ w.heap.size (searchC lo hi side A n c depth true (1 - t) Aa (doL l i q).length ca made) 71 := e6.set 7 (.slice Aa (doL l i q).length ca)
      exact e7.set 8 (.int .i64 (made + 1))
    have q35 : Blk (((w2.setCell ⟨w.heap.size, 6, none⟩ (.int .i64 (1 - t))).setCell ⟨w.heap.size, 7, none⟩ (.slice Aa (doL l i q).length ca)).setCell ⟨w.heap.size, 8, none⟩ (.int .i64 (made + 1))) (w.heap.size + 1 + 1) (searchC 0 0 0 none 0 0 0 false 0 none 0 0 0) 71 :=
      ((q3.other ⟨w.heap.size, 6, none⟩ _ (by show w.heap.size + 1 + 1 ≠ w.heap.size; omega)).other ⟨w.heap.size, 7, none⟩ _ (by show w.heap.size + 1 + 1 ≠ w.heap.size; omega)).other ⟨w.heap.size, 8, none⟩ _ (by show w.heap.size + 1 + 1 ≠ w.heap.size; omega)
    have hna5 : MenA W0.heap.size w2.heap.size (((w2.setCell ⟨w.heap.size, 6, none⟩ (.int .i64 (1 - t))).setCell ⟨w.heap.size, 7, none⟩ (.slice Aa (doL l i q).length ca)).setCell ⟨w.heap.size, 8, none⟩ (.int .i64 (made + 1))) Aa (doL l i q) :=
      ((hna.at_other ⟨w.heap.size, 6, none⟩ _ (by show w.heap.size < _; omega)).at_other ⟨w.heap.size, 7, none⟩ _ (by show w.heap.size < _; omega)).at_other ⟨w.heap.size, 8, none⟩ _ (by show w.heap.size < _; omega)
    have hbe5 : Below w.heap.size w (((w2.setCell ⟨w.heap.size, 6, none⟩ (.int .i64 (1 - t))).setCell ⟨w.heap.size, 7, none⟩ (.slice Aa (doL l i q).length ca)).setCell ⟨w.heap.size, 8, none⟩ (.int .i64 (made + 1))) := (by repeat (first | exact Below.refl _ _ | assumption | (refine Below.alloc ?_ (by first | omega | (simp; done) | (simp; omega)) _) | (refine Below.setCell ?_ (by first | omega | (simp; done) | (simp; omega)) _) | refine Below.drew ?_))
    have hs5 : w2.heap.size ≤ (((w2.setCell ⟨w.heap.size, 6, none⟩ (.int .i64 (1 - t))).setCell ⟨w.heap.size, 7, none⟩ (.slice Aa (doL l i q).length ca)).setCell ⟨w.heap.size, 8, none⟩ (.int .i64 (made + 1))).heap.size := by simp
    clear a0 a1 a2 a3 a4 a5 a6 a7 a8 f0 f1 f6 f7 f8 r0 r1 r2 r3 r4 r5 r6 r7 r8 g0 g1 g2 g3 g4 g5 g6 g7 g8 q1 q3 hna hbe
    generalize hW5 : ((w2.setCell _ _).setCell _ _).setCell _ _ = W5 at *
    clear hW5
    refine (after2_any lo hi best _ HL.out.1 HL.out.2.1 HL.out.2.2).mono ?_
    rintro e w6 ⟨rfl, hb6⟩
    have q6 := q5.below hb6 q5.lt
    have q36 := q35.below hb6 q35.lt
    have hna6 := hna5.below (hb6.mono hs5)
    have hbe6 := hbe5.trans (hb6.mono hbe5.size)
    have hz6 := hb6.size
    have q7 : Blk ((w6.setCell ⟨w.heap.size, 0, none⟩ (.int .i64 (-hi))).setCell ⟨w.heap.size, 1, none⟩ (.int .i64 (-(max lo best)))) (w.heap.size + 1 + 1) (searchC 0 0 0 none 0 0 0 false 0 none 0 0 0) 71 :=
      (q36.other ⟨w.heap.size, 0, none⟩ _ (by show w.heap.size + 1 + 1 ≠ w.heap.size; omega)).other ⟨w.heap.size, 1, none⟩ _ (by show w.heap.size + 1 + 1 ≠ w.heap.size; omega)
    obtain ⟨⟨a0, a1, a2, a3, a4, a5, a6, a7, a8⟩, f0, f1, f6, f7, f8⟩ := q6.at9
    obtain ⟨⟨r0, r1, r2, r3, r4, r5, r6, r7, r8⟩, _⟩ := q36.at9
    obtain ⟨g0, g1, g2, g3, g4, g5, g6, g7, g8⟩ := q36.fz9
    have hna7 : MenA W0.heap.size w2.heap.size ((w6.setCell ⟨w.heap.size, 0, none⟩ (.int .i64 (-hi))).setCell ⟨w.heap.size, 1, none⟩ (.int .i64 (-(max lo best)))) Aa (doL l i q) := (hna6.at_other ⟨w.heap.size, 0, none⟩ _ (by show w.heap.size < _; omega)).at_other ⟨w.heap.size, 1, none⟩ _ (by show w.heap.size < _; omega)
    have hbe7 : Below w.heap.size w ((w6.setCell ⟨w.heap.size, 0, none⟩ (.int .i64 (-hi))).setCell ⟨w.heap.size, 1, none⟩ (.int .i64 (-(max lo best)))) := (hbe6.setCell (Nat.le_refl _) _).setCell (Nat.le_refl _) _
    have hs7 : w2.heap.size ≤ ((w6.setCell ⟨w.heap.size, 0, none⟩ (.int .i64 (-hi))).setCell ⟨w.heap.size, 1, none⟩ (.int .i64 (-(max lo best)))).heap.size := by simp only [size_set]; omega
    clear hb6 hna5 hbe5 q5 q35
    go_wp2_with fail
    refine bodyPost_ret (v := .agg (searchC (-hi) (-(max lo best)) side A n c depth true (1 - t) Aa (doL l i q).length ca (made + 1))) ?_ rfl ⟨Aa, ca, by simp [loV, hiV], ?_, ?_⟩
    · obtain ⟨⟨d0, d1, d2, d3, d4, d5, d6, d7, d8⟩, _⟩ := (q7.set9 (.int .i64 (-hi)) (.int .i64 (-(max lo best))) (.int .i64 side) (.slice A n c) (.int .i64 depth) (.bool true) (.int .i64 (1 - t)) (.slice Aa (doL l i q).length ca) (.int .i64 (made + 1))).at9
      simp [results, Tryz.results66, go_sem, d0, d1, d2, d3, d4, d5, d6, d7, d8]
    · rw [size9]
      exact (hna7.keep9 z3 _ _ _ _ _ _ _ _ _).more (by omega) hs7
    · exact below9 hbe7 (by omega) _ _ _ _ _ _ _ _ _
end Go.Proofs.YtoaajkkebnleaaaGreatDoor.Ko

namespace Go.Proofs.YtoaajkkebnleaaaGreatDoor.Ko
open Go.ChangeShapes Go.WideShapes Go.ChangeAt Go.RowKit Base Sq
set_option linter.unusedVariables false
attribute [local irreducible] wpQuiet

def RunPost (w w' : World) (v : Int × Int) (e : Ending) : Prop := e = .returned (.tuple #[.int .i64 v.1, .int .i64 v.2]) ∧ Below w.heap.size w w'
theorem run_mate {side : Int} {ks : List Kd} {pr : Bool} {r : Nat} {m lo hi t : Int} {l : List St} (h : stateV side ks t l = 2) : runV side ks pr r m lo hi t l = (m - 100, 1) := by
  cases r <;> (unfold runV; rw [if_pos h])
theorem run_stale {side : Int} {ks : List Kd} {pr : Bool} {r : Nat} {m lo hi t : Int} {l : List St} (h : stateV side ks t l = 3) : runV side ks pr r m lo hi t l = (0, 1) := by
  cases r <;> unfold runV
  · rw [if_neg (by rw [h]; decide)]
  · rw [if_neg (by rw [h]; decide), if_pos h]
theorem run_zero {side : Int} {ks : List Kd} {pr : Bool} {m lo hi t : Int} {l : List St} (h : stateV side ks t l = 1) : runV side ks pr 0 m lo hi t l = (0, 1) := by
  unfold runV; rw [if_neg (by rw [h]; decide)]
theorem run_succ {side : Int} {ks : List Kd} {pr : Bool} {r : Nat} {m lo hi t : Int} {l : List St} (h : stateV side ks t l = 1) : runV side ks pr (r + 1) m lo hi t l =
    stepsV (fun best mv => runV side ks pr r (m + 1) (loV pr lo hi) (hiV pr lo hi best) (1 - t) (nextL l mv)) hi (movesL side ks t l) (movesL side ks t l).length := by
  rw [show runV side ks pr (r + 1) m lo hi t l = (if stateV side ks t l = 2 then (m - 100, 1) else if stateV side ks t l = 3 then (0, 1) else
    stepsV (fun best mv => runV side ks pr r (m + 1) (loV pr lo hi) (hiV pr lo hi best) (1 - t) (nextL l mv)) hi (movesL side ks t l) (movesL side ks t l).length) from rfl, if_neg (by rw [h]; decide), if_neg (by rw [h]; decide)]
theorem state_three (side : Int) (ks : List Kd) (t : Int) (l : List St) : stateV side ks t l = 1 ∨ stateV side ks t l = 2 ∨ stateV side ks t l = 3 := by
  unfold stateV; split
  · exact .inl rfl
  · split
    · exact .inr (.inl rfl)
    · exact .inr (.inr rfl)
/-- what holds at each round's head of the loop over the moves -/
def RnInv (w wr : World) (b : Nat) (side : Int) (A : Option Addr) (c : Nat) (ks : List Kd) (t : Int) (M : Option Addr) (cm : Nat) (l : List St) (lo hi depth : Int) (pr : Bool) (made : Int) (j g : Nat) : Prop :=
  Blk wr w.heap.size (searchC lo hi side A ks.length c depth pr t M l.length cm made) 71 ∧ Blk wr g #[.int .i64 (mvAt (movesL side ks t l) j).1, .int .i64 (mvAt (movesL side ks t l) j).2] 60 ∧ b < g ∧
    MoverAt wr b side A c ks t M cm l (if j < (movesL side ks t l).length then j + 1 else j) ∧ Below w.heap.size w wr

set_option maxRecDepth 100000 in
set_option maxHeartbeats 8000000 in
theorem run_any (side : Int) (A : Option Addr) (c : Nat) (ks : List Kd) (pr : Bool) (hok : rulesOk side ks = true) : ∀ (r : Nat) (made : Nat), made + r ≤ 3 → ∀ (lo hi t : Int) (M : Option Addr) (cm : Nat) (l : List St) (w : World), (-200 ≤ lo ∧ lo ≤ 200) → (-200 ≤ hi ∧ hi ≤ 200) →
    IsKinds w w.heap.size A ks → IsSteps w w.heap.size M l → TabAt w → shapeB side ks t l = true →
    Calls Tryz.prog 44 #[.agg (searchC lo hi side A ks.length c ((made + r : Nat) : Int) pr t M l.length cm made)] w fun e w' => RunPost w w' (runV side ks pr r made lo hi t l) e := by
  intro r
  induction r with
  | zero =>
    intro made hm lo hi t M cm l w hlo hhi hR hM hT hsh
    simp only [Nat.add_zero] at hm ⊢
    have HOK := Lib.hid hok
    have HSH := Lib.hid hsh
    have HR := Lib.hid hR
    have HM := Lib.hid hM
    have HT := Lib.hid hT
    have HT0 := hT.lt
    have hb0 := below_of w (.cells (searchC lo hi side A ks.length c (made : Int) pr t M l.length cm made) 71)
    have p1 := Blk.new w (searchC lo hi side A ks.length c (made : Int) pr t M l.length cm made) 71
    have hwsub : IntKind.i64.wrap ((made : Int) - 100) = (made : Int) - 100 := IntWalk.i64_in _ (by omega)
    clear hok hsh hR hM hT hlo hhi
    go_enter Tryz.func44, Tryz.ntmps44
    go_wp2_with fail
    generalize hW0 : w.alloc _ = W0 at *
    clear hW0
    refine (stateOf_any side A c ks t M cm l _ ((HR.out.below hb0).more hb0.size) ((HM.out.below hb0).more hb0.size) (HT.out.below hb0 HT0) HOK.out HSH.out).mono ?_
    rintro e w2 ⟨rfl, hb2⟩
    have q1 := p1.below hb2 p1.lt
    have hbe := hb0.trans (hb2.mono hb0.size)
    have z1 := q1.lt
    obtain ⟨⟨a0, a1, a2, a3, a4, a5, a6, a7, a8⟩, _⟩ := q1.at9
    clear p1 hb2 hb0
    rcases state_three side ks t l with hst | hst | hst
    · have HV := Lib.hid (run_zero (pr := pr) (m := (made : Int)) (lo := lo) (hi := hi) hst)
      rw [hst]
      clear hst
      go_wp2_with fail
      refine bodyPost_ret (v := .tuple #[.int .i64 0, .int .i64 1]) (by simp [results, Tryz.results44, go_sem]) rfl ⟨by rw [HV.out], hbe⟩
    · have HV := Lib.hid (run_mate (pr := pr) (r := 0) (m := (made : Int)) (lo := lo) (hi := hi) hst)
      rw [hst]
      clear hst
      go_wp2_with fail
      refine bodyPost_ret (v := .tuple #[.int .i64 ((made : Int) - 100), .int .i64 1]) (by simp [results, Tryz.results44, go_sem]) rfl ⟨by rw [HV.out], hbe⟩
    · have HV := Lib.hid (run_stale (pr := pr) (r := 0) (m := (made : Int)) (lo := lo) (hi := hi) hst)
      rw [hst]
      clear hst
      go_wp2_with fail
      refine bodyPost_ret (v := .tuple #[.int .i64 0, .int .i64 1]) (by simp [results, Tryz.results44, go_sem]) rfl ⟨by rw [HV.out], hbe⟩
  | succ r ih =>
    intro made hm lo hi t M cm l w hlo hhi hR hM hT hsh
    have IH := Lib.hid (ih (made + 1) (by omega))
    have hs := (rulesOk_facts hok).1
    have ht01 := (shapeB_facts hsh).1
    have hl4 := (shapeB_facts hsh).2.1
    have hlen := movesL_len (ks := ks) (t := t) hs hl4
    have HP := Lib.hid (fun k (hk : k ≤ (movesL side ks t l).length) => run_part hs pr (r := r) (m := (made : Int)) (lo := lo) (hi := hi) (by omega) hsh hk)
    have HF := Lib.hid (fun k (hk : k < (movesL side ks t l).length) => move_facts hs hsh (mvAt_mem hk))
    have HLH := Lib.hid (And.intro hlo hhi)
    have HSS := Lib.hid hs
    have HOK := Lib.hid hok
    have HSH := Lib.hid hsh
    have HR := Lib.hid hR
    have HM := Lib.hid hM
    have HT := Lib.hid hT
    have HT0 := hT.lt
    have hb0 := below_of w (.cells (searchC lo hi side A ks.length c ((made + (r + 1) : Nat) : Int) pr t M l.length cm made) 71)
    have p1 := Blk.new w (searchC lo hi side A ks.length c ((made + (r + 1) : Nat) : Int) pr t M l.length cm made) 71
    generalize hdep : ((made + (r + 1) : Nat) : Int) = depth at *
    have hwsub : IntKind.i64.wrap ((made : Int) - 100) = (made : Int) - 100 := IntWalk.i64_in _ (by omega)
    have hde : ((made : Int) == depth) = false := by simp; omega
    have HDE := Lib.hid hdep
    clear ih hok hsh hR hM hT hs hlo hhi hdep
    go_enter Tryz.func44, Tryz.ntmps44
    go_wp2_with fail
    generalize hW0 : w.alloc _ = W0 at *
    clear hW0
    refine (stateOf_any side A c ks t M cm l _ ((HR.out.below hb0).more hb0.size) ((HM.out.below hb0).more hb0.size) (HT.out.below hb0 HT0) HOK.out HSH.out).mono ?_
    rintro e w2 ⟨rfl, hb2⟩
    have q1 := p1.below hb2 p1.lt
    have hbe := hb0.trans (hb2.mono hb0.size)
    have z1 := q1.lt
    obtain ⟨⟨a0, a1, a2, a3, a4, a5, a6, a7, a8⟩, _⟩ := q1.at9
    clear p1 hb2 hb0
    rcases state_three side ks t l with hst | hst | hst
    · have HV := Lib.hid (run_succ (pr := pr) (r := r) (m := (made : Int)) (lo := lo) (hi := hi) hst)
      rw [hst]
      clear hst
      go_wp2_with fail
      refine (moverOf_any _ _ _ _ _ _ _ _ _).mono ?_
      rintro e w4 ⟨rfl, pm, hsz4, hb4⟩
      have q2 := q1.below hb4 z1
      have hbe4 := hbe.trans (hb4.mono hbe.size)
      have hwb : w.heap.size < w2.heap.size + 2 := by omega
      clear hsz4 hb4 hbe q1 a0 a1 a2 a3 a4 a5 a6 a7 a8
      generalize hbb : w2.heap.size + 2 = b at *
      clear hbb z1
      have z4 := pm.lt
      go_wp2_with fail
      refine (next_any side A c ks t M cm l 0 b w.heap.size _ (HR.out.below hbe4) (HM.out.below hbe4) (HT.out.below hbe4 HT0) HT0 (MoverAt.new pm) (by omega) HOK.out HSH.out).mono ?_
      rintro e w5 ⟨rfl, hm5, hu5⟩
      have hbe5 := hbe4.trans (hu5.toBelow (by omega) (by have := hbe4.size; omega))
      have q5 := hu5.blk q2 (by omega)
      have z5 := hm5.lt
      have hz5 := hbe5.size
      have hI0 : Hid (RnInv w (w5.alloc (.cells #[.int .i64 (mvAt (movesL side ks t l) 0).1, .int .i64 (mvAt (movesL side ks t l) 0).2] 60)) b side A c ks t M cm l lo hi depth pr made 0 w5.heap.size) := Lib.hid
        ⟨q5.alloc _, Blk.new _ _ _, z5, hm5.below (below_of _ _) z5, hbe5.alloc hz5 _⟩
      clear hbe4 pm hu5 q2 hm5 hbe5 q5
      go_wp2_with fail
      generalize hms : movesL side ks t l = ms at *
      generalize hGG : (fun best mv => runV side ks pr r ((made : Int) + 1) (loV pr lo hi) (hiV pr lo hi best) (1 - t) (nextL l mv)) = G at *
      generalize w5.alloc _ = W5 at *
      go_loopg [5, 6, 8, 9] ms.length (fun gk s5 s6 s8 s9 wr => ∃ j g : Nat, j ≤ ms.length ∧ ms.length - j ≤ gk ∧ s5 = .int .i64 (stepsV G hi ms j).1 ∧ s6 = .int .i64 (stepsV G hi ms j).2 ∧ s8 = .pointer (some ⟨g, 0, none⟩) ∧ s9 = .bool (decide (j < ms.length)) ∧ Hid (RnInv w wr b side A c ks t M cm l lo hi depth pr made j g))
      case atStart => exact ⟨0, _, by omega, by omega, rfl, rfl, rfl, rfl, hI0⟩
      case round =>
        clear hI0
        obtain ⟨j, g, hj, hgk, rfl, rfl, rfl, rfl, hI⟩ := hrel
        obtain ⟨q1, pg, hbg, hm, hbe⟩ := hI.out
        rw [hms] at pg hm
        have zg := pg.lt
        have z1 := q1.lt
        have hz := hbe.size
        obtain ⟨⟨a0, a1, a2, a3, a4, a5, a6, a7, a8⟩, _⟩ := q1.at9
        by_cases hlt : j < ms.length
        · have hd := decide_eq_true hlt
          by_cases hst : (stepsV G hi ms j).1 < hi
          · have hd2 : decide ((stepsV G hi ms j).1 < hi) = true := decide_eq_true hst
            rw [if_pos hlt] at hm
            obtain ⟨i, hi1, hi2, hi3, hi4, hi5, hi6, hi7⟩ := HF.out j hlt
            obtain ⟨hbd1, hbd2, hbd3⟩ := HP.out j hj
            rw [hi6] at hi7
            have hnx := steps_next hst
            rw [show (G (stepsV G hi ms j).1 (mvAt ms j)) = runV side ks pr r ((made : Int) + 1) (loV pr lo hi) (hiV pr lo hi (stepsV G hi ms j).1) (1 - t) (doL l i (mvAt ms j).2) from by rw [← hi6, ← hGG]] at hnx
            have hRb := run_bd HSS.out pr r ((made : Int) + 1) (loV pr lo hi) (hiV pr lo hi (stepsV G hi ms j).1) (1 - t) (doL l i (mvAt ms j).2) (by omega) hi7
            have h65 : (65 : Int) ^ r ≤ 4225 := by
              have h4 : r = 0 ∨ r = 1 ∨ r = 2 := by omega
              rcases h4 with rfl | rfl | rfl <;> decide
            have hlo' := loV_bd (pr := pr) HLH.out.1 HLH.out.2
            have hhi' := hiV_bd (pr := pr) (lo := lo) HLH.out.1 HLH.out.2 hbd1
            generalize hRR : runV side ks pr r ((made : Int) + 1) (loV pr lo hi) (hiV pr lo hi (stepsV G hi ms j).1) (1 - t) (doL l i (mvAt ms j).2) = R at *
            have HRR := Lib.hid hRR
            have HNX := Lib.hid hnx
            have HI1 := Lib.hid hi1
            have HI7 := Lib.hid hi7
            have hneg : IntKind.i64.wrap (-R.1) = -R.1 := IntWalk.i64_in _ (by omega)
            have hvis : IntKind.i64.wrap ((stepsV G hi ms j).2 + R.2) = (stepsV G hi ms j).2 + R.2 := IntWalk.i64_in _ (by omega)
            obtain ⟨⟨c0, c1⟩, _⟩ := pg.at2
            have HI := hI
            clear hst hI hi1 hi3 hi4 hi5 hi6 hi7 hnx hRR h65 hRb
            go_wp2_with fail
            refine (behind_any lo hi side A ks.length c depth pr t M cm l made (mvAt ms j).1 (mvAt ms j).2 (stepsV G hi ms j).1 i _ ((HM.out.below hbe).more hz) ht01 hl4 HI1.out hi2 (shapeB_up HSH.out) HLH.out.1 HLH.out.2 hbd1 (by omega)).mono ?_
            rintro e w6 ⟨Aa, ca, rfl, hna, hb6⟩
            have hbe6 := hbe.trans (hb6.mono hz)
            have hIH := IH.out (loV pr lo hi) (hiV pr lo hi (stepsV G hi ms j).1) (1 - t) Aa ca (doL l i (mvAt ms j).2) w6 hlo' hhi' ((HR.out.below hbe6).more hbe6.size) hna.is (HT.out.below hbe6 HT0) HI7.out
            rw [show ((made + 1 + r : Nat) : Int) = depth from by have := HDE.out; omega, show ((made + 1 : Nat) : Int) = (made : Int) + 1 from by omega, HRR.out] at hIH
            have HIH := Lib.hid hIH
            have q6 := q1.below hb6 z1
            have pg6 := pg.below hb6 zg
            have hm6 := hm.below hb6 hm.lt
            have zb6 : b < wr.heap.size := hm.lt
            have hz6 := hb6.size
            clear hIH hna hb6 hbe q1 pg hm HI a0 a1 a2 a3 a4 a5 a6 a7 a8 c0 c1
            go_wp2_with fail
            refine HIH.out.mono ?_
            rintro e w7 ⟨rfl, hb7⟩
            have q7 := q6.below hb7 q6.lt
            have pg7 := pg6.below hb7 pg6.lt
            have hm7 := hm6.below hb7 hm6.lt
            have hbe7 := hbe6.trans (hb7.mono hbe6.size)
            have hz7 := hbe7.size
            have zg7 := pg7.lt
            obtain ⟨⟨c0, c1⟩, _⟩ := pg7.at2
            clear HIH hb7 q6 pg6 hm6 hbe6
            go_wp2_with fail
            have hbe8 := hbe7.alloc hz7 (.cells #[.int .i64 (mvAt ms j).1, .int .i64 (mvAt ms j).2] 60)
            have hm8 := hm7.below (below_of w7 (.cells #[.int .i64 (mvAt ms j).1, .int .i64 (mvAt ms j).2] 60)) (by omega)
            have p8 := Blk.new w7 #[.int .i64 (mvAt ms j).1, .int .i64 (mvAt ms j).2] 60
            have q8 := q7.alloc (.cells #[.int .i64 (mvAt ms j).1, .int .i64 (mvAt ms j).2] 60)
            have hb7 : b < w7.heap.size := hm7.lt
            have zq7 := q7.lt
            clear hbe7 hm7 pg7 q7 c0 c1
            generalize hW8 : w7.alloc _ = W8 at *
            clear hW8
            refine (next_any side A c ks t M cm l (j + 1) b w.heap.size _ (HR.out.below hbe8) (HM.out.below hbe8) (HT.out.below hbe8 HT0) HT0 hm8 (by omega) HOK.out HSH.out).mono ?_
            rintro e w9 hN
            unfold NextPost at hN
            rw [hms] at hN
            obtain ⟨rfl, hm9, hu9⟩ := hN
            have p9 := hu9.blk p8 (by omega)
            have q9 := hu9.blk q8 (by omega)
            have z9 := p9.lt
            have hbe9 := hbe8.trans (hu9.toBelow (by omega) hbe8.size)
            obtain ⟨⟨c0, c1⟩, c2, c3⟩ := p9.at2
            have HF2 : Hid (∀ x y : Value, Below w7.heap.size w9 ((w9.setCell ⟨w7.heap.size, 0, none⟩ x).setCell ⟨w7.heap.size, 1, none⟩ y)) := Lib.hid (fun x y => ((Below.refl _ _).setCell (p := ⟨w7.heap.size, 0, none⟩) (Nat.le_refl _) _).setCell (p := ⟨w7.heap.size, 1, none⟩) (Nat.le_refl _) _)
            clear hu9 hbe8 hm8 p8 q8
            go_wp2_with fail
            go_roundg (ms.length - (j + 1))
            case measure => omega
            case rel =>
              refine ⟨j + 1, w7.heap.size, hlt, Nat.le_refl _, by rw [HNX.out], by rw [HNX.out], rfl, rfl, Lib.hid ?_⟩
              unfold RnInv
              rw [hms]
              exact ⟨q9.below (HF2.out _ _) zq7, p9.set2 _ _, by omega, hm9.below (HF2.out _ _) (by omega), hbe9.trans ((HF2.out _ _).mono hz7)⟩
          · have hd2 : decide ((stepsV G hi ms j).1 < hi) = false := decide_eq_false hst
            have HE := Lib.hid (steps_stop hst ms.length hj)
            clear hI pg hm q1 hst
            go_wp2_with fail
            refine bodyPost_ret (v := .tuple #[.int .i64 (stepsV G hi ms j).1, .int .i64 (stepsV G hi ms j).2]) (by simp [results, Tryz.results44, go_sem]) rfl ⟨?_, hbe⟩
            rw [HV.out, HE.out]
        · have hd := decide_eq_false hlt
          obtain rfl : j = ms.length := by omega
          clear hI pg hm q1
          go_wp2_with fail
          refine bodyPost_ret (v := .tuple #[.int .i64 (stepsV G hi ms ms.length).1, .int .i64 (stepsV G hi ms ms.length).2]) (by simp [results, Tryz.results44, go_sem]) rfl ⟨?_, hbe⟩
          rw [HV.out]
    · have HV := Lib.hid (run_mate (pr := pr) (r := r + 1) (m := (made : Int)) (lo := lo) (hi := hi) hst)
      rw [hst]
      clear hst
      go_wp2_with fail
      refine bodyPost_ret (v := .tuple #[.int .i64 ((made : Int) - 100), .int .i64 1]) (by simp [results, Tryz.results44, go_sem]) rfl ⟨by rw [HV.out], hbe⟩
    · have HV := Lib.hid (run_stale (pr := pr) (r := r + 1) (m := (made : Int)) (lo := lo) (hi := hi) hst)
      rw [hst]
      clear hst
      go_wp2_with fail
      refine bodyPost_ret (v := .tuple #[.int .i64 0, .int .i64 1]) (by simp [results, Tryz.results44, go_sem]) rfl ⟨by rw [HV.out], hbe⟩
end Go.Proofs.YtoaajkkebnleaaaGreatDoor.Ko

namespace Go.Proofs.YtoaajkkebnleaaaGreatDoor.Ko
open Go.ChangeShapes Go.WideShapes Go.ChangeAt Go.RowKit Base Sq
set_option linter.unusedVariables false

theorem state_open {side : Int} {ks : List Kd} {t : Int} {l : List St} : stateV side ks t l = 1 ↔ 0 < (movesL side ks t l).length := by
  unfold stateV
  constructor
  · intro h
    split at h
    · assumption
    · split at h <;> cases h
  · intro h; rw [if_pos h]
theorem state_mate {side : Int} {ks : List Kd} {t : Int} {l : List St} (h : ¬ 0 < (movesL side ks t l).length) (hc : checkB side ks l t = true) : stateV side ks t l = 2 := by unfold stateV; rw [if_neg h, if_pos hc]
theorem state_stale {side : Int} {ks : List Kd} {t : Int} {l : List St} (h : ¬ 0 < (movesL side ks t l).length) (hc : checkB side ks l t = false) : stateV side ks t l = 3 := by unfold stateV; rw [if_neg h, if_neg (by rw [hc]; decide)]
theorem steps_full {g : Int → Mv → Int × Int} {ms : List Mv} (hg : ∀ m ∈ ms, ∀ best, -100 ≤ (g best m).1 ∧ (g best m).1 ≤ 100) : ∀ k, k ≤ ms.length → (stepsV g 200 ms k).1 ≤ 100 ∧ (0 < k → -100 ≤ (stepsV g 200 ms k).1) := by
  intro k hk
  induction k with
  | zero => exact ⟨by simp [stepsV], fun h => absurd h (by omega)⟩
  | succ k ih =>
    obtain ⟨h1, h2⟩ := ih (by omega)
    have h3 := hg _ (mvAt_mem (show k < ms.length by omega)) (stepsV g 200 ms k).1
    rw [steps_next (by omega)]
    exact ⟨by simp only []; omega, fun _ => by simp only []; omega⟩
theorem full_bd {side : Int} {ks : List Kd} (hs : side = 2 ∨ side = 3 ∨ side = 4) : ∀ (r : Nat) (m t : Int) (l : List St), 0 ≤ m ∧ m + r ≤ 3 → shapeB side ks t l = true →
    -100 ≤ (runV side ks false r m (-200) 200 t l).1 ∧ (runV side ks false r m (-200) 200 t l).1 ≤ 100 := by
  intro r
  induction r with
  | zero => intro m t l hm _; unfold runV; split <;> simp <;> omega
  | succ r ih =>
    intro m t l hm hsh
    rcases state_three side ks t l with h | h | h
    · rw [run_succ h]
      have hg := steps_full (ms := movesL side ks t l) (g := fun best mv => runV side ks false r (m + 1) (loV false (-200) 200) (hiV false (-200) 200 best) (1 - t) (nextL l mv)) (fun mv hmv best => by
        obtain ⟨_, _, _, _, _, _, _, h⟩ := move_facts hs hsh hmv
        exact ih (m + 1) _ _ (by omega) h) _ (Nat.le_refl _)
      exact ⟨hg.2 (state_open.1 h), hg.1⟩
    · rw [run_mate h]; simp only []; omega
    · rw [run_stale h]; simp only []; omega
theorem full_lt {side : Int} {ks : List Kd} (hs : side = 2 ∨ side = 3 ∨ side = 4) {r : Nat} {m t : Int} {l : List St} (hm : 0 ≤ m ∧ m + (r + 1 : Nat) ≤ 3) (hsh : shapeB side ks t l = true) {k : Nat} (hk : k ≤ (movesL side ks t l).length) :
    (stepsV (fun best mv => runV side ks false r (m + 1) (loV false (-200) 200) (hiV false (-200) 200 best) (1 - t) (nextL l mv)) 200 (movesL side ks t l) k).1 < 200 := by
  have hg := steps_full (ms := movesL side ks t l) (g := fun best mv => runV side ks false r (m + 1) (loV false (-200) 200) (hiV false (-200) 200 best) (1 - t) (nextL l mv)) (fun mv hmv best => by
    obtain ⟨_, _, _, _, _, _, _, h⟩ := move_facts hs hsh hmv
    exact full_bd hs r (m + 1) _ _ (by omega) h) k hk
  omega
end Go.Proofs.YtoaajkkebnleaaaGreatDoor.Ko
