/- Games: values (no program is named). Two positions held against each other by the model: l14Same. Whether a move takes, by the model: l4Takes. How a game stands, by the model: l14State. All positions of a game, by the model: l14All, l14Ok. All positions of a game, by the model: l14All. GameOk of the model. -/
import Derived.Test.YtcgfklljbblhlaaGreatDoorLv
import Derived.Test.YtcgfklljbblhlaaGreatDoorY3
import Derived.Test.YtcgfklljbblhlaaGreatDoorY9
import Derived.Laws.StructEq
import Derived.Test.YtcgfklljbblhlaaGreatDoorMa
import Derived.Test.YtcgfklljbblhlaaGreatDoorHi
import Derived.Test.YtcgfklljbblhlaaGreatDoorY7
import Derived.Test.YtcgfklljbblhlaaGreatDoorMc
import Derived.Maps.AppendAt
import Derived.Test.YtcgfklljbblhlaaGreatDoorVs
namespace Go.Proofs.YtcgfklljbblhlaaGreatDoor.Ko
open Go.ChangeShapes Go.WideShapes Go.ChangeAt Go.RowKit Base Sq
set_option linter.unusedVariables false
set_option maxRecDepth 20000

theorem st_ext {a b : St} (h1 : a.dx = b.dx) (h2 : a.dy = b.dy) (h3 : a.far = b.far) : a = b := by
  cases a; cases b; simp only at h1 h2 h3; rw [h1, h2, h3]
theorem menL_ext {l l' : List St} (hl : l.length = l'.length) (h : ∀ i, i < l.length → stAt l i = stAt l' i) : l = l' :=
  List.ext_getElem hl (fun i h1 h2 => by rw [← stAt_lt h1, ← stAt_lt h2]; exact h i h1)
/-- two positions are the same -/
def sameS (a b : St) : Bool := decide (a.dx = b.dx) && decide (a.dy = b.dy) && decide (a.far = b.far)
theorem sameS_iff {a b : St} : sameS a b = true ↔ a = b := by
  unfold sameS
  simp only [Bool.and_eq_true, decide_eq_true_eq]
  exact ⟨fun h => st_ext h.1.1 h.1.2 h.2, fun h => by subst h; exact ⟨⟨rfl, rfl⟩, rfl⟩⟩
abbrev PV := Int × List St
/-- the position behind i moves -/
def gP (t : Int) (l : List St) (ms : List Mv) : Nat → PV
  | 0 => (t, l)
  | i + 1 => (1 - (gP t l ms i).1, nextL (gP t l ms i).2 (mvAt ms i))
open Classical in
noncomputable def eqN (p q : PV) : Nat := if p = q then 1 else 0
/-- how many of the first k positions are this one -/
noncomputable def occK (t : Int) (l : List St) (ms : List Mv) (p : PV) : Nat → Nat
  | 0 => 0
  | k + 1 => occK t l ms p k + eqN (gP t l ms k) p
/-- how many moves were made since the last capture -/
def quietK (t : Int) (l : List St) (ms : List Mv) : Nat → Nat
  | 0 => 0
  | k + 1 => if manV (gP t l ms k).2 (mvAt ms k).2 = -1 then quietK t l ms k + 1 else 0
/-- how the game stands behind i moves -/
noncomputable def stG (side : Int) (ks : List Kd) (t : Int) (l : List St) (ms : List Mv) (i : Nat) : Int :=
  if stateV side ks (gP t l ms i).1 (gP t l ms i).2 ≠ 1 then stateV side ks (gP t l ms i).1 (gP t l ms i).2 else if 3 ≤ occK t l ms (gP t l ms i) (i + 1) then 4 else if 12 ≤ quietK t l ms i then 5 else 1
noncomputable def goB (side : Int) (ks : List Kd) (t : Int) (l : List St) (ms : List Mv) (i : Nat) : Bool := canB side ks (gP t l ms i).1 (gP t l ms i).2 (mvAt ms i).1 (mvAt ms i).2 && decide (stG side ks t l ms i = 1)
/-- the first n moves may be -/
noncomputable def playB (side : Int) (ks : List Kd) (t : Int) (l : List St) (ms : List Mv) : Nat → Bool
  | 0 => true
  | n + 1 => playB side ks t l ms n && goB side ks t l ms n
noncomputable def gameB (side : Int) (ks : List Kd) (t : Int) (l : List St) (ms : List Mv) : Bool := posB side ks t l && playB side ks t l ms ms.length && decide (ms.length ≤ 30)
theorem playB_le {side t : Int} {ks : List Kd} {l : List St} {ms : List Mv} {n : Nat} (h : playB side ks t l ms n = true) : ∀ i, i ≤ n → playB side ks t l ms i = true := by
  induction n with
  | zero => intro i hi; obtain rfl : i = 0 := by omega
            rfl
  | succ n ih =>
    intro i hi
    by_cases he : i = n + 1
    · subst he; exact h
    · simp only [playB, Bool.and_eq_true] at h
      exact ih h.1 i (by omega)
theorem playB_no {side t : Int} {ks : List Kd} {l : List St} {ms : List Mv} {n m : Nat} (hnm : n < m) (h : goB side ks t l ms n = false) : playB side ks t l ms m = false := by
  rw [Bool.eq_false_iff]
  intro hc
  have := playB_le hc (n + 1) (by omega)
  simp only [playB, h, Bool.and_false] at this
  cases this
/-- behind a move that may be the position is valid -/
theorem can_posOk {side t : Int} {ks : List Kd} {l : List St} (hs : side = 2 ∨ side = 3 ∨ side = 4) (hsh : shapeB side ks t l = true) {f q : Int} (hc : canB side ks t l f q = true) : posOk side ks (1 - t) (nextL l (f, q)) = true ∧ ∃ n : Nat, manV l f = (n : Int) ∧ n < l.length ∧ (stAt l n).far = f ∧ freeB ks t l q = true ∧ nextL l (f, q) = doL l n q ∧ (0 ≤ q ∧ q < side * side) := by
  have hu := shapeB_up hsh
  obtain ⟨n, h1, h2, h3, _, h5, h6⟩ := canB_facts hs hsh hc
  have e : nextL l (f, q) = doL l n q := by unfold nextL; rw [h1, Int.toNat_natCast]
  have h7 := doL_shape hsh (show 0 ≤ 1 - t ∧ 1 - t ≤ 1 by have := (shapeB_facts hsh).1; omega) h2 h5 (freeB_king hu h6)
  refine ⟨?_, n, h1, h2, h3, h6, e, h5⟩
  unfold canB mayB at hc
  rw [h1, Int.toNat_natCast] at hc
  simp only [Bool.and_eq_true, Bool.not_eq_true'] at hc
  unfold posOk
  rw [e, h7, show 1 - (1 - t) = t by omega, hc.2.2]; rfl
theorem posOk_shape {side t : Int} {ks : List Kd} {l : List St} (h : posOk side ks t l = true) : shapeB side ks t l = true := by
  unfold posOk at h
  simp only [Bool.and_eq_true] at h
  exact h.1
theorem goB_can {side t : Int} {ks : List Kd} {l : List St} {ms : List Mv} {i : Nat} (h : goB side ks t l ms i = true) : canB side ks (gP t l ms i).1 (gP t l ms i).2 (mvAt ms i).1 (mvAt ms i).2 = true ∧ stG side ks t l ms i = 1 := by
  unfold goB at h
  simp only [Bool.and_eq_true, decide_eq_true_eq] at h
  exact h
theorem gP_ok {side t : Int} {ks : List Kd} {l : List St} {ms : List Mv} (hs : side = 2 ∨ side = 3 ∨ side = 4) (h0 : posOk side ks t l = true) : ∀ n, playB side ks t l ms n = true → posOk side ks (gP t l ms n).1 (gP t l ms n).2 = true := by
  intro n
  induction n with
  | zero => intro _; exact h0
  | succ n ih =>
    intro h
    simp only [playB, Bool.and_eq_true] at h
    have h1 := ih h.1
    exact (can_posOk hs (posOk_shape h1) (goB_can h.2).1).1
theorem quietK_le (t : Int) (l : List St) (ms : List Mv) : ∀ k, quietK t l ms k ≤ k := by
  intro k
  induction k with
  | zero => exact Nat.le_refl _
  | succ k ih => simp only [quietK]; split <;> omega
theorem eqN_le (p q : PV) : eqN p q ≤ 1 := by unfold eqN; split <;> omega
theorem occK_le (t : Int) (l : List St) (ms : List Mv) (p : PV) : ∀ k, occK t l ms p k ≤ k := by
  intro k
  induction k with
  | zero => exact Nat.le_refl _
  | succ k ih => have := eqN_le (gP t l ms k) p; simp only [occK]; omega
/-! the text of a position tells it -/
theorem u8_inj {a b : Nat} (ha : a < 256) (hb : b < 256) (h : UInt8.ofNat a = UInt8.ofNat b) : a = b := by
  have := congrArg UInt8.toNat h
  simpa [Nat.mod_eq_of_lt ha, Nat.mod_eq_of_lt hb] using this
theorem manU_inj {side : Int} {ks : List Kd} (hok : rulesOk side ks = true) {a b : St} (ha : (0 ≤ a.dx ∧ a.dx < ks.length) ∧ (0 ≤ a.dy ∧ a.dy ≤ 1) ∧ (0 ≤ a.far ∧ a.far < side * side)) (hb : (0 ≤ b.dx ∧ b.dx < ks.length) ∧ (0 ≤ b.dy ∧ b.dy ≤ 1) ∧ (0 ≤ b.far ∧ b.far < side * side)) (h : manU side ks a = manU side ks b) : a = b := by
  obtain ⟨hs, _⟩ := rulesOk_facts hok
  obtain ⟨⟨a1, a2⟩, ⟨a3, a4⟩, a5, a6⟩ := ha
  obtain ⟨⟨b1, b2⟩, ⟨b3, b4⟩, b5, b6⟩ := hb
  have na := name_bd hok (s := a) ⟨a1, a2⟩
  have nb := name_bd hok (s := b) ⟨b1, b2⟩
  unfold manU sqU nameU nameN at h
  simp only [List.cons.injEq, and_true] at h
  obtain ⟨h1, h2, h3⟩ := h
  have hdy : a.dy = b.dy ∧ (kOf ks a).name = (kOf ks b).name := by
    have h1' := u8_inj (by split <;> omega) (by split <;> omega) h1
    by_cases ca : a.dy = 1 <;> by_cases cb : b.dy = 1 <;> simp only [ca, cb, if_true, if_false] at h1' <;> omega
  have hdx : a.dx = b.dx := by
    have hn := hdy.2
    unfold kOf at hn
    rcases Int.lt_trichotomy a.dx b.dx with hlt | he | hlt
    · have := (rulesOk_names hok).2 a.dx.toNat b.dx.toNat (by omega) (by omega); omega
    · exact he
    · have := (rulesOk_names hok).2 b.dx.toNat a.dx.toNat (by omega) (by omega); omega
  have hfar : a.far = b.far := by
    have m1 : 0 ≤ a.far % side ∧ a.far % side < 4 ∧ 0 ≤ b.far % side ∧ b.far % side < 4 ∧ 0 ≤ a.far / side ∧ a.far / side < 4 ∧ 0 ≤ b.far / side ∧ b.far / side < 4 := by
      rcases hs with rfl | rfl | rfl <;> omega
    have h2' := u8_inj (by omega) (by omega) h2
    have h3' := u8_inj (by omega) (by omega) h3
    rcases hs with rfl | rfl | rfl <;> omega
  exact st_ext hdx hdy.1 hfar
theorem menU_inj {side : Int} {ks : List Kd} (hok : rulesOk side ks = true) {l l' : List St} : ∀ n, (∀ i, i < n → ((0 ≤ (stAt l i).dx ∧ (stAt l i).dx < ks.length) ∧ (0 ≤ (stAt l i).dy ∧ (stAt l i).dy ≤ 1) ∧ (0 ≤ (stAt l i).far ∧ (stAt l i).far < side * side)) ∧ ((0 ≤ (stAt l' i).dx ∧ (stAt l' i).dx < ks.length) ∧ (0 ≤ (stAt l' i).dy ∧ (stAt l' i).dy ≤ 1) ∧ (0 ≤ (stAt l' i).far ∧ (stAt l' i).far < side * side))) → menU side ks l n = menU side ks l' n → ∀ i, i < n → stAt l i = stAt l' i := by
  intro n
  induction n with
  | zero => intro _ _ i hi; omega
  | succ n ih =>
    intro hv h i hi
    simp only [menU] at h
    obtain ⟨h1, h2⟩ := List.append_inj h (by rw [menU_len, menU_len])
    by_cases he : i = n
    · subst he
      exact manU_inj hok (hv i (by omega)).1 (hv i (by omega)).2 (by simpa using h2)
    · exact ih (fun j hj => hv j (by omega)) h1 i (by omega)
theorem posU_inj {side : Int} {ks : List Kd} (hok : rulesOk side ks = true) {t t' : Int} {l l' : List St} (h1 : shapeB side ks t l = true) (h2 : shapeB side ks t' l' = true) (h : posU side ks t l = posU side ks t' l') : (t, l) = ((t', l') : PV) := by
  obtain ⟨ht, _, _, _, hm⟩ := shapeB_facts h1
  obtain ⟨ht', _, _, _, hm'⟩ := shapeB_facts h2
  have hlen : l.length = l'.length := by
    have := congrArg List.length h
    unfold posU at this
    rw [posUK_len, posUK_len] at this; omega
  unfold posU posUK digU at h
  simp only [List.cons.injEq] at h
  obtain ⟨h3, h4⟩ := h
  have e : t = t' := by have := u8_inj (by omega) (by omega) h3; omega
  rw [← hlen] at h4
  have e2 : l = l' := menL_ext hlen (menU_inj hok l.length (fun i hi => ⟨⟨(hm i hi).1, (hm i hi).2.1, (hm i hi).2.2.1⟩, ⟨(hm' i (by omega)).1, (hm' i (by omega)).2.1, (hm' i (by omega)).2.2.1⟩⟩) h4)
  rw [e, e2]
end Go.Proofs.YtcgfklljbblhlaaGreatDoor.Ko

namespace Go.Proofs.YtcgfklljbblhlaaGreatDoor.Ko
open Go.ChangeShapes Go.WideShapes Go.ChangeAt Go.RowKit Base Sq
set_option linter.unusedVariables false
set_option maxRecDepth 20000
attribute [local irreducible] wpQuiet

theorem manFieldsE : Tryz.prog.underlying 105 = some (.struct (Tryz.prog.fieldsOf 105)) := by
  unfold Program.fieldsOf; rw [Tryz.underlying105]
theorem manFree : Tryz.prog.stoodInHeld 105 = false := by kernel_rfl
theorem manGuard : Tryz.prog.eqGuardType Tryz.prog.depth 105 = false := by kernel_rfl
theorem neqGuardMan (w : World) (x y : Operand) (xs ys : Array Value) : (eqGuard .neq 105 x y (.agg xs) (.agg ys)).run Tryz.prog w = .ok () w := run_eqGuard_agg w _ _ x y xs ys manGuard
theorem neqMan (w : World) (a b c d e f : Int) : (binOp .neq 105 (.agg #[.int .i64 a, .int .i64 b, .int .i64 c]) (.agg #[.int .i64 d, .int .i64 e, .int .i64 f])).run Tryz.prog w = .ok (.bool (!(a == d && b == e && c == f))) w := by
  have hi := Tryz.underlying3
  rw [run_neq_struct, run_equalIn_struct w 9999 _ _ _ manFieldsE manFree]
  unfold Program.fieldsOf
  rw [Tryz.underlying105]
  by_cases h : a = d
  · by_cases h2 : b = e
    · by_cases h3 : c = f
      · simp [Op.eqFields, go_sem, hi, h, h2, h3]
      · simp [Op.eqFields, go_sem, hi, h, h2, h3]
    · simp [Op.eqFields, go_sem, hi, h, h2]
  · simp [Op.eqFields, go_sem, hi, h]
open Classical in
noncomputable def eqB (p q : PV) : Bool := decide (p = q)
theorem eqB_no {p q : PV} (h : p ≠ q) : eqB p q = false := by unfold eqB; simp [h]
theorem eqB_yes {p q : PV} (h : p = q) : eqB p q = true := by unfold eqB; simp [h]
theorem eqN_eqB (p q : PV) : eqN p q = if eqB p q = true then 1 else 0 := by
  unfold eqN eqB
  by_cases h : p = q <;> simp [h]

set_option maxHeartbeats 4000000 in
theorem l14Same_any (t : Int) (A : Option Addr) (c : Nat) (l : List St) (t' : Int) (A' : Option Addr) (c' : Nat) (l' : List St) (w : World) (h : IsSteps w w.heap.size A l) (h' : IsSteps w w.heap.size A' l') (hl : l.length ≤ 1048576) (hl' : l'.length ≤ 1048576) :
    Calls Tryz.prog 76 #[.agg #[.int .i64 t, .slice A l.length c], .agg #[.int .i64 t', .slice A' l'.length c']] w fun e w' => e = .returned (.bool (eqB (t, l) (t', l'))) ∧ Below w.heap.size w w' := by
  have hb0 : Below w.heap.size w ((w.alloc (.cells #[.int .i64 t, .slice A l.length c] 35)).alloc (.cells #[.int .i64 t', .slice A' l'.length c'] 35)) := (by repeat (first | exact Below.refl _ _ | assumption | (refine Below.alloc ?_ (by first | omega | (simp; done) | (simp; omega)) _) | (refine Below.setCell ?_ (by first | omega | (simp; done) | (simp; omega)) _) | refine Below.drew ?_))
  have p1 := (Blk.new w #[.int .i64 t, .slice A l.length c] 35).alloc (.cells #[.int .i64 t', .slice A' l'.length c'] 35)
  have p2 := Blk.new (w.alloc (.cells #[.int .i64 t, .slice A l.length c] 35)) #[.int .i64 t', .slice A' l'.length c'] 35
  simp only [World.size_alloc] at p2
  have HN := Lib.hid (fun hh => eqB_no (p := (t, l)) (q := (t', l')) hh)
  have HY := Lib.hid (fun hh => eqB_yes (p := (t, l)) (q := (t', l')) hh)
  by_cases ht : t = t'
  · have hd : (t != t') = false := by simp [ht]
    by_cases hll : l.length = l'.length
    · have hd2 : ((l.length : Int) != (l'.length : Int)) = false := by simp [hll]
      have HT := Lib.hid ht
      have HLL := Lib.hid hll
      clear ht hll
      go_enter Tryz.func76, Tryz.ntmps76
      go_wp2_with fail
      generalize hW0 : (w.alloc _).alloc _ = W0 at *
      clear hW0
      go_loopw [5] (fun i wr => ∃ k : Nat, k ≤ l.length ∧ i = .int .i64 k ∧ Hid (∀ j, j < k → stAt l j = stAt l' j) ∧ Blk wr w.heap.size #[.int .i64 t, .slice A l.length c] 35 ∧ Blk wr (w.heap.size + 1) #[.int .i64 t', .slice A' l'.length c'] 35 ∧ Below w.heap.size w wr) (fun i _ => l.length - (intOf i).toNat)
      case atStart => exact ⟨0, by omega, rfl, Lib.hid (fun j hj => absurd hj (by omega)), p1, p2, hb0⟩
      case round =>
        clear p1 p2 hb0
        obtain ⟨k, hk, rfl, hg, p1, p2, hbe⟩ := hrel
        obtain ⟨⟨r0, r1⟩, _⟩ := p1.at2
        obtain ⟨⟨o0, o1⟩, _⟩ := p2.at2
        have z1 := p1.lt
        have z2 := p2.lt
        have hz := hbe.size
        by_cases hlt : k < l.length
        · obtain ⟨b, off, rfl, hB, hc⟩ := h.below hbe (by omega)
          obtain ⟨a0, a1, a2⟩ := hc k hlt
          obtain ⟨b', off', rfl, hB', hc'⟩ := h'.below hbe (by have := HLL.out; omega)
          obtain ⟨e0, e1, e2⟩ := hc' k (by have := HLL.out; omega)
          have g1 : (0 : Int) ≤ (k : Int) := by omega
          have g2 : (k : Int) < (l.length : Int) := by omega
          have g3 : (k : Int) < (l'.length : Int) := by have := HLL.out; omega
          have z3 : b < wr.heap.size := by omega
          have z4 : b' < wr.heap.size := by omega
          have hq1 := neqGuardMan
          have hq2 := neqMan
          clear hc hc'
          by_cases hs : stAt l k = stAt l' k
          · have hx : ((stAt l k).dx == (stAt l' k).dx && (stAt l k).dy == (stAt l' k).dy && (stAt l k).far == (stAt l' k).far) = true := by simp [hs]
            have HS := Lib.hid hs
            clear hs
            go_wp2_with fail
            refine wp_region_below (W := wr) (by kernel_rfl) (by kernel_rfl) (Below.refl _ _) ?_
            repeat (first
              | (refine qs_skip (by rfl) ?_; simp only [Act.put, List.setIfInBounds_toArray, List.set_cons_zero, List.set_cons_succ])
              | (apply qs_take
                 focus rfl
                 focus (
                   intro wq hwq
                   obtain ⟨hcq, hfq⟩ := bcell hwq
                   go_simp
                   all_goals first
                     | exact rfl
                     | (exact ⟨trivial, rfl⟩))
                 simp only [Act.put, List.setIfInBounds_toArray, List.set_cons_zero, List.set_cons_succ]))
            refine wpQuiet_nil ?_
            intro wq hwq
            go_wp2_with fail
            go_roundw
            case rel => exact ⟨k + 1, by omega, by go_num, Lib.hid (all_succ hg.out HS.out), p1.below hwq z1, p2.below hwq z2, hbe.trans (hwq.mono hz)⟩
            case measure => simp [intOf]; omega
          · have hx : ((stAt l k).dx == (stAt l' k).dx && (stAt l k).dy == (stAt l' k).dy && (stAt l k).far == (stAt l' k).far) = false := by
              rw [Bool.eq_false_iff]
              intro hc
              simp only [Bool.and_eq_true, beq_iff_eq] at hc
              exact hs (st_ext hc.1.1 hc.1.2 hc.2)
            have HS := Lib.hid (HN.out (fun he => hs (congrArg (fun x => stAt x k) (Prod.mk.inj he).2)))
            clear hs
            go_wp2_with fail
            refine wp_region_below (W := wr) (by kernel_rfl) (by kernel_rfl) (Below.refl _ _) ?_
            repeat (first
              | (refine qs_skip (by rfl) ?_; simp only [Act.put, List.setIfInBounds_toArray, List.set_cons_zero, List.set_cons_succ])
              | (apply qs_take
                 focus rfl
                 focus (
                   intro wq hwq
                   obtain ⟨hcq, hfq⟩ := bcell hwq
                   go_simp
                   all_goals first
                     | exact rfl
                     | (exact ⟨trivial, rfl⟩))
                 simp only [Act.put, List.setIfInBounds_toArray, List.set_cons_zero, List.set_cons_succ]))
            refine wpQuiet_nil ?_
            intro wq hwq
            go_wp2_with fail
            go_ret
            exact ⟨rb HS.out.symm, hbe.trans (hwq.mono hz)⟩
        · obtain rfl : k = l.length := by omega
          have HS := Lib.hid (HY.out (by rw [HT.out, menL_ext HLL.out hg.out]))
          clear r0 r1 o0 o1
          obtain ⟨⟨r0, r1⟩, _⟩ := p1.at2
          go_wp2_with fail
          go_ret
          exact ⟨rb HS.out.symm, hbe⟩
    · have hd2 : ((l.length : Int) != (l'.length : Int)) = true := by rw [bne_iff_ne]; omega
      have HS := Lib.hid (HN.out (fun he => hll (congrArg List.length (Prod.mk.inj he).2)))
      clear ht hll HY
      go_enter Tryz.func76, Tryz.ntmps76
      go_wp2_with fail
      go_ret
      exact ⟨rb HS.out.symm, hb0⟩
  · have hd : (t != t') = true := by simp [ht]
    have HS := Lib.hid (HN.out (fun he => ht (Prod.mk.inj he).1))
    clear ht HY
    go_enter Tryz.func76, Tryz.ntmps76
    go_wp2_with fail
    go_ret
    exact ⟨rb HS.out.symm, hb0⟩
end Go.Proofs.YtcgfklljbblhlaaGreatDoor.Ko

namespace Go.Proofs.YtcgfklljbblhlaaGreatDoor.Ko
open Go.ChangeShapes Go.WideShapes Go.ChangeAt Go.RowKit Base Sq
set_option linter.unusedVariables false
set_option maxRecDepth 20000
attribute [local irreducible] wpQuiet

theorem l4Takes_any (t : Int) (M : Option Addr) (cm : Nat) (l : List St) (f q : Int) (w : World) (hM : IsSteps w w.heap.size M l) (hl : l.length ≤ 1048576) :
    Calls Tryz.prog 77 #[.agg #[.int .i64 t, .slice M l.length cm], .agg #[.int .i64 f, .int .i64 q]] w fun e w' => e = .returned (.bool (decide (manV l q ≠ -1))) ∧ Below w.heap.size w w' := by
  have hbd := (manV_bd l q).1
  go_enter Tryz.func77, Tryz.ntmps77
  go_wp2_with fail
  have hb0 : Below w.heap.size w ((w.alloc (.cells #[.int .i64 t, .slice M l.length cm] 35)).alloc (.cells #[.int .i64 f, .int .i64 q] 58)) := (by repeat (first | exact Below.refl _ _ | assumption | (refine Below.alloc ?_ (by first | omega | (simp; done) | (simp; omega)) _) | (refine Below.setCell ?_ (by first | omega | (simp; done) | (simp; omega)) _) | refine Below.drew ?_))
  generalize hW0 : (w.alloc _).alloc _ = W0 at *
  clear hW0
  refine (l3Man_any _ _ _ _ _ _ ((hM.below hb0).more hb0.size) hl).mono ?_
  rintro e w2 ⟨rfl, hb2⟩
  go_wp2_with fail
  go_ret
  exact ⟨rb (by by_cases h : manV l q = -1 <;> simp [h]; omega), hb0.trans (hb2.mono hb0.size)⟩
end Go.Proofs.YtcgfklljbblhlaaGreatDoor.Ko

namespace Go.Proofs.YtcgfklljbblhlaaGreatDoor.Ko
open Go.ChangeShapes Go.WideShapes Go.ChangeAt Go.RowKit Base Sq
set_option linter.unusedVariables false
set_option maxRecDepth 20000
attribute [local irreducible] wpQuiet

/-- the first n moves of a game, as they lie -/
def InMvs (w : World) (B : Nat) (A : Option Addr) (n : Nat) (ms : List Mv) : Prop :=
  0 < n → ∃ b off, A = some ⟨b, off, none⟩ ∧ b < B ∧ ∀ i, i < n → w.cell? ⟨b, off + i * 2, none⟩ = some (.int .i64 (mvAt ms i).1) ∧ w.cell? ⟨b, off + i * 2 + 1, none⟩ = some (.int .i64 (mvAt ms i).2)
theorem InMvs.below {w w' : World} {B : Nat} {A : Option Addr} {n : Nat} {ms : List Mv} (h : InMvs w B A n ms) (hb : Below B w w') : InMvs w' B A n ms := fun hn => by
  obtain ⟨b, off, e, hB, hc⟩ := h hn
  exact ⟨b, off, e, hB, fun i hi => ⟨(hb.cell (p := ⟨b, _, none⟩) hB).trans (hc i hi).1, (hb.cell (p := ⟨b, _, none⟩) hB).trans (hc i hi).2⟩⟩
theorem InMvs.more {w : World} {B B' : Nat} {A : Option Addr} {n : Nat} {ms : List Mv} (h : InMvs w B A n ms) (hB : B ≤ B') : InMvs w B' A n ms := fun hn => by
  obtain ⟨b, off, e, hb, hc⟩ := h hn
  exact ⟨b, off, e, by omega, hc⟩
theorem InMvs.less {w : World} {B : Nat} {A : Option Addr} {n m : Nat} {ms : List Mv} (h : InMvs w B A n ms) (hm : m ≤ n) : InMvs w B A m ms := fun hn => by
  obtain ⟨b, off, e, hb, hc⟩ := h (by omega)
  exact ⟨b, off, e, hb, fun i hi => hc i (by omega)⟩
/-- the positions of a game behind its first n moves, and the one at the beginning, as they lie -/
def IsQ (w : World) (B : Nat) (S : Option Addr) (n : Nat) (t : Int) (l : List St) (ms : List Mv) : Prop :=
  ∃ b off, S = some ⟨b, off, none⟩ ∧ b < B ∧ ∀ i, i ≤ n → ∃ A c, w.cell? ⟨b, off + i * 2, none⟩ = some (.int .i64 (gP t l ms i).1) ∧ w.cell? ⟨b, off + i * 2 + 1, none⟩ = some (.slice A (gP t l ms i).2.length c) ∧ IsSteps w B A (gP t l ms i).2
theorem IsQ.below {w w' : World} {B : Nat} {S : Option Addr} {n : Nat} {t : Int} {l : List St} {ms : List Mv} (h : IsQ w B S n t l ms) (hb : Below B w w') : IsQ w' B S n t l ms := by
  obtain ⟨b, off, e, hB, hc⟩ := h
  refine ⟨b, off, e, hB, fun i hi => ?_⟩
  obtain ⟨A, c, h1, h2, h3⟩ := hc i hi
  exact ⟨A, c, (hb.cell (p := ⟨b, _, none⟩) hB).trans h1, (hb.cell (p := ⟨b, _, none⟩) hB).trans h2, h3.below hb⟩
theorem IsQ.more {w : World} {B B' : Nat} {S : Option Addr} {n : Nat} {t : Int} {l : List St} {ms : List Mv} (h : IsQ w B S n t l ms) (hB : B ≤ B') : IsQ w B' S n t l ms := by
  obtain ⟨b, off, e, hb, hc⟩ := h
  refine ⟨b, off, e, by omega, fun i hi => ?_⟩
  obtain ⟨A, c, h1, h2, h3⟩ := hc i hi
  exact ⟨A, c, h1, h2, h3.more hB⟩
theorem occK_next (t : Int) (l : List St) (ms : List Mv) (p : PV) (k : Nat) : occK t l ms p (k + 1) = occK t l ms p k + (if eqB (gP t l ms k) p = true then 1 else 0) := by rw [← eqN_eqB]; rfl

set_option maxHeartbeats 8000000 in
theorem l14State_any (side : Int) (A : Option Addr) (c : Nat) (ks : List Kd) (S : Option Addr) (cs : Nat) (M : Option Addr) (cm : Nat) (n : Nat) (t : Int) (l : List St) (ms : List Mv) (w : World) (hR : IsKinds w w.heap.size A ks) (hQ : IsQ w w.heap.size S n t l ms) (hM : InMvs w w.heap.size M n ms)
    (hok : rulesOk side ks = true) (hsh : ∀ i, i ≤ n → shapeB side ks (gP t l ms i).1 (gP t l ms i).2 = true) (hn : n ≤ 1048576) :
    Calls Tryz.prog 52 #[.agg #[.int .i64 side, .slice A ks.length c], .slice S (n + 1) cs, .slice M n cm] w fun e w' => e = .returned (.int .i64 (stG side ks t l ms n)) ∧ Below w.heap.size w w' := by
  have HOK := Lib.hid hok
  have HSH := Lib.hid hsh
  have HQ := Lib.hid hQ
  have HM := Lib.hid hM
  have HR := Lib.hid hR
  have HST := Lib.hid (show stG side ks t l ms n = if stateV side ks (gP t l ms n).1 (gP t l ms n).2 ≠ 1 then stateV side ks (gP t l ms n).1 (gP t l ms n).2 else if 3 ≤ occK t l ms (gP t l ms n) (n + 1) then 4 else if 12 ≤ quietK t l ms n then 5 else 1 from rfl)
  obtain ⟨b, off, rfl, hB, hc⟩ := hQ
  obtain ⟨An, cn, e0, e1, hnn⟩ := hc n (Nat.le_refl _)
  obtain ⟨p, hp⟩ : ∃ p, p = gP t l ms n := ⟨_, rfl⟩
  have HP := Lib.hid hp
  rw [← hp] at e0 e1 hnn HST
  obtain ⟨tn, ln⟩ := p
  have HNN := Lib.hid hnn
  have hb0 : Below w.heap.size w ((w.alloc (.cells #[.int .i64 side, .slice A ks.length c] 40)).alloc (.cells #[.int .i64 tn, .slice An ln.length cn] 35)) := (by repeat (first | exact Below.refl _ _ | assumption | (refine Below.alloc ?_ (by first | omega | (simp; done) | (simp; omega)) _) | (refine Below.setCell ?_ (by first | omega | (simp; done) | (simp; omega)) _) | refine Below.drew ?_))
  have p1 := (Blk.new w #[.int .i64 side, .slice A ks.length c] 40).alloc (.cells #[.int .i64 tn, .slice An ln.length cn] 35)
  have p2 := Blk.new (w.alloc (.cells #[.int .i64 side, .slice A ks.length c] 40)) #[.int .i64 tn, .slice An ln.length cn] 35
  simp only [World.size_alloc] at p2
  have g0 : (0 : Int) ≤ (n : Int) := by omega
  have hw1 : IntKind.i64.wrap ((n : Int) + 1 - 1) = (n : Int) := by rw [show (n : Int) + 1 - 1 = (n : Int) by omega]; exact IntWalk.i64_in _ (by omega)
  have hw2 : IntKind.i64.wrap (n : Int) = (n : Int) := IntWalk.i64_in _ (by omega)
  clear hok hsh hM hR hc hp hnn
  go_enter Tryz.func52, Tryz.ntmps52
  go_wp2_with fail
  generalize hW0 : (w.alloc _).alloc _ = W0 at *
  clear hW0
  refine (l4State_any side A c ks tn An cn ln _ ((HR.out.below hb0).more hb0.size) ((HNN.out.below hb0).more hb0.size) HOK.out (by have := HSH.out n (Nat.le_refl _); rw [← HP.out] at this; exact this)).mono ?_
  rintro e w2 ⟨rfl, hb2⟩
  obtain ⟨st, hst⟩ : ∃ st, st = stateV side ks tn ln := ⟨_, rfl⟩
  have HSV := Lib.hid hst
  rw [← hst]
  have HQ2 := Lib.hid (p2.below hb2 p2.lt)
  have HB2 := Lib.hid (hb0.trans (hb2.mono hb0.size))
  have z2 := HQ2.out.lt
  clear p1 p2 hb0 hb2 hst e0 e1
  go_wp2_with fail
  go_loopw [9, 11] (fun x i wr => ∃ k : Nat, k ≤ n + 1 ∧ i = .int .i64 k ∧ x = .int .i64 (occK t l ms (tn, ln) k : Nat) ∧ Below w2.heap.size w2 wr) (fun _ i _ => n + 1 - (intOf i).toNat)
  case atStart => exact ⟨0, by omega, rfl, rfl, Below.refl _ _⟩
  case round =>
    obtain ⟨k, hk, rfl, rfl, hbe⟩ := hrel
    have hz := hbe.size
    by_cases hlt : k < n + 1
    · have g1 : (0 : Int) ≤ (k : Int) := by omega
      have g2 : (k : Int) < (n : Int) + 1 := by omega
      obtain ⟨b', off', he, hB', hc⟩ := HQ.out.below (HB2.out.trans (hbe.mono HB2.out.size))
      injection he with he
      injection he with he1 he2
      subst he1 he2
      obtain ⟨Ak, ck, a0, a1, hkk⟩ := hc k (by omega)
      obtain ⟨q, hq⟩ : ∃ q, q = gP t l ms k := ⟨_, rfl⟩
      have HQK := Lib.hid hq
      rw [← hq] at a0 a1 hkk
      obtain ⟨tk, lk⟩ := q
      have hkk := hkk.more (show w.heap.size ≤ wr.heap.size from Nat.le_trans HB2.out.size hz)
      have hnk := (HNN.out.below (HB2.out.trans (hbe.mono HB2.out.size))).more (show w.heap.size ≤ wr.heap.size from Nat.le_trans HB2.out.size hz)
      have p2 := HQ2.out.below hbe z2
      obtain ⟨⟨o0, o1⟩, _⟩ := p2.at2
      have z3 : b < wr.heap.size := by have := HB2.out.size; omega
      have z4 : w.heap.size + 1 < wr.heap.size := by omega
      have hlk : lk.length ≤ 1048576 := by have h := HSH.out k (by omega); rw [← HQK.out] at h; exact Nat.le_trans (shapeB_facts h).2.1 (by omega)
      have hln : ln.length ≤ 1048576 := by have h := HSH.out n (Nat.le_refl _); rw [← HP.out] at h; exact Nat.le_trans (shapeB_facts h).2.1 (by omega)
      have hON := occK_next t l ms (tn, ln) k
      rw [← hq] at hON
      have hOB := occK_le t l ms (tn, ln) k
      clear hc hq
      obtain ⟨oc, hoc⟩ : ∃ oc : Nat, oc = occK t l ms (tn, ln) k := ⟨_, rfl⟩
      rw [← hoc] at hON hOB ⊢
      cases hcase : eqB (tk, lk) (tn, ln)
      · have HON := Lib.hid (show occK t l ms (tn, ln) (k + 1) = oc by rw [hON, hcase]; simp)
        have HCS := Lib.hid hcase
        clear hON hoc hcase
        go_wp2_with fail
        refine wp_region_below (W := wr) (by kernel_rfl) (by kernel_rfl) (Below.refl _ _) ?_
        repeat (first
          | (refine qs_skip (by rfl) ?_; simp only [Act.put, List.setIfInBounds_toArray, List.set_cons_zero, List.set_cons_succ])
          | (apply qs_take
             focus rfl
             focus (
               intro wq hwq
               obtain ⟨hcq, hfq⟩ := bcell hwq
               go_simp
               all_goals first
                 | exact rfl
                 | (go_at_call 76; refine (l14Same_any _ _ _ _ _ _ _ _ _ ((hkk.below hwq).more hwq.size) ((hnk.below hwq).more hwq.size) hlk hln).mono ?_; rw [HCS.out]; exact fun e w2 h => ⟨h.1, hwq.trans (h.2.mono hwq.size)⟩)
                 | (exact ⟨trivial, rfl⟩))
             simp only [Act.put, List.setIfInBounds_toArray, List.set_cons_zero, List.set_cons_succ]))
        refine wpQuiet_nil ?_
        intro wq hwq
        go_wp2_with fail
        go_roundw
        case rel => exact ⟨k + 1, by omega, by go_num, by rw [HON.out], hbe.trans (hwq.mono hz)⟩
        case measure => simp [intOf]; omega
      · have HON := Lib.hid (show occK t l ms (tn, ln) (k + 1) = oc + 1 by rw [hON, hcase]; simp)
        have HCS := Lib.hid hcase
        clear hON hoc hcase
        have hwo : IntKind.i64.wrap ((oc : Int) + 1) = (oc : Int) + 1 := IntWalk.i64_in _ (by omega)
        go_wp2_with fail
        refine wp_region_below (W := wr) (by kernel_rfl) (by kernel_rfl) (Below.refl _ _) ?_
        repeat (first
          | (refine qs_skip (by rfl) ?_; simp only [Act.put, List.setIfInBounds_toArray, List.set_cons_zero, List.set_cons_succ])
          | (apply qs_take
             focus rfl
             focus (
               intro wq hwq
               obtain ⟨hcq, hfq⟩ := bcell hwq
               go_simp
               all_goals first
                 | exact rfl
                 | (go_at_call 76; refine (l14Same_any _ _ _ _ _ _ _ _ _ ((hkk.below hwq).more hwq.size) ((hnk.below hwq).more hwq.size) hlk hln).mono ?_; rw [HCS.out]; exact fun e w2 h => ⟨h.1, hwq.trans (h.2.mono hwq.size)⟩)
                 | (exact ⟨trivial, rfl⟩))
             simp only [Act.put, List.setIfInBounds_toArray, List.set_cons_zero, List.set_cons_succ]))
        refine wpQuiet_nil ?_
        intro wq hwq
        go_wp2_with fail
        go_roundw
        case rel => exact ⟨k + 1, by omega, by go_num, by rw [HON.out]; first | rfl | simp, hbe.trans (hwq.mono hz)⟩
        case measure => simp [intOf]; omega
    · obtain rfl : k = n + 1 := by omega
      obtain ⟨oc, hoc⟩ : ∃ oc : Nat, oc = occK t l ms (tn, ln) (n + 1) := ⟨_, rfl⟩
      have HOC := Lib.hid hoc
      rw [← hoc]
      have hocn : oc ≤ n + 1 := by rw [hoc]; exact occK_le _ _ _ _ _
      have HBE := Lib.hid (HB2.out.trans (hbe.mono HB2.out.size))
      have hcast : ((n + 1 : Nat) : Int) = (n : Int) + 1 := by omega
      rw [hcast]
      clear hoc hlt hbe hcast
      go_wp2_with fail
      generalize hwa : wr = wa at *
      clear hwa
      go_loopw [10, 12] (fun x i wr => ∃ k : Nat, k ≤ n ∧ i = .int .i64 k ∧ x = .int .i64 (quietK t l ms k : Nat) ∧ Below wa.heap.size wa wr) (fun _ i _ => n - (intOf i).toNat)
      case atStart => exact ⟨0, by omega, rfl, rfl, Below.refl _ _⟩
      case round =>
        obtain ⟨k, hk, rfl, rfl, hbq⟩ := hrel
        have hzq := hbq.size
        have hbe := HBE.out.trans (hbq.mono HBE.out.size)
        have hqb := quietK_le t l ms k
        obtain ⟨qn, hqn⟩ : ∃ qn : Nat, qn = quietK t l ms k := ⟨_, rfl⟩
        rw [← hqn] at hqb ⊢
        by_cases hlt : k < n
        · have g1 : (0 : Int) ≤ (k : Int) := by omega
          have g2 : (k : Int) < (n : Int) := by omega
          have g3 : (k : Int) < (n : Int) + 1 := by omega
          obtain ⟨b', off', he, hB', hc⟩ := HQ.out.below hbe
          injection he with he
          injection he with he1 he2
          subst he1 he2
          obtain ⟨Ak, ck, a0, a1, hkk⟩ := hc k (by omega)
          obtain ⟨bm, offm, rfl, hBm, hcm⟩ := HM.out.below hbe (by omega)
          obtain ⟨m0, m1⟩ := hcm k hlt
          obtain ⟨q, hq⟩ : ∃ q, q = gP t l ms k := ⟨_, rfl⟩
          have HQK := Lib.hid hq
          rw [← hq] at a0 a1 hkk
          obtain ⟨tk, lk⟩ := q
          have hkk := hkk.more (show w.heap.size ≤ wr.heap.size from hbe.size)
          have z3 : b < wr.heap.size := by have := hbe.size; omega
          have z5 : bm < wr.heap.size := by have := hbe.size; omega
          have hlk : lk.length ≤ 1048576 := by have h := HSH.out k (by omega); rw [← HQK.out] at h; exact Nat.le_trans (shapeB_facts h).2.1 (by omega)
          obtain ⟨fr, hfr⟩ : ∃ fr, fr = (mvAt ms k).1 := ⟨_, rfl⟩
          obtain ⟨to, hto⟩ : ∃ to, to = (mvAt ms k).2 := ⟨_, rfl⟩
          rw [← hfr] at m0
          rw [← hto] at m1
          have hwq1 : IntKind.i64.wrap ((qn : Int) + 1) = (qn : Int) + 1 := IntWalk.i64_in _ (by omega)
          by_cases hcap : manV lk to = -1
          · have HON := Lib.hid (show quietK t l ms (k + 1) = qn + 1 by simp only [quietK]; rw [← hq, ← hto, if_pos hcap, hqn])
            have HD := Lib.hid (show decide (manV lk to ≠ -1) = false by simp [hcap])
            clear hc hcm hq hfr hto hcap hqn
            go_wp2_with fail
            refine wp_region_below (W := wr) (by kernel_rfl) (by kernel_rfl) (Below.refl _ _) ?_
            repeat (first
              | (refine qs_skip (by rfl) ?_; simp only [Act.put, List.setIfInBounds_toArray, List.set_cons_zero, List.set_cons_succ])
              | (apply qs_take
                 focus rfl
                 focus (
                   intro wq hwq
                   obtain ⟨hcq, hfq⟩ := bcell hwq
                   go_simp
                   all_goals first
                     | exact rfl
                     | (go_at_call 77; refine (l4Takes_any _ _ _ _ _ _ _ ((hkk.below hwq).more hwq.size) hlk).mono ?_; rw [HD.out]; exact fun e w2 h => ⟨h.1, hwq.trans (h.2.mono hwq.size)⟩)
                     | (exact ⟨trivial, rfl⟩))
                 simp only [Act.put, List.setIfInBounds_toArray, List.set_cons_zero, List.set_cons_succ]))
            refine wpQuiet_nil ?_
            intro wq hwq
            go_wp2_with fail
            go_roundw
            case rel => exact ⟨k + 1, by omega, by go_num, by rw [HON.out]; first | rfl | simp, hbq.trans (hwq.mono hzq)⟩
            case measure => simp [intOf]; omega
          · have HON := Lib.hid (show quietK t l ms (k + 1) = 0 by simp only [quietK]; rw [← hq, ← hto, if_neg hcap])
            have HD := Lib.hid (show decide (manV lk to ≠ -1) = true by simp [hcap])
            clear hc hcm hq hfr hto hcap hqn
            go_wp2_with fail
            refine wp_region_below (W := wr) (by kernel_rfl) (by kernel_rfl) (Below.refl _ _) ?_
            repeat (first
              | (refine qs_skip (by rfl) ?_; simp only [Act.put, List.setIfInBounds_toArray, List.set_cons_zero, List.set_cons_succ])
              | (apply qs_take
                 focus rfl
                 focus (
                   intro wq hwq
                   obtain ⟨hcq, hfq⟩ := bcell hwq
                   go_simp
                   all_goals first
                     | exact rfl
                     | (go_at_call 77; refine (l4Takes_any _ _ _ _ _ _ _ ((hkk.below hwq).more hwq.size) hlk).mono ?_; rw [HD.out]; exact fun e w2 h => ⟨h.1, hwq.trans (h.2.mono hwq.size)⟩)
                     | (exact ⟨trivial, rfl⟩))
                 simp only [Act.put, List.setIfInBounds_toArray, List.set_cons_zero, List.set_cons_succ]))
            refine wpQuiet_nil ?_
            intro wq hwq
            go_wp2_with fail
            go_roundw
            case rel => exact ⟨k + 1, by omega, by go_num, by rw [HON.out]; first | rfl | simp, hbq.trans (hwq.mono hzq)⟩
            case measure => simp [intOf]; omega
        · obtain rfl : k = n := by omega
          have HQN := Lib.hid hqn
          clear hqn hlt
          by_cases h1 : st = 1
          · have HA := Lib.hid (show stG side ks t l ms k = if 3 ≤ oc then 4 else if 12 ≤ qn then 5 else 1 by rw [HST.out, ← HSV.out, if_neg (by rw [h1]; simp), ← HOC.out, ← HQN.out])
            have hd : (st != 1) = false := by simp [h1]
            by_cases h2 : 3 ≤ oc
            · have HA2 := Lib.hid (show stG side ks t l ms k = 4 by rw [HA.out, if_pos h2])
              have h2' : (3 : Int) ≤ (oc : Int) := by omega
              clear HA h1
              go_wp2_with fail
              go_ret
              exact ⟨ri HA2.out.symm, hbe⟩
            · have h2' : ¬ (3 : Int) ≤ (oc : Int) := by omega
              have h2'' : (oc : Int) < 3 := by omega
              by_cases h3 : 12 ≤ qn
              · have HA2 := Lib.hid (show stG side ks t l ms k = 5 by rw [HA.out, if_neg h2, if_pos h3])
                have h3' : (12 : Int) ≤ (qn : Int) := by omega
                clear HA h1
                go_wp2_with fail
                go_ret
                exact ⟨ri HA2.out.symm, hbe⟩
              · have HA2 := Lib.hid (show stG side ks t l ms k = 1 by rw [HA.out, if_neg h2, if_neg h3])
                have h3' : ¬ (12 : Int) ≤ (qn : Int) := by omega
                have h3'' : (qn : Int) < 12 := by omega
                clear HA h1
                go_wp2_with fail
                go_ret
                exact ⟨ri HA2.out.symm, hbe⟩
          · have HA := Lib.hid (show stG side ks t l ms k = st by rw [HST.out, ← HSV.out, if_pos h1])
            have hd : (st != 1) = true := by simp [h1]
            clear h1
            go_wp2_with fail
            go_ret
            exact ⟨ri HA.out.symm, hbe⟩
end Go.Proofs.YtcgfklljbblhlaaGreatDoor.Ko

namespace Go.Proofs.YtcgfklljbblhlaaGreatDoor.Ko
open Go.ChangeShapes Go.WideShapes Go.ChangeAt Go.RowKit Base Sq
set_option linter.unusedVariables false
set_option maxRecDepth 20000
attribute [local irreducible] wpQuiet

theorem posInfo : (Tryz.prog.info? 35).map (fun i => (i.zero, i.size, i.bytes)) = some (some (.agg #[.int .i64 0, .slice none 0 0]), 2, 32) := by kernel_rfl
/-- a position as it lies in a list -/
structure PE where
  t : Int
  A : Option Addr
  c : Nat
  l : List St
def peAt (ps : List PE) (i : Nat) : PE := ps.getD i ⟨0, none, 0, []⟩
def cellsQ : List PE → List Value
  | [] => []
  | p :: ps => .int .i64 p.t :: .slice p.A p.l.length p.c :: cellsQ ps
theorem cellsQ_len (ps : List PE) : (cellsQ ps).length = ps.length * 2 := by
  induction ps with
  | nil => rfl
  | cons p ps ih => simp only [cellsQ, List.length_cons, ih]; omega
theorem cellsQ_snoc (ps : List PE) (p : PE) : cellsQ (ps ++ [p]) = cellsQ ps ++ [.int .i64 p.t, .slice p.A p.l.length p.c] := by
  induction ps with
  | nil => rfl
  | cons a ps ih => simp only [List.cons_append, cellsQ, ih]
theorem peAt_cons (p : PE) (ps : List PE) (i : Nat) : peAt (p :: ps) (i + 1) = peAt ps i := by simp [peAt]
theorem cellsQ_at (ps : List PE) : ∀ i, i < ps.length → (cellsQ ps)[i * 2]? = some (.int .i64 (peAt ps i).t) ∧ (cellsQ ps)[i * 2 + 1]? = some (.slice (peAt ps i).A (peAt ps i).l.length (peAt ps i).c) := by
  induction ps with
  | nil => intro i hi; exact absurd hi (by simp)
  | cons s ps ih =>
    intro i hi
    cases i with
    | zero => exact ⟨rfl, rfl⟩
    | succ i =>
      obtain ⟨h1, h2⟩ := ih i (by simpa using hi)
      rw [peAt_cons, show (i + 1) * 2 = i * 2 + 2 from by omega]
      exact ⟨h1, h2⟩
theorem peAt_old {ps : List PE} {p : PE} {i : Nat} (h : i < ps.length) : peAt (ps ++ [p]) i = peAt ps i := by
  unfold peAt; simp [List.getD_eq_getElem?_getD, List.getElem?_append_left h]
theorem peAt_new (ps : List PE) (p : PE) : peAt (ps ++ [p]) ps.length = p := by
  unfold peAt; simp [List.getD_eq_getElem?_getD]
def OwnQ (w : World) (base : Nat) (v : Value) (ps : List PE) : Prop := w.ownsRow base 35 2 v ps.length (cellsQ ps)
theorem OwnQ.below {w w' : World} {base : Nat} {v : Value} {l : List PE} (h : OwnQ w base v l) (hb : Below w.heap.size w w') : OwnQ w' base v l := by
  refine ⟨h.1, ?_⟩
  rcases h.2 with h0 | ⟨g, cap, cur, hv, hB, hg, rest⟩
  · exact .inl h0
  · exact .inr ⟨g, cap, cur, hv, hB, (hb.block g (lt_of_block hg)).trans hg, rest⟩
theorem OwnQ.alloc {w : World} {base : Nat} {v : Value} {l : List PE} (h : OwnQ w base v l) (o : Obj) : OwnQ (w.alloc o) base v l := h.below (below_of w o)
theorem OwnQ.base {w w' : World} {base : Nat} {v : Value} {l : List PE} (h : OwnQ w base v l) (hg : w.grownBy w' v.ownBlock) {B : Nat} {a : World} (hb : Below B a w) (hB : B ≤ base) (hs : B ≤ w.heap.size) : Below B a w' :=
  hb.grown hg hs (fun k hk => by
    rcases h.2 with ⟨rfl, _⟩ | ⟨g, cap, cur, rfl, hbg, _⟩
    · simp [Value.ownBlock] at hk
    · simp [Value.ownBlock] at hk; omega)
theorem ownQ_block {w : World} {base : Nat} {v : Value} {l : List PE} (h : OwnQ w base v l) {g : Nat} (hk : v.ownBlock = some g) : base ≤ g ∧ g < w.heap.size ∧ ∃ cs, Blk w g cs 35 := by
  rcases h.2 with ⟨rfl, _⟩ | ⟨g', cap, cur, rfl, hB, hg, _⟩
  · simp [Value.ownBlock] at hk
  · simp [Value.ownBlock] at hk
    subst hk
    exact ⟨hB, lt_of_block hg, cur, hg⟩
theorem OwnQ.snoc {w' : World} {base : Nat} {v' : Value} {l : List PE} {p : PE} (h : w'.ownsRow base 35 2 v' (l.length + 1) (cellsQ l ++ [.int .i64 p.t, .slice p.A p.l.length p.c])) : OwnQ w' base v' (l ++ [p]) := by
  unfold OwnQ; rw [cellsQ_snoc, List.length_append]; exact h
theorem OwnQ.one {w : World} {base g : Nat} {p : PE} (hB : base ≤ g) (hg : Blk w g #[.int .i64 p.t, .slice p.A p.l.length p.c] 35) : OwnQ w base (.slice (some ⟨g, 0, none⟩) 1 1) [p] :=
  ⟨rfl, .inr ⟨g, 1, _, rfl, hB, hg, Nat.le_refl _, by unfold maxLen; omega, rfl, rfl⟩⟩
/-- the cells of a list that is not empty -/
theorem OwnQ.cells {w : World} {base : Nat} {v : Value} {ps : List PE} (h : OwnQ w base v ps) (hn : 0 < ps.length) : ∃ g c, v = .slice (some ⟨g, 0, none⟩) ps.length c ∧ g < w.heap.size ∧ base ≤ g ∧ ∀ i, i < ps.length → w.cell? ⟨g, i * 2, none⟩ = some (.int .i64 (peAt ps i).t) ∧ w.cell? ⟨g, i * 2 + 1, none⟩ = some (.slice (peAt ps i).A (peAt ps i).l.length (peAt ps i).c) := by
  rcases h.2 with ⟨_, h0⟩ | ⟨g, cap, cur, hv, hB, hg, hn', hm, hs, ht⟩
  · omega
  · refine ⟨g, cap, hv, lt_of_block hg, hB, fun i hi => ?_⟩
    obtain ⟨h1, h2⟩ := cellsQ_at ps i hi
    rw [← ht, List.getElem?_take_of_lt (by omega)] at h1 h2
    have hb : Blk w g cur 35 := hg
    exact ⟨(hb.cell _).trans (by simpa using h1), (hb.cell _).trans (by simpa using h2)⟩
/-- men that lie below B, or in a block of men -/
def MenD (w : World) (B : Nat) (N : Option Addr) (l : List St) : Prop := IsSteps w B N l ∨ MenA 0 w.heap.size w N l
theorem MenD.is {w : World} {B : Nat} {N : Option Addr} {l : List St} (h : MenD w B N l) (hB : B ≤ w.heap.size) : IsSteps w w.heap.size N l := by
  rcases h with h | h
  · exact h.more hB
  · exact h.is
theorem MenD.keep {w w' : World} {B : Nat} {N : Option Addr} {l : List St} (h : MenD w B N l) (hb : Below B w w') (hk : ∀ b cs, Blk w b cs 105 → Blk w' b cs 105) : MenD w' B N l := by
  rcases h with h | h
  · exact .inl (h.below hb)
  · refine .inr (fun hn => ?_)
    obtain ⟨b, cs, rfl, h1, h2, h3, h4, h5⟩ := h hn
    exact ⟨b, cs, rfl, h1, (hk b cs h3).lt, hk b cs h3, h4, h5⟩
theorem MenD.below {w w' : World} {B : Nat} {N : Option Addr} {l : List St} (h : MenD w B N l) (hb : Below w.heap.size w w') (hB : B ≤ w.heap.size) : MenD w' B N l :=
  h.keep (hb.mono hB) (fun b cs hk => hk.below hb hk.lt)
theorem blk_no {w : World} {b : Nat} {cs cs' : Array Value} {T T' : TypeId} (h : Blk w b cs T) (h' : Blk w b cs' T') : T = T' := by
  unfold Blk at h h'
  rw [h] at h'
  injection h' with h1
  injection h1 with _ h2
theorem grownQ {w w' : World} {base : Nat} {v : Value} {ps : List PE} (ho : OwnQ w base v ps) (hg : w.grownBy w' v.ownBlock) {b : Nat} {cs : Array Value} {T : TypeId} (hb : Blk w b cs T) (hT : T ≠ 35) : Blk w' b cs T :=
  (hg.block b hb.lt (fun e => by
    obtain ⟨_, _, cs', hx⟩ := ownQ_block ho e.symm
    exact hT (blk_no hb hx))).trans hb
/-- what a game's list of positions is, at each round's head -/
structure GallInv (w wr : World) (t : Int) (l : List St) (ms : List Mv) (k : Nat) (v : Value) (ps : List PE) : Prop where
  len : ps.length = k + 1
  own : OwnQ wr w.heap.size v ps
  eq : ∀ i, i ≤ k → (peAt ps i).t = (gP t l ms i).1 ∧ (peAt ps i).l = (gP t l ms i).2 ∧ MenD wr w.heap.size (peAt ps i).A (peAt ps i).l
  below : Below w.heap.size w wr
theorem GallInv.keep {w wr w' : World} {t : Int} {l : List St} {ms : List Mv} {k : Nat} {v : Value} {ps : List PE} (h : GallInv w wr t l ms k v ps) (hb : Below wr.heap.size wr w') : GallInv w w' t l ms k v ps :=
  ⟨h.len, h.own.below hb, fun i hi => ⟨(h.eq i hi).1, (h.eq i hi).2.1, (h.eq i hi).2.2.below hb h.below.size⟩, h.below.trans (hb.mono h.below.size)⟩
theorem GallInv.isQ {w wr : World} {t : Int} {l : List St} {ms : List Mv} {k : Nat} {v : Value} {ps : List PE} (h : GallInv w wr t l ms k v ps) : ∃ S c, v = .slice S (k + 1) c ∧ IsQ wr wr.heap.size S k t l ms := by
  obtain ⟨g, c, hv, hg, _, hc⟩ := h.own.cells (by rw [h.len]; omega)
  refine ⟨_, c, by rw [hv, h.len], g, 0, rfl, hg, fun i hi => ?_⟩
  obtain ⟨h1, h2⟩ := hc i (by rw [h.len]; omega)
  obtain ⟨e1, e2, e3⟩ := h.eq i hi
  refine ⟨(peAt ps i).A, (peAt ps i).c, ?_, ?_, ?_⟩
  · rw [Nat.zero_add, h1, e1]
  · rw [Nat.zero_add, h2, e2]
  · rw [← e2]; exact e3.is h.below.size
end Go.Proofs.YtcgfklljbblhlaaGreatDoor.Ko

namespace Go.Proofs.YtcgfklljbblhlaaGreatDoor.Ko
open Go.ChangeShapes Go.WideShapes Go.ChangeAt Go.RowKit Base Sq
set_option linter.unusedVariables false
set_option maxRecDepth 20000
attribute [local irreducible] wpQuiet

def AllPost (b : Bool) (n : Nat) (t : Int) (l : List St) (ms : List Mv) (w w' : World) (e : Ending) : Prop :=
  (b = false → e = .returned (.tuple #[.slice none 0 0, .bool false])) ∧ (b = true → ∃ S c, e = .returned (.tuple #[.slice S (n + 1) c, .bool true]) ∧ IsQ w' w'.heap.size S n t l ms) ∧ Below w.heap.size w w'
theorem AllPost.no {b : Bool} {n : Nat} {t : Int} {l : List St} {ms : List Mv} {w w' : World} (h : b = false) (hb : Below w.heap.size w w') : AllPost b n t l ms w w' (.returned (.tuple #[.slice none 0 0, .bool false])) :=
  ⟨fun _ => rfl, ⟨fun h' => (by rw [h] at h'; cases h'), hb⟩⟩
theorem AllPost.yes {b : Bool} {n : Nat} {t : Int} {l : List St} {ms : List Mv} {w w' : World} {S : Option Addr} {c : Nat} (h : b = true) (hq : IsQ w' w'.heap.size S n t l ms) (hb : Below w.heap.size w w') : AllPost b n t l ms w w' (.returned (.tuple #[.slice S (n + 1) c, .bool true])) :=
  ⟨fun h' => (by rw [h] at h'; cases h'), ⟨fun _ => ⟨S, c, rfl, hq⟩, hb⟩⟩
theorem oneQ {x : Int} {A : Option Addr} {n c : Nat} : ∀ u ∈ [Value.int .i64 x, Value.slice A n c], u.oneCell' = true := by
  intro u hu; simp at hu; rcases hu with rfl | rfl <;> rfl
theorem GallInv.next {w wr w8 w9 : World} {t : Int} {l : List St} {ms : List Mv} {k : Nat} {v v' : Value} {ps : List PE} {A8 : Option Addr} {c8 : Nat} {t8 : Int} {l8 : List St} (h : GallInv w wr t l ms k v ps) (hb : Below wr.heap.size wr w8)
    (hm : MenA 0 w8.heap.size w8 A8 l8) (he : (t8, l8) = gP t l ms (k + 1)) (ho : OwnQ w9 w.heap.size v' (ps ++ [⟨t8, A8, c8, l8⟩])) (hg : (w8.alloc (.cells #[.int .i64 t8, .slice A8 l8.length c8] 35)).grownBy w9 v.ownBlock) : GallInv w w9 t l ms (k + 1) v' (ps ++ [⟨t8, A8, c8, l8⟩]) := by
  have h8 := h.keep hb
  have hs := h8.below.size
  have hbx : Below w8.heap.size w8 (w8.alloc (.cells #[.int .i64 t8, .slice A8 l8.length c8] 35)) := below_of _ _
  have hown := h8.own.alloc (.cells #[.int .i64 t8, .slice A8 l8.length c8] 35)
  have hbg : Below w.heap.size (w8.alloc (.cells #[.int .i64 t8, .slice A8 l8.length c8] 35)) w9 := hown.base hg (Below.refl _ _) (Nat.le_refl _) (by simp; omega)
  have hk : ∀ b cs, Blk (w8.alloc (.cells #[.int .i64 t8, .slice A8 l8.length c8] 35)) b cs 105 → Blk w9 b cs 105 := fun b cs hx => grownQ hown hg hx (by decide)
  refine ⟨by simp [h.len], ho, fun i hi => ?_, (h8.below.trans ((hbx.mono hs).trans hbg))⟩
  by_cases hik : i ≤ k
  · rw [peAt_old (by rw [h.len]; omega)]
    obtain ⟨e1, e2, e3⟩ := h8.eq i hik
    exact ⟨e1, e2, (e3.below hbx hs).keep hbg hk⟩
  · obtain rfl : i = k + 1 := by omega
    rw [show k + 1 = ps.length from h.len.symm, peAt_new, h.len, ← he]
    exact ⟨rfl, rfl, (MenD.below (.inr hm : MenD w8 w.heap.size A8 l8) hbx hs).keep hbg hk⟩

set_option maxHeartbeats 16000000 in
theorem l14All_any (side : Int) (A : Option Addr) (c : Nat) (ks : List Kd) (t : Int) (N : Option Addr) (cn : Nat) (l : List St) (M : Option Addr) (cm : Nat) (ms : List Mv) (w : World) (hR : IsKinds w w.heap.size A ks) (hN : IsSteps w w.heap.size N l) (hM : InMvs w w.heap.size M ms.length ms)
    (hok : rulesOk side ks = true) (hpo : posOk side ks t l = true) (hm : ms.length ≤ 1048576) (hcm : ms.length ≤ cm) :
    Calls Tryz.prog 29 #[.agg #[.int .i64 side, .slice A ks.length c], .agg #[.int .i64 t, .slice N l.length cn, .slice M ms.length cm]] w fun e w' => AllPost (playB side ks t l ms ms.length) ms.length t l ms w w' e := by
  obtain ⟨i0, hi0, hz0, hz1, hz2⟩ := info_parts posInfo
  obtain ⟨hs, _⟩ := rulesOk_facts hok
  have HSD := Lib.hid hs
  have HOK := Lib.hid hok
  have HPO := Lib.hid hpo
  have HR := Lib.hid hR
  have HM := Lib.hid hM
  have hwm1 : IntKind.i64.wrap (side * side) = side * side := IntWalk.i64_in _ (by rcases hs with rfl | rfl | rfl <;> decide)
  have hwm2 : IntKind.i64.wrap (side * side - 1) = side * side - 1 := IntWalk.i64_in _ (by rcases hs with rfl | rfl | rfl <;> decide)
  have hb0 : Below w.heap.size w (((w.alloc (.cells #[.int .i64 side, .slice A ks.length c] 40)).alloc (.cells #[.int .i64 t, .slice N l.length cn, .slice M ms.length cm] 44)).alloc (.cells #[.int .i64 t, .slice N l.length cn] 35)) := (by repeat (first | exact Below.refl _ _ | assumption | (refine Below.alloc ?_ (by first | omega | (simp; done) | (simp; omega)) _) | (refine Below.setCell ?_ (by first | omega | (simp; done) | (simp; omega)) _) | refine Below.drew ?_))
  have p1 := ((Blk.new w #[.int .i64 side, .slice A ks.length c] 40).alloc (.cells #[.int .i64 t, .slice N l.length cn, .slice M ms.length cm] 44)).alloc (.cells #[.int .i64 t, .slice N l.length cn] 35)
  have p2 := (Blk.new (w.alloc (.cells #[.int .i64 side, .slice A ks.length c] 40)) #[.int .i64 t, .slice N l.length cn, .slice M ms.length cm] 44).alloc (.cells #[.int .i64 t, .slice N l.length cn] 35)
  have p3 := Blk.new ((w.alloc (.cells #[.int .i64 side, .slice A ks.length c] 40)).alloc (.cells #[.int .i64 t, .slice N l.length cn, .slice M ms.length cm] 44)) #[.int .i64 t, .slice N l.length cn] 35
  simp only [World.size_alloc] at p2 p3
  clear hs hok hpo hR hM
  go_enter Tryz.func29, Tryz.ntmps29
  go_wp2_with fail
  generalize hW0 : ((w.alloc _).alloc _).alloc _ = W0 at *
  clear hW0
  have HI0 := Lib.hid (show GallInv w W0 t l ms 0 (.slice (some ⟨w.heap.size + 2, 0, none⟩) 1 1) [⟨t, N, cn, l⟩] from
    ⟨rfl, OwnQ.one (p := ⟨t, N, cn, l⟩) (by omega) p3, fun i hi => (show i = 0 by omega) ▸ ⟨rfl, rfl, .inl (hN.below hb0)⟩, hb0⟩)
  have HP1 := Lib.hid p1
  have HP2 := Lib.hid p2
  clear p1 p2 p3 hb0 hN
  go_loopw [6, 7] (fun x i wr => ∃ (k : Nat) (S : Option Addr) (cS : Nat) (ps : List PE), k ≤ ms.length ∧ i = .int .i64 k ∧ x = .slice S (k + 1) cS ∧ Hid (playB side ks t l ms k = true) ∧ Hid (GallInv w wr t l ms k (.slice S (k + 1) cS) ps) ∧ Hid (Blk wr w.heap.size #[.int .i64 side, .slice A ks.length c] 40) ∧ Hid (Blk wr (w.heap.size + 1) #[.int .i64 t, .slice N l.length cn, .slice M ms.length cm] 44)) (fun _ i _ => ms.length - (intOf i).toNat)
  case atStart => exact ⟨0, _, _, _, by omega, rfl, rfl, Lib.hid rfl, HI0, HP1, HP2⟩
  case round =>
    clear HI0 HP1 HP2
    obtain ⟨k, S, cS, ps, hk, rfl, rfl, hpl, hI, q1, q2⟩ := hrel
    obtain ⟨⟨r0, r1⟩, _⟩ := q1.out.at2
    obtain ⟨⟨g0, g1, g2⟩, _⟩ := q2.out.at3
    have z1 := q1.out.lt
    have z2 := q2.out.lt
    have hbs := hI.out.below.size
    by_cases hlt : k < ms.length
    · have hlt' : (k : Int) < (ms.length : Int) := by omega
      have hk0 : (0 : Int) ≤ (k : Int) := by omega
      have hwk : IntKind.i64.wrap ((k : Int) + 1 - 1) = (k : Int) := by rw [show (k : Int) + 1 - 1 = (k : Int) by omega]; exact IntWalk.i64_in _ (by omega)
      have hwk2 : IntKind.i64.wrap (k : Int) = (k : Int) := IntWalk.i64_in _ (by omega)
      obtain ⟨g, cc, hv, zg, hgb, hc⟩ := hI.out.own.cells (by rw [hI.out.len]; omega)
      rw [hI.out.len] at hv
      injection hv with hv1 hv2 hv3
      subst hv1 hv3
      obtain ⟨a0, a1⟩ := hc k (by rw [hI.out.len]; omega)
      obtain ⟨e1, e2, e3⟩ := hI.out.eq k (Nat.le_refl _)
      obtain ⟨bm, offm, rfl, hBm, hcmv⟩ := HM.out.below hI.out.below (by omega)
      obtain ⟨m0, m1⟩ := hcmv k hlt
      obtain ⟨Ak, hAk⟩ : ∃ x, x = (peAt ps k).A := ⟨_, rfl⟩
      obtain ⟨ck, hck⟩ : ∃ x, x = (peAt ps k).c := ⟨_, rfl⟩
      obtain ⟨p, hp⟩ : ∃ p, p = gP t l ms k := ⟨_, rfl⟩
      have HPK := Lib.hid hp
      rw [← hp] at e1 e2
      rw [e1] at a0
      rw [e2, ← hAk, ← hck] at a1
      rw [e2, ← hAk] at e3
      obtain ⟨tk, lk⟩ := p
      have HE3 := Lib.hid e3
      obtain ⟨fr, hfr⟩ : ∃ fr, fr = (mvAt ms k).1 := ⟨_, rfl⟩
      obtain ⟨to, hto⟩ : ∃ to, to = (mvAt ms k).2 := ⟨_, rfl⟩
      have HMV := Lib.hid (show mvAt ms k = (fr, to) by rw [hfr, hto])
      rw [← hfr] at m0
      rw [← hto] at m1
      have HPKO := Lib.hid (show posOk side ks tk lk = true by have := gP_ok HSD.out HPO.out k hpl.out; rw [← HPK.out] at this; exact this)
      have HGO := Lib.hid (show goB side ks t l ms k = (canB side ks tk lk fr to && decide (stG side ks t l ms k = 1)) by unfold goB; rw [← HPK.out, hfr, hto])
      have hb5 : Below wr.heap.size wr ((wr.alloc (.cells #[.int .i64 tk, .slice Ak lk.length ck] 35)).alloc (.cells #[.int .i64 fr, .int .i64 to] 58)) := (by repeat (first | exact Below.refl _ _ | assumption | (refine Below.alloc ?_ (by first | omega | (simp; done) | (simp; omega)) _) | (refine Below.setCell ?_ (by first | omega | (simp; done) | (simp; omega)) _) | refine Below.drew ?_))
      have x1 := (Blk.new wr #[.int .i64 tk, .slice Ak lk.length ck] 35).alloc (.cells #[.int .i64 fr, .int .i64 to] 58)
      have x2 := Blk.new (wr.alloc (.cells #[.int .i64 tk, .slice Ak lk.length ck] 35)) #[.int .i64 fr, .int .i64 to] 58
      simp only [World.size_alloc] at x2
      have g2y : wr.cell? ⟨w.heap.size + 1, 2, none⟩ = some (.slice (some ⟨bm, offm, none⟩) ms.length cm) := g2
      have zm0 : bm < wr.heap.size := by omega
      have m0a := ((below_of wr (.cells #[.int .i64 tk, .slice Ak lk.length ck] 35)).cell (p := ⟨bm, offm + k * 2, none⟩) zm0).trans m0
      have m1a := ((below_of wr (.cells #[.int .i64 tk, .slice Ak lk.length ck] 35)).cell (p := ⟨bm, offm + k * 2 + 1, none⟩) zm0).trans m1
      clear hc hcmv hAk hck hp e1 e2 e3 hfr hto hgb
      go_wp2_with fail
      generalize hW5 : (wr.alloc _).alloc _ = w5 at *
      clear hW5
      have y1 := x1.lt
      have y2 := x2.lt
      have q1' := q1.out.below hb5 z1
      have q2' := q2.out.below hb5 z2
      have z1' := q1'.lt
      have z2' := q2'.lt
      have hz5 := hb5.size
      have zm : bm < w5.heap.size := by omega
      have zg' : g < w5.heap.size := by omega
      have HQ1 := Lib.hid q1'
      have HQ2 := Lib.hid q2'
      have HB5 := Lib.hid hb5
      have HE5 := Lib.hid (HE3.out.below hb5 hbs)
      have hI5 := hI.out.keep hb5
      have HI5 := Lib.hid hI5
      obtain ⟨S', c', hv', hq'⟩ := hI5.isQ
      injection hv' with hv1 hv2 hv3
      subst hv1 hv3
      have HQQ := Lib.hid hq'
      have HR5 := Lib.hid ((HR.out.below hI5.below).more hI5.below.size)
      have HM5 := Lib.hid (((HM.out.below hI5.below).more hI5.below.size).less (show k ≤ ms.length by omega))
      have HSHK := Lib.hid (fun i (hi : i ≤ k) => posOk_shape (gP_ok HSD.out HPO.out i (playB_le hpl.out i hi)))
      have HSHP := Lib.hid (posOk_shape HPKO.out)
      have HN5 := Lib.hid (HE5.out.is hI5.below.size)
      have HBE5 := Lib.hid hI5.below
      clear r0 r1 g0 g1 g2 g2y a0 a1 m0 m1 m0a m1a hI5 hq'
      obtain ⟨⟨r0, r1⟩, _⟩ := q1'.at2
      obtain ⟨⟨g0, g1, g2⟩, _⟩ := q2'.at3
      obtain ⟨⟨u0, u1⟩, _⟩ := x1.at2
      obtain ⟨⟨v0, v1⟩, _⟩ := x2.at2
      have hkcm : (k : Int) ≤ (cm : Int) := by omega
      have hkcm2 : k ≤ cm := by omega
      have HX1 := Lib.hid x1
      have HX2 := Lib.hid x2
      clear x1 x2 q1' q2' hb5
      have HNO := Lib.hid (fun (h : goB side ks t l ms k = false) => playB_no (m := ms.length) (by omega) h)
      have HCB := Lib.hid (fun (h : canB side ks tk lk fr to = true) => canB_facts HSD.out HSHP.out h)
      cases hf : inB fr 0 (side * side - 1)
      · have hcn : canB side ks tk lk fr to = false := by
          rw [Bool.eq_false_iff]
          intro h
          obtain ⟨_, _, _, _, h1, _, _⟩ := HCB.out h
          rw [inB_yes (by omega)] at hf
          cases hf
        have HG := Lib.hid (HNO.out (by rw [HGO.out, hcn]; rfl))
        refine wp_region_below (W := w5) (by kernel_rfl) (by kernel_rfl) (Below.refl _ _) ?_
        repeat (first
          | (refine qs_skip (by rfl) ?_; simp only [Act.put, List.setIfInBounds_toArray, List.set_cons_zero, List.set_cons_succ])
          | (apply qs_take
             focus rfl
             focus (
               intro wq hwq
               obtain ⟨hcq, hfq⟩ := bcell hwq
               go_simp
               all_goals first
                 | exact rfl
                 | (go_at_call 50; refine (in_any _ _ _ _).mono ?_; exact fun e w2 h => ⟨h.1, h.2 ▸ hwq⟩)
                 | (exact ⟨trivial, rfl⟩))
             simp only [Act.put, List.setIfInBounds_toArray, List.set_cons_zero, List.set_cons_succ]))
        refine wpQuiet_nil ?_
        intro wq hwq
        go_wp2_with fail
        go_ret2
        exact AllPost.no HG.out (HBE5.out.trans (hwq.mono HBE5.out.size))
      · cases ht : inB to 0 (side * side - 1)
        · have hcn : canB side ks tk lk fr to = false := by
            rw [Bool.eq_false_iff]
            intro h
            obtain ⟨_, _, _, _, _, h1, _⟩ := HCB.out h
            rw [inB_yes (by omega)] at ht
            cases ht
          have HG := Lib.hid (HNO.out (by rw [HGO.out, hcn]; rfl))
          refine wp_region_below (W := w5) (by kernel_rfl) (by kernel_rfl) (Below.refl _ _) ?_
          repeat (first
            | (refine qs_skip (by rfl) ?_; simp only [Act.put, List.setIfInBounds_toArray, List.set_cons_zero, List.set_cons_succ])
            | (apply qs_take
               focus rfl
               focus (
                 intro wq hwq
                 obtain ⟨hcq, hfq⟩ := bcell hwq
                 go_simp
                 all_goals first
                   | exact rfl
                   | (go_at_call 50; refine (in_any _ _ _ _).mono ?_; exact fun e w2 h => ⟨h.1, h.2 ▸ hwq⟩)
                   | (exact ⟨trivial, rfl⟩))
               simp only [Act.put, List.setIfInBounds_toArray, List.set_cons_zero, List.set_cons_succ]))
          refine wpQuiet_nil ?_
          intro wq hwq
          go_wp2_with fail
          go_ret2
          exact AllPost.no HG.out (HBE5.out.trans (hwq.mono HBE5.out.size))
        · have HTO := Lib.hid (show 0 ≤ to ∧ to < side * side by unfold inB at ht; have := of_decide_eq_true ht; omega)
          cases hcn : canB side ks tk lk fr to
          · have HCN := Lib.hid hcn
            have HG := Lib.hid (HNO.out (by rw [HGO.out, HCN.out]; rfl))
            refine wp_region_below (W := w5) (by kernel_rfl) (by kernel_rfl) (Below.refl _ _) ?_
            repeat (first
              | (refine qs_skip (by rfl) ?_; simp only [Act.put, List.setIfInBounds_toArray, List.set_cons_zero, List.set_cons_succ])
              | (apply qs_take
                 focus rfl
                 focus (
                   intro wq hwq
                   obtain ⟨hcq, hfq⟩ := bcell hwq
                   go_simp
                   all_goals first
                     | exact rfl
                     | (go_at_call 50; refine (in_any _ _ _ _).mono ?_; exact fun e w2 h => ⟨h.1, h.2 ▸ hwq⟩)
                     | (go_at_call 51; refine (l4Can_any side A c ks tk Ak ck lk fr to _ ((HR5.out.below hwq).more hwq.size) ((HN5.out.below hwq).more hwq.size) HOK.out HSHP.out HTO.out).mono ?_; rw [HCN.out]; exact fun e w2 h => ⟨h.1, hwq.trans (h.2.mono hwq.size)⟩)
                     | (exact ⟨trivial, rfl⟩))
                 simp only [Act.put, List.setIfInBounds_toArray, List.set_cons_zero, List.set_cons_succ]))
            refine wpQuiet_nil ?_
            intro wq hwq
            go_wp2_with fail
            go_ret2
            exact AllPost.no HG.out (HBE5.out.trans (hwq.mono HBE5.out.size))
          · have HCN := Lib.hid hcn
            obtain ⟨st, hst⟩ : ∃ st, stG side ks t l ms k = st := ⟨_, rfl⟩
            have HSV := Lib.hid hst
            by_cases h1 : st = 1
            · have hd : (st != 1) = false := by simp [h1]
              have HG1 := Lib.hid (show goB side ks t l ms k = true by rw [HGO.out, HCN.out, hst, h1]; rfl)
              clear hcn hst h1 HNO
              refine wp_region_below (W := w5) (by kernel_rfl) (by kernel_rfl) (Below.refl _ _) ?_
              repeat (first
                | (refine qs_skip (by rfl) ?_; simp only [Act.put, List.setIfInBounds_toArray, List.set_cons_zero, List.set_cons_succ])
                | (apply qs_take
                   focus rfl
                   focus (
                     intro wq hwq
                     obtain ⟨hcq, hfq⟩ := bcell hwq
                     go_simp
                     all_goals first
                       | exact rfl
                       | (go_at_call 50; refine (in_any _ _ _ _).mono ?_; exact fun e w2 h => ⟨h.1, h.2 ▸ hwq⟩)
                       | (go_at_call 51; refine (l4Can_any side A c ks tk Ak ck lk fr to _ ((HR5.out.below hwq).more hwq.size) ((HN5.out.below hwq).more hwq.size) HOK.out HSHP.out HTO.out).mono ?_; rw [HCN.out]; exact fun e w2 h => ⟨h.1, hwq.trans (h.2.mono hwq.size)⟩)
                       | (go_at_call 52; refine (l14State_any side A c ks (some ⟨g, 0, none⟩) cS (some ⟨bm, offm, none⟩) cm k t l ms _ ((HR5.out.below hwq).more hwq.size) ((HQQ.out.below hwq).more hwq.size) ((HM5.out.below hwq).more hwq.size) HOK.out HSHK.out (by omega)).mono ?_; rw [HSV.out]; exact fun e w2 h => ⟨h.1, hwq.trans (h.2.mono hwq.size)⟩)
                       | (exact ⟨trivial, rfl⟩))
                   simp only [Act.put, List.setIfInBounds_toArray, List.set_cons_zero, List.set_cons_succ]))
              refine wpQuiet_nil ?_
              intro wq hwq
              obtain ⟨_, n, hn1, hn2, hn3, hn4, hn5, _⟩ := can_posOk HSD.out HSHP.out HCN.out
              have HF := Lib.hid hn3
              have HRP := Lib.hid (resL_pos HSHP.out (freeB_king (i := n) (shapeB_up HSHP.out) hn4))
              have HNX := Lib.hid (show gP t l ms (k + 1) = (1 - tk, doL lk n to) by simp only [gP]; rw [← HPK.out, HMV.out]; exact congrArg (fun x => ((1 - tk, x) : PV)) hn5)
              have hzq := hwq.size
              have HNQ := Lib.hid ((HN5.out.below hwq).more hzq)
              have HWQ := Lib.hid (HB5.out.trans (hwq.mono hz5))
              have HQ1 := Lib.hid (HQ1.out.below hwq z1')
              have HQ2 := Lib.hid (HQ2.out.below hwq z2')
              have zq1 := HQ1.out.lt
              have zq2 := HQ2.out.lt
              have x1 := HX1.out.below hwq y1
              have x2 := HX2.out.below hwq y2
              clear r0 r1 g0 g1 g2 u0 u1 v0 v1 hn1 hn3 hn4 hn5 hwq
              obtain ⟨⟨u0, u1⟩, _⟩ := x1.at2
              obtain ⟨⟨v0, v1⟩, _⟩ := x2.at2
              clear x1 x2
              go_wp2_with fail
              refine (l4Do_any tk Ak ck lk n fr to _ HNQ.out (shapeB_facts HSHP.out).1 (shapeB_facts HSHP.out).2.1 hn2 HF.out (shapeB_up HSHP.out) HRP.out).mono ?_
              rintro e w8 ⟨A8, c8, rfl, hm8, hb8⟩
              have HB8 := Lib.hid (HWQ.out.trans (hb8.mono HWQ.out.size))
              have HM8 := Lib.hid (hm8.more (Nat.zero_le _) (Nat.le_refl _))
              have HQ1 := Lib.hid (HQ1.out.below hb8 zq1)
              have HQ2 := Lib.hid (HQ2.out.below hb8 zq2)
              have HO8 := Lib.hid ((hI.out.keep HB8.out).own)
              have hpl1 := hI.out.len
              have hmx : ps.length + 1 ≤ maxLen := by unfold maxLen; omega
              have hbs8 := (hI.out.below.trans (HB8.out.mono hbs)).size
              clear u0 u1 v0 v1 hm8 hb8
              go_wp2_with (at_builtin; refine wpList_append_own _ rfl _ _ 65 rfl w.heap.size 35 i0 (.agg #[.int .i64 0, .slice none 0 0]) 2 32 Tryz.underlying65 hi0 hz0 hz1 hz2 rfl (by decide) _ _ _ rfl (HO8.out.alloc (.cells #[.int .i64 (1 - tk), .slice A8 (doL lk n to).length c8] 35)) ⟨w8.heap.size, 0, none⟩ 1 1 [.int .i64 (1 - tk), .slice A8 (doL lk n to).length c8] rfl rfl (news2 (Blk.new w8 #[.int .i64 (1 - tk), .slice A8 (doL lk n to).length c8] 35)) oneQ hmx (by omega) (by first | (simp; done) | (simp; omega) | omega) ?_; intro v' w9 hown9 hgrow9 hnil9; have hOn : OwnQ w9 w.heap.size v' (ps ++ [⟨1 - tk, A8, c8, doL lk n to⟩]) := OwnQ.snoc hown9; obtain ⟨g9, c9, hv9, _, _, _⟩ := hOn.cells (by simp); rw [show (ps ++ [(⟨1 - tk, A8, c8, doL lk n to⟩ : PE)]).length = k + 1 + 1 by simp; omega] at hv9; subst hv9; have HO9 := Lib.hid hOn; have HG9 := Lib.hid hgrow9; clear hown9 hgrow9 hnil9 hOn)
              have HQ19 := Lib.hid (grownQ (HO8.out.alloc (.cells #[.int .i64 (1 - tk), .slice A8 (doL lk n to).length c8] 35)) HG9.out (HQ1.out.alloc (.cells #[.int .i64 (1 - tk), .slice A8 (doL lk n to).length c8] 35)) (by decide))
              have HQ29 := Lib.hid (grownQ (HO8.out.alloc (.cells #[.int .i64 (1 - tk), .slice A8 (doL lk n to).length c8] 35)) HG9.out (HQ2.out.alloc (.cells #[.int .i64 (1 - tk), .slice A8 (doL lk n to).length c8] 35)) (by decide))
              go_roundw
              case rel => exact ⟨k + 1, _, c9, _, by omega, by go_num, by first | rfl | simp, Lib.hid (by simp only [playB]; rw [hpl.out, HG1.out]; rfl), Lib.hid (GallInv.next hI.out HB8.out HM8.out HNX.out.symm HO9.out HG9.out), HQ19, HQ29⟩
              case measure => simp [intOf]; omega
            · have hd : (st != 1) = true := by simp [h1]
              have hgf : goB side ks t l ms k = false := by rw [HGO.out, HCN.out, hst, decide_eq_false h1]; rfl
              clear hcn hst h1
              have HG := Lib.hid (HNO.out (by exact hgf))
              refine wp_region_below (W := w5) (by kernel_rfl) (by kernel_rfl) (Below.refl _ _) ?_
              repeat (first
                | (refine qs_skip (by rfl) ?_; simp only [Act.put, List.setIfInBounds_toArray, List.set_cons_zero, List.set_cons_succ])
                | (apply qs_take
                   focus rfl
                   focus (
                     intro wq hwq
                     obtain ⟨hcq, hfq⟩ := bcell hwq
                     go_simp
                     all_goals first
                       | exact rfl
                       | (go_at_call 50; refine (in_any _ _ _ _).mono ?_; exact fun e w2 h => ⟨h.1, h.2 ▸ hwq⟩)
                       | (go_at_call 51; refine (l4Can_any side A c ks tk Ak ck lk fr to _ ((HR5.out.below hwq).more hwq.size) ((HN5.out.below hwq).more hwq.size) HOK.out HSHP.out HTO.out).mono ?_; rw [HCN.out]; exact fun e w2 h => ⟨h.1, hwq.trans (h.2.mono hwq.size)⟩)
                       | (go_at_call 52; refine (l14State_any side A c ks (some ⟨g, 0, none⟩) cS (some ⟨bm, offm, none⟩) cm k t l ms _ ((HR5.out.below hwq).more hwq.size) ((HQQ.out.below hwq).more hwq.size) ((HM5.out.below hwq).more hwq.size) HOK.out HSHK.out (by omega)).mono ?_; rw [HSV.out]; exact fun e w2 h => ⟨h.1, hwq.trans (h.2.mono hwq.size)⟩)
                       | (exact ⟨trivial, rfl⟩))
                   simp only [Act.put, List.setIfInBounds_toArray, List.set_cons_zero, List.set_cons_succ]))
              refine wpQuiet_nil ?_
              intro wq hwq
              go_wp2_with fail
              go_ret2
              exact AllPost.no HG.out (HBE5.out.trans (hwq.mono HBE5.out.size))
    · obtain rfl : k = ms.length := by omega
      have HP := Lib.hid hpl.out
      have HX := Lib.hid hI.out
      clear r0 r1
      go_wp2_with fail
      go_ret2
      obtain ⟨S', c', hv, hq⟩ := HX.out.isQ
      injection hv with h1 h2 h3
      subst h1 h3
      exact AllPost.yes HP.out hq HX.out.below
end Go.Proofs.YtcgfklljbblhlaaGreatDoor.Ko

namespace Go.Proofs.YtcgfklljbblhlaaGreatDoor.Ko
open Go.ChangeShapes Go.WideShapes Go.ChangeAt Go.RowKit Base Sq
set_option linter.unusedVariables false
set_option maxRecDepth 20000
attribute [local irreducible] wpQuiet

set_option maxHeartbeats 4000000 in
theorem l14Ok_any (side : Int) (A : Option Addr) (c : Nat) (ks : List Kd) (t : Int) (N : Option Addr) (cn : Nat) (l : List St) (M : Option Addr) (cm : Nat) (ms : List Mv) (w : World) (hR : IsKinds w w.heap.size A ks) (hN : IsSteps w w.heap.size N l) (hM : InMvs w w.heap.size M ms.length ms)
    (hok : rulesOk side ks = true) (hpo : posOk side ks t l = true) (hm : ms.length ≤ 1048576) (hcm : ms.length ≤ cm) :
    Calls Tryz.prog 45 #[.agg #[.int .i64 side, .slice A ks.length c], .agg #[.int .i64 t, .slice N l.length cn, .slice M ms.length cm]] w fun e w' => e = .returned (.bool (playB side ks t l ms ms.length && decide (ms.length ≤ 30))) ∧ Below w.heap.size w w' := by
  have hb0 : Below w.heap.size w ((w.alloc (.cells #[.int .i64 side, .slice A ks.length c] 40)).alloc (.cells #[.int .i64 t, .slice N l.length cn, .slice M ms.length cm] 44)) := (by repeat (first | exact Below.refl _ _ | assumption | (refine Below.alloc ?_ (by first | omega | (simp; done) | (simp; omega)) _) | (refine Below.setCell ?_ (by first | omega | (simp; done) | (simp; omega)) _) | refine Below.drew ?_))
  have p2 := Blk.new (w.alloc (.cells #[.int .i64 side, .slice A ks.length c] 40)) #[.int .i64 t, .slice N l.length cn, .slice M ms.length cm] 44
  simp only [World.size_alloc] at p2
  go_enter Tryz.func45, Tryz.ntmps45
  go_wp2_with fail
  generalize hW0 : (w.alloc _).alloc _ = W0 at *
  clear hW0
  refine (l14All_any side A c ks t N cn l M cm ms _ ((hR.below hb0).more hb0.size) ((hN.below hb0).more hb0.size) ((hM.below hb0).more hb0.size) hok hpo hm hcm).mono ?_
  rintro e w2 ⟨h1, h2, hb2⟩
  have q2 := p2.below hb2 p2.lt
  have hbe := hb0.trans (hb2.mono hb0.size)
  obtain ⟨⟨g0, g1, g2⟩, _⟩ := q2.at3
  clear p2 hb0 hb2 q2 hR hN hM hok hpo
  cases hb : playB side ks t l ms ms.length
  · obtain rfl := h1 hb
    have HD := Lib.hid (show (playB side ks t l ms ms.length && decide (ms.length ≤ 30)) = false by rw [hb]; rfl)
    clear h1 h2 hb
    go_wp2_with fail
    go_ret
    exact ⟨rb HD.out.symm, hbe⟩
  · obtain ⟨S, cS, rfl, _⟩ := h2 hb
    clear h1 h2
    have HD := Lib.hid (show (playB side ks t l ms ms.length && decide (ms.length ≤ 30)) = decide ((ms.length : Int) ≤ 30) by
      rw [hb]
      simp only [Bool.true_and]
      by_cases h30 : ms.length ≤ 30
      · rw [decide_eq_true h30, decide_eq_true (by omega)]
      · rw [decide_eq_false h30, decide_eq_false (by omega)])
    clear hb
    go_wp2_with fail
    go_ret
    exact ⟨rb HD.out.symm, hbe⟩

set_option maxHeartbeats 4000000 in
theorem specGameOk_any (side : Int) (A : Option Addr) (c : Nat) (ks : List Kd) (t : Int) (N : Option Addr) (cn : Nat) (l : List St) (M : Option Addr) (cm : Nat) (ms : List Mv) (w : World) (hR : IsKinds w w.heap.size A ks) (hN : IsSteps w w.heap.size N l) (hM : InMvs w w.heap.size M ms.length ms)
    (hsm : Small ks) (hl : l.length ≤ 1048576) (hm : ms.length ≤ 1048576) (hcm : ms.length ≤ cm) :
    Calls Tryz.prog 28 #[.agg #[.int .i64 side, .slice A ks.length c], .agg #[.int .i64 t, .slice N l.length cn, .slice M ms.length cm]] w fun e w' => e = .returned (.bool (gameB side ks t l ms)) ∧ Below w.heap.size w w' := by
  have hb0 : Below w.heap.size w ((w.alloc (.cells #[.int .i64 side, .slice A ks.length c] 40)).alloc (.cells #[.int .i64 t, .slice N l.length cn, .slice M ms.length cm] 44)) := (by repeat (first | exact Below.refl _ _ | assumption | (refine Below.alloc ?_ (by first | omega | (simp; done) | (simp; omega)) _) | (refine Below.setCell ?_ (by first | omega | (simp; done) | (simp; omega)) _) | refine Below.drew ?_))
  have p1 := (Blk.new w #[.int .i64 side, .slice A ks.length c] 40).alloc (.cells #[.int .i64 t, .slice N l.length cn, .slice M ms.length cm] 44)
  have p2 := Blk.new (w.alloc (.cells #[.int .i64 side, .slice A ks.length c] 40)) #[.int .i64 t, .slice N l.length cn, .slice M ms.length cm] 44
  simp only [World.size_alloc] at p2
  have HU := Lib.hid (show gameB side ks t l ms = (posB side ks t l && playB side ks t l ms ms.length && decide (ms.length ≤ 30)) from rfl)
  go_enter Tryz.func28, Tryz.ntmps28
  go_wp2_with fail
  generalize hW0 : (w.alloc _).alloc _ = W0 at *
  clear hW0
  refine (specPosOk_any _ _ _ _ _ _ _ _ _ ((hR.below hb0).more hb0.size) ((hN.below hb0).more hb0.size) hsm hl).mono ?_
  rintro e w2 ⟨rfl, hb2⟩
  have q1 := p1.below hb2 p1.lt
  have q2 := p2.below hb2 p2.lt
  have hbe := hb0.trans (hb2.mono hb0.size)
  obtain ⟨⟨r0, r1⟩, _⟩ := q1.at2
  obtain ⟨⟨g0, g1, g2⟩, _⟩ := q2.at3
  clear p1 p2 hb0 hb2 q1 q2
  cases hp : posB side ks t l
  · have HV := Lib.hid (show gameB side ks t l ms = false by rw [HU.out, hp]; rfl)
    clear hp HU
    go_wp2_with fail
    go_ret
    exact ⟨rb HV.out.symm, hbe⟩
  · have HV := Lib.hid (show gameB side ks t l ms = (playB side ks t l ms ms.length && decide (ms.length ≤ 30)) by rw [HU.out, hp]; rfl)
    have HF := Lib.hid (show rulesOk side ks = true ∧ posOk side ks t l = true by unfold posB at hp; simpa using hp)
    clear hp HU
    go_wp2_with fail
    refine (l14Ok_any side A c ks t N cn l M cm ms _ ((hR.below hbe).more hbe.size) ((hN.below hbe).more hbe.size) ((hM.below hbe).more hbe.size) HF.out.1 HF.out.2 hm hcm).mono ?_
    rintro e w3 ⟨rfl, hb3⟩
    have HB := Lib.hid (hbe.trans (hb3.mono hbe.size))
    clear hb3
    go_wp2_with fail
    go_ret
    exact ⟨rb HV.out.symm, HB.out⟩
end Go.Proofs.YtcgfklljbblhlaaGreatDoor.Ko
