/- Sets of whole numbers in memory: map[int]bool; the smallest that is missing. -/
import Derived.Test.YtjanalljaacnoaaJm
import Derived.Test.YtjanalljaacnoaaHt
import Derived.Maps.OwnOps
namespace Go.Proofs.Ytjanalljaacnoaa.Ko
open Go.ChangeShapes Go.WideShapes Go.ChangeAt Go.RowKit Base Sq In
set_option linter.unusedVariables false
set_option maxRecDepth 20000
attribute [local irreducible] wpQuiet

theorem uInt : Try.prog.underlying 3 = some (.int .i64) := by kernel_rfl
theorem uBool : Try.prog.underlying 4 = some .bool := by kernel_rfl
theorem uSet : Try.prog.underlying 64 = some (.map 3 4) := by kernel_rfl
theorem plainElem_bool_inv {H : Type} {P : Program} {e : TypeId} (he : P.underlying e = some .bool) {v : Value} {z : DataW H × List MemPlace} (h : plainElem P e v = some z) : ∃ b, v = .bool b ∧ z = (.lit (.bool b), []) := by
  unfold plainElem at h
  rw [he] at h
  cases v <;> simp at h
  exact ⟨_, rfl, h.symm⟩
/-- a map of at most n numbers in which just those of the list are true -/
def IsSet (w : World) (m n : Nat) (l : List Int) : Prop :=
  ∃ D : DataW Unit, w.ownsMap Try.prog 3 (plainElem Try.prog 4) m n D ∧ ∀ u, D.atKey (.int .i64 u) (.lit (.bool false)) = .lit (.bool (decide (u ∈ l)))
theorem IsSet.lt {w : World} {m n : Nat} {l : List Int} (h : IsSet w m n l) : m < w.heap.size := by
  obtain ⟨D, ho, _⟩ := h
  exact ho.lt
theorem IsSet.made (w : World) : IsSet (w.alloc (.map #[] 0)) w.heap.size 0 [] :=
  ⟨.map [], World.ownsMap_made w Try.prog 3 (plainElem Try.prog 4), fun _ => by simp; rfl⟩
theorem IsSet.mono {w : World} {m n n' : Nat} {l : List Int} (h : IsSet w m n l) (hn : n ≤ n') : IsSet w m n' l := by
  obtain ⟨D, ho, hF⟩ := h
  exact ⟨D, ho.mono hn, hF⟩
theorem IsSet.block {w w' : World} {m n : Nat} {l : List Int} (h : IsSet w m n l) (hb : w'.heap[m]? = w.heap[m]?) : IsSet w' m n l := by
  obtain ⟨D, ⟨es, clock, hm, hf, hs, hD⟩, hF⟩ := h
  exact ⟨D, ⟨es, clock, hb.trans hm, hf, hs, hD⟩, hF⟩
theorem IsSet.below {w w' : World} {m n B : Nat} {l : List Int} (h : IsSet w m n l) (hb : Below B w w') (hm : m < B) : IsSet w' m n l := h.block (hb.block m hm)
theorem IsSet.look {w : World} {m n : Nat} {l : List Int} (h : IsSet w m n l) {u : Int} (hu : 0 ≤ u ∧ u ≤ 1000000) :
    (Instr.lookup 64 (.map (some m)) (.int .i64 u) false).run Try.prog w = .ok (.bool (decide (u ∈ l))) w := by
  obtain ⟨D, ho, hF⟩ := h
  obtain ⟨v, ps, hrun, hv⟩ := ho.lookup (Maps.int_keyed uInt) uSet (z := .bool false) (zd := .lit (.bool false)) (zp := []) (by first | rfl | kernel_rfl) (plainElem_bool uBool false) (Maps.keyOf_int_mk uInt (WalkArith.wf_i64 (n := u) (by omega)))
  obtain ⟨c, rfl, hc⟩ := plainElem_bool_inv uBool hv
  have h1 := hF u
  have h2 : D.atKey (.int .i64 u) (.lit (.bool false)) = .lit (.bool c) := by injection hc
  rw [h2] at h1
  have h3 : c = decide (u ∈ l) := by injection h1 with h1; injection h1
  rw [← h3]
  exact hrun
theorem IsSet.update {w : World} {m n : Nat} {l : List Int} (h : IsSet w m n l) (hn : n ≤ 1000000) {u : Int} (hu : 0 ≤ u ∧ u ≤ 1000000) :
    ∃ w', (Instr.mapUpdate 64 (.map (some m)) (.int .i64 u) (.bool true)).run Try.prog w = .ok () w' ∧ IsSet w' m (n + 1) (l ++ [u]) ∧ w.grownBy w' (some m) := by
  obtain ⟨D, ho, hF⟩ := h
  obtain ⟨w', hrun, ho', hg⟩ := ho.update (Maps.int_keyed uInt) uSet (by unfold maxLen; omega) (Maps.keyOf_int_mk uInt (WalkArith.wf_i64 (n := u) (by omega))) (plainElem_bool (H := Unit) uBool true)
  refine ⟨w', hrun, ⟨_, ho', fun v => ?_⟩, hg⟩
  show _ = DataW.lit (Lit.bool (decide (v ∈ l ++ [u])))
  by_cases hv : v = u
  · subst hv
    rw [decide_eq_true (by simp)]
    exact Maps.atKey_put_same ho.isMap (by simp [WideAt.IsKeyLit]) _ _
  · rw [Maps.atKey_put_other (fun h => hv (by injection h)), hF v]
    congr 2
    simp [hv]
theorem below_grown {B m : Nat} {a w w' : World} (h : Below B a w) (hg : w.grownBy w' (some m)) (hm : B ≤ m) (hB : B ≤ w.heap.size) : Below B a w' :=
  h.grown hg hB (fun k hk => by injection hk with hk; omega)
theorem excluded_any (m n : Nat) (l : List Int) (w : World) (h : IsSet w m n l) (hl : l.length ≤ 100000) :
    Calls Try.prog 79 #[.map (some m)] w fun e w' => e = .returned (.int .i64 (mexV l)) ∧ w = w' := by
  have hm := mexV_le l
  go_enter Try.func79, Try.ntmps79
  go_wp2_with fail
  go_loopw [3] (fun i wr => ∃ k : Nat, i = .int .i64 k ∧ (k : Int) ≤ mexV l ∧ Hid (∀ j, j < k → ((j : Nat) : Int) ∈ l) ∧ w = wr) (fun i _ => (mexV l).toNat - (intOf i).toNat)
  case atStart => exact ⟨0, rfl, by omega, Lib.hid (fun j hj => absurd hj (by omega)), rfl⟩
  case round =>
    obtain ⟨k, rfl, hk, hg, rfl⟩ := hrel
    have hlk := h.look (u := (k : Int)) (by omega)
    by_cases hin : (k : Int) ∈ l
    · have hne : (k : Int) < mexV l := by
        rcases Int.lt_or_eq_of_le hk with h1 | h1
        · exact h1
        · rw [h1] at hin; exact absurd hin (mexV_out l)
      rw [decide_eq_true hin] at hlk
      have HG := Lib.hid (all_succ hg.out hin)
      clear hin hg
      go_wp2_with fail
      go_roundw
      case rel => exact ⟨k + 1, by go_num, by omega, HG, by first | rfl | trivial⟩
      case measure => simp [intOf]; omega
    · have HE := Lib.hid (mexV_eq hg.out hin)
      rw [decide_eq_false hin] at hlk
      clear hin hg
      go_wp2_with fail
      go_ret
      exact ⟨ri HE.out.symm, rfl⟩
end Go.Proofs.Ytjanalljaacnoaa.Ko
