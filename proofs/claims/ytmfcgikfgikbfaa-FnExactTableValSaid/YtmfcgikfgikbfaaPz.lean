/- Codes of positions: two men of one kind and player (l7Twice of the model). -/
import Derived.Test.YtmfcgikfgikbfaaPq
import Derived.Deep.QuietTactic
import Derived.BigQuiet
import Derived.WalkSmall
namespace Go.Proofs.Ytmfcgikfgikbfaa.Ko
open Go.ChangeShapes Go.WideShapes Go.ChangeAt Go.RowKit Base Sq
set_option linter.unusedVariables false
set_option maxRecDepth 20000
attribute [local irreducible] wpQuiet

/-- two men of one kind and player -/
def sameB (a b : St) : Bool := decide (a.dx = b.dx) && decide (a.dy = b.dy)
/-- one of the first k men is as man i -/
def twK (l : List St) (i k : Nat) : Bool := (List.range k).any fun j => sameB (stAt l i) (stAt l j)
def twiceB (l : List St) : Bool := (List.range l.length).any fun i => twK l i i
theorem twiceB_hit {l : List St} {i k : Nat} (hi : i < l.length) (hk : k < i) (h : sameB (stAt l i) (stAt l k) = true) : twiceB l = true := by
  unfold twiceB; rw [List.any_eq_true]; refine ⟨i, by simpa using hi, ?_⟩
  unfold twK; rw [List.any_eq_true]; exact ⟨k, by simpa using hk, h⟩
theorem twiceB_no {l : List St} (h : ∀ i, i < l.length → ∀ k, k < i → sameB (stAt l i) (stAt l k) = false) : twiceB l = false := by
  unfold twiceB; rw [List.any_eq_false]; intro i hi
  unfold twK; simp only [Bool.not_eq_true]; rw [List.any_eq_false]; intro k hk
  rw [h i (by simpa using hi) k (by simpa using hk)]; simp

set_option maxHeartbeats 8000000 in
theorem l7Twice_any (t : Int) (M : Option Addr) (cm : Nat) (l : List St) (w : World) (hM : IsSteps w w.heap.size M l) (hl : l.length ≤ 1048576) :
    Calls Try.prog 49 #[.agg #[.int .i64 t, .slice M l.length cm]] w fun e w' => e = .returned (.bool (twiceB l)) ∧ Below w.heap.size w w' := by
  have HB := Lib.hid (fun i k => twiceB_hit (l := l) (i := i) (k := k))
  have HE := Lib.hid (twiceB_no (l := l))
  go_enter Try.func49, Try.ntmps49
  go_wp2_with fail
  have p1 := Blk.new w #[.int .i64 t, .slice M l.length cm] 43
  go_loopw [3] (fun i wr => ∃ k : Nat, k ≤ l.length ∧ i = .int .i64 k ∧ Hid (∀ i, i < k → ∀ j, j < i → sameB (stAt l i) (stAt l j) = false) ∧ Blk wr w.heap.size #[.int .i64 t, .slice M l.length cm] 43 ∧ Below w.heap.size w wr) (fun i _ => l.length - (intOf i).toNat)
  case atStart => exact ⟨0, by omega, rfl, Lib.hid (fun j hj => absurd hj (by omega)), p1, (by repeat (first | exact Below.refl _ _ | assumption | (refine Below.alloc ?_ (by first | omega | (simp; done) | (simp; omega)) _) | (refine Below.setCell ?_ (by first | omega | (simp; done) | (simp; omega)) _) | refine Below.drew ?_))⟩
  case round =>
    clear p1
    obtain ⟨i, hi, rfl, hg, p1, hbe⟩ := hrel
    obtain ⟨⟨r0, r1⟩, _⟩ := p1.at2
    by_cases hlt : i < l.length
    · have hlt' : (i : Int) < (l.length : Int) := by omega
      go_wp2_with fail
      go_loopw [4] (fun j wq => ∃ k : Nat, k ≤ i ∧ j = .int .i64 k ∧ Hid (∀ j, j < k → sameB (stAt l i) (stAt l j) = false) ∧ Blk wq w.heap.size #[.int .i64 t, .slice M l.length cm] 43 ∧ Below w.heap.size w wq) (fun j _ => i - (intOf j).toNat)
      case atStart => exact ⟨0, by omega, rfl, Lib.hid (fun j hj => absurd hj (by omega)), p1, hbe⟩
      case round =>
        clear p1 hbe r0 r1
        obtain ⟨k, hk, rfl, hg2, p1, hbe⟩ := hrel
        rename_i wq
        obtain ⟨⟨r0, r1⟩, _⟩ := p1.at2
        by_cases hk2 : k < i
        · obtain ⟨b, off, rfl, hB, hc⟩ := hM.below hbe (by omega)
          obtain ⟨a0, a1, a2⟩ := hc i hlt
          obtain ⟨b0, b1, b2⟩ := hc k (by omega)
          have g1 : (0 : Int) ≤ (i : Int) := by omega
          have g2 : (0 : Int) ≤ (k : Int) := by omega
          have g3 : (k : Int) < (l.length : Int) := by omega
          have g4 : (k : Int) < (i : Int) := by omega
          clear hc
          by_cases hx : (stAt l i).dx = (stAt l k).dx
          · have d1 : ((stAt l i).dx == (stAt l k).dx) = true := by simp [hx]
            by_cases hy : (stAt l i).dy = (stAt l k).dy
            · have d2 : ((stAt l i).dy == (stAt l k).dy) = true := by simp [hy]
              have HS := Lib.hid (show sameB (stAt l i) (stAt l k) = true by unfold sameB; rw [decide_eq_true hx, decide_eq_true hy]; rfl)
              clear hx hy
              go_wp2_with fail
              go_quiet (fail)
              go_wp2_with fail
              go_ret
              exact ⟨rb (HB.out i k hlt hk2 HS.out).symm, below_drewN hbe _⟩
            · have d2 : ((stAt l i).dy == (stAt l k).dy) = false := by simp [hy]
              have HS := Lib.hid (show sameB (stAt l i) (stAt l k) = false by unfold sameB; rw [decide_eq_false hy]; simp)
              clear hx hy
              go_wp2_with fail
              go_quiet (fail)
              go_wp2_with fail
              go_roundw
              case rel => exact ⟨k + 1, by omega, by go_num, Lib.hid (all_succ hg2.out HS.out), p1, below_drewN hbe _⟩
              case measure => simp [intOf]; omega
          · have d1 : ((stAt l i).dx == (stAt l k).dx) = false := by simp [hx]
            have HS := Lib.hid (show sameB (stAt l i) (stAt l k) = false by unfold sameB; rw [decide_eq_false hx]; rfl)
            clear hx
            go_wp2_with fail
            go_quiet (fail)
            go_wp2_with fail
            go_roundw
            case rel => exact ⟨k + 1, by omega, by go_num, Lib.hid (all_succ hg2.out HS.out), p1, below_drewN hbe _⟩
            case measure => simp [intOf]; omega
        · obtain rfl : k = i := by omega
          have HG := Lib.hid (all_succ (P := fun i => ∀ j, j < i → sameB (stAt l i) (stAt l j) = false) hg.out hg2.out)
          go_wp2_with fail
          go_roundw
          case rel => exact ⟨k + 1, by omega, by go_num, HG, p1, hbe⟩
          case measure => simp [intOf]; omega
    · obtain rfl : i = l.length := by omega
      go_wp2_with fail
      go_ret
      exact ⟨rb (HE.out hg.out).symm, hbe⟩
end Go.Proofs.Ytmfcgikfgikbfaa.Ko
