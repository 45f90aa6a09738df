/- How many sequences of moves there are (no program is named). -/
import Derived.Test.YtcgfklljbblhlaaGreatDoorCf
import Derived.Test.YtcgfklljbblhlaaGreatDoorMv
namespace Go.Proofs.YtcgfklljbblhlaaGreatDoor.Ko
open Go.ChangeShapes Go.WideShapes Go.ChangeAt Go.RowKit Base Sq
set_option linter.unusedVariables false
set_option maxRecDepth 20000

/-- the men behind a move -/
def nextL (l : List St) (m : Mv) : List St := doL l (manV l m.1).toNat m.2
def sumM (f : Mv → Int) (l : List Mv) : Nat → Int
  | 0 => 0
  | k + 1 => sumM f l k + f (mvAt l k)
def linesV (side : Int) (ks : List Kd) : Nat → Int → List St → Int
  | 0, _, _ => 1
  | n + 1, t, l => sumM (fun m => linesV side ks n (1 - t) (nextL l m)) (movesL side ks t l) (movesL side ks t l).length
theorem mvAt_mem {l : List Mv} {k : Nat} (h : k < l.length) : mvAt l k ∈ l := by rw [mvAt_lt h]; exact List.getElem_mem h
/-- what is known of each legal move -/
theorem move_facts {side : Int} {ks : List Kd} {t : Int} {l : List St} (hs : side = 2 ∨ side = 3 ∨ side = 4) (hsh : shapeB side ks t l = true) {m : Mv} (hm : m ∈ movesL side ks t l) :
    ∃ n : Nat, manV l m.1 = (n : Int) ∧ n < l.length ∧ (stAt l n).far = m.1 ∧ (0 ≤ m.2 ∧ m.2 < side * side) ∧ freeB ks t l m.2 = true ∧ nextL l m = doL l n m.2 ∧ shapeB side ks (1 - t) (nextL l m) = true := by
  have hu := shapeB_up hsh
  obtain ⟨hc, _, _⟩ := movesL_can hu hm
  obtain ⟨n, h1, h2, h3, _, h5, h6⟩ := canB_facts hs hsh hc
  have e : nextL l m = doL l n m.2 := by unfold nextL; rw [h1, Int.toNat_natCast]
  refine ⟨n, h1, h2, h3, h5, h6, e, ?_⟩
  rw [e]
  exact doL_shape hsh (by have := (shapeB_facts hsh).1; omega) h2 h5 (freeB_king hu h6)
theorem sumM_bd {f : Mv → Int} {l : List Mv} {B : Int} (hf : ∀ m ∈ l, 0 ≤ f m ∧ f m ≤ B) : ∀ k, k ≤ l.length → 0 ≤ sumM f l k ∧ sumM f l k ≤ k * B := by
  intro k hk
  induction k with
  | zero => simp [sumM]
  | succ k ih =>
    have h1 := ih (by omega)
    have h2 := hf _ (mvAt_mem (show k < l.length by omega))
    simp only [sumM]
    refine ⟨by omega, ?_⟩
    have : ((k + 1 : Nat) : Int) * B = (k : Int) * B + B := by rw [Int.natCast_add, Int.add_mul]; simp
    omega
theorem linesV_bd {side : Int} {ks : List Kd} (hs : side = 2 ∨ side = 3 ∨ side = 4) : ∀ (n : Nat) (t : Int) (l : List St), shapeB side ks t l = true → 0 ≤ linesV side ks n t l ∧ linesV side ks n t l ≤ 64 ^ n := by
  intro n
  induction n with
  | zero => intro t l _; simp [linesV]
  | succ n ih =>
    intro t l hsh
    have h1 := sumM_bd (f := fun m => linesV side ks n (1 - t) (nextL l m)) (l := movesL side ks t l) (B := 64 ^ n) (fun m hm => by
      obtain ⟨_, _, _, _, _, _, _, h⟩ := move_facts hs hsh hm
      exact ih _ _ h) _ (Nat.le_refl _)
    have h2 := movesL_len (ks := ks) (t := t) hs (shapeB_facts hsh).2.1
    simp only [linesV]
    refine ⟨h1.1, Int.le_trans h1.2 ?_⟩
    have hp : (0 : Int) ≤ 64 ^ n := Int.pow_nonneg (by decide)
    have h3 : ((movesL side ks t l).length : Int) * 64 ^ n ≤ 64 * 64 ^ n := Int.mul_le_mul_of_nonneg_right (by omega) hp
    rw [Int.pow_succ, Int.mul_comm (64 ^ n) 64]
    exact h3
/-- sums of what comes behind the first k moves, for depths that are searched -/
theorem lines_part {side : Int} {ks : List Kd} (hs : side = 2 ∨ side = 3 ∨ side = 4) {n : Nat} (hn : n ≤ 3) {t : Int} {l : List St} (hsh : shapeB side ks t l = true) {k : Nat} (hk : k ≤ (movesL side ks t l).length) :
    0 ≤ sumM (fun m => linesV side ks n (1 - t) (nextL l m)) (movesL side ks t l) k ∧ sumM (fun m => linesV side ks n (1 - t) (nextL l m)) (movesL side ks t l) k ≤ 16777216 := by
  have h1 := sumM_bd (f := fun m => linesV side ks n (1 - t) (nextL l m)) (l := movesL side ks t l) (B := 262144) (fun m hm => by
    obtain ⟨_, _, _, _, _, _, _, h⟩ := move_facts hs hsh hm
    have := linesV_bd hs n _ _ h
    refine ⟨this.1, Int.le_trans this.2 ?_⟩
    have h4 : n = 0 ∨ n = 1 ∨ n = 2 ∨ n = 3 := by omega
    rcases h4 with rfl | rfl | rfl | rfl <;> decide) k hk
  have h2 := movesL_len (ks := ks) (t := t) hs (shapeB_facts hsh).2.1
  refine ⟨h1.1, Int.le_trans h1.2 ?_⟩
  have : (k : Int) * 262144 ≤ 64 * 262144 := Int.mul_le_mul_of_nonneg_right (by omega) (by decide)
  omega
end Go.Proofs.YtcgfklljbblhlaaGreatDoor.Ko
