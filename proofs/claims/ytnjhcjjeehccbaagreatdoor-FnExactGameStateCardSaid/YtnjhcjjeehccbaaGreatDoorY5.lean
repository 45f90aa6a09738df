/- Codes of positions: two men of one kind and player (l7Twice of the model). Codes of positions: values; l7Code of the model. Two pieces compared by '=='. Codes of positions: slices.Index at Piece, Man.piece, numberOf of the program. Codes of positions: that what the program counts is what the model counts. The program's coder.code. Where a legal move begins and ends (no program is named). How many sequences of moves there are (no program is named). The position behind a legal move: the program's moved. The codes behind all moves: values (no program is named). The codes behind all moves: l7Kids of the model. The codes behind all moves: coder.kids of the program. -/
import Derived.Test.YtnjhcjjeehccbaaGreatDoorY1
import Derived.Deep.QuietTactic
import Derived.BigQuiet
import Derived.WalkSmall
import Derived.Laws.StructEq
import Derived.Deep.RegionHeld3
import Derived.Test.YtnjhcjjeehccbaaGreatDoorCb
import Derived.Test.YtnjhcjjeehccbaaGreatDoorMg
import Derived.Test.YtnjhcjjeehccbaaGreatDoorMv
import Derived.Test.YtnjhcjjeehccbaaGreatDoorAg
import Derived.Test.YtnjhcjjeehccbaaGreatDoorMa
import Derived.Test.YtnjhcjjeehccbaaGreatDoorY4
import Derived.Test.YtnjhcjjeehccbaaGreatDoorY3
import Derived.Test.YtnjhcjjeehccbaaGreatDoorY7
namespace Go.Proofs.YtnjhcjjeehccbaaGreatDoor.Ko
open Go.ChangeShapes Go.WideShapes Go.ChangeAt Go.RowKit Base Sq
set_option linter.unusedVariables false
set_option maxRecDepth 20000
attribute [local irreducible] wpQuiet

/-- two men of one kind and player -/
def sameB (a b : St) : Bool := decide (a.dx = b.dx) && decide (a.dy = b.dy)
/-- one of the first k men is as man i -/
def twK (l : List St) (i k : Nat) : Bool := (List.range k).any fun j => sameB (stAt l i) (stAt l j)
def twiceB (l : List St) : Bool := (List.range l.length).any fun i => twK l i i
theorem twiceB_hit {l : List St} {i k : Nat} (hi : i < l.length) (hk : k < i) (h : sameB (stAt l i) (stAt l k) = true) : twiceB l = true := by
  unfold twiceB; rw [List.any_eq_true]; refine ⟨i, by simpa using hi, ?_⟩
  unfold twK; rw [List.any_eq_true]; exact ⟨k, by simpa using hk, h⟩
theorem twiceB_no {l : List St} (h : ∀ i, i < l.length → ∀ k, k < i → sameB (stAt l i) (stAt l k) = false) : twiceB l = false := by
  unfold twiceB; rw [List.any_eq_false]; intro i hi
  unfold twK; simp only [Bool.not_eq_true]; rw [List.any_eq_false]; intro k hk
  rw [h i (by simpa using hi) k (by simpa using hk)]; simp

set_option maxHeartbeats 8000000 in
theorem l7Twice_any (t : Int) (M : Option Addr) (cm : Nat) (l : List St) (w : World) (hM : IsSteps w w.heap.size M l) (hl : l.length ≤ 1048576) :
    Calls Tryz.prog 173 #[.agg #[.int .i64 t, .slice M l.length cm]] w fun e w' => e = .returned (.bool (twiceB l)) ∧ Below w.heap.size w w' := by
  have HB := Lib.hid (fun i k => twiceB_hit (l := l) (i := i) (k := k))
  have HE := Lib.hid (twiceB_no (l := l))
  go_enter Tryz.func173, Tryz.ntmps173
  go_wp2_with fail
  have p1 := Blk.new w #[.int .i64 t, .slice M l.length cm] 40
  go_loopw [3] (fun i wr => ∃ k : Nat, k ≤ l.length ∧ i = .int .i64 k ∧ Hid (∀ i, i < k → ∀ j, j < i → sameB (stAt l i) (stAt l j) = false) ∧ Blk wr w.heap.size #[.int .i64 t, .slice M l.length cm] 40 ∧ Below w.heap.size w wr) (fun i _ => l.length - (intOf i).toNat)
  case atStart => exact ⟨0, by omega, rfl, Lib.hid (fun j hj => absurd hj (by omega)), p1, (by repeat (first | exact Below.refl _ _ | assumption | (refine Below.alloc ?_ (by first | omega | (simp; done) | (simp; omega)) _) | (refine Below.setCell ?_ (by first | omega | (simp; done) | (simp; omega)) _) | refine Below.drew ?_))⟩
  case round =>
    clear p1
    obtain ⟨i, hi, rfl, hg, p1, hbe⟩ := hrel
    obtain ⟨⟨r0, r1⟩, _⟩ := p1.at2
    by_cases hlt : i < l.length
    · have hlt' : (i : Int) < (l.length : Int) := by omega
      go_wp2_with fail
      go_loopw [4] (fun j wq => ∃ k : Nat, k ≤ i ∧ j = .int .i64 k ∧ Hid (∀ j, j < k → sameB (stAt l i) (stAt l j) = false) ∧ Blk wq w.heap.size #[.int .i64 t, .slice M l.length cm] 40 ∧ Below w.heap.size w wq) (fun j _ => i - (intOf j).toNat)
      case atStart => exact ⟨0, by omega, rfl, Lib.hid (fun j hj => absurd hj (by omega)), p1, hbe⟩
      case round =>
        clear p1 hbe r0 r1
        obtain ⟨k, hk, rfl, hg2, p1, hbe⟩ := hrel
        rename_i wq
        obtain ⟨⟨r0, r1⟩, _⟩ := p1.at2
        by_cases hk2 : k < i
        · obtain ⟨b, off, rfl, hB, hc⟩ := hM.below hbe (by omega)
          obtain ⟨a0, a1, a2⟩ := hc i hlt
          obtain ⟨b0, b1, b2⟩ := hc k (by omega)
          have g1 : (0 : Int) ≤ (i : Int) := by omega
          have g2 : (0 : Int) ≤ (k : Int) := by omega
          have g3 : (k : Int) < (l.length : Int) := by omega
          have g4 : (k : Int) < (i : Int) := by omega
          clear hc
          by_cases hx : (stAt l i).dx = (stAt l k).dx
          · have d1 : ((stAt l i).dx == (stAt l k).dx) = true := by simp [hx]
            by_cases hy : (stAt l i).dy = (stAt l k).dy
            · have d2 : ((stAt l i).dy == (stAt l k).dy) = true := by simp [hy]
              have HS := Lib.hid (show sameB (stAt l i) (stAt l k) = true by unfold sameB; rw [decide_eq_true hx, decide_eq_true hy]; rfl)
              clear hx hy
              go_wp2_with fail
              go_quiet (fail)
              go_wp2_with fail
              go_ret
              exact ⟨rb (HB.out i k hlt hk2 HS.out).symm, below_drewN hbe _⟩
            · have d2 : ((stAt l i).dy == (stAt l k).dy) = false := by simp [hy]
              have HS := Lib.hid (show sameB (stAt l i) (stAt l k) = false by unfold sameB; rw [decide_eq_false hy]; simp)
              clear hx hy
              go_wp2_with fail
              go_quiet (fail)
              go_wp2_with fail
              go_roundw
              case rel => exact ⟨k + 1, by omega, by go_num, Lib.hid (all_succ hg2.out HS.out), p1, below_drewN hbe _⟩
              case measure => simp [intOf]; omega
          · have d1 : ((stAt l i).dx == (stAt l k).dx) = false := by simp [hx]
            have HS := Lib.hid (show sameB (stAt l i) (stAt l k) = false by unfold sameB; rw [decide_eq_false hx]; rfl)
            clear hx
            go_wp2_with fail
            go_quiet (fail)
            go_wp2_with fail
            go_roundw
            case rel => exact ⟨k + 1, by omega, by go_num, Lib.hid (all_succ hg2.out HS.out), p1, below_drewN hbe _⟩
            case measure => simp [intOf]; omega
        · obtain rfl : k = i := by omega
          have HG := Lib.hid (all_succ (P := fun i => ∀ j, j < i → sameB (stAt l i) (stAt l j) = false) hg.out hg2.out)
          go_wp2_with fail
          go_roundw
          case rel => exact ⟨k + 1, by omega, by go_num, HG, p1, hbe⟩
          case measure => simp [intOf]; omega
    · obtain rfl : i = l.length := by omega
      go_wp2_with fail
      go_ret
      exact ⟨rb (HE.out hg.out).symm, hbe⟩
end Go.Proofs.YtnjhcjjeehccbaaGreatDoor.Ko

namespace Go.Proofs.YtnjhcjjeehccbaaGreatDoor.Ko
open Go.ChangeShapes Go.WideShapes Go.ChangeAt Go.RowKit Base Sq
set_option linter.unusedVariables false
set_option maxRecDepth 20000
attribute [local irreducible] wpQuiet

/-- a man is of this piece -/
def sameP (a : St) (p : Pc) : Bool := decide (a.dx = p.kd) && decide (a.dy = p.ow)
/-- where the last of the first k men of this piece is, or how many squares there are -/
def atK (s : Int) (l : List St) (p : Pc) : Nat → Int
  | 0 => s * s
  | k + 1 => if sameP (stAt l k) p = true then (stAt l k).far else atK s l p k
/-- how many of the first k men are of this piece -/
def fndK (l : List St) (p : Pc) : Nat → Int
  | 0 => 0
  | k + 1 => fndK l p k + if sameP (stAt l k) p = true then 1 else 0
def codK (s t : Int) (l : List St) (m : List Pc) : Nat → Int
  | 0 => t
  | i + 1 => codK s t l m i * (s * s + 1) + atK s l (pcAt m i) l.length
def fndS (l : List St) (m : List Pc) : Nat → Int
  | 0 => 0
  | i + 1 => fndS l m i + fndK l (pcAt m i) l.length
def codeV (s t : Int) (l : List St) (m : List Pc) : Int := if fndS l m m.length = l.length then codK s t l m m.length else -1
theorem atK_hit {s : Int} {l : List St} {p : Pc} {k : Nat} (h : sameP (stAt l k) p = true) : atK s l p (k + 1) = (stAt l k).far := by simp [atK, h]
theorem atK_no {s : Int} {l : List St} {p : Pc} {k : Nat} (h : sameP (stAt l k) p = false) : atK s l p (k + 1) = atK s l p k := by simp [atK, h]
theorem fndK_hit {l : List St} {p : Pc} {k : Nat} (h : sameP (stAt l k) p = true) : fndK l p (k + 1) = fndK l p k + 1 := by simp [fndK, h]
theorem fndK_no {l : List St} {p : Pc} {k : Nat} (h : sameP (stAt l k) p = false) : fndK l p (k + 1) = fndK l p k := by simp [fndK, h]
theorem fndK_bd (l : List St) (p : Pc) (k : Nat) : 0 ≤ fndK l p k ∧ fndK l p k ≤ k := by
  induction k with
  | zero => exact ⟨Int.le_refl _, Int.le_refl _⟩
  | succ k ih => simp only [fndK]; split <;> omega
theorem fndS_bd {l : List St} (m : List Pc) (hl : l.length ≤ 4) (i : Nat) : 0 ≤ fndS l m i ∧ fndS l m i ≤ 4 * i := by
  induction i with
  | zero => exact ⟨Int.le_refl _, Int.le_refl _⟩
  | succ i ih => have := fndK_bd l (pcAt m i) l.length; simp only [fndS]; omega
theorem atK_bd {s : Int} {l : List St} (p : Pc) (hs : s = 2 ∨ s = 3 ∨ s = 4) (hf : ∀ i, i < l.length → 0 ≤ (stAt l i).far ∧ (stAt l i).far < s * s) {k : Nat} (hk : k ≤ l.length) : 0 ≤ atK s l p k ∧ atK s l p k ≤ s * s := by
  induction k with
  | zero => simp only [atK]; rcases hs with rfl | rfl | rfl <;> omega
  | succ k ih =>
    have h1 := hf k (by omega)
    have h2 := ih (by omega)
    simp only [atK]; split <;> omega
theorem codK_bd {s t : Int} {l : List St} (m : List Pc) (hs : s = 2 ∨ s = 3 ∨ s = 4) (ht : 0 ≤ t ∧ t ≤ 1) (hf : ∀ i, i < l.length → 0 ≤ (stAt l i).far ∧ (stAt l i).far < s * s) (i : Nat) : 0 ≤ codK s t l m i ∧ codK s t l m i + 1 ≤ numV s i := by
  induction i with
  | zero => simp only [codK, numV]; omega
  | succ i ih =>
    have h1 := atK_bd (pcAt m i) hs hf (Nat.le_refl _)
    simp only [codK, numV]
    generalize codK s t l m i = x at *
    generalize atK s l (pcAt m i) l.length = y at *
    generalize numV s i = z at *
    rcases hs with rfl | rfl | rfl <;> omega

set_option maxHeartbeats 8000000 in
theorem l7Code_any (side : Int) (A : Option Addr) (c n : Nat) (M : Option Addr) (cm : Nat) (m : List Pc) (t : Int) (N : Option Addr) (cn : Nat) (l : List St) (w : World) (hM : IsPcs w w.heap.size M m) (hN : IsSteps w w.heap.size N l)
    (hs : side = 2 ∨ side = 3 ∨ side = 4) (hm : m.length ≤ 4) (hl : l.length ≤ 4) (ht : 0 ≤ t ∧ t ≤ 1) (hf : ∀ i, i < l.length → 0 ≤ (stAt l i).far ∧ (stAt l i).far < side * side) :
    Calls Tryz.prog 141 #[.agg #[.int .i64 side, .slice A n c], .slice M m.length cm, .agg #[.int .i64 t, .slice N l.length cn]] w fun e w' => e = .returned (.int .i64 (codeV side t l m)) ∧ Below w.heap.size w w' := by
  have HF := Lib.hid (fun i => fndS_bd (l := l) m hl i)
  have HC := Lib.hid (fun i => codK_bd (s := side) (t := t) (l := l) m hs ht hf i)
  have HNV := Lib.hid (fun k => numV_bd hs (k := k))
  have HA := Lib.hid (fun p => atK_bd (s := side) (l := l) p hs hf (Nat.le_refl _))
  have hw1 : IntKind.i64.wrap (side * side) = side * side := IntWalk.i64_in _ (by rcases hs with rfl | rfl | rfl <;> decide)
  have hw2 : IntKind.i64.wrap (side * side + 1) = side * side + 1 := IntWalk.i64_in _ (by rcases hs with rfl | rfl | rfl <;> decide)
  have hss : 0 ≤ side * side ∧ side * side ≤ 16 := by rcases hs with rfl | rfl | rfl <;> omega
  have HSS := Lib.hid hss
  clear hs hf hss
  go_enter Tryz.func141, Tryz.ntmps141
  go_wp2_with fail
  have p1 := (Blk.new w #[.int .i64 side, .slice A n c] 36).alloc (.cells #[.int .i64 t, .slice N l.length cn] 40)
  have p2 := Blk.new (w.alloc (.cells #[.int .i64 side, .slice A n c] 36)) #[.int .i64 t, .slice N l.length cn] 40
  simp only [World.size_alloc] at p2
  go_loopw [7, 8, 9] (fun cv fv i wr => ∃ k : Nat, k ≤ m.length ∧ i = .int .i64 k ∧ cv = .int .i64 (codK side t l m k) ∧ fv = .int .i64 (fndS l m k) ∧ Blk wr w.heap.size #[.int .i64 side, .slice A n c] 36 ∧
    Blk wr (w.heap.size + 1) #[.int .i64 t, .slice N l.length cn] 40 ∧ Below w.heap.size w wr) (fun _ _ i _ => m.length - (intOf i).toNat)
  case atStart => exact ⟨0, by omega, rfl, rfl, rfl, p1, p2, (by repeat (first | exact Below.refl _ _ | assumption | (refine Below.alloc ?_ (by first | omega | (simp; done) | (simp; omega)) _) | (refine Below.setCell ?_ (by first | omega | (simp; done) | (simp; omega)) _) | refine Below.drew ?_))⟩
  case round =>
    clear p1 p2
    obtain ⟨i, hi, rfl, rfl, rfl, p1, p2, hbe⟩ := hrel
    obtain ⟨⟨r0, r1⟩, _⟩ := p1.at2
    obtain ⟨⟨q0, q1⟩, _⟩ := p2.at2
    obtain ⟨f1, f2⟩ := HF.out i
    by_cases hlt : i < m.length
    · have hlt' : (i : Int) < (m.length : Int) := by omega
      go_wp2_with fail
      go_loopw [8, 10, 11] (fun fv a j wq => ∃ k : Nat, k ≤ l.length ∧ j = .int .i64 k ∧ a = .int .i64 (atK side l (pcAt m i) k) ∧ fv = .int .i64 (fndS l m i + fndK l (pcAt m i) k) ∧ Blk wq w.heap.size #[.int .i64 side, .slice A n c] 36 ∧
        Blk wq (w.heap.size + 1) #[.int .i64 t, .slice N l.length cn] 40 ∧ Below w.heap.size w wq) (fun _ _ j _ => l.length - (intOf j).toNat)
      case atStart => exact ⟨0, by omega, rfl, rfl, by simp [fndK], p1, p2, hbe⟩
      case round =>
        clear p1 p2 hbe r0 r1 q0 q1
        obtain ⟨k, hk, rfl, rfl, rfl, p1, p2, hbe⟩ := hrel
        obtain ⟨⟨r0, r1⟩, _⟩ := p1.at2
        obtain ⟨⟨q0, q1⟩, _⟩ := p2.at2
        obtain ⟨f3, f4⟩ := fndK_bd l (pcAt m i) k
        by_cases hk2 : k < l.length
        · obtain ⟨b, off, rfl, hB, hc⟩ := hM.below hbe (by omega)
          obtain ⟨a0, a1⟩ := hc i hlt
          obtain ⟨b', off', rfl, hB', hc'⟩ := hN.below hbe (by omega)
          obtain ⟨b0, b1, b2⟩ := hc' k hk2
          have g1 : (0 : Int) ≤ (i : Int) := by omega
          have g2 : (0 : Int) ≤ (k : Int) := by omega
          have g3 : (k : Int) < (l.length : Int) := by omega
          have hw3 : IntKind.i64.wrap (fndS l m i + fndK l (pcAt m i) k + 1) = fndS l m i + fndK l (pcAt m i) k + 1 := IntWalk.i64_in _ (by omega)
          clear hc hc'
          by_cases hx : (stAt l k).dx = (pcAt m i).kd
          · have d1 : ((stAt l k).dx == (pcAt m i).kd) = true := by simp [hx]
            by_cases hy : (stAt l k).dy = (pcAt m i).ow
            · have d2 : ((stAt l k).dy == (pcAt m i).ow) = true := by simp [hy]
              have HS := Lib.hid (show sameP (stAt l k) (pcAt m i) = true by unfold sameP; rw [decide_eq_true hx, decide_eq_true hy]; rfl)
              clear hx hy
              go_wp2_with fail
              go_quiet (fail)
              go_wp2_with fail
              go_roundw
              case rel => exact ⟨k + 1, by omega, by go_num, by rw [atK_hit HS.out], by rw [fndK_hit HS.out, Int.add_assoc], p1, p2, below_drewN hbe _⟩
              case measure => simp [intOf]; omega
            · have d2 : ((stAt l k).dy == (pcAt m i).ow) = false := by simp [hy]
              have HS := Lib.hid (show sameP (stAt l k) (pcAt m i) = false by unfold sameP; rw [decide_eq_false hy]; simp)
              clear hx hy
              go_wp2_with fail
              go_quiet (fail)
              go_wp2_with fail
              go_roundw
              case rel => exact ⟨k + 1, by omega, by go_num, by rw [atK_no HS.out], by rw [fndK_no HS.out], p1, p2, below_drewN hbe _⟩
              case measure => simp [intOf]; omega
          · have d1 : ((stAt l k).dx == (pcAt m i).kd) = false := by simp [hx]
            have HS := Lib.hid (show sameP (stAt l k) (pcAt m i) = false by unfold sameP; rw [decide_eq_false hx]; rfl)
            clear hx
            go_wp2_with fail
            go_quiet (fail)
            go_wp2_with fail
            go_roundw
            case rel => exact ⟨k + 1, by omega, by go_num, by rw [atK_no HS.out], by rw [fndK_no HS.out], p1, p2, below_drewN hbe _⟩
            case measure => simp [intOf]; omega
        · obtain rfl : k = l.length := by omega
          have hc1 := HC.out (i + 1)
          have hn1 := HNV.out (i + 1) (by omega)
          have ha1 := HA.out (pcAt m i)
          obtain ⟨s0, s1⟩ := HSS.out
          have hn0 := HC.out i
          have hn2 := HNV.out i (by omega)
          have e1 : codK side t l m (i + 1) = codK side t l m i * (side * side + 1) + atK side l (pcAt m i) l.length := rfl
          have hw4 : IntKind.i64.wrap (codK side t l m i * (side * side + 1)) = codK side t l m i * (side * side + 1) := IntWalk.i64_in _ (by omega)
          have hw5 : IntKind.i64.wrap (codK side t l m i * (side * side + 1) + atK side l (pcAt m i) l.length) = codK side t l m i * (side * side + 1) + atK side l (pcAt m i) l.length := IntWalk.i64_in _ (by omega)
          have HE := Lib.hid e1
          clear hc1 hn1 ha1 s0 s1 hn0 hn2 e1
          go_wp2_with fail
          go_roundw
          case rel => exact ⟨i + 1, by omega, by go_num, by rw [HE.out], rfl, p1, p2, hbe⟩
          case measure => simp [intOf]; omega
    · obtain rfl : i = m.length := by omega
      by_cases hfd : fndS l m m.length = l.length
      · have hv : codeV side t l m = codK side t l m m.length := if_pos hfd
        have HV := Lib.hid hv
        have hd : (fndS l m m.length == (l.length : Int)) = true := by simp [hfd]
        go_wp2_with fail
        go_ret
        exact ⟨by rw [HV.out]; rfl, hbe⟩
      · have hv : codeV side t l m = -1 := if_neg hfd
        have HV := Lib.hid hv
        have hd : (fndS l m m.length == (l.length : Int)) = false := by simp [hfd]
        go_wp2_with fail
        go_ret
        exact ⟨by rw [HV.out]; rfl, hbe⟩
end Go.Proofs.YtnjhcjjeehccbaaGreatDoor.Ko

namespace Go.Proofs.YtnjhcjjeehccbaaGreatDoor.Ko
open Go.ChangeShapes Go.WideShapes Go.ChangeAt Go.RowKit Base Sq
set_option linter.unusedVariables false
set_option maxRecDepth 20000
theorem pieceFields : Tryz.prog.underlying 128 = some (.struct (Tryz.prog.fieldsOf 128)) := by
  unfold Program.fieldsOf; rw [Tryz.underlying128]
theorem pieceFree : Tryz.prog.stoodInHeld 128 = false := by kernel_rfl
theorem pieceGuard : Tryz.prog.eqGuardType Tryz.prog.depth 128 = false := by kernel_rfl
theorem eqGuardPiece (w : World) (x y : Operand) (xs ys : Array Value) : (eqGuard .eql 128 x y (.agg xs) (.agg ys)).run Tryz.prog w = .ok () w := run_eqGuard_agg w _ _ x y xs ys pieceGuard
theorem eqlPiece (w : World) (a b c d : Int) : (binOp .eql 128 (.agg #[.int .i64 a, .int .i64 b]) (.agg #[.int .i64 c, .int .i64 d])).run Tryz.prog w = .ok (.bool (a == c && b == d)) w := by
  have hi := Tryz.underlying3
  rw [run_eql_struct, run_equalIn_struct w 9999 _ _ _ pieceFields pieceFree]
  unfold Program.fieldsOf
  rw [Tryz.underlying128]
  by_cases h : a = c
  · by_cases h2 : b = d
    · simp [Op.eqFields, go_sem, hi, h, h2]
    · simp [Op.eqFields, go_sem, hi, h, h2]
  · simp [Op.eqFields, go_sem, hi, h]
end Go.Proofs.YtnjhcjjeehccbaaGreatDoor.Ko

namespace Go.Proofs.YtnjhcjjeehccbaaGreatDoor.Ko
open Go.ChangeShapes Go.WideShapes Go.ChangeAt Go.RowKit Base Sq
set_option linter.unusedVariables false
set_option maxRecDepth 20000
attribute [local irreducible] wpQuiet

/-- the first place of a man's piece in a material, or -1 -/
def IdxAt (m : List Pc) (a : St) (z : Int) : Prop := (∃ i : Nat, i < m.length ∧ z = i ∧ sameP a (pcAt m i) = true) ∨ (z = -1 ∧ ∀ j, j < m.length → sameP a (pcAt m j) = false)

set_option maxHeartbeats 4000000 in
theorem index_any (M : Option Addr) (cm : Nat) (m : List Pc) (a : St) (w : World) (hM : IsPcs w w.heap.size M m) (hm : m.length ≤ 1048576) :
    Calls Tryz.prog 181 #[.slice M m.length cm, .agg #[.int .i64 a.dx, .int .i64 a.dy]] w fun e w' => ∃ z, e = .returned (.int .i64 z) ∧ IdxAt m a z ∧ Below w.heap.size w w' := by
  go_enter Tryz.func181, Tryz.ntmps181
  go_wp2_with fail
  have p1 := Blk.new w #[.int .i64 a.dx, .int .i64 a.dy] 128
  have heq := eqlPiece
  have hgd := eqGuardPiece
  go_loopw [8] (fun i wr => ∃ k : Nat, k ≤ m.length ∧ i = .int .i64 k ∧ Hid (∀ j, j < k → sameP a (pcAt m j) = false) ∧ Blk wr w.heap.size #[.int .i64 a.dx, .int .i64 a.dy] 128 ∧ Below w.heap.size w wr) (fun i _ => m.length - (intOf i).toNat)
  case atStart => exact ⟨0, by omega, rfl, Lib.hid (fun j hj => absurd hj (by omega)), p1, (by repeat (first | exact Below.refl _ _ | assumption | (refine Below.alloc ?_ (by first | omega | (simp; done) | (simp; omega)) _) | (refine Below.setCell ?_ (by first | omega | (simp; done) | (simp; omega)) _) | refine Below.drew ?_))⟩
  case round =>
    clear p1
    obtain ⟨k, hk, rfl, hg, p1, hbe⟩ := hrel
    obtain ⟨⟨r0, r1⟩, _⟩ := p1.at2
    by_cases hlt : k < m.length
    · have hlt' : (k : Int) < (m.length : Int) := by omega
      have g1 : (0 : Int) ≤ (k : Int) := by omega
      obtain ⟨b, off, rfl, hB, hc⟩ := hM.below hbe (by omega)
      obtain ⟨a0, a1⟩ := hc k hlt
      clear hc
      have hsp : sameP a (pcAt m k) = (a.dx == (pcAt m k).kd && a.dy == (pcAt m k).ow) := by unfold sameP; congr 1
      cases hs : sameP a (pcAt m k)
      · have HS := Lib.hid hs
        have d1 : (a.dx == (pcAt m k).kd && a.dy == (pcAt m k).ow) = false := by rw [← hsp, hs]
        clear hs hsp
        go_wp2_with fail
        go_quiet (fail)
        go_wp2_with fail
        go_roundw
        case rel => exact ⟨k + 1, by omega, by go_num, Lib.hid (all_succ hg.out HS.out), p1, below_drewN hbe _⟩
        case measure => simp [intOf]; omega
      · have HS := Lib.hid hs
        have d1 : (a.dx == (pcAt m k).kd && a.dy == (pcAt m k).ow) = true := by rw [← hsp, hs]
        clear hs hsp
        go_wp2_with fail
        go_quiet (fail)
        go_wp2_with fail
        go_ret
        exact ⟨_, rfl, .inl ⟨k, hlt, rfl, HS.out⟩, below_drewN hbe _⟩
    · obtain rfl : k = m.length := by omega
      go_wp2_with fail
      go_ret
      exact ⟨_, rfl, .inr ⟨rfl, hg.out⟩, hbe⟩

theorem piece_any (x y z : Int) (w : World) :
    Calls Tryz.prog 182 #[.agg #[.int .i64 x, .int .i64 y, .int .i64 z]] w fun e w' => e = .returned (.agg #[.int .i64 x, .int .i64 y]) ∧ Below w.heap.size w w' := by
  go_enter Tryz.func182, Tryz.ntmps182
  go_wp2_with fail
  refine bodyPost_ret (v := .agg #[.int .i64 x, .int .i64 y]) (by simp [results, Tryz.results182, go_sem]) rfl ⟨rfl, ?_⟩
  exact (by repeat (first | exact Below.refl _ _ | assumption | (refine Below.alloc ?_ (by first | omega | (simp; done) | (simp; omega)) _) | (refine Below.setCell ?_ (by first | omega | (simp; done) | (simp; omega)) _) | refine Below.drew ?_))

/-- the digits of a position's code -/
def digK (s t : Int) (l : List St) (m : List Pc) (k : Nat) : List Int := t :: (List.range m.length).map fun i => atK s l (pcAt m i) k
theorem digK_len (s t : Int) (l : List St) (m : List Pc) (k : Nat) : (digK s t l m k).length = m.length + 1 := by simp [digK]
theorem digK_zero (s t : Int) (l : List St) (m : List Pc) (k : Nat) : In.iAt (digK s t l m k) 0 = t := rfl
theorem digK_succ {s t : Int} {l : List St} {m : List Pc} {k i : Nat} (h : i < m.length) : In.iAt (digK s t l m k) (i + 1) = atK s l (pcAt m i) k := by
  unfold In.iAt digK; simp [List.getD_eq_getElem?_getD, h]
/-- the number of the first i digits -/
def nrV (s t : Int) (l : List St) (m : List Pc) : Nat → Int
  | 0 => 0
  | i + 1 => codK s t l m i

set_option maxHeartbeats 4000000 in
theorem numberOf_any (side t : Int) (l : List St) (m : List Pc) (A : Option Addr) (c : Nat) (D : Option Addr) (d : Nat) (w : World) (hA : In.IsInts w w.heap.size A (digK side t l m l.length)) (hD : In.IsInts w w.heap.size D (basesV side m.length))
    (hs : side = 2 ∨ side = 3 ∨ side = 4) (hm : m.length ≤ 4) (ht : 0 ≤ t ∧ t ≤ 1) (hf : ∀ i, i < l.length → 0 ≤ (stAt l i).far ∧ (stAt l i).far < side * side) :
    Calls Tryz.prog 183 #[.slice A (m.length + 1) c, .slice D (m.length + 1) d] w fun e w' => e = .returned (.int .i64 (codK side t l m m.length)) ∧ w = w' := by
  have HC := Lib.hid (fun i => codK_bd (s := side) (t := t) (l := l) m hs ht hf i)
  have HNV := Lib.hid (fun k => numV_bd hs (k := k))
  have HA := Lib.hid (fun p => atK_bd (s := side) (l := l) p hs hf (Nat.le_refl _))
  have hss : 0 ≤ side * side ∧ side * side ≤ 16 := by rcases hs with rfl | rfl | rfl <;> omega
  have HSS := Lib.hid hss
  clear hs hf hss
  obtain ⟨b, rfl, hB, hc⟩ := hA (by rw [digK_len]; omega)
  obtain ⟨b', rfl, hB', hc'⟩ := hD (by rw [bases_len]; omega)
  have HCA := Lib.hid hc
  have HCD := Lib.hid hc'
  clear hc hc' hA hD
  go_enter Tryz.func183, Tryz.ntmps183
  go_wp2_with fail
  go_loopw [5, 10] (fun v i wr => ∃ k : Nat, k ≤ m.length + 1 ∧ i = .int .i64 k ∧ v = .int .i64 (nrV side t l m k) ∧ wr = w) (fun v i _ => m.length + 1 - (intOf i).toNat)
  case atStart => exact ⟨0, by omega, rfl, rfl, rfl⟩
  case round =>
    obtain ⟨k, hk, rfl, rfl, rfl⟩ := hrel
    by_cases hlt : k < m.length + 1
    · have a0 := HCA.out k (by rw [digK_len]; exact hlt)
      have b0 := HCD.out k (by rw [bases_len]; exact hlt)
      have hlt' : (k : Int) < ((m.length + 1 : Nat) : Int) := by omega
      have hlt'' : (k : Int) < (m.length : Int) + 1 := by omega
      have g1 : (0 : Int) ≤ (k : Int) := by omega
      rcases k with _ | k
      · rw [digK_zero] at a0
        rw [bases_zero] at b0
        have hw1 : IntKind.i64.wrap (0 * 2) = 0 := by decide
        have hw2 : IntKind.i64.wrap (0 + t) = t := by rw [Int.zero_add]; exact IntWalk.i64_in _ (by omega)
        have hw3 : IntKind.i64.wrap t = t := IntWalk.i64_in _ (by omega)
        have hn : nrV side t l m 0 = 0 := rfl
        rw [hn]
        clear hn
        go_wp2_with fail
        go_roundw
        case rel => exact ⟨1, by omega, by go_num, rfl, by trivial⟩
        case measure => (simp [intOf]; try omega)
      · rw [digK_succ (by omega)] at a0
        rw [bases_succ (by omega)] at b0
        have hn : nrV side t l m (k + 1) = codK side t l m k := rfl
        rw [hn]
        have hc1 := HC.out (k + 1)
        have hn1 := HNV.out (k + 1) (by omega)
        have ha1 := HA.out (pcAt m k)
        obtain ⟨s0, s1⟩ := HSS.out
        have hn0 := HC.out k
        have e1 : codK side t l m (k + 1) = codK side t l m k * (side * side + 1) + atK side l (pcAt m k) l.length := rfl
        have hw4 : IntKind.i64.wrap (codK side t l m k * (side * side + 1)) = codK side t l m k * (side * side + 1) := IntWalk.i64_in _ (by omega)
        have hw5 : IntKind.i64.wrap (codK side t l m k * (side * side + 1) + atK side l (pcAt m k) l.length) = codK side t l m k * (side * side + 1) + atK side l (pcAt m k) l.length := IntWalk.i64_in _ (by omega)
        have HE := Lib.hid e1
        clear hc1 hn1 ha1 s0 s1 hn0 e1 hn
        go_wp2_with fail
        go_roundw
        case rel => exact ⟨k + 1 + 1, by omega, by go_num, by rw [show nrV side t l m (k + 1 + 1) = codK side t l m (k + 1) from rfl, HE.out], by trivial⟩
        case measure => simp [intOf]; omega
    · obtain rfl : k = m.length + 1 := by omega
      go_wp2_with fail
      go_ret
      exact ⟨rfl, rfl⟩
end Go.Proofs.YtnjhcjjeehccbaaGreatDoor.Ko

namespace Go.Proofs.YtnjhcjjeehccbaaGreatDoor.Ko
open Go.ChangeShapes Go.WideShapes Go.ChangeAt Go.RowKit Base Sq
set_option linter.unusedVariables false
set_option maxRecDepth 20000

/-- no man is of two pieces of the material -/
def Uniq (m : List Pc) : Prop := ∀ (a : St) i j, i < m.length → j < m.length → sameP a (pcAt m i) = true → sameP a (pcAt m j) = true → i = j
def hasN (a : St) (m : List Pc) : Nat → Int
  | 0 => 0
  | n + 1 => hasN a m n + if sameP a (pcAt m n) = true then 1 else 0
def sumL (l : List St) (m : List Pc) (n : Nat) : Nat → Int
  | 0 => 0
  | k + 1 => sumL l m n k + hasN (stAt l k) m n
theorem sumL_zero (l : List St) (m : List Pc) (k : Nat) : sumL l m 0 k = 0 := by
  induction k with
  | zero => rfl
  | succ k ih => simp only [sumL, hasN, ih]; rfl
theorem sumL_step (l : List St) (m : List Pc) (n k : Nat) : sumL l m (n + 1) k = sumL l m n k + fndK l (pcAt m n) k := by
  induction k with
  | zero => rfl
  | succ k ih => simp only [sumL, hasN, fndK, ih]; omega
theorem fndS_sum (l : List St) (m : List Pc) (n : Nat) : fndS l m n = sumL l m n l.length := by
  induction n with
  | zero => rw [sumL_zero]; rfl
  | succ n ih => rw [sumL_step, ← ih]; rfl
theorem hasN_nn (a : St) (m : List Pc) (n : Nat) : 0 ≤ hasN a m n := by
  induction n with
  | zero => exact Int.le_refl _
  | succ n ih => simp only [hasN]; split <;> omega
theorem hasN_none {a : St} {m : List Pc} {n : Nat} (h : ∀ i, i < n → sameP a (pcAt m i) = false) : hasN a m n = 0 := by
  induction n with
  | zero => rfl
  | succ n ih => simp only [hasN]; rw [ih fun i hi => h i (by omega), h n (by omega)]; rfl
theorem hasN_le {a : St} {m : List Pc} (hU : Uniq m) {n : Nat} (hn : n ≤ m.length) : hasN a m n ≤ 1 := by
  induction n with
  | zero => simp only [hasN]; omega
  | succ n ih =>
    simp only [hasN]
    have := ih (by omega)
    split
    · rename_i h
      rw [hasN_none fun i hi => by
        cases hq : sameP a (pcAt m i)
        · rfl
        · have := hU a i n (by omega) (by omega) hq h; omega]
      omega
    · omega
theorem hasN_pos {a : St} {m : List Pc} {n i : Nat} (hi : i < n) (h : sameP a (pcAt m i) = true) : 1 ≤ hasN a m n := by
  induction n with
  | zero => omega
  | succ n ih =>
    simp only [hasN]
    have h0 := hasN_nn a m n
    rcases Nat.lt_or_ge i n with hlt | hge
    · have := ih hlt; split <;> omega
    · obtain rfl : i = n := by omega
      rw [if_pos h]; omega
theorem sumL_le {l : List St} {m : List Pc} (hU : Uniq m) (k : Nat) : sumL l m m.length k ≤ k := by
  induction k with
  | zero => simp only [sumL]; omega
  | succ k ih => have := hasN_le (a := stAt l k) hU (Nat.le_refl _); simp only [sumL]; omega
theorem sumL_all {l : List St} {m : List Pc} (hU : Uniq m) {k : Nat} (h : ∀ j, j < k → ∃ i, i < m.length ∧ sameP (stAt l j) (pcAt m i) = true) : sumL l m m.length k = k := by
  induction k with
  | zero => rfl
  | succ k ih =>
    have h1 := ih fun j hj => h j (by omega)
    obtain ⟨i, hi, hs⟩ := h k (by omega)
    have h2 := hasN_pos hi hs
    have h3 := hasN_le (a := stAt l k) hU (Nat.le_refl _)
    simp only [sumL]; omega
theorem sumL_lt {l : List St} {m : List Pc} (hU : Uniq m) {j : Nat} (hn : ∀ i, i < m.length → sameP (stAt l j) (pcAt m i) = false) {k : Nat} (hj : j < k) : sumL l m m.length k + 1 ≤ k := by
  induction k with
  | zero => omega
  | succ k ih =>
    simp only [sumL]
    rcases Nat.lt_or_ge j k with hlt | hge
    · have h1 := ih hlt
      have h3 := hasN_le (a := stAt l k) hU (Nat.le_refl _)
      omega
    · obtain rfl : j = k := by omega
      rw [hasN_none hn]
      have := sumL_le (l := l) hU j
      omega

/-- a position's code: of rules, material and position that are ok -/
def codeQ (s t : Int) (l : List St) (m : List Pc) : Int := if twiceB l = true then -1 else codeV s t l m
theorem codeQ_none {s t : Int} {l : List St} {m : List Pc} (hU : Uniq m) {j : Nat} (hj : j < l.length) (hn : ∀ i, i < m.length → sameP (stAt l j) (pcAt m i) = false) : codeQ s t l m = -1 := by
  unfold codeQ codeV
  split
  · rfl
  · rw [if_neg]
    rw [fndS_sum]
    have := sumL_lt (l := l) hU hn hj
    omega
theorem atK_far {s : Int} {l : List St} {p : Pc} {k : Nat} (hf : ∀ i, i < l.length → 0 ≤ (stAt l i).far ∧ (stAt l i).far < s * s) (hk : k ≤ l.length) {j : Nat} (hj : j < k) (h : sameP (stAt l j) p = true) : atK s l p k < s * s := by
  induction k with
  | zero => omega
  | succ k ih =>
    simp only [atK]
    split
    · exact (hf k (by omega)).2
    · rename_i hne
      rcases Nat.lt_or_ge j k with hlt | hge
      · exact ih (by omega) hlt
      · obtain rfl : j = k := by omega
        exact absurd h hne
theorem atK_none {s : Int} {l : List St} {p : Pc} {k : Nat} (h : ∀ j, j < k → sameP (stAt l j) p = false) : atK s l p k = s * s := by
  induction k with
  | zero => rfl
  | succ k ih => rw [atK_no (h k (by omega))]; exact ih fun j hj => h j (by omega)
theorem sameB_of {a b : St} {p : Pc} (h1 : sameP a p = true) (h2 : sameP b p = true) : sameB a b = true := by
  unfold sameP at h1 h2; unfold sameB
  simp only [Bool.and_eq_true, decide_eq_true_eq] at *
  exact ⟨h1.1.trans h2.1.symm, h1.2.trans h2.2.symm⟩
theorem sameP_of {a b : St} {p : Pc} (h1 : sameB a b = true) (h2 : sameP a p = true) : sameP b p = true := by
  unfold sameB at h1; unfold sameP at *
  simp only [Bool.and_eq_true, decide_eq_true_eq] at *
  exact ⟨h1.1.symm.trans h2.1, h1.2.symm.trans h2.2⟩
theorem codeQ_twice {s t : Int} {l : List St} {m : List Pc} {p : Pc} {k : Nat} (hk : k < l.length) (hs : sameP (stAt l k) p = true) (h : atK s l p k ≠ s * s) : codeQ s t l m = -1 := by
  have hx : ∃ j, j < k ∧ sameP (stAt l j) p = true := Classical.byContradiction fun hn => h (atK_none fun j hj => by
    cases hq : sameP (stAt l j) p
    · rfl
    · exact absurd ⟨j, hj, hq⟩ hn)
  obtain ⟨j, hj, hq⟩ := hx
  unfold codeQ
  rw [if_pos (twiceB_hit hk hj (sameB_of hs hq))]
theorem no_twin {s : Int} {l : List St} {p : Pc} {k : Nat} (hf : ∀ i, i < l.length → 0 ≤ (stAt l i).far ∧ (stAt l i).far < s * s) (hk : k < l.length) (hs : sameP (stAt l k) p = true) (h : atK s l p k = s * s) : ∀ j, j < k → sameB (stAt l k) (stAt l j) = false := fun j hj => by
  cases hq : sameB (stAt l k) (stAt l j)
  · rfl
  · have := atK_far (p := p) hf (by omega) hj (sameP_of hq hs); omega
theorem codeQ_end {s t : Int} {l : List St} {m : List Pc} (hU : Uniq m) (hP : ∀ j, j < l.length → ∃ i, i < m.length ∧ sameP (stAt l j) (pcAt m i) = true) (hT : ∀ i, i < l.length → ∀ k, k < i → sameB (stAt l i) (stAt l k) = false) : codeQ s t l m = codK s t l m m.length := by
  unfold codeQ codeV
  rw [twiceB_no hT, if_neg (by decide), if_pos]
  rw [fndS_sum, sumL_all hU hP]
theorem digK_start (s t : Int) (l : List St) (m : List Pc) : digK s t l m 0 = t :: List.replicate m.length (s * s) := by
  unfold digK atK
  congr 1
  rw [List.eq_replicate_iff]; simp
theorem digK_next {s t : Int} {l : List St} {m : List Pc} (hU : Uniq m) {k i : Nat} (hi : i < m.length) (hs : sameP (stAt l k) (pcAt m i) = true) : digK s t l m (k + 1) = (digK s t l m k).set (i + 1) (stAt l k).far := by
  unfold digK
  rw [List.set_cons_succ]
  congr 1
  apply List.ext_getElem
  · simp
  · intro n h1 h2
    simp only [List.length_map, List.length_range] at h1
    simp only [List.getElem_map, List.getElem_range, List.getElem_set]
    by_cases hn : i = n
    · subst hn; rw [if_pos rfl, atK_hit hs]
    · rw [if_neg hn, atK_no]
      cases hq : sameP (stAt l k) (pcAt m n)
      · rfl
      · exact absurd (hU _ i n hi h1 hs hq) hn
theorem pc_lt {n : Nat} {m : List Pc} (h : ∀ j, j < m.length → goodP n m j = true) {i d : Nat} (hj : i + d + 1 < m.length) : pcLess (pcAt m i) (pcAt m (i + d + 1)) = true := by
  have hst : ∀ i, i + 1 < m.length → pcLess (pcAt m i) (pcAt m (i + 1)) = true := fun i hi => by
    have := h (i + 1) hi
    unfold goodP at this
    simp only [Bool.and_eq_true, Bool.or_eq_true, decide_eq_true_eq] at this
    rcases this.2 with h0 | h1
    · omega
    · simpa using h1
  induction d with
  | zero => exact hst i hj
  | succ d ih =>
    have h1 := ih (by omega)
    have h2 := hst (i + d + 1) (by omega)
    rw [pcLess_iff] at *
    rw [show i + (d + 1) + 1 = i + d + 1 + 1 from by omega]
    omega
theorem uniq_of {n : Nat} {m : List Pc} (h : ∀ j, j < m.length → goodP n m j = true) : Uniq m := fun a i j hi hj h1 h2 => by
  unfold sameP at h1 h2
  simp only [Bool.and_eq_true, decide_eq_true_eq] at h1 h2
  rcases Nat.lt_trichotomy i j with hlt | heq | hgt
  · have := pc_lt h (i := i) (d := j - i - 1) (by omega)
    rw [show i + (j - i - 1) + 1 = j from by omega, pcLess_iff] at this
    omega
  · exact heq
  · have := pc_lt h (i := j) (d := i - j - 1) (by omega)
    rw [show j + (i - j - 1) + 1 = i from by omega, pcLess_iff] at this
    omega
theorem matV_uniq {side : Int} {ks : List Kd} {m : List Pc} (h : matV side ks m = true) : Uniq m := by
  unfold matV matB knownB at h
  simp only [Bool.and_eq_true, List.all_eq_true, List.mem_range] at h
  exact uniq_of (n := ks.length) h.2.1.1.1
end Go.Proofs.YtnjhcjjeehccbaaGreatDoor.Ko

namespace Go.Proofs.YtnjhcjjeehccbaaGreatDoor.Ko
open Go.ChangeShapes Go.WideShapes Go.ChangeAt Go.RowKit Base Sq
set_option linter.unusedVariables false
set_option maxRecDepth 20000
attribute [local irreducible] wpQuiet

theorem own_one (s : Int) (w : World) (base : Nat) (hB : base ≤ w.heap.size) : In.Own (w.alloc (.cells #[.int .i64 s] 3)) base (.slice (some ⟨w.heap.size, 0, none⟩) 1 1) [s] :=
  ⟨rfl, .inr ⟨w.heap.size, 1, #[.int .i64 s], rfl, hB, Blk.new w #[.int .i64 s] 3, Nat.le_refl _, by decide, rfl, rfl⟩⟩
theorem own_row' {w : World} {base n : Nat} {v : Value} {l : List Int} (h : In.Own w base v l) (hn : l.length = n) : w.ownsRow base 3 1 v n (In.nums l) := by have := h; unfold In.Own at this; rwa [hn] at this
/-- a store into the own list -/
theorem own_set {w : World} {base g cap : Nat} {l : List Int} (h : In.Own w base (.slice (some ⟨g, 0, none⟩) l.length cap) l) (i : Nat) (x : Int) (hi : i < l.length) :
    In.Own (w.setCell ⟨g, i, none⟩ (.int .i64 x)) base (.slice (some ⟨g, 0, none⟩) (l.set i x).length cap) (l.set i x) := by
  rcases h.2 with ⟨h0, _⟩ | ⟨g', cap', cur, hv, hB, hg, hn, hm, hs, ht⟩
  · cases h0
  · injection hv with h1 h2 h3
    injection h1 with h1
    injection h1 with h1
    subst h1
    subst h3
    refine ⟨by simp [In.nums], .inr ⟨g, cap, cur.setIfInBounds i (.int .i64 x), rfl, hB, Blk.set hg i _, by simpa using hn, hm, by simpa using hs, ?_⟩⟩
    unfold In.nums at *
    rw [List.map_set, ← ht]
    simp [Array.toList_setIfInBounds, List.take_set]

def CdInv (w wr : World) (side : Int) (A : Option Addr) (c n : Nat) (M : Option Addr) (cm m : Nat) (D : Option Addr) (d : Nat) (t : Int) (N : Option Addr) (cn l : Nat) (v : Value) (L : List Int) : Prop :=
  In.Own wr (w.heap.size + 2) v L ∧ Blk wr w.heap.size #[.int .i64 side, .slice A n c, .slice M m cm, .slice D (m + 1) d] 132 ∧ Blk wr (w.heap.size + 1) #[.int .i64 t, .slice N l cn] 40 ∧ Below w.heap.size w wr

set_option maxHeartbeats 8000000 in
theorem code_any (side : Int) (A : Option Addr) (c n : Nat) (M : Option Addr) (cm : Nat) (m : List Pc) (D : Option Addr) (d : Nat) (t : Int) (N : Option Addr) (cn : Nat) (l : List St) (w : World) (hM : IsPcs w w.heap.size M m)
    (hD : In.IsInts w w.heap.size D (basesV side m.length)) (hN : IsSteps w w.heap.size N l) (hU : Uniq m)
    (hs : side = 2 ∨ side = 3 ∨ side = 4) (hm : m.length ≤ 4) (hl : l.length ≤ 4) (ht : 0 ≤ t ∧ t ≤ 1) (hf : ∀ i, i < l.length → 0 ≤ (stAt l i).far ∧ (stAt l i).far < side * side) :
    Calls Tryz.prog 146 #[.agg #[.int .i64 side, .slice A n c, .slice M m.length cm, .slice D (m.length + 1) d], .agg #[.int .i64 t, .slice N l.length cn]] w fun e w' => e = .returned (.int .i64 (codeQ side t l m)) ∧ Below w.heap.size w w' := by
  have hbx := (below_of w (.cells #[.int .i64 side, .slice A n c, .slice M m.length cm, .slice D (m.length + 1) d] 132)).alloc (by first | (simp; done) | (simp; omega) | omega) (.cells #[.int .i64 t, .slice N l.length cn] 40)
  have HU := Lib.hid hU
  have HSD := Lib.hid hs
  have HFR := Lib.hid hf
  clear hU hs hf
  go_enter Tryz.func146, Tryz.ntmps146
  go_wp2_with fail
  have p1 := (Blk.new w #[.int .i64 side, .slice A n c, .slice M m.length cm, .slice D (m.length + 1) d] 132).alloc (.cells #[.int .i64 t, .slice N l.length cn] 40)
  have p2 := Blk.new (w.alloc (.cells #[.int .i64 side, .slice A n c, .slice M m.length cm, .slice D (m.length + 1) d] 132)) #[.int .i64 t, .slice N l.length cn] 40
  simp only [World.size_alloc] at p2
  have hz1 : w.heap.size + 2 ≤ ((w.alloc (.cells #[.int .i64 side, .slice A n c, .slice M m.length cm, .slice D (m.length + 1) d] 132)).alloc (.cells #[.int .i64 t, .slice N l.length cn] 40)).heap.size := (by first | (simp; done) | (simp; omega) | omega)
  generalize hW1 : (w.alloc _).alloc _ = W1 at *
  clear hW1
  refine (squares_any _ _ _ _ _ HSD.out).mono ?_
  rintro e w2 ⟨rfl, hb2⟩
  have q1 := Blk.below p1 hb2 p1.lt
  have q2 := Blk.below p2 hb2 p2.lt
  have hbe2 := hbx.trans (hb2.mono hbx.size)
  have hz2 := hb2.size
  obtain ⟨c0, c1, c2, c3⟩ := Blk.at4 q1
  obtain ⟨⟨e0, e1⟩, _⟩ := q2.at2
  have y1 := q1.lt
  have y2 := q2.lt
  clear p1 p2 hbx hb2
  go_wp2_with fail
  have hI0 : Hid (CdInv w (w2.alloc (.cells #[.int .i64 t] 3)) side A c n M cm m.length D d t N cn l.length (.slice (some ⟨w2.heap.size, 0, none⟩) (0 + 1) 1) (t :: List.replicate 0 (side * side))) := Lib.hid
    ⟨own_one t w2 _ (by omega), q1.alloc _, q2.alloc _, hbe2.alloc (by omega) _⟩
  obtain ⟨i0, hi0, hz0, hzz1, hzz2⟩ := info_parts In.infoInt
  have hwb : w.heap.size ≤ w2.heap.size := by omega
  clear q1 q2 hbe2 c0 c1 c2 c3 e0 e1
  have hw1 : IntKind.i64.wrap (side * side) = side * side := IntWalk.i64_in _ (by rcases HSD.out with rfl | rfl | rfl <;> decide)
  generalize hW3 : w2.alloc _ = W3 at *
  clear hW3 y1 y2
  go_loopw [6, 19] (fun v i wr => ∃ (k : Nat) (B : Option Addr) (d' : Nat), k ≤ m.length ∧ i = .int .i64 k ∧ v = .slice B (k + 1) d' ∧ Hid (CdInv w wr side A c n M cm m.length D d t N cn l.length (.slice B (k + 1) d') (t :: List.replicate k (side * side)))) (fun _ i _ => m.length - (intOf i).toNat)
  case atStart => exact ⟨0, some ⟨w2.heap.size, 0, none⟩, 1, by omega, rfl, rfl, hI0⟩
  case round =>
    clear hI0
    obtain ⟨k, B, d', hk, rfl, rfl, hI⟩ := hrel
    obtain ⟨hO, q1, q2, hbe⟩ := hI.out
    have y1 := q1.lt
    have y2 := q2.lt
    have hz := hbe.size
    by_cases hlt : k < m.length
    · have hlt' : (k : Int) < (m.length : Int) := by omega
      have hmax : k + 1 + 1 ≤ maxLen := by unfold maxLen; omega
      have HO := Lib.hid hO
      clear hI hO
      go_wp2_with (at_builtin; refine wpList_append_own _ rfl _ _ 73 rfl (w.heap.size + 2) 3 i0 (.int .i64 0) 1 8 Tryz.underlying73 hi0 hz0 hzz1 hzz2 rfl (by decide) _ _ _ rfl (World.ownsRow.alloc (own_row' HO.out (by simp)) _) ⟨wr.heap.size, 0, none⟩ 1 1 [.int .i64 (side * side)] rfl rfl (cell_one_new _ _ _) (fun u hu => by simp at hu; subst hu; rfl) hmax (by omega) (by simp; omega) ?_; intro v' w7 hown' hgrow7 hnil7)
      have hO7 : In.Own w7 (w.heap.size + 2) v' (t :: List.replicate (k + 1) (side * side)) := by
        unfold In.Own
        rw [List.replicate_succ', ← List.cons_append, In.nums_snoc]
        simpa using hown'
      have HO5 := Lib.hid (In.Own.below HO.out (below_of wr (.cells #[.int .i64 (side * side)] 3)))
      have hbG : Below (w.heap.size + 2) (wr.alloc (.cells #[.int .i64 (side * side)] 3)) w7 := In.own_base HO5.out hgrow7 (Below.refl _ _) (Nat.le_refl _) (by simp; omega)
      have hq1 := Blk.below (q1.alloc (.cells #[.int .i64 (side * side)] 3)) hbG (by omega)
      have hq2 := Blk.below (q2.alloc (.cells #[.int .i64 (side * side)] 3)) hbG (by omega)
      have hbe7 := (hbe.alloc hz (.cells #[.int .i64 (side * side)] 3)).trans (hbG.mono (by omega))
      obtain ⟨A7, c7, hv7⟩ := hO7.slice
      rw [show (t :: List.replicate (k + 1) (side * side)).length = k + 1 + 1 from by simp] at hv7
      subst hv7
      have HF := Lib.hid (show CdInv w w7 side A c n M cm m.length D d t N cn l.length (.slice A7 (k + 1 + 1) c7) (t :: List.replicate (k + 1) (side * side)) from ⟨hO7, hq1, hq2, hbe7⟩)
      clear hown' hgrow7 hnil7 hO7 hbG hq1 hq2 hbe7
      go_roundw
      case rel =>
        have R : k + 1 ≤ m.length ∧ Value.int .i64 ((k : Int) + 1) = .int .i64 ((k + 1 : Nat) : Int) ∧ Value.slice A7 (k + 1 + 1) c7 = .slice A7 (k + 1 + 1) c7 ∧ Hid (CdInv w w7 side A c n M cm m.length D d t N cn l.length (.slice A7 (k + 1 + 1) c7) (t :: List.replicate (k + 1) (side * side))) := ⟨by omega, by go_num, rfl, HF⟩
        first
          | exact ⟨k + 1, A7, c7, R⟩
          | ((repeat apply Exists.intro); exact ⟨⟨k + 1, A7, c7, R⟩, rfl⟩)
      case measure => simp [intOf]; omega
    · obtain rfl : k = m.length := by omega
      obtain ⟨⟨e0, e1⟩, _⟩ := q2.at2
      rw [← digK_start side t l m] at hO
      obtain ⟨g, cp, hv, hgb, hgl⟩ := World.ownsRow.form (own_row' hO (digK_len side t l m 0)) (by omega)
      injection hv with h1 h2 h3
      subst h1
      subst h3
      have hI1 : Hid (CdInv w wr side A c n M cm m.length D d t N cn l.length (.slice (some ⟨g, 0, none⟩) (m.length + 1) d') (digK side t l m 0)) := Lib.hid ⟨hO, q1, q2, hbe⟩
      clear h2 hI hO q1 y1 y2 hz
      go_wp2_with fail
      clear e0 e1 q2 hbe hgl
      go_loopw [29] (fun i wq => ∃ k : Nat, k ≤ l.length ∧ i = .int .i64 k ∧ Hid (∀ j, j < k → ∃ i, i < m.length ∧ sameP (stAt l j) (pcAt m i) = true) ∧ Hid (∀ i, i < k → ∀ j, j < i → sameB (stAt l i) (stAt l j) = false) ∧
        Hid (CdInv w wq side A c n M cm m.length D d t N cn l.length (.slice (some ⟨g, 0, none⟩) (m.length + 1) d') (digK side t l m k))) (fun i _ => l.length - (intOf i).toNat)
      case atStart => exact ⟨0, by omega, rfl, Lib.hid (fun j hj => absurd hj (by omega)), Lib.hid (fun j hj => absurd hj (by omega)), hI1⟩
      case round =>
        clear hI1
        obtain ⟨k, hk, rfl, hP, hT, hI⟩ := hrel
        obtain ⟨hO, q1, q2, hbe⟩ := hI.out
        have y1 := q1.lt
        have y2 := q2.lt
        have hz := hbe.size
        have HO := Lib.hid hO
        clear hI hO
        by_cases hlt : k < l.length
        · have hlt' : (k : Int) < (l.length : Int) := by omega
          obtain ⟨b, off, rfl, hB, hc⟩ := hN.below hbe (by omega)
          obtain ⟨a0, a1, a2⟩ := hc k hlt
          have g1 : (0 : Int) ≤ (k : Int) := by omega
          clear hc
          go_wp2_with fail
          have pm0 := Blk.new wr #[.int .i64 (stAt l k).dx, .int .i64 (stAt l k).dy, .int .i64 (stAt l k).far] 155
          have hbA := below_of wr (.cells #[.int .i64 (stAt l k).dx, .int .i64 (stAt l k).dy, .int .i64 (stAt l k).far] 155)
          have q1 := q1.alloc (.cells #[.int .i64 (stAt l k).dx, .int .i64 (stAt l k).dy, .int .i64 (stAt l k).far] 155)
          have q2 := q2.alloc (.cells #[.int .i64 (stAt l k).dx, .int .i64 (stAt l k).dy, .int .i64 (stAt l k).far] 155)
          have HO := Lib.hid (In.Own.below HO.out hbA)
          have hbe4 := hbe.trans (hbA.mono hz)
          have y4 := pm0.lt
          have hz4 := hbe4.size
          generalize hW4 : wr.alloc _ = W4 at *
          generalize hbm : wr.heap.size = bm at *
          clear hW4 hbm hbA a0 a1 a2 hbe hz
          have y1 := q1.lt
          have y2 := q2.lt
          have HS : Hid (∀ w', Below W4.heap.size W4 w' → (w'.cell? ⟨w.heap.size, 2, none⟩ = some (.slice M m.length cm) ∧ w'.cell? ⟨bm, 0, none⟩ = some (.int .i64 (stAt l k).dx) ∧ w'.cell? ⟨bm, 1, none⟩ = some (.int .i64 (stAt l k).dy) ∧ w'.cell? ⟨bm, 2, none⟩ = some (.int .i64 (stAt l k).far))) := Lib.hid (fun w' hb => by
            obtain ⟨⟨a0, a1, a2⟩, _⟩ := (Blk.below pm0 hb y4).at3
            exact ⟨(Blk.at4 (Blk.below q1 hb y1)).2.2.1, a0, a1, a2⟩)
          have hw : Below W4.heap.size W4 W4.drew := (Below.refl _ _).drew
          go_region_held3 (fun w' => w'.cell? ⟨w.heap.size, 2, none⟩ = some (.slice M m.length cm) ∧ w'.cell? ⟨bm, 0, none⟩ = some (.int .i64 (stAt l k).dx) ∧ w'.cell? ⟨bm, 1, none⟩ = some (.int .i64 (stAt l k).dy) ∧ w'.cell? ⟨bm, 2, none⟩ = some (.int .i64 (stAt l k).far))
            (exact HS.out _ hw)
            (first
              | (go_at_call 182; refine (piece_any _ _ _ _).mono ?_; rintro e w5 ⟨rfl, hb5⟩; have hw := hw.trans (hb5.mono hw.size))
              | (go_at_call 181; refine (index_any M cm m (stAt l k) _ ((hM.below (hbe4.trans (hw.mono hz4))).more (Nat.le_trans hz4 hw.size)) (by omega)).mono ?_; rintro e w6 ⟨z, rfl, hzz, hb6⟩; have hw := hw.trans (hb6.mono hw.size)))
          have hbe6 := hbe4.trans (hw.mono hz4)
          have q1 := Blk.below q1 hw y1
          have q2 := Blk.below q2 hw y2
          have pm6 := Blk.below pm0 hw y4
          have HO6 := Lib.hid (In.Own.below HO.out hw)
          have hz6 := hbe6.size
          have ym := pm6.lt
          clear hw HS hbe4 pm0 y1 y2 y4 hz4
          rcases hzz with ⟨i, hi, rfl, hsp⟩ | ⟨rfl, hno⟩
          · obtain ⟨A', c', hv, hII⟩ := HO6.out.is
            rw [digK_len] at hv
            obtain ⟨rfl, rfl⟩ : some (⟨g, 0, none⟩ : Addr) = A' ∧ d' = c' := by injection hv with h1 h2 h3; exact ⟨h1, h3⟩
            obtain ⟨gx, hgx, hgl, hcc⟩ := hII (by rw [digK_len]; omega)
            obtain rfl : g = gx := by injection hgx with h1; injection h1
            have cg := hcc (i + 1) (by rw [digK_len]; omega)
            rw [digK_succ hi] at cg
            obtain ⟨cur, hcur⟩ := own_block HO6.out (k := g) rfl
            have fg := Blk.free hcur (i + 1)
            have d0 : ((i : Int) == -1) = false := by simp <;> omega
            have hw5 : IntKind.i64.wrap (1 + (i : Int)) = 1 + (i : Int) := IntWalk.i64_in _ (by omega)
            have g2 : (0 : Int) ≤ 1 + (i : Int) := by omega
            have g3 : 1 + (i : Int) < (m.length : Int) + 1 := by omega
            have g4 : (1 + (i : Int)).toNat = i + 1 := by omega
            obtain ⟨⟨a0, a1, a2⟩, _⟩ := pm6.at3
            clear hcc hII hcur hv hgx
            by_cases hat : atK side l (pcAt m i) k = side * side
            · have dd : (atK side l (pcAt m i) k == side * side) = true := by simp [hat]
              have HAT := Lib.hid hat
              have HSP := Lib.hid hsp
              clear hat hsp
              go_wp2_with fail
              have HO7 := Lib.hid (own_set (cap := d') (by rw [digK_len]; exact HO6.out) (i + 1) (stAt l k).far (by rw [digK_len]; omega))
              go_roundw
              case rel =>
                refine ⟨k + 1, by omega, by go_num, Lib.hid (all_succ hP.out ⟨i, hi, HSP.out⟩), Lib.hid (all_succ (P := fun i => ∀ j, j < i → sameB (stAt l i) (stAt l j) = false) hT.out (no_twin HFR.out hlt HSP.out HAT.out)), Lib.hid ?_⟩
                have h := HO7.out
                rw [← digK_next HU.out hi HSP.out, digK_len] at h
                exact ⟨h, Blk.other q1 _ _ (by show w.heap.size ≠ g; omega), Blk.other q2 _ _ (by show w.heap.size + 1 ≠ g; omega), hbe6.setCell (by show w.heap.size ≤ g; omega) _⟩
              case measure => simp [intOf]; omega
            · have dd : (atK side l (pcAt m i) k == side * side) = false := by simp [hat]
              have HQ := Lib.hid (codeQ_twice (s := side) (t := t) (m := m) hlt hsp hat)
              clear hat hsp
              go_wp2_with fail
              go_ret
              exact ⟨by rw [HQ.out]; rfl, hbe6⟩
          · have HQ := Lib.hid (codeQ_none (s := side) (t := t) HU.out hlt hno)
            clear hno
            go_wp2_with fail
            go_ret
            exact ⟨by rw [HQ.out]; rfl, hbe6⟩
        · obtain rfl : k = l.length := by omega
          have HQ := Lib.hid (codeQ_end (s := side) (t := t) HU.out hP.out hT.out)
          obtain ⟨A', c', hv, hII⟩ := HO.out.is
          rw [digK_len] at hv
          obtain ⟨rfl, rfl⟩ : some (⟨g, 0, none⟩ : Addr) = A' ∧ d' = c' := by injection hv with h1 h2 h3; exact ⟨h1, h3⟩
          have HII := Lib.hid hII
          obtain ⟨c0, c1, c2, c3⟩ := Blk.at4 q1
          clear hv hII
          go_wp2_with fail
          refine (numberOf_any side t l m _ _ D d _ HII.out ((hD.below hbe).more hz) HSD.out hm ht HFR.out).mono ?_
          rintro e w9 ⟨rfl, rfl⟩
          go_wp2_with fail
          go_ret
          exact ⟨by rw [HQ.out]; rfl, hbe⟩
end Go.Proofs.YtnjhcjjeehccbaaGreatDoor.Ko

namespace Go.Proofs.YtnjhcjjeehccbaaGreatDoor.Ko
open Go.ChangeShapes Go.WideShapes Go.ChangeAt Go.RowKit Base Sq
set_option linter.unusedVariables false
set_option maxRecDepth 20000

/-- a legal move starts at a man of the player's and ends on the board -/
theorem canB_facts {side : Int} {ks : List Kd} {t : Int} {l : List St} {f q : Int} (hs : side = 2 ∨ side = 3 ∨ side = 4) (hsh : shapeB side ks t l = true) (h : canB side ks t l f q = true) :
    ∃ n : Nat, manV l f = (n : Int) ∧ n < l.length ∧ (stAt l n).far = f ∧ (0 ≤ f ∧ f < side * side) ∧ (0 ≤ q ∧ q < side * side) ∧ freeB ks t l q = true := by
  by_cases hm : manV l f = -1
  · rw [canB_none hm] at h; cases h
  · obtain ⟨h1, h2, h3⟩ := manV_far hm
    obtain ⟨n, hn⟩ : ∃ n : Nat, manV l f = (n : Int) := ⟨(manV l f).toNat, by omega⟩
    rw [hn] at h1 h2
    simp only [Int.toNat_natCast] at h1 h2
    have hmen := (shapeB_facts hsh).2.2.2.2 n h1
    rw [canB_some hn] at h
    simp only [Bool.and_eq_true] at h
    obtain ⟨⟨_, hh⟩, hmy⟩ := h
    have hq := hitsB_in hs hmen.2.2.1 hh
    have hf : freeB ks t l q = true := by
      cases hfb : freeB ks t l q
      · rw [mayB_no hfb] at hmy; cases hmy
      · rfl
    exact ⟨n, hn, h1, h2, by rw [← h2]; exact hmen.2.2.1, hq, hf⟩
end Go.Proofs.YtnjhcjjeehccbaaGreatDoor.Ko

namespace Go.Proofs.YtnjhcjjeehccbaaGreatDoor.Ko
open Go.ChangeShapes Go.WideShapes Go.ChangeAt Go.RowKit Base Sq
set_option linter.unusedVariables false
set_option maxRecDepth 20000

/-- the men behind a move -/
def nextL (l : List St) (m : Mv) : List St := doL l (manV l m.1).toNat m.2
def sumM (f : Mv → Int) (l : List Mv) : Nat → Int
  | 0 => 0
  | k + 1 => sumM f l k + f (mvAt l k)
def linesV (side : Int) (ks : List Kd) : Nat → Int → List St → Int
  | 0, _, _ => 1
  | n + 1, t, l => sumM (fun m => linesV side ks n (1 - t) (nextL l m)) (movesL side ks t l) (movesL side ks t l).length
theorem mvAt_mem {l : List Mv} {k : Nat} (h : k < l.length) : mvAt l k ∈ l := by rw [mvAt_lt h]; exact List.getElem_mem h
/-- what is known of each legal move -/
theorem move_facts {side : Int} {ks : List Kd} {t : Int} {l : List St} (hs : side = 2 ∨ side = 3 ∨ side = 4) (hsh : shapeB side ks t l = true) {m : Mv} (hm : m ∈ movesL side ks t l) :
    ∃ n : Nat, manV l m.1 = (n : Int) ∧ n < l.length ∧ (stAt l n).far = m.1 ∧ (0 ≤ m.2 ∧ m.2 < side * side) ∧ freeB ks t l m.2 = true ∧ nextL l m = doL l n m.2 ∧ shapeB side ks (1 - t) (nextL l m) = true := by
  have hu := shapeB_up hsh
  obtain ⟨hc, _, _⟩ := movesL_can hu hm
  obtain ⟨n, h1, h2, h3, _, h5, h6⟩ := canB_facts hs hsh hc
  have e : nextL l m = doL l n m.2 := by unfold nextL; rw [h1, Int.toNat_natCast]
  refine ⟨n, h1, h2, h3, h5, h6, e, ?_⟩
  rw [e]
  exact doL_shape hsh (by have := (shapeB_facts hsh).1; omega) h2 h5 (freeB_king hu h6)
theorem sumM_bd {f : Mv → Int} {l : List Mv} {B : Int} (hf : ∀ m ∈ l, 0 ≤ f m ∧ f m ≤ B) : ∀ k, k ≤ l.length → 0 ≤ sumM f l k ∧ sumM f l k ≤ k * B := by
  intro k hk
  induction k with
  | zero => simp [sumM]
  | succ k ih =>
    have h1 := ih (by omega)
    have h2 := hf _ (mvAt_mem (show k < l.length by omega))
    simp only [sumM]
    refine ⟨by omega, ?_⟩
    have : ((k + 1 : Nat) : Int) * B = (k : Int) * B + B := by rw [Int.natCast_add, Int.add_mul]; simp
    omega
theorem linesV_bd {side : Int} {ks : List Kd} (hs : side = 2 ∨ side = 3 ∨ side = 4) : ∀ (n : Nat) (t : Int) (l : List St), shapeB side ks t l = true → 0 ≤ linesV side ks n t l ∧ linesV side ks n t l ≤ 64 ^ n := by
  intro n
  induction n with
  | zero => intro t l _; simp [linesV]
  | succ n ih =>
    intro t l hsh
    have h1 := sumM_bd (f := fun m => linesV side ks n (1 - t) (nextL l m)) (l := movesL side ks t l) (B := 64 ^ n) (fun m hm => by
      obtain ⟨_, _, _, _, _, _, _, h⟩ := move_facts hs hsh hm
      exact ih _ _ h) _ (Nat.le_refl _)
    have h2 := movesL_len (ks := ks) (t := t) hs (shapeB_facts hsh).2.1
    simp only [linesV]
    refine ⟨h1.1, Int.le_trans h1.2 ?_⟩
    have hp : (0 : Int) ≤ 64 ^ n := Int.pow_nonneg (by decide)
    have h3 : ((movesL side ks t l).length : Int) * 64 ^ n ≤ 64 * 64 ^ n := Int.mul_le_mul_of_nonneg_right (by omega) hp
    rw [Int.pow_succ, Int.mul_comm (64 ^ n) 64]
    exact h3
/-- sums of what comes behind the first k moves, for depths that are searched -/
theorem lines_part {side : Int} {ks : List Kd} (hs : side = 2 ∨ side = 3 ∨ side = 4) {n : Nat} (hn : n ≤ 3) {t : Int} {l : List St} (hsh : shapeB side ks t l = true) {k : Nat} (hk : k ≤ (movesL side ks t l).length) :
    0 ≤ sumM (fun m => linesV side ks n (1 - t) (nextL l m)) (movesL side ks t l) k ∧ sumM (fun m => linesV side ks n (1 - t) (nextL l m)) (movesL side ks t l) k ≤ 16777216 := by
  have h1 := sumM_bd (f := fun m => linesV side ks n (1 - t) (nextL l m)) (l := movesL side ks t l) (B := 262144) (fun m hm => by
    obtain ⟨_, _, _, _, _, _, _, h⟩ := move_facts hs hsh hm
    have := linesV_bd hs n _ _ h
    refine ⟨this.1, Int.le_trans this.2 ?_⟩
    have h4 : n = 0 ∨ n = 1 ∨ n = 2 ∨ n = 3 := by omega
    rcases h4 with rfl | rfl | rfl | rfl <;> decide) k hk
  have h2 := movesL_len (ks := ks) (t := t) hs (shapeB_facts hsh).2.1
  refine ⟨h1.1, Int.le_trans h1.2 ?_⟩
  have : (k : Int) * 262144 ≤ 64 * 262144 := Int.mul_le_mul_of_nonneg_right (by omega) (by decide)
  omega
end Go.Proofs.YtnjhcjjeehccbaaGreatDoor.Ko

namespace Go.Proofs.YtnjhcjjeehccbaaGreatDoor.Ko
open Go.ChangeShapes Go.WideShapes Go.ChangeAt Go.RowKit Base Sq
set_option linter.unusedVariables false
set_option maxRecDepth 20000
attribute [local irreducible] wpQuiet

set_option maxHeartbeats 2000000 in
theorem moved_any (t : Int) (M : Option Addr) (cm : Nat) (l : List St) (f q : Int) (n : Nat) (w : World) (hM : IsSteps w w.heap.size M l) (ht : 0 ≤ t ∧ t ≤ 1) (hl : l.length ≤ 4) (hn : manV l f = (n : Int)) (hi : n < l.length) (hu : Up l) :
    Calls Tryz.prog 95 #[.agg #[.int .i64 t, .slice M l.length cm], .agg #[.int .i64 f, .int .i64 q]] w fun e w' => DoPost w w' t l n q e := by
  have HT := Lib.hid ht
  have HNN := Lib.hid hn
  have HU := Lib.hid hu
  clear ht hn hu
  go_enter Tryz.func95, Tryz.ntmps95
  go_wp2_with fail
  have hb0 : Below w.heap.size w (((w.alloc (.cells #[.int .i64 t, .slice M l.length cm] 40)).alloc (.cells #[.int .i64 f, .int .i64 q] 59)).alloc (.cells #[.int .i64 0, .slice none 0 0] 40)) := (by repeat (first | exact Below.refl _ _ | assumption | (refine Below.alloc ?_ (by first | omega | (simp; done) | (simp; omega)) _) | (refine Below.setCell ?_ (by first | omega | (simp; done) | (simp; omega)) _) | refine Below.drew ?_))
  have p1 := ((Blk.new w #[.int .i64 t, .slice M l.length cm] 40).alloc (.cells #[.int .i64 f, .int .i64 q] 59)).alloc (.cells #[.int .i64 0, .slice none 0 0] 40)
  have p2 := (Blk.new (w.alloc (.cells #[.int .i64 t, .slice M l.length cm] 40)) #[.int .i64 f, .int .i64 q] 59).alloc (.cells #[.int .i64 0, .slice none 0 0] 40)
  have p3 := Blk.new ((w.alloc (.cells #[.int .i64 t, .slice M l.length cm] 40)).alloc (.cells #[.int .i64 f, .int .i64 q] 59)) #[.int .i64 0, .slice none 0 0] 40
  simp only [World.size_alloc] at p2 p3
  generalize hW3 : ((w.alloc _).alloc _).alloc _ = W3 at *
  clear hW3
  have HP1 := Lib.hid p1
  have HP2 := Lib.hid p2
  have HP3 := Lib.hid p3
  have HBE := Lib.hid hb0
  have z1 := p1.lt
  have z2 := p2.lt
  have z3 := p3.lt
  have hz := hb0.size
  have HM := Lib.hid ((hM.below hb0).more hb0.size)
  clear p1 p2 p3 hb0 hM
  have HS : Hid (∀ w', Blk w' w.heap.size #[.int .i64 t, .slice M l.length cm] 40 → Blk w' (w.heap.size + 1) #[.int .i64 f, .int .i64 q] 59 → (w'.cell? ⟨w.heap.size, 0, none⟩ = some (.int .i64 t) ∧ w'.cell? ⟨w.heap.size, 1, none⟩ = some (.slice M l.length cm) ∧ w'.cell? ⟨w.heap.size + 1, 0, none⟩ = some (.int .i64 f) ∧ w'.cell? ⟨w.heap.size + 1, 1, none⟩ = some (.int .i64 q))) := Lib.hid (fun w' h1 h5 => by
    obtain ⟨⟨a0, a1⟩, _⟩ := h1.at2
    obtain ⟨⟨b0, b1⟩, _⟩ := h5.at2
    exact ⟨a0, a1, b0, b1⟩)
  have hw : Below W3.heap.size W3 W3.drew := (Below.refl _ _).drew
  obtain ⟨⟨c0, c1⟩, ⟨c2, c3⟩⟩ := (HP3.out.below hw z3).at2
  go_region_held3 (fun w' => w'.cell? ⟨w.heap.size, 0, none⟩ = some (.int .i64 t) ∧ w'.cell? ⟨w.heap.size, 1, none⟩ = some (.slice M l.length cm) ∧ w'.cell? ⟨w.heap.size + 1, 0, none⟩ = some (.int .i64 f) ∧ w'.cell? ⟨w.heap.size + 1, 1, none⟩ = some (.int .i64 q))
    (first
      | exact HS.out _ (HP1.out.below hw z1) (HP2.out.below hw z2)
      | exact HS.out _ (((HP1.out.below hw z1).other _ _ (by show w.heap.size ≠ w.heap.size + 1 + 1; omega)).other _ _ (by show w.heap.size ≠ w.heap.size + 1 + 1; omega)) (((HP2.out.below hw z2).other _ _ (by show w.heap.size + 1 ≠ w.heap.size + 1 + 1; omega)).other _ _ (by show w.heap.size + 1 ≠ w.heap.size + 1 + 1; omega)))
    (first
      | (go_at_call 113; refine (manAt_any _ _ _ _ _ ((HM.out.below hw).more hw.size) (by omega)).mono ?_; rw [HNN.out]; rintro e wm ⟨rfl, hbm⟩; have hw := hw.trans (hbm.mono hw.size))
      | (go_at_call 150; refine (after_any _ _ _ _ _ _ _ ((HM.out.below hw).more hw.size) HT.out hl hi HU.out).mono ?_; rintro e wa ⟨Aa, ca, rfl, hna, hba⟩; have hzx := hw.size; have hw := hw.trans (hba.mono hw.size); obtain ⟨⟨c0, c1⟩, ⟨c2, c3⟩⟩ := (HP3.out.below hw z3).at2))
  all_goals
    go_wp2_with fail
    have p3q := HP3.out.below hw z3
    have hbq := HBE.out.trans (hw.mono hz)
    refine bodyPost_ret (v := .agg #[.int .i64 (1 - t), .slice Aa (doL l n q).length ca]) ?_ rfl ⟨Aa, ca, ?_, ?_, ?_⟩
    · obtain ⟨⟨d0, d1⟩, _⟩ := (p3q.set2 (.int .i64 (1 - t)) (.slice Aa (doL l n q).length ca)).at2
      simp [results, Tryz.results95, go_sem, d0, d1]
    · rfl
    · exact fun hn => by
        obtain ⟨gg, cc', rfl, g1, g2, g3, g4, g5⟩ := hna hn
        exact ⟨gg, cc', rfl, by omega, by simpa [size_set] using g2, (g3.other _ _ (by show gg ≠ w.heap.size + 1 + 1; omega)).other _ _ (by show gg ≠ w.heap.size + 1 + 1; omega), g4, g5⟩
    · exact (hbq.setCell (by show w.heap.size ≤ w.heap.size + 1 + 1; omega) _).setCell (by show w.heap.size ≤ w.heap.size + 1 + 1; omega) _
end Go.Proofs.YtnjhcjjeehccbaaGreatDoor.Ko

namespace Go.Proofs.YtnjhcjjeehccbaaGreatDoor.Ko
open Go.ChangeShapes Go.WideShapes Go.ChangeAt Go.RowKit Base Sq
set_option linter.unusedVariables false
set_option maxRecDepth 20000

/-- no two men of one kind and owner -/
def NT (l : List St) : Prop := l.Pairwise fun a b => sameB a b = false
theorem sameB_comm (a b : St) : sameB a b = sameB b a := by
  unfold sameB
  rw [Bool.eq_iff_iff]
  simp only [Bool.and_eq_true, decide_eq_true_eq]
  exact ⟨fun h => ⟨h.1.symm, h.2.symm⟩, fun h => ⟨h.1.symm, h.2.symm⟩⟩
theorem NT.perm {l l' : List St} (h : NT l) (hp : l.Perm l') : NT l' :=
  (List.Perm.pairwise_iff (fun {a b} (h : sameB a b = false) => by rw [sameB_comm]; exact h) hp).1 h
theorem stAt_el {l : List St} {i : Nat} (h : i < l.length) : stAt l i = l[i] := by simp [stAt, List.getD_eq_getElem?_getD, h]
theorem NT.twice {l : List St} (h : NT l) : twiceB l = false := twiceB_no fun i hi k hk => by
  rw [stAt_el hi, stAt_el (show k < l.length by omega), sameB_comm]
  exact List.pairwise_iff_getElem.1 h k i (by omega) hi hk
theorem NT.at {l : List St} (h : NT l) {i k : Nat} (hi : i < l.length) (hk : k < l.length) (hne : i ≠ k) : sameB (stAt l i) (stAt l k) = false := by
  rw [stAt_el hi, stAt_el hk]
  rcases Nat.lt_or_ge i k with h1 | h1
  · exact List.pairwise_iff_getElem.1 h i k hi hk h1
  · rw [sameB_comm]; exact List.pairwise_iff_getElem.1 h k i hk hi (by omega)
theorem resL_nt {l : List St} (h : NT l) (i : Nat) (q : Int) : ∀ k, k ≤ l.length → NT (resL l i q k) := by
  intro k
  induction k with
  | zero => intro _; exact List.Pairwise.nil
  | succ k ih =>
    intro hk
    simp only [resL]
    split
    · rw [List.append_nil]; exact ih (by omega)
    · refine List.pairwise_append.2 ⟨ih (by omega), List.pairwise_singleton _ _, fun a ha b hb => ?_⟩
      obtain ⟨j, hj, _, _, rfl⟩ := mem_resL.1 ha
      rw [List.mem_singleton.1 hb]
      exact h.at (by omega) (by omega) (by omega)
theorem doL_nt {l : List St} (h : NT l) {i : Nat} (hi : i < l.length) (q : Int) : NT (doL l i q) := by
  unfold doL
  refine NT.perm (List.pairwise_cons.2 ⟨fun a ha => ?_, resL_nt h i q l.length (Nat.le_refl _)⟩) (putL_perm _ _).symm
  obtain ⟨j, hj, hne, _, rfl⟩ := mem_resL.1 ha
  exact h.at hi hj (fun e => hne e.symm)
theorem putC_nt {s code : Int} {m : List Pc} (hU : Uniq m) : ∀ k, k ≤ m.length → NT (putC s code m k) ∧ ∀ a ∈ putC s code m k, ∃ j, j < k ∧ sameP a (pcAt m (m.length - 1 - j)) = true := by
  intro k
  induction k with
  | zero => intro _; exact ⟨List.Pairwise.nil, fun a ha => by simp [putC] at ha⟩
  | succ k ih =>
    intro hk
    obtain ⟨h1, h2⟩ := ih (by omega)
    simp only [putC]
    split
    · exact ⟨h1, fun a ha => by obtain ⟨j, hj, h⟩ := h2 a ha; exact ⟨j, by omega, h⟩⟩
    · have hs : ∀ f : Int, sameP ⟨(pcAt m (m.length - 1 - k)).kd, (pcAt m (m.length - 1 - k)).ow, f⟩ (pcAt m (m.length - 1 - k)) = true := fun f => by unfold sameP; simp
      refine ⟨NT.perm (List.pairwise_cons.2 ⟨fun a ha => ?_, h1⟩) (putL_perm _ _).symm, fun a ha => ?_⟩
      · obtain ⟨j, hj, h⟩ := h2 a ha
        rw [Bool.eq_false_iff]
        intro hc
        have := hU a _ _ (by omega) (by omega) h (sameP_of hc (hs _))
        omega
      · rcases mem_putL.1 ha with rfl | ha
        · exact ⟨k, by omega, hs _⟩
        · obtain ⟨j, hj, h⟩ := h2 a ha; exact ⟨j, by omega, h⟩
theorem posCL_nt {s : Int} {ks : List Kd} {m : List Pc} {code : Int} (hU : Uniq m) : NT (posCL s ks m code) := by
  unfold posCL
  split
  · exact (putC_nt hU _ (Nat.le_refl _)).1
  · exact List.Pairwise.nil
/-- the code behind a move; those behind all -/
def kidV (side t : Int) (m : List Pc) (l : List St) (mv : Mv) : Int := codeV side (1 - t) (nextL l mv) m
def kidL (side : Int) (ks : List Kd) (m : List Pc) (t : Int) (l : List St) : List Int := (movesL side ks t l).map (kidV side t m l)
theorem kidL_len (side : Int) (ks : List Kd) (m : List Pc) (t : Int) (l : List St) : (kidL side ks m t l).length = (movesL side ks t l).length := by simp [kidL]
theorem kid_snoc (f : Mv → Int) {ms : List Mv} {j : Nat} (h : j < ms.length) : (ms.take (j + 1)).map f = (ms.take j).map f ++ [f (mvAt ms j)] := by
  rw [List.take_succ_eq_append_getElem h, List.map_append, mvAt_lt h]; rfl
/-- what each kid's code wants: program and model count the same -/
theorem kid_facts {side : Int} {ks : List Kd} {m : List Pc} {t : Int} {l : List St} (hs : side = 2 ∨ side = 3 ∨ side = 4) (hsh : shapeB side ks t l = true) (hNT : NT l) {mv : Mv} (hm : mv ∈ movesL side ks t l) :
    ∃ n : Nat, manV l mv.1 = (n : Int) ∧ n < l.length ∧ (stAt l n).far = mv.1 ∧ nextL l mv = doL l n mv.2 ∧ shapeB side ks (1 - t) (doL l n mv.2) = true ∧ codeQ side (1 - t) (doL l n mv.2) m = kidV side t m l mv := by
  obtain ⟨n, h1, h2, h3, _, _, h6, h7⟩ := move_facts hs hsh hm
  rw [h6] at h7
  refine ⟨n, h1, h2, h3, h6, h7, ?_⟩
  unfold codeQ kidV
  rw [(doL_nt hNT h2 mv.2).twice, h6]; simp
/-- the value of CodeKids -/
def kidsL (side : Int) (ks : List Kd) (m : List Pc) (code : Int) : List Int :=
  if matV side ks m = true ∧ posCB side ks m code = true then kidL side ks m (posCT side ks m code) (posCL side ks m code) else []
end Go.Proofs.YtnjhcjjeehccbaaGreatDoor.Ko

namespace Go.Proofs.YtnjhcjjeehccbaaGreatDoor.Ko
open Go.ChangeShapes Go.WideShapes Go.ChangeAt Go.RowKit Base Sq In
set_option linter.unusedVariables false
set_option maxRecDepth 20000
attribute [local irreducible] wpQuiet

/-- moves that lie elsewhere are as they were behind an append to numbers -/
theorem MvA.grown {lo hi : Nat} {w w' : World} {A : Option Addr} {l : List Mv} (h : MvA lo hi w A l) {base : Nat} {v : Value} {L : List Int} (hO : In.Own w base v L) (hg : w.grownBy w' v.ownBlock) : MvA lo hi w' A l := fun hn => by
  obtain ⟨b, cs, rfl, h1, h2, h3, h4, h5⟩ := h hn
  exact ⟨b, cs, rfl, h1, h2, (hg.block b h3.lt (fun h => own_ne hO h3 (by decide) h.symm)).trans h3, h4, h5⟩
theorem MvA.cells {lo hi : Nat} {w : World} {A : Option Addr} {l : List Mv} (h : MvA lo hi w A l) {k : Nat} (hk : k < l.length) : ∃ b, A = some ⟨b, 0, none⟩ ∧ b < w.heap.size ∧ b < hi ∧ ∃ cs, Blk w b cs 59 ∧ w.cell? ⟨b, k * 2, none⟩ = some (.int .i64 (mvAt l k).1) ∧ w.cell? ⟨b, k * 2 + 1, none⟩ = some (.int .i64 (mvAt l k).2) := by
  obtain ⟨b, cs, rfl, h1, h2, h3, h4, h5⟩ := h (by omega)
  exact ⟨b, rfl, h3.lt, h2, cs, h3, (h3.cell _).trans (h5 k hk).1, (h3.cell _).trans (h5 k hk).2⟩
/-- what holds at each round's head -/
def KkInv (w wr : World) (side : Int) (A : Option Addr) (c n : Nat) (t : Int) (N : Option Addr) (cn ln : Nat) (Am : Option Addr) (hi : Nat) (ms : List Mv) (v : Value) (L : List Int) : Prop :=
  In.Own wr (w.heap.size + 2) v L ∧ Blk wr w.heap.size #[.int .i64 side, .slice A n c] 36 ∧ Blk wr (w.heap.size + 1) #[.int .i64 t, .slice N ln cn] 40 ∧ MvA (w.heap.size + 2) hi wr Am ms ∧ Below w.heap.size w wr ∧ hi ≤ wr.heap.size

end Go.Proofs.YtnjhcjjeehccbaaGreatDoor.Ko

namespace Go.Proofs.YtnjhcjjeehccbaaGreatDoor.Ko
open Go.ChangeShapes Go.WideShapes Go.ChangeAt Go.RowKit Base Sq In
set_option linter.unusedVariables false
set_option maxRecDepth 20000
attribute [local irreducible] wpQuiet

theorem ownI_but {w w' : World} {base b : Nat} {v : Value} {l : List Int} (h : In.Own w base v l) (hb : But b w w') (h1 : b < base) : In.Own w' base v l := by
  refine ⟨h.1, ?_⟩
  rcases h.2 with h0 | ⟨g, cap, cur, hv, hB, hg, rest⟩
  · exact .inl h0
  · exact .inr ⟨g, cap, cur, hv, hB, (hb.block g (lt_of_block hg) (by omega)).trans hg, rest⟩
theorem ownI_nil (w : World) (base : Nat) : In.Own w base (.slice none 0 0) [] := ⟨rfl, .inl ⟨rfl, rfl⟩⟩
/-- what holds at each round's head -/
def KpInv (w wr : World) (b : Nat) (side : Int) (A : Option Addr) (c : Nat) (ks : List Kd) (M : Option Addr) (cm n : Nat) (D : Option Addr) (d : Nat) (t : Int) (N : Option Addr) (cn : Nat) (l : List St) (ms : List Mv) (j : Nat) (v : Value) (L : List Int) (g : Nat) : Prop :=
  In.Own wr (b + 1) v L ∧ Blk wr g #[.int .i64 (mvAt ms j).1, .int .i64 (mvAt ms j).2] 59 ∧ b < g ∧ MoverAt wr b side A c ks t N cn l (if j < ms.length then j + 1 else j) ∧
    Blk wr w.heap.size #[.int .i64 side, .slice A ks.length c, .slice M n cm, .slice D (n + 1) d] 132 ∧ Blk wr (w.heap.size + 1) #[.int .i64 t, .slice N l.length cn] 40 ∧ Below w.heap.size w wr

end Go.Proofs.YtnjhcjjeehccbaaGreatDoor.Ko
