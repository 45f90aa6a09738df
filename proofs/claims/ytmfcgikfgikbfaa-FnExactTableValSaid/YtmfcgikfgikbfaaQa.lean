/- Codes of positions: values; l7Code of the model. -/
import Derived.Test.YtmfcgikfgikbfaaPz
namespace Go.Proofs.Ytmfcgikfgikbfaa.Ko
open Go.ChangeShapes Go.WideShapes Go.ChangeAt Go.RowKit Base Sq
set_option linter.unusedVariables false
set_option maxRecDepth 20000
attribute [local irreducible] wpQuiet

/-- a man is of this piece -/
def sameP (a : St) (p : Pc) : Bool := decide (a.dx = p.kd) && decide (a.dy = p.ow)
/-- where the last of the first k men of this piece is, or how many squares there are -/
def atK (s : Int) (l : List St) (p : Pc) : Nat → Int
  | 0 => s * s
  | k + 1 => if sameP (stAt l k) p = true then (stAt l k).far else atK s l p k
/-- how many of the first k men are of this piece -/
def fndK (l : List St) (p : Pc) : Nat → Int
  | 0 => 0
  | k + 1 => fndK l p k + if sameP (stAt l k) p = true then 1 else 0
def codK (s t : Int) (l : List St) (m : List Pc) : Nat → Int
  | 0 => t
  | i + 1 => codK s t l m i * (s * s + 1) + atK s l (pcAt m i) l.length
def fndS (l : List St) (m : List Pc) : Nat → Int
  | 0 => 0
  | i + 1 => fndS l m i + fndK l (pcAt m i) l.length
def codeV (s t : Int) (l : List St) (m : List Pc) : Int := if fndS l m m.length = l.length then codK s t l m m.length else -1
theorem atK_hit {s : Int} {l : List St} {p : Pc} {k : Nat} (h : sameP (stAt l k) p = true) : atK s l p (k + 1) = (stAt l k).far := by simp [atK, h]
theorem atK_no {s : Int} {l : List St} {p : Pc} {k : Nat} (h : sameP (stAt l k) p = false) : atK s l p (k + 1) = atK s l p k := by simp [atK, h]
theorem fndK_hit {l : List St} {p : Pc} {k : Nat} (h : sameP (stAt l k) p = true) : fndK l p (k + 1) = fndK l p k + 1 := by simp [fndK, h]
theorem fndK_no {l : List St} {p : Pc} {k : Nat} (h : sameP (stAt l k) p = false) : fndK l p (k + 1) = fndK l p k := by simp [fndK, h]
theorem fndK_bd (l : List St) (p : Pc) (k : Nat) : 0 ≤ fndK l p k ∧ fndK l p k ≤ k := by
  induction k with
  | zero => exact ⟨Int.le_refl _, Int.le_refl _⟩
  | succ k ih => simp only [fndK]; split <;> omega
theorem fndS_bd {l : List St} (m : List Pc) (hl : l.length ≤ 4) (i : Nat) : 0 ≤ fndS l m i ∧ fndS l m i ≤ 4 * i := by
  induction i with
  | zero => exact ⟨Int.le_refl _, Int.le_refl _⟩
  | succ i ih => have := fndK_bd l (pcAt m i) l.length; simp only [fndS]; omega
theorem atK_bd {s : Int} {l : List St} (p : Pc) (hs : s = 2 ∨ s = 3 ∨ s = 4) (hf : ∀ i, i < l.length → 0 ≤ (stAt l i).far ∧ (stAt l i).far < s * s) {k : Nat} (hk : k ≤ l.length) : 0 ≤ atK s l p k ∧ atK s l p k ≤ s * s := by
  induction k with
  | zero => simp only [atK]; rcases hs with rfl | rfl | rfl <;> omega
  | succ k ih =>
    have h1 := hf k (by omega)
    have h2 := ih (by omega)
    simp only [atK]; split <;> omega
theorem codK_bd {s t : Int} {l : List St} (m : List Pc) (hs : s = 2 ∨ s = 3 ∨ s = 4) (ht : 0 ≤ t ∧ t ≤ 1) (hf : ∀ i, i < l.length → 0 ≤ (stAt l i).far ∧ (stAt l i).far < s * s) (i : Nat) : 0 ≤ codK s t l m i ∧ codK s t l m i + 1 ≤ numV s i := by
  induction i with
  | zero => simp only [codK, numV]; omega
  | succ i ih =>
    have h1 := atK_bd (pcAt m i) hs hf (Nat.le_refl _)
    simp only [codK, numV]
    generalize codK s t l m i = x at *
    generalize atK s l (pcAt m i) l.length = y at *
    generalize numV s i = z at *
    rcases hs with rfl | rfl | rfl <;> omega

set_option maxHeartbeats 8000000 in
theorem l7Code_any (side : Int) (A : Option Addr) (c n : Nat) (M : Option Addr) (cm : Nat) (m : List Pc) (t : Int) (N : Option Addr) (cn : Nat) (l : List St) (w : World) (hM : IsPcs w w.heap.size M m) (hN : IsSteps w w.heap.size N l)
    (hs : side = 2 ∨ side = 3 ∨ side = 4) (hm : m.length ≤ 4) (hl : l.length ≤ 4) (ht : 0 ≤ t ∧ t ≤ 1) (hf : ∀ i, i < l.length → 0 ≤ (stAt l i).far ∧ (stAt l i).far < side * side) :
    Calls Try.prog 50 #[.agg #[.int .i64 side, .slice A n c], .slice M m.length cm, .agg #[.int .i64 t, .slice N l.length cn]] w fun e w' => e = .returned (.int .i64 (codeV side t l m)) ∧ Below w.heap.size w w' := by
  have HF := Lib.hid (fun i => fndS_bd (l := l) m hl i)
  have HC := Lib.hid (fun i => codK_bd (s := side) (t := t) (l := l) m hs ht hf i)
  have HNV := Lib.hid (fun k => numV_bd hs (k := k))
  have HA := Lib.hid (fun p => atK_bd (s := side) (l := l) p hs hf (Nat.le_refl _))
  have hw1 : IntKind.i64.wrap (side * side) = side * side := IntWalk.i64_in _ (by rcases hs with rfl | rfl | rfl <;> decide)
  have hw2 : IntKind.i64.wrap (side * side + 1) = side * side + 1 := IntWalk.i64_in _ (by rcases hs with rfl | rfl | rfl <;> decide)
  have hss : 0 ≤ side * side ∧ side * side ≤ 16 := by rcases hs with rfl | rfl | rfl <;> omega
  have HSS := Lib.hid hss
  clear hs hf hss
  go_enter Try.func50, Try.ntmps50
  go_wp2_with fail
  have p1 := (Blk.new w #[.int .i64 side, .slice A n c] 36).alloc (.cells #[.int .i64 t, .slice N l.length cn] 43)
  have p2 := Blk.new (w.alloc (.cells #[.int .i64 side, .slice A n c] 36)) #[.int .i64 t, .slice N l.length cn] 43
  simp only [World.size_alloc] at p2
  go_loopw [7, 8, 9] (fun cv fv i wr => ∃ k : Nat, k ≤ m.length ∧ i = .int .i64 k ∧ cv = .int .i64 (codK side t l m k) ∧ fv = .int .i64 (fndS l m k) ∧ Blk wr w.heap.size #[.int .i64 side, .slice A n c] 36 ∧
    Blk wr (w.heap.size + 1) #[.int .i64 t, .slice N l.length cn] 43 ∧ Below w.heap.size w wr) (fun _ _ i _ => m.length - (intOf i).toNat)
  case atStart => exact ⟨0, by omega, rfl, rfl, rfl, p1, p2, (by repeat (first | exact Below.refl _ _ | assumption | (refine Below.alloc ?_ (by first | omega | (simp; done) | (simp; omega)) _) | (refine Below.setCell ?_ (by first | omega | (simp; done) | (simp; omega)) _) | refine Below.drew ?_))⟩
  case round =>
    clear p1 p2
    obtain ⟨i, hi, rfl, rfl, rfl, p1, p2, hbe⟩ := hrel
    obtain ⟨⟨r0, r1⟩, _⟩ := p1.at2
    obtain ⟨⟨q0, q1⟩, _⟩ := p2.at2
    obtain ⟨f1, f2⟩ := HF.out i
    by_cases hlt : i < m.length
    · have hlt' : (i : Int) < (m.length : Int) := by omega
      go_wp2_with fail
      go_loopw [8, 10, 11] (fun fv a j wq => ∃ k : Nat, k ≤ l.length ∧ j = .int .i64 k ∧ a = .int .i64 (atK side l (pcAt m i) k) ∧ fv = .int .i64 (fndS l m i + fndK l (pcAt m i) k) ∧ Blk wq w.heap.size #[.int .i64 side, .slice A n c] 36 ∧
        Blk wq (w.heap.size + 1) #[.int .i64 t, .slice N l.length cn] 43 ∧ Below w.heap.size w wq) (fun _ _ j _ => l.length - (intOf j).toNat)
      case atStart => exact ⟨0, by omega, rfl, rfl, by simp [fndK], p1, p2, hbe⟩
      case round =>
        clear p1 p2 hbe r0 r1 q0 q1
        obtain ⟨k, hk, rfl, rfl, rfl, p1, p2, hbe⟩ := hrel
        obtain ⟨⟨r0, r1⟩, _⟩ := p1.at2
        obtain ⟨⟨q0, q1⟩, _⟩ := p2.at2
        obtain ⟨f3, f4⟩ := fndK_bd l (pcAt m i) k
        by_cases hk2 : k < l.length
        · obtain ⟨b, off, rfl, hB, hc⟩ := hM.below hbe (by omega)
          obtain ⟨a0, a1⟩ := hc i hlt
          obtain ⟨b', off', rfl, hB', hc'⟩ := hN.below hbe (by omega)
          obtain ⟨b0, b1, b2⟩ := hc' k hk2
          have g1 : (0 : Int) ≤ (i : Int) := by omega
          have g2 : (0 : Int) ≤ (k : Int) := by omega
          have g3 : (k : Int) < (l.length : Int) := by omega
          have hw3 : IntKind.i64.wrap (fndS l m i + fndK l (pcAt m i) k + 1) = fndS l m i + fndK l (pcAt m i) k + 1 := IntWalk.i64_in _ (by omega)
          clear hc hc'
          by_cases hx : (stAt l k).dx = (pcAt m i).kd
          · have d1 : ((stAt l k).dx == (pcAt m i).kd) = true := by simp [hx]
            by_cases hy : (stAt l k).dy = (pcAt m i).ow
            · have d2 : ((stAt l k).dy == (pcAt m i).ow) = true := by simp [hy]
              have HS := Lib.hid (show sameP (stAt l k) (pcAt m i) = true by unfold sameP; rw [decide_eq_true hx, decide_eq_true hy]; rfl)
              clear hx hy
              go_wp2_with fail
              go_quiet (fail)
              go_wp2_with fail
              go_roundw
              case rel => exact ⟨k + 1, by omega, by go_num, by rw [atK_hit HS.out], by rw [fndK_hit HS.out, Int.add_assoc], p1, p2, below_drewN hbe _⟩
              case measure => simp [intOf]; omega
            · have d2 : ((stAt l k).dy == (pcAt m i).ow) = false := by simp [hy]
              have HS := Lib.hid (show sameP (stAt l k) (pcAt m i) = false by unfold sameP; rw [decide_eq_false hy]; simp)
              clear hx hy
              go_wp2_with fail
              go_quiet (fail)
              go_wp2_with fail
              go_roundw
              case rel => exact ⟨k + 1, by omega, by go_num, by rw [atK_no HS.out], by rw [fndK_no HS.out], p1, p2, below_drewN hbe _⟩
              case measure => simp [intOf]; omega
          · have d1 : ((stAt l k).dx == (pcAt m i).kd) = false := by simp [hx]
            have HS := Lib.hid (show sameP (stAt l k) (pcAt m i) = false by unfold sameP; rw [decide_eq_false hx]; rfl)
            clear hx
            go_wp2_with fail
            go_quiet (fail)
            go_wp2_with fail
            go_roundw
            case rel => exact ⟨k + 1, by omega, by go_num, by rw [atK_no HS.out], by rw [fndK_no HS.out], p1, p2, below_drewN hbe _⟩
            case measure => simp [intOf]; omega
        · obtain rfl : k = l.length := by omega
          have hc1 := HC.out (i + 1)
          have hn1 := HNV.out (i + 1) (by omega)
          have ha1 := HA.out (pcAt m i)
          obtain ⟨s0, s1⟩ := HSS.out
          have hn0 := HC.out i
          have hn2 := HNV.out i (by omega)
          have e1 : codK side t l m (i + 1) = codK side t l m i * (side * side + 1) + atK side l (pcAt m i) l.length := rfl
          have hw4 : IntKind.i64.wrap (codK side t l m i * (side * side + 1)) = codK side t l m i * (side * side + 1) := IntWalk.i64_in _ (by omega)
          have hw5 : IntKind.i64.wrap (codK side t l m i * (side * side + 1) + atK side l (pcAt m i) l.length) = codK side t l m i * (side * side + 1) + atK side l (pcAt m i) l.length := IntWalk.i64_in _ (by omega)
          have HE := Lib.hid e1
          clear hc1 hn1 ha1 s0 s1 hn0 hn2 e1
          go_wp2_with fail
          go_roundw
          case rel => exact ⟨i + 1, by omega, by go_num, by rw [HE.out], rfl, p1, p2, hbe⟩
          case measure => simp [intOf]; omega
    · obtain rfl : i = m.length := by omega
      by_cases hfd : fndS l m m.length = l.length
      · have hv : codeV side t l m = codK side t l m m.length := if_pos hfd
        have HV := Lib.hid hv
        have hd : (fndS l m m.length == (l.length : Int)) = true := by simp [hfd]
        go_wp2_with fail
        go_ret
        exact ⟨by rw [HV.out]; rfl, hbe⟩
      · have hv : codeV side t l m = -1 := if_neg hfd
        have HV := Lib.hid hv
        have hd : (fndS l m m.length == (l.length : Int)) = false := by simp [hfd]
        go_wp2_with fail
        go_ret
        exact ⟨by rw [HV.out]; rfl, hbe⟩
end Go.Proofs.Ytmfcgikfgikbfaa.Ko
