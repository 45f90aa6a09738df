/- Codes of positions: slices.Index at Piece, Man.piece, numberOf of the program. -/
import Derived.Test.YtmfcgikfgikbfaaQt
namespace Go.Proofs.Ytmfcgikfgikbfaa.Ko
open Go.ChangeShapes Go.WideShapes Go.ChangeAt Go.RowKit Base Sq
set_option linter.unusedVariables false
set_option maxRecDepth 20000
attribute [local irreducible] wpQuiet

/-- the first place of a man's piece in a material, or -1 -/
def IdxAt (m : List Pc) (a : St) (z : Int) : Prop := (∃ i : Nat, i < m.length ∧ z = i ∧ sameP a (pcAt m i) = true) ∨ (z = -1 ∧ ∀ j, j < m.length → sameP a (pcAt m j) = false)

set_option maxHeartbeats 4000000 in
theorem index_any (M : Option Addr) (cm : Nat) (m : List Pc) (a : St) (w : World) (hM : IsPcs w w.heap.size M m) (hm : m.length ≤ 1048576) :
    Calls Try.prog 75 #[.slice M m.length cm, .agg #[.int .i64 a.dx, .int .i64 a.dy]] w fun e w' => ∃ z, e = .returned (.int .i64 z) ∧ IdxAt m a z ∧ Below w.heap.size w w' := by
  go_enter Try.func75, Try.ntmps75
  go_wp2_with fail
  have p1 := Blk.new w #[.int .i64 a.dx, .int .i64 a.dy] 69
  have heq := eqlPiece
  have hgd := eqGuardPiece
  go_loopw [8] (fun i wr => ∃ k : Nat, k ≤ m.length ∧ i = .int .i64 k ∧ Hid (∀ j, j < k → sameP a (pcAt m j) = false) ∧ Blk wr w.heap.size #[.int .i64 a.dx, .int .i64 a.dy] 69 ∧ Below w.heap.size w wr) (fun i _ => m.length - (intOf i).toNat)
  case atStart => exact ⟨0, by omega, rfl, Lib.hid (fun j hj => absurd hj (by omega)), p1, (by repeat (first | exact Below.refl _ _ | assumption | (refine Below.alloc ?_ (by first | omega | (simp; done) | (simp; omega)) _) | (refine Below.setCell ?_ (by first | omega | (simp; done) | (simp; omega)) _) | refine Below.drew ?_))⟩
  case round =>
    clear p1
    obtain ⟨k, hk, rfl, hg, p1, hbe⟩ := hrel
    obtain ⟨⟨r0, r1⟩, _⟩ := p1.at2
    by_cases hlt : k < m.length
    · have hlt' : (k : Int) < (m.length : Int) := by omega
      have g1 : (0 : Int) ≤ (k : Int) := by omega
      obtain ⟨b, off, rfl, hB, hc⟩ := hM.below hbe (by omega)
      obtain ⟨a0, a1⟩ := hc k hlt
      clear hc
      have hsp : sameP a (pcAt m k) = (a.dx == (pcAt m k).kd && a.dy == (pcAt m k).ow) := by unfold sameP; congr 1
      cases hs : sameP a (pcAt m k)
      · have HS := Lib.hid hs
        have d1 : (a.dx == (pcAt m k).kd && a.dy == (pcAt m k).ow) = false := by rw [← hsp, hs]
        clear hs hsp
        go_wp2_with fail
        go_quiet (fail)
        go_wp2_with fail
        go_roundw
        case rel => exact ⟨k + 1, by omega, by go_num, Lib.hid (all_succ hg.out HS.out), p1, below_drewN hbe _⟩
        case measure => simp [intOf]; omega
      · have HS := Lib.hid hs
        have d1 : (a.dx == (pcAt m k).kd && a.dy == (pcAt m k).ow) = true := by rw [← hsp, hs]
        clear hs hsp
        go_wp2_with fail
        go_quiet (fail)
        go_wp2_with fail
        go_ret
        exact ⟨_, rfl, .inl ⟨k, hlt, rfl, HS.out⟩, below_drewN hbe _⟩
    · obtain rfl : k = m.length := by omega
      go_wp2_with fail
      go_ret
      exact ⟨_, rfl, .inr ⟨rfl, hg.out⟩, hbe⟩

theorem piece_any (x y z : Int) (w : World) :
    Calls Try.prog 76 #[.agg #[.int .i64 x, .int .i64 y, .int .i64 z]] w fun e w' => e = .returned (.agg #[.int .i64 x, .int .i64 y]) ∧ Below w.heap.size w w' := by
  go_enter Try.func76, Try.ntmps76
  go_wp2_with fail
  refine bodyPost_ret (v := .agg #[.int .i64 x, .int .i64 y]) (by simp [results, Try.results76, go_sem]) rfl ⟨rfl, ?_⟩
  exact (by repeat (first | exact Below.refl _ _ | assumption | (refine Below.alloc ?_ (by first | omega | (simp; done) | (simp; omega)) _) | (refine Below.setCell ?_ (by first | omega | (simp; done) | (simp; omega)) _) | refine Below.drew ?_))

/-- the digits of a position's code -/
def digK (s t : Int) (l : List St) (m : List Pc) (k : Nat) : List Int := t :: (List.range m.length).map fun i => atK s l (pcAt m i) k
theorem digK_len (s t : Int) (l : List St) (m : List Pc) (k : Nat) : (digK s t l m k).length = m.length + 1 := by simp [digK]
theorem digK_zero (s t : Int) (l : List St) (m : List Pc) (k : Nat) : In.iAt (digK s t l m k) 0 = t := rfl
theorem digK_succ {s t : Int} {l : List St} {m : List Pc} {k i : Nat} (h : i < m.length) : In.iAt (digK s t l m k) (i + 1) = atK s l (pcAt m i) k := by
  unfold In.iAt digK; simp [List.getD_eq_getElem?_getD, h]
/-- the number of the first i digits -/
def nrV (s t : Int) (l : List St) (m : List Pc) : Nat → Int
  | 0 => 0
  | i + 1 => codK s t l m i

set_option maxHeartbeats 4000000 in
theorem numberOf_any (side t : Int) (l : List St) (m : List Pc) (A : Option Addr) (c : Nat) (D : Option Addr) (d : Nat) (w : World) (hA : In.IsInts w w.heap.size A (digK side t l m l.length)) (hD : In.IsInts w w.heap.size D (basesV side m.length))
    (hs : side = 2 ∨ side = 3 ∨ side = 4) (hm : m.length ≤ 4) (ht : 0 ≤ t ∧ t ≤ 1) (hf : ∀ i, i < l.length → 0 ≤ (stAt l i).far ∧ (stAt l i).far < side * side) :
    Calls Try.prog 77 #[.slice A (m.length + 1) c, .slice D (m.length + 1) d] w fun e w' => e = .returned (.int .i64 (codK side t l m m.length)) ∧ w = w' := by
  have HC := Lib.hid (fun i => codK_bd (s := side) (t := t) (l := l) m hs ht hf i)
  have HNV := Lib.hid (fun k => numV_bd hs (k := k))
  have HA := Lib.hid (fun p => atK_bd (s := side) (l := l) p hs hf (Nat.le_refl _))
  have hss : 0 ≤ side * side ∧ side * side ≤ 16 := by rcases hs with rfl | rfl | rfl <;> omega
  have HSS := Lib.hid hss
  clear hs hf hss
  obtain ⟨b, rfl, hB, hc⟩ := hA (by rw [digK_len]; omega)
  obtain ⟨b', rfl, hB', hc'⟩ := hD (by rw [bases_len]; omega)
  have HCA := Lib.hid hc
  have HCD := Lib.hid hc'
  clear hc hc' hA hD
  go_enter Try.func77, Try.ntmps77
  go_wp2_with fail
  go_loopw [5, 10] (fun v i wr => ∃ k : Nat, k ≤ m.length + 1 ∧ i = .int .i64 k ∧ v = .int .i64 (nrV side t l m k) ∧ wr = w) (fun v i _ => m.length + 1 - (intOf i).toNat)
  case atStart => exact ⟨0, by omega, rfl, rfl, rfl⟩
  case round =>
    obtain ⟨k, hk, rfl, rfl, rfl⟩ := hrel
    by_cases hlt : k < m.length + 1
    · have a0 := HCA.out k (by rw [digK_len]; exact hlt)
      have b0 := HCD.out k (by rw [bases_len]; exact hlt)
      have hlt' : (k : Int) < ((m.length + 1 : Nat) : Int) := by omega
      have hlt'' : (k : Int) < (m.length : Int) + 1 := by omega
      have g1 : (0 : Int) ≤ (k : Int) := by omega
      rcases k with _ | k
      · rw [digK_zero] at a0
        rw [bases_zero] at b0
        have hw1 : IntKind.i64.wrap (0 * 2) = 0 := by decide
        have hw2 : IntKind.i64.wrap (0 + t) = t := by rw [Int.zero_add]; exact IntWalk.i64_in _ (by omega)
        have hw3 : IntKind.i64.wrap t = t := IntWalk.i64_in _ (by omega)
        have hn : nrV side t l m 0 = 0 := rfl
        rw [hn]
        clear hn
        go_wp2_with fail
        go_roundw
        case rel => exact ⟨1, by omega, by go_num, rfl, by trivial⟩
        case measure => (simp [intOf]; try omega)
      · rw [digK_succ (by omega)] at a0
        rw [bases_succ (by omega)] at b0
        have hn : nrV side t l m (k + 1) = codK side t l m k := rfl
        rw [hn]
        have hc1 := HC.out (k + 1)
        have hn1 := HNV.out (k + 1) (by omega)
        have ha1 := HA.out (pcAt m k)
        obtain ⟨s0, s1⟩ := HSS.out
        have hn0 := HC.out k
        have e1 : codK side t l m (k + 1) = codK side t l m k * (side * side + 1) + atK side l (pcAt m k) l.length := rfl
        have hw4 : IntKind.i64.wrap (codK side t l m k * (side * side + 1)) = codK side t l m k * (side * side + 1) := IntWalk.i64_in _ (by omega)
        have hw5 : IntKind.i64.wrap (codK side t l m k * (side * side + 1) + atK side l (pcAt m k) l.length) = codK side t l m k * (side * side + 1) + atK side l (pcAt m k) l.length := IntWalk.i64_in _ (by omega)
        have HE := Lib.hid e1
        clear hc1 hn1 ha1 s0 s1 hn0 e1 hn
        go_wp2_with fail
        go_roundw
        case rel => exact ⟨k + 1 + 1, by omega, by go_num, by rw [show nrV side t l m (k + 1 + 1) = codK side t l m (k + 1) from rfl, HE.out], by trivial⟩
        case measure => simp [intOf]; omega
    · obtain rfl : k = m.length + 1 := by omega
      go_wp2_with fail
      go_ret
      exact ⟨rfl, rfl⟩
end Go.Proofs.Ytmfcgikfgikbfaa.Ko
