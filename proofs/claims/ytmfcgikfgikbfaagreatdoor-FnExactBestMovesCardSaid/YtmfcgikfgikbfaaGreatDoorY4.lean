/- The model's l4Put at no men. Positions of codes: values (no program is named). The digits of a code: digitsOf of the program. No men sorted by the program. Men that have been put, one after the other. The position of a code: coder.pos of the program. The position of a code: l7Pos of the model. The values at the beginning: l8New and GenNew of the model. GenNew of the model and of the program. GenNew of the program. The length of the values at the beginning. What the card's condition gives: the library's table of bits lies in its variable. The walk of the exact law FnExactGenNew. -/
import Derived.Test.YtmfcgikfgikbfaaGreatDoorMp
import Derived.Test.YtmfcgikfgikbfaaGreatDoorDoM
import Derived.Test.YtmfcgikfgikbfaaGreatDoorPn
import Derived.Test.YtmfcgikfgikbfaaGreatDoorPr
import Derived.Test.YtmfcgikfgikbfaaGreatDoorIn
import Derived.Test.YtmfcgikfgikbfaaGreatDoorAf
import Derived.Test.YtmfcgikfgikbfaaGreatDoorMc
import Derived.Test.YtmfcgikfgikbfaaGreatDoorAg
import Derived.Test.YtmfcgikfgikbfaaGreatDoorY1
import Derived.Test.YtmfcgikfgikbfaaGreatDoorPk
import Derived.Deep.AppendLies
import Derived.Deep.RegionLaw
import Derived.Deep.RegionHeld3
import Derived.Test.YtmfcgikfgikbfaaGreatDoorY3
import Derived.Test.YtmfcgikfgikbfaaGreatDoorY2
import Derived.Maps.AppendAt
import Derived.Test.YtmfcgikfgikbfaaGreatDoorCk
import Derived.Laws.OwnMore
import Derived.Test.YtmfcgikfgikbfaaGreatDoorZt
import Derived.ProofKit
import Derived.LaidMore
import Derived.OpenShut
import Derived.Stop.Joined
import Derived.Test.YtmfcgikfgikbfaaGreatDoorOpr
namespace Go.Proofs.YtmfcgikfgikbfaaGreatDoor.Ko
open Go.ChangeShapes Go.WideShapes Go.ChangeAt Go.RowKit Base Sq
set_option linter.unusedVariables false
set_option maxRecDepth 20000
attribute [local irreducible] wpQuiet

set_option maxHeartbeats 2000000 in
theorem l4Put_nil (dx dy far : Int) (w : World) :
    Calls Tryz.prog 100 #[.slice none 0 0, .agg #[.int .i64 dx, .int .i64 dy, .int .i64 far]] w fun e w' => ∃ A c', e = .returned (.slice A 1 c') ∧ MenA w.heap.size w'.heap.size w' A [⟨dx, dy, far⟩] ∧ Below w.heap.size w w' ∧ 1 ≤ c' ∧ c' ≤ maxLen := by
  obtain ⟨i0, hi0, hz0, hz1, hz2⟩ := info_parts manInfo
  have hp0 := Blk.new w #[.int .i64 dx, .int .i64 dy, .int .i64 far] 115
  have hb0 := below_of w (.cells #[.int .i64 dx, .int .i64 dy, .int .i64 far] 115)
  go_enter Tryz.func100, Tryz.ntmps100
  go_wp2_with fail
  go_loopw [5] (fun iv wr => iv = .int .i64 0 ∧ Blk wr w.heap.size #[.int .i64 dx, .int .i64 dy, .int .i64 far] 115 ∧ Below w.heap.size w wr) (fun iv _ => 0)
  case atStart => exact ⟨rfl, hp0, hb0⟩
  case round =>
    clear hp0 hb0
    obtain ⟨rfl, hp, hbe⟩ := hrel
    obtain ⟨⟨q0, q1, q2⟩, _⟩ := hp.at3
    have hz := hbe.size
    have zp := hp.lt
    go_wp2_with fail
    refine wp_region_below (W := wr) (by kernel_rfl) (by kernel_rfl) (Below.refl _ _) ?_
    repeat (first
      | (refine qs_skip (by rfl) ?_; simp only [Act.put, List.setIfInBounds_toArray, List.set_cons_zero, List.set_cons_succ])
      | (apply qs_take
         focus rfl
         focus (
           intro wq hwq
           obtain ⟨hcq, hfq⟩ := bcell hwq
           go_simp
           all_goals first
             | exact rfl
             | (exact ⟨trivial, rfl⟩))
         simp only [Act.put, List.setIfInBounds_toArray, List.set_cons_zero, List.set_cons_succ]))
    refine wpQuiet_nil ?_
    intro wq hwq
    have hpq := hp.below hwq zp
    have hbq := hbe.trans (hwq.mono hz)
    have hzq := hwq.size
    clear q0 q1 q2 hp hbe hwq
    obtain ⟨⟨q0, q1, q2⟩, _⟩ := hpq.at3
    have zq := hpq.lt
    have hO0 : OwnM (wq.alloc (.cells #[] 115)) (w.heap.size + 1) (.slice (some ⟨wq.heap.size, 0, none⟩) 0 0) 0 [] := ⟨rfl, .inr ⟨wq.heap.size, 0, #[], rfl, by omega, Blk.new wq #[] 115, Nat.le_refl _, Nat.zero_le _, rfl, rfl⟩⟩
    have hnew := Blk.new (wq.alloc (.cells #[] 115)) #[.int .i64 dx, .int .i64 dy, .int .i64 far] 115
    simp only [World.size_alloc] at hnew
    have HNEW := Lib.hid hnew
    have HO1 := Lib.hid (hO0.alloc (.cells #[.int .i64 dx, .int .i64 dy, .int .i64 far] 115))
    have HBA := Lib.hid ((Below.alloc (Below.refl (w.heap.size + 1) wq) (by omega) (.cells #[] 115)).alloc (by simp; omega) (.cells #[.int .i64 dx, .int .i64 dy, .int .i64 far] 115))
    have HBQ := Lib.hid hbq
    clear hO0 hnew hbq hpq
    have hmx : 0 + 1 ≤ maxLen := by unfold maxLen; omega
    go_wp2_with (at_builtin; refine wpList_append_own _ rfl _ _ 56 rfl (w.heap.size + 1) 115 i0 (.agg #[.int .i64 0, .int .i64 0, .int .i64 0]) 3 24 Tryz.underlying56 hi0 hz0 hz1 hz2 rfl (by decide) _ _ _ rfl HO1.out ⟨wq.heap.size + 1, 0, none⟩ 1 1 [.int .i64 dx, .int .i64 dy, .int .i64 far] rfl rfl (news3 HNEW.out) (fun u hu => by simp at hu; rcases hu with rfl | rfl | rfl <;> rfl) hmx (by omega) (by simp; omega) ?_; intro v2 w6 hown2 hgrow2 hnil2; have hb6 := HO1.out.base hgrow2 HBA.out (Nat.le_refl _) (by simp; omega); have hO2 : w6.ownsRow (w.heap.size + 1) 115 3 v2 1 (cellsM [⟨dx, dy, far⟩]) := (by simpa [cellsM] using hown2); obtain ⟨g2, c2, rfl, hc2, hcm2⟩ : ∃ g2 c2, v2 = .slice (some ⟨g2, 0, none⟩) 1 c2 ∧ 1 ≤ c2 ∧ c2 ≤ maxLen := (by rcases hO2.2 with ⟨he, _⟩ | ⟨g2, c2, _, he, _, _, h4, h5, _⟩; exact absurd (hnil2.1 he).2 (by omega); exact ⟨g2, c2, he, h4, h5⟩); clear hown2 hgrow2 hnil2 HO1 HBA HNEW)
    obtain ⟨A3, d3, he3, hm⟩ := MenA.of (l := [⟨dx, dy, far⟩]) hO2
    cases he3
    go_ret
    exact ⟨_, _, rfl, hm.more (by omega) (Nat.le_refl _), HBQ.out.trans (hb6.mono (by omega)), hc2, hcm2⟩
end Go.Proofs.YtmfcgikfgikbfaaGreatDoor.Ko

namespace Go.Proofs.YtmfcgikfgikbfaaGreatDoor.Ko
open Go.ChangeShapes Go.WideShapes Go.ChangeAt Go.RowKit Base Sq
set_option linter.unusedVariables false
set_option maxRecDepth 20000

/-- a code without its last k digits -/
def remK (b code : Int) : Nat → Int
  | 0 => code
  | k + 1 => remK b code k / b
/-- where the piece i of n is -/
def digC (b code : Int) (n i : Nat) : Int := remK b code (n - 1 - i) % b
/-- the man of the piece i, if it is not gone -/
def manC (s code : Int) (m : List Pc) (i : Nat) : List St := if digC (s * s + 1) code m.length i = s * s then [] else [⟨(pcAt m i).kd, (pcAt m i).ow, digC (s * s + 1) code m.length i⟩]
/-- the men of the first i pieces -/
def menC (s code : Int) (m : List Pc) : Nat → List St
  | 0 => []
  | i + 1 => menC s code m i ++ manC s code m i
/-- the men of the last k pieces -/
def menD (s code : Int) (m : List Pc) : Nat → List St
  | 0 => []
  | k + 1 => manC s code m (m.length - 1 - k) ++ menD s code m k
/-- the same, each put where it belongs -/
def putC (s code : Int) (m : List Pc) : Nat → List St
  | 0 => []
  | k + 1 => if remK (s * s + 1) code k % (s * s + 1) = s * s then putC s code m k else putL (putC s code m k) ⟨(pcAt m (m.length - 1 - k)).kd, (pcAt m (m.length - 1 - k)).ow, remK (s * s + 1) code k % (s * s + 1)⟩
/-- no man stands already where the k-th from the end goes -/
def goodC (s code : Int) (m : List Pc) (k : Nat) : Bool := decide (remK (s * s + 1) code k % (s * s + 1) = s * s) || decide (manV (putC s code m k) (remK (s * s + 1) code k % (s * s + 1)) = -1)
def posIB (s : Int) (ks : List Kd) (m : List Pc) (code : Int) : Bool := (List.range m.length).all (goodC s code m) && posOk s ks (remK (s * s + 1) code m.length) (putC s code m m.length)
/-- the code is one of a position -/
def posCB (s : Int) (ks : List Kd) (m : List Pc) (code : Int) : Bool := decide (0 ≤ code ∧ code < numV s m.length) && posIB s ks m code
def posCT (s : Int) (ks : List Kd) (m : List Pc) (code : Int) : Int := if posCB s ks m code = true then remK (s * s + 1) code m.length else 0
def posCL (s : Int) (ks : List Kd) (m : List Pc) (code : Int) : List St := if posCB s ks m code = true then putC s code m m.length else []

theorem digC_rem {b code : Int} {n k : Nat} (hk : k < n) : digC b code n (n - 1 - k) = remK b code k % b := by unfold digC; rw [show n - 1 - (n - 1 - k) = k by omega]
theorem remK_bd {s code : Int} (hs : s = 2 ∨ s = 3 ∨ s = 4) {n : Nat} (h0 : 0 ≤ code) (h1 : code < numV s n) : ∀ k, k ≤ n → 0 ≤ remK (s * s + 1) code k ∧ remK (s * s + 1) code k < numV s (n - k) := by
  intro k
  induction k with
  | zero => intro _; exact ⟨h0, h1⟩
  | succ k ih =>
    intro hk
    obtain ⟨a, b⟩ := ih (by omega)
    simp only [remK]
    have e : numV s (n - k) = numV s (n - (k + 1)) * (s * s + 1) := by rw [show n - k = (n - (k + 1)) + 1 by omega]; rfl
    rw [e] at b
    generalize remK (s * s + 1) code k = x at *
    generalize numV s (n - (k + 1)) = y at *
    rcases hs with rfl | rfl | rfl <;> omega
theorem digC_bd {s code : Int} (hs : s = 2 ∨ s = 3 ∨ s = 4) (n i : Nat) : 0 ≤ digC (s * s + 1) code n i ∧ digC (s * s + 1) code n i ≤ s * s := by
  unfold digC
  rcases hs with rfl | rfl | rfl <;> omega
theorem menC_rest {s code : Int} {m : List Pc} : ∀ i, i ≤ m.length → menC s code m i ++ menD s code m (m.length - i) = menD s code m m.length := by
  intro i
  induction i with
  | zero => intro _; rfl
  | succ i ih =>
    intro hi
    rw [← ih (by omega), show m.length - i = (m.length - (i + 1)) + 1 by omega]
    simp only [menC, menD]
    rw [show m.length - 1 - (m.length - (i + 1)) = i by omega, List.append_assoc]
theorem menC_all (s code : Int) (m : List Pc) : menC s code m m.length = menD s code m m.length := by
  have := menC_rest (s := s) (code := code) (m := m) m.length (Nat.le_refl _)
  rw [Nat.sub_self] at this
  simpa [menD] using this
theorem manC_len (s code : Int) (m : List Pc) (i : Nat) : (manC s code m i).length ≤ 1 := by unfold manC; split <;> simp
theorem menC_len (s code : Int) (m : List Pc) : ∀ i, (menC s code m i).length ≤ i := by
  intro i
  induction i with
  | zero => exact Nat.le_refl _
  | succ i ih => have := manC_len s code m i; simp only [menC, List.length_append]; omega
theorem putC_len (s code : Int) (m : List Pc) : ∀ k, (putC s code m k).length ≤ k := by
  intro k
  induction k with
  | zero => exact Nat.le_refl _
  | succ k ih => simp only [putC]; split
                 · omega
                 · rw [putL_len]; omega
theorem putC_ok {s code : Int} {m : List Pc} : ∀ k, k ≤ m.length → (∀ j, j < k → goodC s code m j = true) → Asc (putC s code m k) ∧ (putC s code m k).Perm (menD s code m k) := by
  intro k
  induction k with
  | zero => intro _ _; exact ⟨List.Pairwise.nil, .refl _⟩
  | succ k ih =>
    intro hk hg
    obtain ⟨ha, hp⟩ := ih (by omega) (fun j hj => hg j (by omega))
    have hgk := hg k (by omega)
    unfold goodC at hgk
    simp only [Bool.or_eq_true, decide_eq_true_eq] at hgk
    simp only [putC, menD, manC, digC_rem (show k < m.length by omega)]
    by_cases hc : remK (s * s + 1) code k % (s * s + 1) = s * s
    · rw [if_pos hc, if_pos hc]; exact ⟨ha, hp⟩
    · rw [if_neg hc, if_neg hc]
      have hm := hgk.resolve_left hc
      refine ⟨putL_asc ha (fun x hx => ?_), (putL_perm _ _).trans (List.Perm.cons _ hp)⟩
      obtain ⟨i, hi, rfl⟩ := List.getElem_of_mem hx
      rw [← stAt_lt hi]
      exact manV_miss hm i hi
/-- where two men stand on one square, no order of them is a position -/
theorem putC_bad {s code : Int} {m : List Pc} {k : Nat} (hk : k < m.length) (hg : ∀ j, j < k → goodC s code m j = true) (hb : goodC s code m k = false) : ¬ (menD s code m m.length).Pairwise (fun a b => a.far ≠ b.far) := by
  obtain ⟨_, hp⟩ := putC_ok k (by omega) hg
  unfold goodC at hb
  simp only [Bool.or_eq_false_iff, decide_eq_false_iff_not] at hb
  obtain ⟨hc, hm⟩ := hb
  obtain ⟨h1, h2, _⟩ := manV_far hm
  have hmem : stAt (putC s code m k) (manV (putC s code m k) (remK (s * s + 1) code k % (s * s + 1))).toNat ∈ menD s code m k := hp.mem_iff.1 (stAt_mem h1)
  have hbad : ¬ (menD s code m (k + 1)).Pairwise (fun a b => a.far ≠ b.far) := by
    simp only [menD, manC, digC_rem hk]
    rw [if_neg hc]
    intro h
    obtain ⟨h3, _⟩ := List.pairwise_cons.1 h
    exact h3 _ hmem h2.symm
  have hsub : ∀ d, k + 1 + d ≤ m.length → ∃ L, menD s code m (k + 1 + d) = L ++ menD s code m (k + 1) := by
    intro d
    induction d with
    | zero => intro _; exact ⟨[], rfl⟩
    | succ d ih =>
      intro hd
      obtain ⟨L, hL⟩ := ih (by omega)
      refine ⟨manC s code m (m.length - 1 - (k + 1 + d)) ++ L, ?_⟩
      rw [show k + 1 + (d + 1) = (k + 1 + d) + 1 by omega]
      simp only [menD, hL, List.append_assoc]
  intro h
  obtain ⟨L, hL⟩ := hsub (m.length - (k + 1)) (by omega)
  rw [show k + 1 + (m.length - (k + 1)) = m.length by omega] at hL
  rw [hL] at h
  exact hbad (List.pairwise_append.1 h).2.1
theorem pairwise_ne_perm {a b : List St} (hp : a.Perm b) (h : a.Pairwise (fun x y => x.far ≠ y.far)) : b.Pairwise (fun x y => x.far ≠ y.far) :=
  hp.pairwise h (fun {x y} hxy e => hxy e.symm)
theorem up_asc {l : List St} (h : Up l) : Asc l := by
  unfold Asc
  refine List.pairwise_iff_getElem.2 fun i j hi hj hij => ?_
  have := h.lt hij hj
  rwa [stAt_lt hi, stAt_lt hj] at this
/-- what the program's sorted list says: the same as the model's -/
theorem posC_of {s : Int} {ks : List Kd} {m : List Pc} {code : Int} {l' : List St} (hp : l'.Perm (menC s code m m.length)) (ho : l'.Pairwise fun x y => x.far ≤ y.far) :
    (posOk s ks (remK (s * s + 1) code m.length) l' = posIB s ks m code) ∧ (posIB s ks m code = true → l' = putC s code m m.length) := by
  rw [menC_all] at hp
  cases hg : (List.range m.length).all (goodC s code m)
  · have hB : posIB s ks m code = false := by unfold posIB; rw [hg]; rfl
    rw [hB]
    refine ⟨?_, fun h => by cases h⟩
    cases hq : posOk s ks (remK (s * s + 1) code m.length) l'
    · rfl
    · exfalso
      rw [List.all_eq_false] at hg
      obtain ⟨k0, hk0, hb0⟩ := hg
      have hk0' : k0 < m.length := by simpa using hk0
      have hex : ∃ k, k < m.length ∧ (∀ j, j < k → goodC s code m j = true) ∧ goodC s code m k = false := by
        have : ∀ n, n ≤ m.length → (∀ j, j < n → goodC s code m j = true) ∨ ∃ k, k < n ∧ (∀ j, j < k → goodC s code m j = true) ∧ goodC s code m k = false := by
          intro n
          induction n with
          | zero => intro _; exact .inl fun j hj => absurd hj (by omega)
          | succ n ih =>
            intro hn
            rcases ih (by omega) with h | ⟨k, hk, h⟩
            · cases hgn : goodC s code m n
              · exact .inr ⟨n, by omega, h, hgn⟩
              · exact .inl (all_succ h hgn)
            · exact .inr ⟨k, by omega, h⟩
        rcases this m.length (Nat.le_refl _) with h | h
        · exact absurd (h k0 hk0') hb0
        · exact h
      obtain ⟨k, hk, h1, h2⟩ := hex
      refine putC_bad hk h1 h2 (pairwise_ne_perm hp ?_)
      unfold posOk at hq
      simp only [Bool.and_eq_true] at hq
      exact (up_asc (shapeB_up hq.1)).imp fun h => by omega
  · have hgo : ∀ j, j < m.length → goodC s code m j = true := fun j hj => by
      rw [List.all_eq_true] at hg; exact hg j (by simpa using hj)
    obtain ⟨ha, hpp⟩ := putC_ok m.length (Nat.le_refl _) hgo
    have he : l' = putC s code m m.length := asc_unique (hp.trans hpp.symm) ha ho
    refine ⟨?_, fun _ => he⟩
    unfold posIB
    rw [hg, he]; rfl
theorem posCB_in {s : Int} {ks : List Kd} {m : List Pc} {code : Int} (h0 : 0 ≤ code) (h1 : code < numV s m.length) : posCB s ks m code = posIB s ks m code := by unfold posCB; rw [decide_eq_true ⟨h0, h1⟩]; rfl
theorem posCB_out {s : Int} {ks : List Kd} {m : List Pc} {code : Int} (h : ¬ (0 ≤ code ∧ code < numV s m.length)) : posCB s ks m code = false := by unfold posCB; rw [decide_eq_false h]; rfl
theorem posIB_bad {s : Int} {ks : List Kd} {m : List Pc} {code : Int} {k : Nat} (hk : k < m.length) (h : goodC s code m k = false) : posIB s ks m code = false := by
  unfold posIB
  rw [show (List.range m.length).all (goodC s code m) = false from by rw [List.all_eq_false]; exact ⟨k, by simpa using hk, by simp [h]⟩]; rfl
theorem posIB_end {s : Int} {ks : List Kd} {m : List Pc} {code : Int} (h : ∀ j, j < m.length → goodC s code m j = true) : posIB s ks m code = posOk s ks (remK (s * s + 1) code m.length) (putC s code m m.length) := by
  unfold posIB
  rw [show (List.range m.length).all (goodC s code m) = true from by rw [List.all_eq_true]; intro j hj; exact h j (by simpa using hj)]; rfl
end Go.Proofs.YtmfcgikfgikbfaaGreatDoor.Ko

namespace Go.Proofs.YtmfcgikfgikbfaaGreatDoor.Ko
open Go.ChangeShapes Go.WideShapes Go.ChangeAt Go.RowKit Base Sq In
set_option linter.unusedVariables false
set_option maxRecDepth 20000
attribute [local irreducible] wpQuiet

/-- the digits of a code: who is to move, and where each piece is -/
def digL (b code : Int) (n : Nat) : List Int := remK b code n :: (List.range n).map (digC b code n)
theorem digL_len (b code : Int) (n : Nat) : (digL b code n).length = n + 1 := by simp [digL]
theorem digL_zero (b code : Int) (n : Nat) : iAt (digL b code n) 0 = remK b code n := rfl
theorem digL_succ {b code : Int} {n i : Nat} (h : i < n) : iAt (digL b code n) (i + 1) = digC b code n i := by
  unfold iAt digL; simp [List.getD_eq_getElem?_getD, h]
/-- the digit that the j-th round writes -/
theorem digL_at {b code : Int} {n j : Nat} (hj : j ≤ n) (hr : j = n → 0 ≤ remK b code n ∧ remK b code n < 2) : iAt (digL b code n) (n - j) = remK b code j % (if j = n then 2 else b) := by
  by_cases h : j = n
  · subst h
    rw [if_pos rfl, Nat.sub_self, digL_zero]
    have := hr rfl
    omega
  · rw [if_neg h, show n - j = (n - 1 - j) + 1 by omega, digL_succ (by omega), digC_rem (by omega)]

set_option maxHeartbeats 4000000 in
theorem digitsOf_any (side code : Int) (n : Nat) (D : Option Addr) (d : Nat) (w : World) (hD : IsInts w w.heap.size D (basesV side n)) (hs : side = 2 ∨ side = 3 ∨ side = 4) (hn : n ≤ 4) (h0 : 0 ≤ code) (h1 : code < numV side n) :
    Calls Tryz.prog 71 #[.int .i64 code, .slice D (n + 1) d] w fun e w' => ∃ g c', e = .returned (.slice (some ⟨g, 0, none⟩) (n + 1) c') ∧ w.heap.size ≤ g ∧ g < w'.heap.size ∧ IsInts w' w'.heap.size (some ⟨g, 0, none⟩) (digL (side * side + 1) code n) ∧ Below w.heap.size w w' := by
  obtain ⟨i0, hi, hz0, hz1, hz2⟩ := info_parts infoInt
  have HR := Lib.hid (remK_bd hs h0 h1)
  have HNV := Lib.hid (fun k (hk : k ≤ 4) => numV_bd hs (k := k) hk)
  have hbb : 5 ≤ side * side + 1 ∧ side * side + 1 ≤ 17 := by rcases hs with rfl | rfl | rfl <;> omega
  obtain ⟨bd, rfl, hBd, hcd⟩ := hD (by rw [bases_len]; omega)
  have HC := Lib.hid hcd
  have HDL := Lib.hid (fun j (hj : j ≤ n) => digL_at (b := side * side + 1) (code := code) hj (fun _ => by
    have := HR.out n (Nat.le_refl _); rw [Nat.sub_self] at this; exact this))
  have HB0 := Lib.hid (fun (i : Nat) (h : i < n) => bases_succ (side := side) h)
  have HR2 := Lib.hid (fun j => show remK (side * side + 1) code (j + 1) = remK (side * side + 1) code j / (side * side + 1) from rfl)
  have HLN := Lib.hid (digL_len (side * side + 1) code n)
  obtain ⟨b, hb⟩ : ∃ b, b = side * side + 1 := ⟨_, rfl⟩
  rw [← hb] at hbb
  have HBB := Lib.hid hb
  obtain ⟨hb1, hb2⟩ := hbb
  have hbz : (b == 0) = false := by simp; omega
  clear hD hcd h0 h1 hb hs
  go_enter Tryz.func71, Tryz.ntmps71
  go_wp2_with (at_make; refine wpList_make_full _ rfl _ _ _ rfl w.heap.size 3 i0 (.int .i64 0) 1 Tryz.underlying28 hi hz0 hz1 .i64 .i64 _ _ (n + 1) (by rfl) (by rfl) rfl rfl (by rw [hz2]; omega) (by unfold maxLen; omega) (Nat.le_refl _) ?_; intro w1 hown hgrow)
  obtain ⟨cur, hblk, hsz⟩ := blk_of_own hown
  have hbe := below_of_grown hgrow (Nat.le_refl _)
  clear hown hgrow hi hz0 hz1 hz2
  have HS := Lib.hid hsz
  clear hsz
  have HZ := Lib.hid (fun k (hk : k ≤ n) => And.intro (HR.out k hk).1 (Int.le_trans (Int.le_of_lt (HR.out k hk).2) (HNV.out (n - k) (by omega)).2))
  have hx0 : 0 ≤ code ∧ code ≤ 167042 := HZ.out 0 (by omega)
  go_loopw [0, 6] (fun x i wr => ∃ (q : Nat) (X : Int) (cs : Array Value), q ≤ n + 1 ∧ i = .int .i64 ((q : Int) - 1) ∧ x = .int .i64 X ∧ Hid (0 < q → X = remK (side * side + 1) code (n + 1 - q)) ∧ 0 ≤ X ∧ X ≤ 167042 ∧ cs.size = (n + 1) * 1 ∧ Hid (∀ p, q ≤ p → p ≤ n → cs[p]? = some (.int .i64 (iAt (digL (side * side + 1) code n) p))) ∧
    Blk wr w.heap.size cs 3 ∧ Below w.heap.size w wr) (fun _ i _ => (intOf i + 1).toNat)
  case atStart => exact ⟨n + 1, code, cur, by omega, by go_num, rfl, Lib.hid (fun _ => by rw [Nat.sub_self]; rfl), hx0.1, hx0.2, HS.out, Lib.hid (fun p h1 h2 => absurd h1 (by omega)), hblk, hbe⟩
  case round =>
    clear hblk hbe HS hx0
    obtain ⟨q, X, cs, hq, rfl, rfl, hX, hX0, hX1, hsz, hin, hb, hbe⟩ := hrel
    have HS := Lib.hid hsz
    rcases Nat.eq_zero_or_pos q with rfl | hq0
    · have hlt : (((0 : Nat) : Int) - 1) < 0 := by omega
      clear hsz
      go_wp2_with fail
      go_ret
      refine ⟨w.heap.size, n + 1, rfl, Nat.le_refl _, hb.lt, fun _ => ⟨w.heap.size, rfl, hb.lt, fun p hp => ?_⟩, hbe⟩
      rw [HLN.out] at hp
      exact (hb.cell p).trans (hin.out p (by omega) (by omega))
    · obtain ⟨p, rfl⟩ : ∃ p, q = p + 1 := ⟨q - 1, by omega⟩
      rw [show (((p + 1 : Nat) : Int) - 1) = (p : Int) by omega]
      have HX := Lib.hid (hX.out hq0)
      rw [show n + 1 - (p + 1) = n - p by omega] at HX
      clear hX hq0
      obtain ⟨o0, x0⟩ := old_cell (cs := cs) (i := p) (by omega)
      have y0 := (hb.cell p).trans x0
      have f0 := hb.free p
      have z1 := hb.lt
      have hc0 := (hbe.cell (p := ⟨bd, p, none⟩) hBd).trans (HC.out p (by rw [bases_len]; omega))
      have hpn : (p : Int) < (n : Int) + 1 := by omega
      clear hsz x0
      by_cases hp0 : p = 0
      · subst hp0
        have hc1 : wr.cell? ⟨bd, 0, none⟩ = some (.int .i64 2) := hc0
        have HD : Hid (iAt (digL (side * side + 1) code n) 0 = X % 2) := Lib.hid (by
          have := HDL.out n (Nat.le_refl _)
          rw [Nat.sub_self, if_pos rfl] at this
          rw [this, HX.out, Nat.sub_zero])
        clear hc0
        go_wp2_with fail
        go_roundw
        case rel => exact ⟨0, X / 2, _, by omega, by go_num, rfl, Lib.hid (fun h => absurd h (by omega)), by omega, by omega, by simp only [Array.size_setIfInBounds]; exact HS.out, Lib.hid (fun p' h1 h2 => by
          rcases Nat.eq_zero_or_pos p' with rfl | h3
          · rw [HD.out]; exact set_same (by have := HS.out; omega)
          · exact set_get (hin.out p' h3 h2) (by omega)), hb.set _ _, hbe.setCell (by simp) _⟩
        case measure => simp [intOf]
      · have hc1 : wr.cell? ⟨bd, p, none⟩ = some (.int .i64 b) := by
          rw [hc0, show p = (p - 1) + 1 by omega, HB0.out (p - 1) (by omega), HBB.out]
        have HD : Hid (iAt (digL (side * side + 1) code n) p = X % b) := Lib.hid (by
          have := HDL.out (n - p) (by omega)
          rw [show n - (n - p) = p by omega, if_neg (by omega)] at this
          rw [this, HX.out, HBB.out])
        have HX2 : Hid (X / b = remK (side * side + 1) code (n + 1 - p)) := Lib.hid (by
          rw [show n + 1 - p = (n - p) + 1 by omega, HR2.out, ← HX.out, HBB.out])
        have hq2 : 0 ≤ X / b := Int.ediv_nonneg hX0 (by omega)
        have hq3 : X / b ≤ X := Int.ediv_le_self _ hX0
        have HQ := Lib.hid (And.intro hq2 (Int.le_trans hq3 hX1))
        clear hc0 hq2 hq3
        go_wp2_with fail
        go_roundw
        case rel => exact ⟨p, X / b, _, by omega, by go_num, rfl, Lib.hid (fun _ => HX2.out), HQ.out.1, HQ.out.2, by simp only [Array.size_setIfInBounds]; exact HS.out, Lib.hid (fun p' h1 h2 => by
          by_cases h3 : p' = p
          · subst h3; rw [HD.out]; exact set_same (by have := HS.out; omega)
          · exact set_get (hin.out p' (by omega) h2) (by omega)), hb.set _ _, hbe.setCell (by simp) _⟩
        case measure => simp [intOf]
end Go.Proofs.YtmfcgikfgikbfaaGreatDoor.Ko

namespace Go.Proofs.YtmfcgikfgikbfaaGreatDoor.Ko
open Go.ChangeShapes Go.WideShapes Go.ChangeAt Go.RowKit Base Sq
set_option linter.unusedVariables false
set_option maxRecDepth 20000
attribute [local irreducible] wpQuiet

theorem ins_nil (W : World) : Calls Tryz.prog 150 #[.slice none 0 0, .int .i64 0, .int .i64 0, .func (.func 110) #[] #[]] W fun e w' => e = .returned (.tuple #[]) ∧ W = w' := by
  go_enter Tryz.func150, Tryz.ntmps150
  go_wp2_with fail
  go_loop [8] (fun i => i = .int .i64 1) (fun i => 0)
  case atStart => rfl
  case round =>
    obtain rfl := hrel
    go_wp2_with fail
    go_end0
    exact ⟨rfl, rfl⟩
theorem pdq_nil (l : Int) (W : World) : Calls Tryz.prog 139 #[.slice none 0 0, .int .i64 0, .int .i64 0, .int .i64 l, .func (.func 110) #[] #[]] W fun e w' => e = .returned (.tuple #[]) ∧ W = w' := by
  go_enter Tryz.func139, Tryz.ntmps139
  go_wp2_with fail
  go_loop [1, 2] (fun a b => a = .int .i64 0 ∧ b = .int .i64 0) (fun _ _ => 0)
  case atStart => exact ⟨rfl, rfl⟩
  case round =>
    obtain ⟨rfl, rfl⟩ := hrel
    go_wp2_with fail
    refine (ins_nil _).mono ?_
    rintro e w' ⟨rfl, rfl⟩
    go_wp2_with fail
    exact bodyPost_ret (v := .tuple #[]) (by simp [results, Tryz.results139, go_sem]) rfl ⟨rfl, rfl⟩
theorem sort_nil (W : World) : Calls Tryz.prog 109 #[.slice none 0 0, .func (.func 110) #[] #[]] W fun e w' => e = .returned (.tuple #[]) ∧ W = w' := by
  go_enter Tryz.func109, Tryz.ntmps109
  go_wp2_with fail
  refine (bitsLen_any 0 _ (by omega)).mono ?_
  rintro e w' ⟨⟨l, rfl⟩, rfl⟩
  go_wp2_with fail
  refine (pdq_nil l _).mono ?_
  rintro e w' ⟨rfl, rfl⟩
  go_wp2_with fail
  go_end0
  exact ⟨rfl, rfl⟩
theorem sortMen_nil (W : World) : Calls Tryz.prog 72 #[.slice none 0 0] W fun e w' => e = .returned (.tuple #[]) ∧ W = w' := by
  go_enter Tryz.func72, Tryz.ntmps72
  go_wp2_with fail
  refine (sort_nil _).mono ?_
  rintro e w' ⟨rfl, rfl⟩
  go_wp2_with fail
  go_end0
  exact ⟨rfl, rfl⟩
end Go.Proofs.YtmfcgikfgikbfaaGreatDoor.Ko

namespace Go.Proofs.YtmfcgikfgikbfaaGreatDoor.Ko
open Go.ChangeShapes Go.WideShapes Go.ChangeAt Go.RowKit Base Sq
set_option linter.unusedVariables false
set_option maxRecDepth 20000

/-- the men that have been put, in a block of the call's own -/
def PutA (lo : Nat) (w : World) (v : Value) (L : List St) : Prop := (L = [] ∧ v = .slice none 0 0) ∨ (0 < L.length ∧ ∃ A c, v = .slice A L.length c ∧ MenA lo w.heap.size w A L ∧ L.length ≤ c ∧ c ≤ maxLen)

theorem MenA.off {lo hi : Nat} {w : World} {A : Option Addr} {l : List St} (h : MenA lo hi w A l) (a : Addr) (u : Value) (ha : a.block < lo) : MenA lo hi (w.setCell a u) A l := fun hn => by
  obtain ⟨b, cs, rfl, h1, h2, h3, h4, h5⟩ := h hn
  exact ⟨b, cs, rfl, h1, h2, h3.other a u (by omega), h4, h5⟩
theorem PutA.below {lo : Nat} {w w' : World} {v : Value} {L : List St} (h : PutA lo w v L) (hb : Below w.heap.size w w') : PutA lo w' v L := by
  rcases h with h | ⟨h1, A, c, h2, h3, h4⟩
  · exact .inl h
  · exact .inr ⟨h1, A, c, h2, (h3.below hb).more (Nat.le_refl _) hb.size, h4⟩
end Go.Proofs.YtmfcgikfgikbfaaGreatDoor.Ko

namespace Go.Proofs.YtmfcgikfgikbfaaGreatDoor.Ko
open Go.ChangeShapes Go.WideShapes Go.ChangeAt Go.RowKit Base Sq In
set_option linter.unusedVariables false
set_option maxRecDepth 20000
attribute [local irreducible] wpQuiet

/-- a position and whether there is one; its men lie in new memory -/
def PosRes (B : Bool) (T : Int) (L : List St) (w w' : World) (e : Ending) : Prop :=
  ∃ A c lo hi, e = .returned (.tuple #[.agg #[.int .i64 T, .slice A L.length c], .bool B]) ∧ w.heap.size ≤ lo ∧ hi ≤ w'.heap.size ∧ MenA lo hi w' A L ∧ Below w.heap.size w w'
theorem posCT_no {s : Int} {ks : List Kd} {m : List Pc} {code : Int} (h : posCB s ks m code = false) : posCT s ks m code = 0 ∧ posCL s ks m code = [] := by unfold posCT posCL; rw [h]; exact ⟨rfl, rfl⟩
theorem posCT_yes {s : Int} {ks : List Kd} {m : List Pc} {code : Int} (h : posCB s ks m code = true) : posCT s ks m code = remK (s * s + 1) code m.length ∧ posCL s ks m code = putC s code m m.length := by unfold posCT posCL; rw [h]; exact ⟨rfl, rfl⟩
theorem posRes_no {s : Int} {ks : List Kd} {m : List Pc} {code : Int} {w w' : World} (h : posCB s ks m code = false) (hb : Below w.heap.size w w') : PosRes (posCB s ks m code) (posCT s ks m code) (posCL s ks m code) w w' (.returned (.tuple #[.agg #[.int .i64 0, .slice none 0 0], .bool false])) := by
  obtain ⟨h1, h2⟩ := posCT_no h
  rw [h, h1, h2]
  exact ⟨none, 0, w.heap.size, w'.heap.size, rfl, Nat.le_refl _, Nat.le_refl _, MenA.nil _ _ _ _, hb⟩
/-- what holds at each round's head -/
def CpInv (w wr : World) (side : Int) (A : Option Addr) (c n : Nat) (M : Option Addr) (cm m : Nat) (D : Option Addr) (d : Nat) (pb g : Nat) (t : Int) (dl : List Int) (v : Value) (L : List St) : Prop :=
  OwnM wr (pb + 1) v L.length L ∧ Blk wr w.heap.size #[.int .i64 side, .slice A n c, .slice M m cm, .slice D (m + 1) d] 74 ∧ Blk wr (w.heap.size + 1) #[.int .i64 0, .slice none 0 0] 58 ∧
    Blk wr pb #[.int .i64 t, v] 58 ∧ IsInts wr pb (some ⟨g, 0, none⟩) dl ∧ Below w.heap.size w wr ∧ w.heap.size + 2 ≤ pb
theorem OwnM.off2 {w : World} {base n : Nat} {v : Value} {l : List St} {b : Nat} {i : Nat} (h : OwnM w base v n l) (hb : b < base) (u : Value) : OwnM (w.setCell ⟨b, i, none⟩ u) base v n l := h.other _ _ hb
theorem IsInts.other' {w : World} {B : Nat} {A : Option Addr} {l : List Int} (h : IsInts w B A l) (a : Addr) (u : Value) (hne : ∀ b, A = some ⟨b, 0, none⟩ → b ≠ a.block) : IsInts (w.setCell a u) B A l := fun hn => by
  obtain ⟨b, rfl, hB, hc⟩ := h hn
  exact ⟨b, rfl, hB, fun i hi => (World.cell?_of_block (Below.heap_setCell w a u b (hne b rfl))).trans (hc i hi)⟩
theorem cp_next {w w7 : World} {side : Int} {A : Option Addr} {c n : Nat} {M : Option Addr} {cm m : Nat} {D : Option Addr} {d pb g : Nat} {t : Int} {dl : List Int} {v : Value} {B7 : Option Addr} {c7 : Nat} {L L' : List St} {s : St} (hL : L' = L ++ [s])
    (hO : OwnM w7 (pb + 1) (.slice B7 (L.length + 1) c7) (L.length + 1) (L ++ [s])) (r1 : Blk w7 w.heap.size #[.int .i64 side, .slice A n c, .slice M m cm, .slice D (m + 1) d] 74) (r2 : Blk w7 (w.heap.size + 1) #[.int .i64 0, .slice none 0 0] 58)
    (r3 : Blk w7 pb #[.int .i64 t, v] 58) (hG : IsInts w7 pb (some ⟨g, 0, none⟩) dl) (hbe : Below w.heap.size w w7) (hpz : w.heap.size + 2 ≤ pb) (hg : g < pb) :
    CpInv w (w7.setCell ⟨pb, 1, none⟩ (.slice B7 (L.length + 1) c7)) side A c n M cm m D d pb g t dl (.slice B7 L'.length c7) L' := by
  subst hL
  have e : (L ++ [s]).length = L.length + 1 := by simp
  unfold CpInv
  rw [e]
  exact ⟨hO.off2 (by omega : pb < pb + 1) _, Blk.other r1 _ _ (by show w.heap.size ≠ pb; omega), r2.other _ _ (by show w.heap.size + 1 ≠ pb; omega), r3.set 1 _, IsInts.other' hG _ _ (fun b hb => by injection hb with hb; injection hb with hb; subst hb; show g ≠ pb; omega), hbe.setCell (by show w.heap.size ≤ pb; omega) _, hpz⟩
theorem ownM_none (w : World) (base : Nat) : OwnM w base (.slice none 0 0) ([] : List St).length [] := ⟨rfl, .inl ⟨rfl, rfl⟩⟩

set_option maxHeartbeats 8000000 in
theorem pos_any (side : Int) (A : Option Addr) (c : Nat) (ks : List Kd) (M : Option Addr) (cm : Nat) (m : List Pc) (D : Option Addr) (d : Nat) (code : Int) (w : World) (hR : IsKinds w w.heap.size A ks) (hM : IsPcs w w.heap.size M m) (hD : IsInts w w.heap.size D (basesV side m.length))
    (hok : matV side ks m = true) (hsm : Small ks) :
    Calls Tryz.prog 41 #[.agg #[.int .i64 side, .slice A ks.length c, .slice M m.length cm, .slice D (m.length + 1) d], .int .i64 code] w fun e w' => PosRes (posCB side ks m code) (posCT side ks m code) (posCL side ks m code) w w' e := by
  obtain ⟨hro, hm4⟩ := matV_facts hok
  obtain ⟨hs, _⟩ := rulesOk_facts hro
  have HSD := Lib.hid hs
  have HRO := Lib.hid hro
  have hbx := (below_of w (.cells #[.int .i64 side, .slice A ks.length c, .slice M m.length cm, .slice D (m.length + 1) d] 74)).alloc (by first | (simp; done) | (simp; omega) | omega) (.cells #[.int .i64 0, .slice none 0 0] 58)
  have p1 := (Blk.new w #[.int .i64 side, .slice A ks.length c, .slice M m.length cm, .slice D (m.length + 1) d] 74).alloc (.cells #[.int .i64 0, .slice none 0 0] 58)
  have p2 := Blk.new (w.alloc (.cells #[.int .i64 side, .slice A ks.length c, .slice M m.length cm, .slice D (m.length + 1) d] 74)) #[.int .i64 0, .slice none 0 0] 58
  simp only [World.size_alloc] at p2
  clear hok hro hs
  by_cases h0 : code < 0
  · have HB := Lib.hid (posCB_out (s := side) (ks := ks) (m := m) (code := code) (by omega))
    have hd : decide (code < 0) = true := decide_eq_true h0
    go_enter Tryz.func41, Tryz.ntmps41
    go_wp2_with fail
    refine bodyPost_ret (v := .tuple #[.agg #[.int .i64 0, .slice none 0 0], .bool false]) (by simp [results, Tryz.results41, go_sem]) rfl (posRes_no HB.out ?_)
    exact (by repeat (first | exact Below.refl _ _ | assumption | (refine Below.alloc ?_ (by first | omega | (simp; done) | (simp; omega)) _) | (refine Below.setCell ?_ (by first | omega | (simp; done) | (simp; omega)) _) | refine Below.drew ?_))
  have hd0 : decide (code < 0) = false := decide_eq_false h0
  have hD0 := (hD.below hbx).more hbx.size
  by_cases h1 : numV side m.length ≤ code
  · have HB := Lib.hid (posCB_out (s := side) (ks := ks) (m := m) (code := code) (by omega))
    have hd1 : decide (numV side m.length ≤ code) = true := decide_eq_true h1
    clear h0 h1
    go_enter Tryz.func41, Tryz.ntmps41
    go_wp2_with fail
    generalize hW0 : (w.alloc _).alloc _ = W0 at *
    clear hW0
    refine (many_any side A c ks.length M cm m.length D d _ hD0 HSD.out hm4).mono ?_
    rintro e w1 ⟨rfl, hb1⟩
    have q2 := p2.below hb1 p2.lt
    have hbe := hbx.trans (hb1.mono hbx.size)
    obtain ⟨⟨c0, c1⟩, ⟨f0, f1⟩⟩ := q2.at2
    have hx := (Blk.set2 q2 (.int .i64 0) (.slice none 0 0)).at2
    clear p1 p2 hbx hb1
    go_wp2_with fail
    refine bodyPost_ret (v := .tuple #[.agg #[.int .i64 0, .slice none 0 0], .bool false]) ?_ rfl (posRes_no HB.out ((hbe.setCell (by show w.heap.size ≤ w.heap.size + 1; omega) _).setCell (by show w.heap.size ≤ w.heap.size + 1; omega) _))
    obtain ⟨⟨x0, x1⟩, _⟩ := hx
    simp [results, Tryz.results41, go_sem, x0, x1]
  have hd1 : decide (numV side m.length ≤ code) = false := decide_eq_false h1
  have HR := Lib.hid (remK_bd HSD.out (n := m.length) (by omega : 0 ≤ code) (by omega : code < numV side m.length))
  have HIN := Lib.hid (posCB_in (s := side) (ks := ks) (m := m) (code := code) (by omega) (by omega))
  have HPO := Lib.hid (fun l' => posC_of (s := side) (ks := ks) (m := m) (code := code) (l' := l'))
  have hc0 : 0 ≤ code := by omega
  have hc1 : code < numV side m.length := by omega
  clear h0 h1
  go_enter Tryz.func41, Tryz.ntmps41
  go_wp2_with fail
  generalize hW0 : (w.alloc _).alloc _ = W0 at *
  clear hW0
  refine (many_any side A c ks.length M cm m.length D d _ hD0 HSD.out hm4).mono ?_
  rintro e w1 ⟨rfl, hb1⟩
  have q1 := Blk.below p1 hb1 p1.lt
  have q2 := p2.below hb1 p2.lt
  have hbe := hbx.trans (hb1.mono hbx.size)
  have hD1 := (hD0.below hb1).more hb1.size
  obtain ⟨y0, y1, y2, y3⟩ := Blk.at4 q1
  clear p1 p2 hbx hb1 hD0
  go_wp2_with fail
  refine (digitsOf_any side code m.length D d _ hD1 HSD.out hm4 hc0 hc1).mono ?_
  rintro e w2 ⟨g, cg, rfl, hg1, hg2, hG, hb2⟩
  have q1 := Blk.below q1 hb2 q1.lt
  have q2 := q2.below hb2 q2.lt
  have hbe := hbe.trans (hb2.mono hbe.size)
  have hT := (HR.out m.length (Nat.le_refl _))
  rw [Nat.sub_self] at hT
  have hG0 : w2.cell? ⟨g, 0, none⟩ = some (.int .i64 (remK (side * side + 1) code m.length)) := by
    obtain ⟨b', hb', _, hc'⟩ := hG (by rw [digL_len]; omega)
    injection hb' with hb'
    injection hb' with hb'
    subst hb'
    exact hc' 0 (by rw [digL_len]; omega)
  obtain ⟨T, hTT⟩ : ∃ T, T = remK (side * side + 1) code m.length := ⟨_, rfl⟩
  rw [← hTT] at hG0
  have HTT := Lib.hid hTT
  obtain ⟨y0, y1, y2, y3⟩ := Blk.at4 q1
  have z1 := q1.lt
  clear hTT hT
  go_wp2_with fail
  have hpz : w.heap.size + 2 ≤ w2.heap.size := by have := q2.lt; omega
  have hA := below_of w2 (.cells #[.int .i64 T, .slice none 0 0] 58)
  have q3 := Blk.new w2 #[.int .i64 T, .slice none 0 0] 58
  have q1 := Blk.below q1 hA q1.lt
  have q2 := q2.below hA q2.lt
  have hG3 := hG.below hA
  have hz2 := hbe.size
  have hbe3 := hbe.trans (hA.mono hbe.size)
  clear hA hG hG0 y0 y1 y2 y3 hbe hb2 z1
  generalize hW3 : w2.alloc _ = W3 at *
  generalize hpb : w2.heap.size = pb at *
  clear hW3 hpb
  have hI0 : Hid (CpInv w W3 side A c ks.length M cm m.length D d pb g T (digL (side * side + 1) code m.length) (.slice none 0 0) (menC side code m 0)) := Lib.hid ⟨ownM_none _ _, q1, q2, q3, hG3, hbe3, hpz⟩
  clear q1 q2 q3 hG3 hbe3
  obtain ⟨i0, hi0, hzi0, hzi1, hzi2⟩ := info_parts manInfo
  go_loopw [31] (fun i wr => ∃ (k : Nat) (B : Option Addr) (e : Nat), k ≤ m.length ∧ i = .int .i64 k ∧ Hid ((menC side code m k).length = 0 → B = none ∧ e = 0) ∧ Hid (CpInv w wr side A c ks.length M cm m.length D d pb g T (digL (side * side + 1) code m.length) (.slice B (menC side code m k).length e) (menC side code m k))) (fun i _ => m.length - (intOf i).toNat)
  case atStart => exact ⟨0, none, 0, by omega, rfl, Lib.hid (fun _ => ⟨rfl, rfl⟩), hI0⟩
  case round =>
    clear hI0
    obtain ⟨k, B, e, hk, rfl, hnl, hI⟩ := hrel
    obtain ⟨hO, q1, q2, q3, hG, hbe, _⟩ := hI.out
    have hz := hbe.size
    have z1 := q1.lt
    have z2 := q2.lt
    have z3 := q3.lt
    by_cases hlt : k < m.length
    · have hlt' : (k : Int) < (m.length : Int) := by omega
      have HL1 := Lib.hid (menC_len side code m k)
      obtain ⟨bM, off, rfl, hBM, hcM⟩ := hM.below hbe (by omega)
      obtain ⟨s0, s1⟩ := hcM k hlt
      have hgc : wr.cell? ⟨g, 1 + k, none⟩ = some (.int .i64 (digC (side * side + 1) code m.length k)) := by
        obtain ⟨b', hb', _, hc'⟩ := hG (by rw [digL_len]; omega)
        injection hb' with hb'
        injection hb' with hb'
        subst hb'
        rw [Nat.add_comm, hc' (k + 1) (by rw [digL_len]; omega), digL_succ hlt]
      obtain ⟨X, hX⟩ : ∃ X, X = digC (side * side + 1) code m.length k := ⟨_, rfl⟩
      rw [← hX] at hgc
      have HX := Lib.hid hX
      have zM : bM < wr.heap.size := by omega
      have hgw : g < wr.heap.size := by omega
      obtain ⟨y0, y1, y2, y3⟩ := Blk.at4 q1
      clear hcM hX hI
      go_wp2_with fail
      have hA := below_of wr (.cells #[.int .i64 (pcAt m k).kd, .int .i64 (pcAt m k).ow] 70)
      have q5 := Blk.new wr #[.int .i64 (pcAt m k).kd, .int .i64 (pcAt m k).ow] 70
      have q1 := Blk.below q1 hA z1
      have q2 := q2.below hA z2
      have q3 := q3.below hA z3
      have hO := hO.below hA
      have hG := hG.below (hA.mono (by omega))
      have hbe := hbe.trans (hA.mono hz)
      have hz5 := hbe.size
      clear y0 y1 y2 y3 s0 s1 hgc z1 z2 z3 hA
      generalize hW5 : wr.alloc _ = W5 at *
      generalize hb5 : wr.heap.size = b5 at *
      clear hW5
      have hpW : pb ≤ W5.heap.size := by have := q3.lt; omega
      refine (squares_any _ _ _ _ _ HSD.out).mono ?_
      rintro e6 w6 ⟨rfl, hb6⟩
      have q1 := Blk.below q1 hb6 q1.lt
      have q2 := q2.below hb6 q2.lt
      have q3 := q3.below hb6 q3.lt
      have q5 := q5.below hb6 q5.lt
      have hO := hO.below hb6
      have hG := hG.below (hb6.mono hpW)
      have hbe := hbe.trans (hb6.mono hz5)
      have hz6 := hbe.size
      have z1 := q1.lt
      have z2 := q2.lt
      have z3 := q3.lt
      have z5 := q5.lt
      by_cases hc : X = side * side
      · have hd : (X == side * side) = true := by simp [hc]
        have HL : Hid (menC side code m (k + 1) = menC side code m k) := Lib.hid (by
          simp only [menC, manC]; rw [if_pos (by rw [← HX.out, hc])]; simp)
        have HI := Lib.hid (show CpInv w w6 side A c ks.length _ cm m.length D d pb g T (digL (side * side + 1) code m.length) (.slice B (menC side code m k).length e) (menC side code m k) from ⟨hO, q1, q2, q3, hG, hbe, hpz⟩)
        clear hc hO q1 q2 q3 q5 hG hbe hb6
        go_wp2_with fail
        go_roundw
        case rel => exact ⟨k + 1, B, e, by omega, by go_num, by rw [HL.out]; exact hnl, by rw [HL.out]; exact HI⟩
        case measure => simp [intOf]; omega
      · have hd : (X == side * side) = false := by simp [hc]
        have HL : Hid (menC side code m (k + 1) = menC side code m k ++ [⟨(pcAt m k).kd, (pcAt m k).ow, X⟩]) := Lib.hid (by
          simp only [menC, manC]; rw [if_neg (by rw [← HX.out]; exact hc), HX.out])
        have HQ1 := Lib.hid (Blk.alloc q1 (.cells #[.int .i64 (pcAt m k).kd, .int .i64 (pcAt m k).ow, .int .i64 X] 115))
        have HQ2 := Lib.hid (q2.alloc (.cells #[.int .i64 (pcAt m k).kd, .int .i64 (pcAt m k).ow, .int .i64 X] 115))
        have HQ3 := Lib.hid (q3.alloc (.cells #[.int .i64 (pcAt m k).kd, .int .i64 (pcAt m k).ow, .int .i64 X] 115))
        have HG := Lib.hid (hG.below ((below_of w6 (.cells #[.int .i64 (pcAt m k).kd, .int .i64 (pcAt m k).ow, .int .i64 X] 115)).mono (by omega)))
        have HBE := Lib.hid (hbe.alloc hz6 (.cells #[.int .i64 (pcAt m k).kd, .int .i64 (pcAt m k).ow, .int .i64 X] 115))
        have HO2 := Lib.hid (hO.alloc (.cells #[.int .i64 (pcAt m k).kd, .int .i64 (pcAt m k).ow, .int .i64 X] 115))
        have HNEW := Lib.hid (Blk.new w6 #[.int .i64 (pcAt m k).kd, .int .i64 (pcAt m k).ow, .int .i64 X] 115)
        have hl1 := HL1.out
        have hmx : (menC side code m k).length + 1 ≤ maxLen := by have := HL1.out; unfold maxLen; omega
        obtain ⟨⟨u0, u1⟩, ⟨u2, u3⟩⟩ := q3.at2
        obtain ⟨⟨v0, v1⟩, _⟩ := q5.at2
        clear hc hb6 q1 q2 q3 q5 hG hbe hO
        go_wp2_with (at_builtin; refine wpList_append_own _ rfl _ _ 56 rfl (pb + 1) 115 i0 (.agg #[.int .i64 0, .int .i64 0, .int .i64 0]) 3 24 Tryz.underlying56 hi0 hzi0 hzi1 hzi2 rfl (by decide) _ _ _ rfl HO2.out ⟨w6.heap.size, 0, none⟩ 1 1 [.int .i64 (pcAt m k).kd, .int .i64 (pcAt m k).ow, .int .i64 X] rfl rfl (news3 HNEW.out) (fun u hu => by simp at hu; rcases hu with rfl | rfl | rfl <;> rfl) hmx (by omega) (by simp; omega) ?_; intro v2 w7 hown2 hgrow2 hnil2; have hO7 := OwnM.snoc (s := ⟨(pcAt m k).kd, (pcAt m k).ow, X⟩) hown2; obtain ⟨B7, c7, rfl⟩ := hO7.slice; have hb7 := HO2.out.base hgrow2 (Below.refl (pb + 1) _) (Nat.le_refl _) (by simp; omega); have r1 := Blk.below HQ1.out hb7 (by omega); have r2 := HQ2.out.below hb7 (by omega); have r3 := HQ3.out.below hb7 (by omega); have hG7 := HG.out.below (hb7.mono (by omega)); have hbe7 := HBE.out.trans (hb7.mono (by omega)); have hz7 := hbe7.size; have y3 := r3.lt; obtain ⟨⟨u0, u1⟩, ⟨u2, u3⟩⟩ := r3.at2; clear hown2 hgrow2 hnil2 hb7)
        go_roundw
        case rel => exact ⟨k + 1, B7, c7, by omega, by go_num, Lib.hid (fun h => by rw [HL.out] at h; simp at h), Lib.hid (cp_next HL.out hO7 r1 r2 r3 hG7 hbe7 hpz (by omega))⟩
        case measure => simp [intOf]; omega
    · obtain rfl : k = m.length := by omega
      have HL1 := Lib.hid (Nat.le_trans (menC_len side code m m.length) hm4)
      clear hI
      generalize menC side code m m.length = ML at *
      have hpb : pb + 1 ≤ wr.heap.size := by omega
      rcases Nat.eq_zero_or_pos ML.length with hz0 | hp0
      · obtain ⟨rfl, rfl⟩ := hnl.out hz0
        obtain rfl : ML = [] := List.length_eq_zero_iff.1 hz0
        have HV := Lib.hid (HPO.out [] (List.Perm.refl _) List.Pairwise.nil)
        obtain ⟨⟨u0, u1⟩, ⟨u2, u3⟩⟩ := q3.at2
        clear hO hG hnl hz0 HPO
        go_wp2_with fail
        refine (sortMen_nil _).mono ?_
        rintro e8 w8 ⟨rfl, rfl⟩
        clear u0 u1 u2 u3
        obtain ⟨l', hl'⟩ : ∃ l' : List St, l' = [] := ⟨_, rfl⟩
        obtain ⟨S, hSS⟩ : ∃ S : Option Addr, S = none := ⟨_, rfl⟩
        obtain ⟨es, hes⟩ : ∃ es : Nat, es = 0 := ⟨_, rfl⟩
        have hS : IsSteps wr wr.heap.size S l' := fun h => absurd h (by rw [hl']; simp)
        have hMA : MenA (pb + 1) wr.heap.size wr S l' := by rw [hl']; exact MenA.nil _ _ _ _
        have hlen : l'.length ≤ 4 := by rw [hl']; simp
        have q3 : Blk wr pb #[.int .i64 T, .slice S l'.length es] 58 := by rw [hl', hSS, hes]; exact q3
        rw [← hl'] at HV
        clear hl' hSS hes
        obtain ⟨w8, hw8⟩ : ∃ w8, w8 = wr := ⟨_, rfl⟩
        obtain ⟨⟨u0, u1⟩, ⟨u2, u3⟩⟩ := q3.at2
        obtain ⟨y0, y1, y2, y3⟩ := Blk.at4 q1
        obtain ⟨⟨v0, v1⟩, ⟨v2, v3⟩⟩ := q2.at2
        go_wp2_with fail
        refine (posOk_any _ _ _ _ _ _ _ _ _ ((hR.below hbe).more hbe.size) hS hsm (by omega)).mono ?_
        rw [show posB side ks T l' = posOk side ks T l' from by unfold posB; rw [HRO.out]; rfl, HTT.out, HV.out.1]
        rintro e9 w9 ⟨rfl, hb9⟩
        have q3 := q3.below hb9 z3
        have q2 := q2.below hb9 z2
        have hbe9 := hbe.trans (hb9.mono hbe.size)
        have hMA := (hMA.below hb9).more (Nat.le_refl _) hb9.size
        have z2 := q2.lt
        have z3 := q3.lt
        clear u0 u1 u2 u3 y0 y1 y2 y3 v0 v1 v2 v3 hb9
        obtain ⟨⟨u0, u1⟩, ⟨u2, u3⟩⟩ := q3.at2
        obtain ⟨⟨v0, v1⟩, ⟨v2, v3⟩⟩ := q2.at2
        cases hB : posIB side ks m code
        · have HB := Lib.hid (HIN.out.trans hB)
          clear hB
          have hx := (Blk.set2 q2 (.int .i64 0) (.slice none 0 0)).at2
          go_wp2_with fail
          refine bodyPost_ret (v := .tuple #[.agg #[.int .i64 0, .slice none 0 0], .bool false]) ?_ rfl (posRes_no HB.out ((hbe9.setCell (by show w.heap.size ≤ w.heap.size + 1; omega) _).setCell (by show w.heap.size ≤ w.heap.size + 1; omega) _))
          obtain ⟨⟨x0, x1⟩, _⟩ := hx
          simp [results, Tryz.results41, go_sem, x0, x1]
        · have HB := Lib.hid (HIN.out.trans hB)
          have HE := Lib.hid (HV.out.2 hB)
          clear hB
          have hx := (Blk.set2 q2 (.int .i64 T) (.slice S l'.length es)).at2
          go_wp2_with fail
          refine bodyPost_ret (v := .tuple #[.agg #[.int .i64 T, .slice S l'.length es], .bool true]) ?_ rfl ?_
          · obtain ⟨⟨x0, x1⟩, _⟩ := hx
            simp [results, Tryz.results41, go_sem, x0, x1]
          · obtain ⟨h1, h2⟩ := posCT_yes HB.out
            rw [HB.out, h1, h2, ← HE.out, ← HTT.out]
            exact ⟨S, es, pb + 1, w9.heap.size, rfl, by omega, by simp [World.setCell], (hMA.off _ _ (by show w.heap.size + 1 < pb + 1; omega)).off _ _ (by show w.heap.size + 1 < pb + 1; omega), (hbe9.setCell (by show w.heap.size ≤ w.heap.size + 1; omega) _).setCell (by show w.heap.size ≤ w.heap.size + 1; omega) _⟩
      · obtain ⟨gB, rfl⟩ : ∃ gB, B = some ⟨gB, 0, none⟩ := by
          rcases hO.2 with ⟨_, h0⟩ | ⟨gB, cap, cur, hv, _⟩
          · omega
          · injection hv with hv; exact ⟨gB, hv⟩
        obtain ⟨cs, hbk, hsz, hin, hgb⟩ := hO.blk rfl
        obtain ⟨⟨u0, u1⟩, ⟨u2, u3⟩⟩ := q3.at2
        have hl4 := HL1.out
        clear hO hG hnl
        go_wp2_with fail
        refine (sortMen_any _ _ _ _ _ hbk (by omega) hin).mono ?_
        rintro e8 w8 ⟨rfl, l', cs', hpm, hsrt, hbk', hsz', hin', hbel⟩
        have hlen' := hpm.length_eq
        have HV := Lib.hid (HPO.out l' hpm hsrt)
        have hb8 := hbel (pb + 1) hgb
        have q1 := Blk.below q1 hb8 (by omega)
        have q2 := q2.below hb8 (by omega)
        have q3 := q3.below hb8 (by omega)
        have hbe := hbe.trans (hb8.mono (by omega))
        have z1 := q1.lt
        have z2 := q2.lt
        have z3 := q3.lt
        clear u0 u1 u2 u3 hbel HPO hpm hsrt hbk hin
        obtain ⟨S, hSS⟩ : ∃ S : Option Addr, S = some ⟨gB, 0, none⟩ := ⟨_, rfl⟩
        rw [← hlen'] at q3 hsz hin'
        have hMA : MenA (pb + 1) w8.heap.size w8 S l' := fun _ => ⟨gB, cs', hSS, hgb, hbk'.lt, hbk', by omega, hin'⟩
        have hS : IsSteps w8 w8.heap.size S l' := hMA.is
        have hlen : l'.length ≤ 4 := by omega
        rw [← hSS] at q3
        obtain ⟨es, hes⟩ : ∃ es : Nat, es = e := ⟨_, rfl⟩
        rw [← hes] at q3
        have hz8 := hb8.size
        clear hes hSS hb8 hbk' hin' hsz hsz' hlen' hl4
        obtain ⟨⟨u0, u1⟩, ⟨u2, u3⟩⟩ := q3.at2
        obtain ⟨y0, y1, y2, y3⟩ := Blk.at4 q1
        obtain ⟨⟨v0, v1⟩, ⟨v2, v3⟩⟩ := q2.at2
        go_wp2_with fail
        refine (posOk_any _ _ _ _ _ _ _ _ _ ((hR.below hbe).more hbe.size) hS hsm (by omega)).mono ?_
        rw [show posB side ks T l' = posOk side ks T l' from by unfold posB; rw [HRO.out]; rfl, HTT.out, HV.out.1]
        rintro e9 w9 ⟨rfl, hb9⟩
        have q3 := q3.below hb9 z3
        have q2 := q2.below hb9 z2
        have hbe9 := hbe.trans (hb9.mono hbe.size)
        have hMA := (hMA.below hb9).more (Nat.le_refl _) hb9.size
        have z2 := q2.lt
        have z3 := q3.lt
        clear u0 u1 u2 u3 y0 y1 y2 y3 v0 v1 v2 v3 hb9
        obtain ⟨⟨u0, u1⟩, ⟨u2, u3⟩⟩ := q3.at2
        obtain ⟨⟨v0, v1⟩, ⟨v2, v3⟩⟩ := q2.at2
        cases hB : posIB side ks m code
        · have HB := Lib.hid (HIN.out.trans hB)
          clear hB
          have hx := (Blk.set2 q2 (.int .i64 0) (.slice none 0 0)).at2
          go_wp2_with fail
          refine bodyPost_ret (v := .tuple #[.agg #[.int .i64 0, .slice none 0 0], .bool false]) ?_ rfl (posRes_no HB.out ((hbe9.setCell (by show w.heap.size ≤ w.heap.size + 1; omega) _).setCell (by show w.heap.size ≤ w.heap.size + 1; omega) _))
          obtain ⟨⟨x0, x1⟩, _⟩ := hx
          simp [results, Tryz.results41, go_sem, x0, x1]
        · have HB := Lib.hid (HIN.out.trans hB)
          have HE := Lib.hid (HV.out.2 hB)
          clear hB
          have hx := (Blk.set2 q2 (.int .i64 T) (.slice S l'.length es)).at2
          go_wp2_with fail
          refine bodyPost_ret (v := .tuple #[.agg #[.int .i64 T, .slice S l'.length es], .bool true]) ?_ rfl ?_
          · obtain ⟨⟨x0, x1⟩, _⟩ := hx
            simp [results, Tryz.results41, go_sem, x0, x1]
          · obtain ⟨h1, h2⟩ := posCT_yes HB.out
            rw [HB.out, h1, h2, ← HE.out, ← HTT.out]
            exact ⟨S, es, pb + 1, w9.heap.size, rfl, by omega, by simp [World.setCell], (hMA.off _ _ (by show w.heap.size + 1 < pb + 1; omega)).off _ _ (by show w.heap.size + 1 < pb + 1; omega), (hbe9.setCell (by show w.heap.size ≤ w.heap.size + 1; omega) _).setCell (by show w.heap.size ≤ w.heap.size + 1; omega) _⟩
end Go.Proofs.YtmfcgikfgikbfaaGreatDoor.Ko

namespace Go.Proofs.YtmfcgikfgikbfaaGreatDoor.Ko
open Go.ChangeShapes Go.WideShapes Go.ChangeAt Go.RowKit Base Sq In
set_option linter.unusedVariables false
set_option maxRecDepth 20000
attribute [local irreducible] wpQuiet

/-- what holds at each round's head: k pieces are done -/
def LpInv (w wr : World) (side : Int) (A : Option Addr) (c n : Nat) (v : Value) (L : List St) : Prop :=
  Blk wr w.heap.size #[.int .i64 side, .slice A n c] 34 ∧ Blk wr (w.heap.size + 1) #[.int .i64 0, .slice none 0 0] 58 ∧ Blk wr (w.heap.size + 1 + 1) #[.int .i64 0, v] 58 ∧ PutA (w.heap.size + 1 + 1 + 1) wr v L ∧ Below w.heap.size w wr

set_option maxHeartbeats 8000000 in
theorem l7Pos_any (side : Int) (A : Option Addr) (c : Nat) (ks : List Kd) (M : Option Addr) (cm : Nat) (m : List Pc) (code : Int) (w : World) (hR : IsKinds w w.heap.size A ks) (hM : IsPcs w w.heap.size M m)
    (hok : matV side ks m = true) (h0 : 0 ≤ code) (h1 : code < numV side m.length) :
    Calls Tryz.prog 64 #[.agg #[.int .i64 side, .slice A ks.length c], .slice M m.length cm, .int .i64 code] w fun e w' => PosRes (posCB side ks m code) (posCT side ks m code) (posCL side ks m code) w w' e := by
  obtain ⟨hro, hm4⟩ := matV_facts hok
  obtain ⟨hs, _⟩ := rulesOk_facts hro
  have HSD := Lib.hid hs
  have HRO := Lib.hid hro
  have HIN := Lib.hid (posCB_in (s := side) (ks := ks) (m := m) h0 h1)
  have HR := Lib.hid (remK_bd hs h0 h1)
  have HNV := Lib.hid (fun k (hk : k ≤ 4) => numV_bd hs (k := k) hk)
  have HZ := Lib.hid (fun k (hk : k ≤ m.length) => And.intro (HR.out k hk).1 (Int.le_trans (Int.le_of_lt (HR.out k hk).2) (HNV.out (m.length - k) (by omega)).2))
  have HR2 := Lib.hid (fun j => show remK (side * side + 1) code (j + 1) = remK (side * side + 1) code j / (side * side + 1) from rfl)
  have HBAD := Lib.hid (fun k => posIB_bad (s := side) (ks := ks) (m := m) (code := code) (k := k))
  have HEND := Lib.hid (posIB_end (s := side) (ks := ks) (m := m) (code := code))
  have hss : 4 ≤ side * side ∧ side * side ≤ 16 := by rcases hs with rfl | rfl | rfl <;> omega
  have hw1 : IntKind.i64.wrap (side * side) = side * side := IntWalk.i64_in _ (by omega)
  have hw2 : IntKind.i64.wrap (side * side + 1) = side * side + 1 := IntWalk.i64_in _ (by omega)
  have hx0 : 0 ≤ code ∧ code ≤ 167042 := HZ.out 0 (by omega)
  clear hok hro hs h0 h1
  go_enter Tryz.func64, Tryz.ntmps64
  go_wp2_with fail
  have hb0 : Below w.heap.size w (((w.alloc (.cells #[.int .i64 side, .slice A ks.length c] 34)).alloc (.cells #[.int .i64 0, .slice none 0 0] 58)).alloc (.cells #[.int .i64 0, .slice none 0 0] 58)) := (by repeat (first | exact Below.refl _ _ | assumption | (refine Below.alloc ?_ (by first | omega | (simp; done) | (simp; omega)) _) | (refine Below.setCell ?_ (by first | omega | (simp; done) | (simp; omega)) _) | refine Below.drew ?_))
  have p1 := ((Blk.new w #[.int .i64 side, .slice A ks.length c] 34).alloc (.cells #[.int .i64 0, .slice none 0 0] 58)).alloc (.cells #[.int .i64 0, .slice none 0 0] 58)
  have p2 := (Blk.new (w.alloc (.cells #[.int .i64 side, .slice A ks.length c] 34)) #[.int .i64 0, .slice none 0 0] 58).alloc (.cells #[.int .i64 0, .slice none 0 0] 58)
  have p3 := Blk.new ((w.alloc (.cells #[.int .i64 side, .slice A ks.length c] 34)).alloc (.cells #[.int .i64 0, .slice none 0 0] 58)) #[.int .i64 0, .slice none 0 0] 58
  simp only [World.size_alloc] at p2 p3
  generalize hW0 : ((w.alloc _).alloc _).alloc _ = W0 at *
  clear hW0
  have hI0 : Hid (LpInv w W0 side A c ks.length (.slice none 0 0) (putC side code m 0)) := Lib.hid ⟨p1, p2, p3, .inl ⟨rfl, rfl⟩, hb0⟩
  clear p1 p2 p3 hb0
  have hbz : (side * side + 1 == 0) = false := by simp; omega
  have hw3 : IntKind.i64.wrap (side * side + 1 - 1) = side * side := by rw [show side * side + 1 - 1 = side * side by omega]; exact hw1
  have HLP := Lib.hid (fun k => putC_len side code m k)
  go_loopw [2, 10] (fun x i wr => ∃ (q : Nat) (v : Value) (Y : Int), q ≤ m.length ∧ i = .int .i64 ((q : Int) - 1) ∧ x = .int .i64 Y ∧ Hid (Y = remK (side * side + 1) code (m.length - q)) ∧ 0 ≤ Y ∧ Y ≤ 167042 ∧ Hid (∀ j, j < m.length - q → goodC side code m j = true) ∧
    Hid (LpInv w wr side A c ks.length v (putC side code m (m.length - q)))) (fun _ i _ => (intOf i + 1).toNat)
  case atStart => exact ⟨m.length, .slice none 0 0, code, Nat.le_refl _, rfl, rfl, Lib.hid (by rw [Nat.sub_self]; rfl), hx0.1, hx0.2, Lib.hid (fun j hj => absurd hj (by omega)), by rw [Nat.sub_self]; exact hI0⟩
  case round =>
    clear hI0 hx0
    obtain ⟨q, v, Y, hq, rfl, rfl, hY, hY0, hY1, hgood, hI⟩ := hrel
    obtain ⟨p1, p2, p3, hput, hbe⟩ := hI.out
    have hz := hbe.size
    have z1 := p1.lt
    have z2 := p2.lt
    have z3 := p3.lt
    obtain ⟨⟨r0, r1⟩, _⟩ := p1.at2
    obtain ⟨⟨u0, u1⟩, ⟨u2, u3⟩⟩ := p3.at2
    obtain ⟨⟨v0, v1⟩, ⟨v2, v3⟩⟩ := p2.at2
    rcases Nat.eq_zero_or_pos q with rfl | hq0
    · rw [Nat.sub_zero] at hY hgood
      rw [Nat.sub_zero] at hput
      have hlt : (((0 : Nat) : Int) - 1) < 0 := by omega
      have HEQ := Lib.hid (HEND.out hgood.out)
      have HYY := Lib.hid hY.out.symm
      obtain ⟨L, hL⟩ : ∃ L, L = putC side code m m.length := ⟨_, rfl⟩
      have HL := Lib.hid hL
      rw [← hL] at hput
      have HLL := Lib.hid (show L.length ≤ 4 by rw [hL]; have := HLP.out m.length; omega)
      obtain ⟨A', c', hv, hS, hMA⟩ : ∃ A' c', v = .slice A' L.length c' ∧ IsSteps wr wr.heap.size A' L ∧ MenA (w.heap.size + 1 + 1 + 1) wr.heap.size wr A' L := by
        rcases hput with ⟨h1, h2⟩ | ⟨_, A', c', h2, h3, _⟩
        · exact ⟨none, 0, by rw [h2, h1]; rfl, (fun h => absurd h (by rw [h1]; simp)), by rw [h1]; exact MenA.nil _ _ _ _⟩
        · exact ⟨A', c', h2, h3.is, h3⟩
      subst hv
      have hMA2 : MenA (w.heap.size + 1 + 1 + 1) (wr.setCell ⟨w.heap.size + 1 + 1, 0, none⟩ (.int .i64 Y)).heap.size (wr.setCell ⟨w.heap.size + 1 + 1, 0, none⟩ (.int .i64 Y)) A' L := (hMA.off _ _ (by show w.heap.size + 1 + 1 < _; omega)).more (Nat.le_refl _) (by simp [World.setCell])
      have q1 := p1.other ⟨w.heap.size + 1 + 1, 0, none⟩ (.int .i64 Y) (by show w.heap.size ≠ w.heap.size + 1 + 1; omega)
      have q2 := p2.other ⟨w.heap.size + 1 + 1, 0, none⟩ (.int .i64 Y) (by show w.heap.size + 1 ≠ w.heap.size + 1 + 1; omega)
      have q3 := p3.set 0 (.int .i64 Y)
      have hbe2 := hbe.setCell (p := ⟨w.heap.size + 1 + 1, 0, none⟩) (by show w.heap.size ≤ w.heap.size + 1 + 1; omega) (.int .i64 Y)
      clear hput hI hL hY hgood hS hMA
      go_wp2_with fail
      generalize hW4 : wr.setCell _ _ = W4 at *
      clear hW4 r0 r1 u0 u1 u2 u3 v0 v1 v2 v3 z1 z2 z3 hz p1 p2 p3 hbe
      have q3 : Blk W4 (w.heap.size + 1 + 1) #[.int .i64 Y, .slice A' L.length c'] 58 := q3
      have z2 := q2.lt
      have z3 := q3.lt
      refine (l3Ok_any _ _ _ _ _ _ _ _ _ ((hR.below hbe2).more hbe2.size) hMA2.is HRO.out (by have := HLL.out; omega)).mono ?_
      rintro e5 w5 ⟨rfl, hb5⟩
      have r2 := q2.below hb5 z2
      have r3 := q3.below hb5 z3
      have hbe5 := hbe2.trans (hb5.mono hbe2.size)
      have hMA5 := (hMA2.below hb5).more (Nat.le_refl _) hb5.size
      have hz5 := hb5.size
      obtain ⟨⟨u0, u1⟩, ⟨u2, u3⟩⟩ := r3.at2
      obtain ⟨⟨v0, v1⟩, ⟨v2, v3⟩⟩ := r2.at2
      have y2 := r2.lt
      have y3 := r3.lt
      have HPI := Lib.hid (show posIB side ks m code = posOk side ks Y L by rw [HEQ.out, HYY.out, ← HL.out])
      clear q1 q2 q3 hMA2 hb5 hbe2 z2 z3
      cases hB : posOk side ks Y L
      · have HB := Lib.hid (HIN.out.trans (HPI.out.trans hB))
        clear hB
        have hx := (Blk.set2 r2 (.int .i64 0) (.slice none 0 0)).at2
        go_wp2_with fail
        refine bodyPost_ret (v := .tuple #[.agg #[.int .i64 0, .slice none 0 0], .bool false]) ?_ rfl (posRes_no HB.out ((hbe5.setCell (by show w.heap.size ≤ w.heap.size + 1; omega) _).setCell (by show w.heap.size ≤ w.heap.size + 1; omega) _))
        obtain ⟨⟨x0, x1⟩, _⟩ := hx
        simp [results, Tryz.results64, go_sem, x0, x1]
      · have HB := Lib.hid (HIN.out.trans (HPI.out.trans hB))
        clear hB
        have hx := (Blk.set2 r2 (.int .i64 Y) (.slice A' L.length c')).at2
        go_wp2_with fail
        refine bodyPost_ret (v := .tuple #[.agg #[.int .i64 Y, .slice A' L.length c'], .bool true]) ?_ rfl ?_
        · obtain ⟨⟨x0, x1⟩, _⟩ := hx
          simp [results, Tryz.results64, go_sem, x0, x1]
        · obtain ⟨h1, h2⟩ := posCT_yes HB.out
          rw [HB.out, h1, h2, ← HL.out, HYY.out]
          exact ⟨A', c', w.heap.size + 1 + 1 + 1, w5.heap.size, rfl, by omega, by simp [World.setCell], (hMA5.off _ _ (by show w.heap.size + 1 < _; omega)).off _ _ (by show w.heap.size + 1 < _; omega), (hbe5.setCell (by show w.heap.size ≤ w.heap.size + 1; omega) _).setCell (by show w.heap.size ≤ w.heap.size + 1; omega) _⟩
    · obtain ⟨p, rfl⟩ : ∃ p, q = p + 1 := ⟨q - 1, by omega⟩
      rw [show (((p + 1 : Nat) : Int) - 1) = (p : Int) by omega]
      have hpm : p < m.length := by omega
      have hpm' : (p : Int) < (m.length : Int) := by omega
      have hk1 : m.length - p = (m.length - (p + 1)) + 1 := by omega
      have hx1 : 0 ≤ Y % (side * side + 1) := Int.emod_nonneg _ (by omega)
      have hx2 : Y % (side * side + 1) < side * side + 1 := Int.emod_lt_of_pos _ (by omega)
      have hd1 : 0 ≤ Y / (side * side + 1) := Int.ediv_nonneg hY0 (by omega)
      have hd2 : Y / (side * side + 1) ≤ Y := Int.ediv_le_self _ hY0
      have HY' := Lib.hid (show Y / (side * side + 1) = remK (side * side + 1) code (m.length - p) by rw [hk1, HR2.out, ← hY.out])
      obtain ⟨L, hL⟩ : ∃ L, L = putC side code m (m.length - (p + 1)) := ⟨_, rfl⟩
      have HL := Lib.hid hL
      rw [← hL] at hput
      have HLL := Lib.hid (show L.length ≤ 4 by rw [hL]; have := HLP.out (m.length - (p + 1)); omega)
      clear hL hI
      by_cases hc : Y % (side * side + 1) = side * side
      · have hd : (Y % (side * side + 1) == side * side) = true := by simp [hc]
        have HG : Hid (∀ j, j < m.length - p → goodC side code m j = true) := Lib.hid (by
          rw [hk1]
          refine all_succ hgood.out ?_
          unfold goodC; rw [← hY.out, decide_eq_true hc]; rfl)
        have HP : Hid (putC side code m (m.length - p) = L) := Lib.hid (by
          rw [hk1, HL.out]; simp only [putC]; rw [if_pos (by rw [← hY.out]; exact hc)])
        have HI := Lib.hid (show LpInv w wr side A c ks.length v L from ⟨p1, p2, p3, hput, hbe⟩)
        clear hc p1 p2 p3 hput hbe hY hgood
        go_wp2_with fail
        go_roundw
        case rel => exact ⟨p, v, _, by omega, by go_num, rfl, HY', by omega, by omega, HG, by rw [HP.out]; exact HI⟩
        case measure => simp [intOf]
      · have hd : (Y % (side * side + 1) == side * side) = false := by simp [hc]
        obtain ⟨A', c', hv, hS⟩ : ∃ A' c', v = .slice A' L.length c' ∧ IsSteps wr wr.heap.size A' L := by
          rcases hput with ⟨h1, h2⟩ | ⟨_, A', c', h2, h3, _⟩
          · exact ⟨none, 0, by rw [h2, h1]; rfl, fun h => absurd h (by rw [h1]; simp)⟩
          · exact ⟨A', c', h2, h3.is⟩
        subst hv
        obtain ⟨X, hX⟩ : ∃ X, X = Y % (side * side + 1) := ⟨_, rfl⟩
        have HX := Lib.hid hX
        have HC := Lib.hid hc
        have hmod : Y % (side * side + 1) = X := hX.symm
        rw [← hX] at hx1 hx2 hd
        clear hX hc
        go_wp2_with fail
        refine (l3Man_any _ _ _ _ _ _ hS (by have := HLL.out; omega)).mono ?_
        rintro e5 w5 ⟨rfl, hb5⟩
        have q1 := p1.below hb5 z1
        have q2 := p2.below hb5 z2
        have q3 := p3.below hb5 z3
        have hput := hput.below hb5
        have hbe5 := hbe.trans (hb5.mono hz)
        have hz5 := hbe5.size
        have z1 := q1.lt
        have z2 := q2.lt
        have z3 := q3.lt
        obtain ⟨mv, hmv⟩ : ∃ mv, mv = manV L X := ⟨_, rfl⟩
        have HMV := Lib.hid hmv
        rw [← hmv]
        clear r0 r1 u0 u1 u2 u3 v0 v1 v2 v3 p1 p2 p3 hbe hS hb5 hmv
        obtain ⟨⟨u0, u1⟩, ⟨u2, u3⟩⟩ := q3.at2
        obtain ⟨⟨v0, v1⟩, ⟨v2, v3⟩⟩ := q2.at2
        by_cases hm1 : mv = -1
        · subst hm1
          have hneg : decide ((0 : Int) ≤ -1) = false := by decide
          have HG : Hid (∀ j, j < m.length - p → goodC side code m j = true) := Lib.hid (by
            rw [hk1]
            refine all_succ hgood.out ?_
            unfold goodC; rw [← hY.out, ← HX.out, ← HL.out, ← HMV.out]; simp)
          have HP : Hid (putC side code m (m.length - p) = putL L ⟨(pcAt m p).kd, (pcAt m p).ow, X⟩) := Lib.hid (by
            rw [hk1, HL.out]; simp only [putC]
            rw [if_neg (by rw [← hY.out]; exact HC.out), ← hY.out, ← HX.out, show m.length - 1 - (m.length - (p + 1)) = p by omega])
          obtain ⟨bM, off, rfl, hBM, hcM⟩ := hM.below hbe5 (by omega)
          obtain ⟨s0, s1⟩ := hcM p hpm
          have zM : bM < w5.heap.size := by omega
          have HQ1 := Lib.hid q1
          have HQ2 := Lib.hid q2
          have HQ3 := Lib.hid q3
          have HBE := Lib.hid hbe5
          clear hcM q1 q2 q3 hbe5 hgood hY
          go_wp2_with fail
          rcases hput with ⟨hL0, hv⟩ | ⟨hLp, A'', c'', hv, hmA, hcc, hcm⟩
          · injection hv with hv1 hv2 hv3
            subst hv1
            subst hv3
            subst hL0
            have HS : Hid (∀ w', Below w5.heap.size w5 w' → (w'.cell? ⟨w.heap.size + 1 + 1, 1, none⟩ = some (.slice none 0 0) ∧ w'.cell? ⟨bM, off + p * 2, none⟩ = some (.int .i64 (pcAt m p).kd) ∧ w'.cell? ⟨bM, off + p * 2 + 1, none⟩ = some (.int .i64 (pcAt m p).ow))) := Lib.hid (fun w' hb => by
              obtain ⟨⟨_, a1⟩, _⟩ := (HQ3.out.below hb z3).at2
              exact ⟨a1, (hb.cell (p := ⟨bM, off + p * 2, none⟩) zM).trans s0, (hb.cell (p := ⟨bM, off + p * 2 + 1, none⟩) zM).trans s1⟩)
            have hw : Below w5.heap.size w5 w5.drew := (Below.refl _ _).drew
            clear u0 u1 u2 u3 v0 v1 v2 v3 s0 s1
            obtain ⟨t0, t1, t2⟩ := HS.out _ hw
            go_region_law
              (go_simp; go_at_call 100; refine (l4Put_nil _ _ _ _).mono ?_; rintro e6 w6 ⟨A6, c6, rfl, hm6, hb6, hc6, hcm6⟩; have hw6 := hw.size; have hw := hw.trans (hb6.mono hw.size); obtain ⟨t3, t4, t5⟩ := HS.out _ hw; obtain ⟨⟨g0, g1⟩, ⟨g2, g3⟩⟩ := (HQ3.out.below hw z3).at2)
            all_goals
              have hwz := hw.size
              have hdz : w5.heap.size ≤ w5.drew.heap.size := Nat.le_refl _
              go_wp2_with fail
              go_roundw
              case rel => exact ⟨p, _, _, by omega, by go_num, rfl, HY', by omega, by omega, HG, by
                rw [HP.out]
                exact Lib.hid ⟨(HQ1.out.below hw z1).other _ _ (by show w.heap.size ≠ w.heap.size + 1 + 1; omega), (HQ2.out.below hw z2).other _ _ (by show w.heap.size + 1 ≠ w.heap.size + 1 + 1; omega), (HQ3.out.below hw z3).set 1 _, .inr ⟨by simp [putL], A6, c6, rfl, ((hm6.off _ _ (by show w.heap.size + 1 + 1 < _; omega)).more (by omega) (by simp [World.setCell])), hc6, hcm6⟩, (HBE.out.trans (hw.mono hz5)).setCell (by show w.heap.size ≤ w.heap.size + 1 + 1; omega) _⟩⟩
              case measure => simp [intOf]
          · injection hv with hv1 hv2 hv3
            subst hv1
            subst hv3
            obtain ⟨gg, csg, hgA, _⟩ := hmA hLp
            have HMA := Lib.hid hmA
            subst hgA
            clear hmA
            have HS : Hid (∀ w', Below w5.heap.size w5 w' → (w'.cell? ⟨w.heap.size + 1 + 1, 1, none⟩ = some (.slice (some ⟨gg, 0, none⟩) L.length c') ∧ w'.cell? ⟨bM, off + p * 2, none⟩ = some (.int .i64 (pcAt m p).kd) ∧ w'.cell? ⟨bM, off + p * 2 + 1, none⟩ = some (.int .i64 (pcAt m p).ow))) := Lib.hid (fun w' hb => by
              obtain ⟨⟨_, a1⟩, _⟩ := (HQ3.out.below hb z3).at2
              exact ⟨a1, (hb.cell (p := ⟨bM, off + p * 2, none⟩) zM).trans s0, (hb.cell (p := ⟨bM, off + p * 2 + 1, none⟩) zM).trans s1⟩)
            have hw : Below w5.heap.size w5 w5.drew := (Below.refl _ _).drew
            clear u0 u1 u2 u3 v0 v1 v2 v3 s0 s1
            obtain ⟨t0, t1, t2⟩ := HS.out _ hw
            go_region_law
              (go_simp; go_at_call 100; refine (l4Put_any _ _ _ _ _ _ _ _ (((HMA.out.is).below hw).more hw.size) HLL.out hLp hcc hcm).mono ?_; rintro e6 w6 ⟨A6, c6, rfl, hm6, hb6, hc6, hcm6⟩; have hw6 := hw.size; have hw := hw.trans (hb6.mono hw.size); obtain ⟨t3, t4, t5⟩ := HS.out _ hw; obtain ⟨⟨g0, g1⟩, ⟨g2, g3⟩⟩ := (HQ3.out.below hw z3).at2)
            all_goals
              have hwz := hw.size
              have hdz : w5.heap.size ≤ w5.drew.heap.size := Nat.le_refl _
              go_wp2_with fail
              go_roundw
              case rel => exact ⟨p, _, _, by omega, by go_num, rfl, HY', by omega, by omega, HG, by
                rw [HP.out]
                exact Lib.hid ⟨(HQ1.out.below hw z1).other _ _ (by show w.heap.size ≠ w.heap.size + 1 + 1; omega), (HQ2.out.below hw z2).other _ _ (by show w.heap.size + 1 ≠ w.heap.size + 1 + 1; omega), (HQ3.out.below hw z3).set 1 _, .inr ⟨by rw [putL_len]; omega, A6, c6, rfl, ((hm6.off _ _ (by show w.heap.size + 1 + 1 < _; omega)).more (by omega) (by simp [World.setCell])), hc6, hcm6⟩, (HBE.out.trans (hw.mono hz5)).setCell (by show w.heap.size ≤ w.heap.size + 1 + 1; omega) _⟩⟩
              case measure => simp [intOf]
        · have hge : 0 ≤ mv := by rw [HMV.out]; exact (manV_far (by rw [← HMV.out]; exact hm1)).2.2
          have hneg : decide ((0 : Int) ≤ mv) = true := decide_eq_true hge
          have HB := Lib.hid (HIN.out.trans (HBAD.out (m.length - (p + 1)) (by omega) (by
            unfold goodC; rw [← hY.out, decide_eq_false HC.out, ← HX.out, ← HL.out, ← HMV.out, decide_eq_false hm1]; rfl)))
          have hx := (Blk.set2 q2 (.int .i64 0) (.slice none 0 0)).at2
          clear hm1 hge
          go_wp2_with fail
          refine bodyPost_ret (v := .tuple #[.agg #[.int .i64 0, .slice none 0 0], .bool false]) ?_ rfl (posRes_no HB.out ((hbe5.setCell (by show w.heap.size ≤ w.heap.size + 1; omega) _).setCell (by show w.heap.size ≤ w.heap.size + 1; omega) _))
          obtain ⟨⟨x0, x1⟩, _⟩ := hx
          simp [results, Tryz.results64, go_sem, x0, x1]
end Go.Proofs.YtmfcgikfgikbfaaGreatDoor.Ko

namespace Go.Proofs.YtmfcgikfgikbfaaGreatDoor.Ko
open Go.ChangeShapes Go.WideShapes Go.ChangeAt Go.RowKit Base Sq In
set_option linter.unusedVariables false
set_option maxRecDepth 20000
attribute [local irreducible] wpQuiet

/-- the value of a code at the beginning -/
def newAt (side : Int) (ks : List Kd) (m : List Pc) (code : Int) : Int :=
  if posCB side ks m code = true then (if stateV side ks (posCT side ks m code) (posCL side ks m code) = 2 then 2 else 1) else 0
def newL (side : Int) (ks : List Kd) (m : List Pc) (n : Nat) : List Int := (List.range n).map fun i : Nat => newAt side ks m i
theorem newL_len (side : Int) (ks : List Kd) (m : List Pc) (n : Nat) : (newL side ks m n).length = n := by simp [newL]
theorem newL_succ (side : Int) (ks : List Kd) (m : List Pc) (n : Nat) : newL side ks m (n + 1) = newL side ks m n ++ [newAt side ks m n] := by simp [newL, List.range_succ]
theorem newL_at {side : Int} {ks : List Kd} {m : List Pc} {n i : Nat} (h : i < n) : iAt (newL side ks m n) i = newAt side ks m i := by unfold iAt newL; simp [List.getD_eq_getElem?_getD, h]
/-- a position that a code has is valid -/
theorem posC_ok {side : Int} {ks : List Kd} {m : List Pc} {code : Int} (h : posCB side ks m code = true) : shapeB side ks (posCT side ks m code) (posCL side ks m code) = true ∧ posOk side ks (posCT side ks m code) (posCL side ks m code) = true := by
  obtain ⟨h1, h2⟩ := posCT_yes h
  rw [h1, h2]
  unfold posCB at h
  simp only [Bool.and_eq_true] at h
  have h3 := h.2
  unfold posIB at h3
  simp only [Bool.and_eq_true] at h3
  refine ⟨?_, h3.2⟩
  have h4 := h3.2
  unfold posOk at h4
  simp only [Bool.and_eq_true] at h4
  exact h4.1
theorem posRes_men {B : Bool} {T : Int} {L : List St} {w w' : World} {e : Ending} (h : PosRes B T L w w' e) : ∃ A c, e = .returned (.tuple #[.agg #[.int .i64 T, .slice A L.length c], .bool B]) ∧ MenA w.heap.size w'.heap.size w' A L ∧ Below w.heap.size w w' := by
  obtain ⟨A, c, lo, hi, he, h1, h2, h3, h4⟩ := h
  exact ⟨A, c, he, h3.more h1 h2, h4⟩
def IntsRes (L : List Int) (w w' : World) (e : Ending) : Prop := ∃ A c, e = .returned (.slice A L.length c) ∧ NewInts w.heap.size w'.heap.size w' A L ∧ Below w.heap.size w w'
theorem own_row0 {w : World} {base n : Nat} {v : Value} {l : List Int} (h : In.Own w base v l) (hn : l.length = n) : w.ownsRow base 3 1 v n (In.nums l) := by have := h; unfold In.Own at this; rwa [hn] at this

set_option maxHeartbeats 8000000 in
theorem l8New_any (side : Int) (A : Option Addr) (c : Nat) (ks : List Kd) (M : Option Addr) (cm : Nat) (m : List Pc) (N : Nat) (w : World) (hR : IsKinds w w.heap.size A ks) (hM : IsPcs w w.heap.size M m)
    (hok : matV side ks m = true) (hN : (N : Int) = numV side m.length) :
    Calls Tryz.prog 36 #[.agg #[.int .i64 side, .slice A ks.length c], .slice M m.length cm] w fun e w' => IntsRes (newL side ks m N) w w' e := by
  obtain ⟨hro, hm4⟩ := matV_facts hok
  obtain ⟨hs, _⟩ := rulesOk_facts hro
  have hnb := (numV_bd hs (k := m.length) hm4)
  obtain ⟨i0, hi, hz0, hz1, hz2⟩ := info_parts infoInt
  have HSD := Lib.hid hs
  have HRO := Lib.hid hro
  have HN := Lib.hid hN
  have HOK := Lib.hid hok
  have hN4 : N ≤ 167042 := by omega
  have HNA := Lib.hid (fun i : Nat => show newAt side ks m i = (if posCB side ks m i = true then (if stateV side ks (posCT side ks m i) (posCL side ks m i) = 2 then 2 else 1) else 0) from rfl)
  clear hro hs hok hnb
  go_enter Tryz.func36, Tryz.ntmps36
  go_wp2_with fail
  have hb0 : Below w.heap.size w ((w.alloc (.cells #[.int .i64 side, .slice A ks.length c] 34)).alloc (.cells #[] 3)) := (by repeat (first | exact Below.refl _ _ | assumption | (refine Below.alloc ?_ (by first | omega | (simp; done) | (simp; omega)) _) | (refine Below.setCell ?_ (by first | omega | (simp; done) | (simp; omega)) _) | refine Below.drew ?_))
  have p1 := (Blk.new w #[.int .i64 side, .slice A ks.length c] 34).alloc (.cells #[] 3)
  have p2 := Blk.new (w.alloc (.cells #[.int .i64 side, .slice A ks.length c] 34)) #[] 3
  simp only [World.size_alloc] at p2
  have hO0 : In.Own ((w.alloc (.cells #[.int .i64 side, .slice A ks.length c] 34)).alloc (.cells #[] 3)) (w.heap.size + 1) (.slice (some ⟨w.heap.size + 1, 0, none⟩) 0 0) (newL side ks m 0) := In.Own.empty (Nat.le_refl _) p2
  generalize hW0 : (w.alloc _).alloc _ = W0 at *
  clear hW0 p2
  go_loopw [5, 6] (fun x i wr => ∃ (k : Nat) (B : Option Addr) (d : Nat), k ≤ N ∧ i = .int .i64 k ∧ x = .slice B k d ∧ Hid (In.Own wr (w.heap.size + 1) (.slice B k d) (newL side ks m k)) ∧ Blk wr w.heap.size #[.int .i64 side, .slice A ks.length c] 34 ∧ Below w.heap.size w wr ∧ w.heap.size + 1 ≤ wr.heap.size) (fun _ i _ => N - (intOf i).toNat)
  case atStart => exact ⟨0, some ⟨w.heap.size + 1, 0, none⟩, 0, by omega, rfl, rfl, Lib.hid hO0, p1, hb0, by have := p1.lt; omega⟩
  case round =>
    clear hO0 p1 hb0
    obtain ⟨k, B, d, hk, rfl, rfl, hO, p1, hbe, hzw⟩ := hrel
    obtain ⟨⟨r0, r1⟩, _⟩ := p1.at2
    have hz := hbe.size
    have z1 := p1.lt
    go_wp2_with fail
    refine (l7Many_any side A c ks.length M cm m.length _ HSD.out hm4).mono ?_
    rw [← HN.out]
    rintro e2 w2 ⟨rfl, hb2⟩
    have q1 := p1.below hb2 z1
    have hbe2 := hbe.trans (hb2.mono hz)
    have HO2 := Lib.hid (hO.out.below hb2)
    have hz2' := hb2.size
    have z1 := q1.lt
    have hx2 := hbe2.size
    clear r0 r1 p1 hbe hb2 hO
    obtain ⟨⟨r0, r1⟩, _⟩ := q1.at2
    by_cases hlt : k < N
    · have hd : decide (k < N) = true := decide_eq_true hlt
      have hdi : decide ((k : Int) < (N : Int)) = true := decide_eq_true (by omega)
      go_wp2_with fail
      refine (l7Pos_any side A c ks M cm m k _ ((hR.below hbe2).more hbe2.size) ((hM.below hbe2).more hbe2.size) HOK.out (by omega) (by rw [← HN.out]; omega)).mono ?_
      rintro e3 w3 hpr
      obtain ⟨A3, c3, rfl, hMA0, hb3⟩ := posRes_men hpr
      have HVA := Lib.hid (HNA.out k)
      have HPK := Lib.hid (fun h => posC_ok (side := side) (ks := ks) (m := m) (code := (k : Int)) h)
      generalize posCT side ks m (k : Int) = T at *
      generalize posCL side ks m (k : Int) = L at *
      have hbP := below_of w3 (.cells #[.int .i64 T, .slice A3 L.length c3] 58)
      have hb4 := hb3.trans (hbP.mono hb3.size)
      have q13 := q1.below hb3 z1
      have z13 := q13.lt
      obtain ⟨⟨s0, s1⟩, _⟩ := q13.at2
      have q1 := q1.below hb4 z1
      have q2 := Blk.new w3 #[.int .i64 T, .slice A3 L.length c3] 58
      have hMA := (hMA0.below hbP).more (Nat.le_refl _) hbP.size
      clear hMA0
      have hbe4 := hbe2.trans (hb4.mono hbe2.size)
      have HO4 := Lib.hid (HO2.out.below hb4)
      have hz4 := hb4.size
      have z1 := q1.lt
      have z2 := q2.lt
      clear hpr hbP HO2 hbe2 r0 r1 q13
      cases hpb : posCB side ks m (k : Int)
      · have HVK := Lib.hid (show newAt side ks m k = 0 by rw [HVA.out, hpb]; rfl)
        clear hpb HVA HPK hMA q2 z2 s0 s1
        have HO5 := HO4
        have hbe5 := hbe4
        clear HO4 hbe4
        have hmax : k + 1 ≤ maxLen := by unfold maxLen; omega
        have HL := Lib.hid (newL_succ side ks m k)
        have hnw := Blk.new (w3.alloc (.cells #[.int .i64 T, .slice A3 L.length c3] 58)) #[.int .i64 0] 3
        try simp only [World.size_alloc] at hnw
        have HNEW := Lib.hid hnw
        have hO6 := HO5.out.below (below_of (w3.alloc (.cells #[.int .i64 T, .slice A3 L.length c3] 58)) (.cells #[.int .i64 0] 3))
        have HOX := Lib.hid hO6
        have HOR := Lib.hid (own_row0 hO6 (newL_len side ks m k))
        have HQ1 := Lib.hid (q1.alloc (.cells #[.int .i64 0] 3))
        have HBE := Lib.hid (hbe5.alloc hbe5.size (.cells #[.int .i64 0] 3))
        have hzx := hbe5.size
        try simp only [World.size_alloc] at hzx
        clear hnw hO6 q1 hbe5
        go_wp2_with (at_builtin; refine wpList_append_own _ rfl _ _ 28 rfl (w.heap.size + 1) 3 i0 (.int .i64 0) 1 8 Tryz.underlying28 hi hz0 hz1 hz2 rfl (by decide) _ _ _ rfl HOR.out ⟨w3.heap.size + 1, 0, none⟩ 1 1 [.int .i64 0] rfl rfl (fun j u hu => World.news_of_block HNEW.out j u hu) (fun u hu => by simp at hu; subst hu; rfl) hmax (by omega) (by simp; omega) ?_; intro v' w7 hown' hgrow7 hnil7; have hO7 : In.Own w7 (w.heap.size + 1) v' (newL side ks m (k + 1)) := (by unfold In.Own; rw [newL_len, HL.out, HVK.out, nums_snoc]; exact hown'); have hb7 := own_base HOX.out hgrow7 (Below.refl (w.heap.size + 1) _) (Nat.le_refl _) (by simp; omega); have hq7 := HQ1.out.below hb7 (by omega); have hbe7 := HBE.out.trans (hb7.mono (by omega)); have hz7 := hb7.size; obtain ⟨A7, c7, hv7⟩ := hO7.slice; rw [newL_len] at hv7; subst hv7; clear hown' hgrow7 hnil7 hb7)
        go_roundw
        case rel => exact ⟨k + 1, A7, c7, by omega, by go_num, rfl, Lib.hid hO7, hq7, hbe7, by have := hq7.lt; omega⟩
        case measure => simp [intOf]; omega
      · obtain ⟨hsh, hpo⟩ := HPK.out hpb
        obtain ⟨st, hst⟩ : ∃ st, st = stateV side ks T L := ⟨_, rfl⟩
        have HST := Lib.hid hst
        have HVB := Lib.hid (show newAt side ks m k = if st = 2 then 2 else 1 by rw [HVA.out, hpb, hst]; rfl)
        have HSH := Lib.hid hsh
        obtain ⟨⟨t0, t1⟩, _⟩ := q1.at2
        obtain ⟨⟨u0, u1⟩, _⟩ := q2.at2
        clear hpb HVA HPK hsh hpo hst
        go_wp2_with fail
        generalize hW4 : w3.alloc _ = W4 at *
        generalize hb4x : w3.heap.size = b4 at *
        clear hW4 s0 s1
        refine (l4State_any _ _ _ _ _ _ _ _ _ ((hR.below hbe4).more hbe4.size) hMA.is HRO.out HSH.out).mono ?_
        rw [← HST.out]
        rintro e5 w5 ⟨rfl, hb5⟩
        have q1 := q1.below hb5 z1
        have hbe5 := hbe4.trans (hb5.mono hbe4.size)
        have HO5 := Lib.hid (HO4.out.below hb5)
        clear HO4 hbe4 hb5 hMA q2 t0 t1 u0 u1 z1 z2
        by_cases hs2 : st = 2
        · have HVK := Lib.hid (HVB.out.trans (if_pos hs2))
          have hd2 : (st == 2) = true := by simp [hs2]
          clear hs2 HVB HST
          have hmax : k + 1 ≤ maxLen := by unfold maxLen; omega
          have HL := Lib.hid (newL_succ side ks m k)
          have hnw := Blk.new w5 #[.int .i64 2] 3
          try simp only [World.size_alloc] at hnw
          have HNEW := Lib.hid hnw
          have hO6 := HO5.out.below (below_of w5 (.cells #[.int .i64 2] 3))
          have HOX := Lib.hid hO6
          have HOR := Lib.hid (own_row0 hO6 (newL_len side ks m k))
          have HQ1 := Lib.hid (q1.alloc (.cells #[.int .i64 2] 3))
          have HBE := Lib.hid (hbe5.alloc hbe5.size (.cells #[.int .i64 2] 3))
          have hzx := hbe5.size
          try simp only [World.size_alloc] at hzx
          clear hnw hO6 q1 hbe5
          go_wp2_with (at_builtin; refine wpList_append_own _ rfl _ _ 28 rfl (w.heap.size + 1) 3 i0 (.int .i64 0) 1 8 Tryz.underlying28 hi hz0 hz1 hz2 rfl (by decide) _ _ _ rfl HOR.out ⟨w5.heap.size, 0, none⟩ 1 1 [.int .i64 2] rfl rfl (fun j u hu => World.news_of_block HNEW.out j u hu) (fun u hu => by simp at hu; subst hu; rfl) hmax (by omega) (by simp; omega) ?_; intro v' w7 hown' hgrow7 hnil7; have hO7 : In.Own w7 (w.heap.size + 1) v' (newL side ks m (k + 1)) := (by unfold In.Own; rw [newL_len, HL.out, HVK.out, nums_snoc]; exact hown'); have hb7 := own_base HOX.out hgrow7 (Below.refl (w.heap.size + 1) _) (Nat.le_refl _) (by simp; omega); have hq7 := HQ1.out.below hb7 (by omega); have hbe7 := HBE.out.trans (hb7.mono (by omega)); have hz7 := hb7.size; obtain ⟨A7, c7, hv7⟩ := hO7.slice; rw [newL_len] at hv7; subst hv7; clear hown' hgrow7 hnil7 hb7)
          go_roundw
          case rel => exact ⟨k + 1, A7, c7, by omega, by go_num, rfl, Lib.hid hO7, hq7, hbe7, by have := hq7.lt; omega⟩
          case measure => simp [intOf]; omega
        · have HVK := Lib.hid (HVB.out.trans (if_neg hs2))
          have hd2 : (st == 2) = false := by simp [hs2]
          clear hs2 HVB HST
          have hmax : k + 1 ≤ maxLen := by unfold maxLen; omega
          have HL := Lib.hid (newL_succ side ks m k)
          have hnw := Blk.new w5 #[.int .i64 1] 3
          try simp only [World.size_alloc] at hnw
          have HNEW := Lib.hid hnw
          have hO6 := HO5.out.below (below_of w5 (.cells #[.int .i64 1] 3))
          have HOX := Lib.hid hO6
          have HOR := Lib.hid (own_row0 hO6 (newL_len side ks m k))
          have HQ1 := Lib.hid (q1.alloc (.cells #[.int .i64 1] 3))
          have HBE := Lib.hid (hbe5.alloc hbe5.size (.cells #[.int .i64 1] 3))
          have hzx := hbe5.size
          try simp only [World.size_alloc] at hzx
          clear hnw hO6 q1 hbe5
          go_wp2_with (at_builtin; refine wpList_append_own _ rfl _ _ 28 rfl (w.heap.size + 1) 3 i0 (.int .i64 0) 1 8 Tryz.underlying28 hi hz0 hz1 hz2 rfl (by decide) _ _ _ rfl HOR.out ⟨w5.heap.size, 0, none⟩ 1 1 [.int .i64 1] rfl rfl (fun j u hu => World.news_of_block HNEW.out j u hu) (fun u hu => by simp at hu; subst hu; rfl) hmax (by omega) (by simp; omega) ?_; intro v' w7 hown' hgrow7 hnil7; have hO7 : In.Own w7 (w.heap.size + 1) v' (newL side ks m (k + 1)) := (by unfold In.Own; rw [newL_len, HL.out, HVK.out, nums_snoc]; exact hown'); have hb7 := own_base HOX.out hgrow7 (Below.refl (w.heap.size + 1) _) (Nat.le_refl _) (by simp; omega); have hq7 := HQ1.out.below hb7 (by omega); have hbe7 := HBE.out.trans (hb7.mono (by omega)); have hz7 := hb7.size; obtain ⟨A7, c7, hv7⟩ := hO7.slice; rw [newL_len] at hv7; subst hv7; clear hown' hgrow7 hnil7 hb7)
          go_roundw
          case rel => exact ⟨k + 1, A7, c7, by omega, by go_num, rfl, Lib.hid hO7, hq7, hbe7, by have := hq7.lt; omega⟩
          case measure => simp [intOf]; omega
    · obtain rfl : k = N := by omega
      have hd : decide (k < k) = false := decide_eq_false (by omega)
      have hdi : decide ((k : Int) < (k : Int)) = false := decide_eq_false (by omega)
      obtain ⟨A', c', hv, hNI⟩ := NewInts.of HO2.out
      rw [newL_len] at hv
      injection hv with hv1 hv2 hv3
      subst hv1
      subst hv3
      have HNI := Lib.hid hNI
      clear HO2 hNI
      go_wp2_with fail
      go_ret
      exact ⟨B, d, by rw [newL_len]; rfl, fun h => by
        obtain ⟨b, cs, h1, h2, h3, h4⟩ := HNI.out h
        exact ⟨b, cs, h1, by omega, h3, h4⟩, hbe2⟩
end Go.Proofs.YtmfcgikfgikbfaaGreatDoor.Ko

namespace Go.Proofs.YtmfcgikfgikbfaaGreatDoor.Ko
open Go.ChangeShapes Go.WideShapes Go.ChangeAt Go.RowKit Base Sq In
set_option linter.unusedVariables false
set_option maxRecDepth 20000
attribute [local irreducible] wpQuiet

/-- the values of GenNew -/
def genL (side : Int) (ks : List Kd) (m : List Pc) : List Int := if matV side ks m = true then newL side ks m (numV side m.length).toNat else []
def GenRes (L : List Int) (w w' : World) (e : Ending) : Prop := ∃ A c, e = .returned (.agg #[.int .i64 0, .int .i64 0, .slice A L.length c]) ∧ NewInts w.heap.size w'.heap.size w' A L ∧ Below w.heap.size w w'
theorem NewInts.off {lo hi : Nat} {w : World} {A : Option Addr} {l : List Int} (h : NewInts lo hi w A l) (a : Addr) (u : Value) (ha : a.block < lo) : NewInts lo hi (w.setCell a u) A l := fun hn => by
  obtain ⟨b, cs, rfl, h1, h2, h3, h4, h5⟩ := h hn
  exact ⟨b, cs, rfl, h1, h2, h3.other a u (by omega), h4, h5⟩
theorem NewInts.wide {lo hi lo' hi' : Nat} {w : World} {A : Option Addr} {l : List Int} (h : NewInts lo hi w A l) (h1 : lo' ≤ lo) (h2 : hi ≤ hi') : NewInts lo' hi' w A l := fun hn => by
  obtain ⟨b, cs, rfl, g1, g2, g3⟩ := h hn
  exact ⟨b, cs, rfl, by omega, by omega, g3⟩
theorem below_set3 {B : Nat} {w w' : World} (h : Below B w w') {b : Nat} (hb : B ≤ b) (x y z : Value) :
    Below B w (((w'.setCell ⟨b, 0, none⟩ x).setCell ⟨b, 1, none⟩ y).setCell ⟨b, 2, none⟩ z) :=
  ((h.setCell (p := ⟨b, 0, none⟩) hb _).setCell (p := ⟨b, 1, none⟩) hb _).setCell (p := ⟨b, 2, none⟩) hb _

set_option maxHeartbeats 4000000 in
theorem specGenNew_any (side : Int) (A : Option Addr) (c : Nat) (ks : List Kd) (M : Option Addr) (cm : Nat) (m : List Pc) (w : World) (hR : IsKinds w w.heap.size A ks) (hM : IsPcs w w.heap.size M m)
    (hsm : Small ks) (hm : m.length ≤ 1048576) :
    Calls Tryz.prog 8 #[.agg #[.int .i64 side, .slice A ks.length c], .slice M m.length cm] w fun e w' => GenRes (genL side ks m) w w' e := by
  have hb0 : Below w.heap.size w ((w.alloc (.cells #[.int .i64 side, .slice A ks.length c] 34)).alloc (.cells #[.int .i64 0, .int .i64 0, .slice none 0 0] 30)) := (by repeat (first | exact Below.refl _ _ | assumption | (refine Below.alloc ?_ (by first | omega | (simp; done) | (simp; omega)) _) | (refine Below.setCell ?_ (by first | omega | (simp; done) | (simp; omega)) _) | refine Below.drew ?_))
  have p1 := (Blk.new w #[.int .i64 side, .slice A ks.length c] 34).alloc (.cells #[.int .i64 0, .int .i64 0, .slice none 0 0] 30)
  have p2 := Blk.new (w.alloc (.cells #[.int .i64 side, .slice A ks.length c] 34)) #[.int .i64 0, .int .i64 0, .slice none 0 0] 30
  simp only [World.size_alloc] at p2
  go_enter Tryz.func8, Tryz.ntmps8
  go_wp2_with fail
  generalize hW0 : (w.alloc _).alloc _ = W0 at *
  clear hW0
  refine (specMatOk_any _ _ _ _ _ _ _ _ ((hR.below hb0).more hb0.size) ((hM.below hb0).more hb0.size) hsm hm).mono ?_
  rintro e w2 ⟨rfl, hb2⟩
  have q1 := p1.below hb2 p1.lt
  have q2 := p2.below hb2 p2.lt
  have hbe := hb0.trans (hb2.mono hb0.size)
  have y1 := q1.lt
  have y2 := q2.lt
  obtain ⟨⟨r0, r1⟩, _⟩ := q1.at2
  obtain ⟨⟨u0, u1, u2⟩, ⟨v0, v1, v2⟩⟩ := q2.at3
  clear p1 p2 hb0 hb2
  cases hok : matV side ks m
  · have HG := Lib.hid (show genL side ks m = [] by unfold genL; rw [hok]; rfl)
    have hx := (Blk.set3 q2 (.int .i64 0) (.int .i64 0) (.slice none 0 0)).at3
    have hB := below_set3 hbe (b := w.heap.size + 1) (by omega) (.int .i64 0) (.int .i64 0) (.slice none 0 0)
    clear hok hbe
    go_wp2_with fail
    refine bodyPost_ret (v := .agg #[.int .i64 0, .int .i64 0, .slice none 0 0]) ?_ rfl ⟨none, 0, by rw [HG.out]; rfl, by rw [HG.out]; exact fun h => absurd h (by simp), hB⟩
    obtain ⟨⟨x0, x1, x2⟩, _⟩ := hx
    simp [results, Tryz.results8, go_sem, x0, x1, x2]
  · obtain ⟨hro, hm4⟩ := matV_facts hok
    obtain ⟨hs, _⟩ := rulesOk_facts hro
    have hnb := (numV_bd hs (k := m.length) hm4)
    obtain ⟨N, hN⟩ : ∃ N : Nat, (N : Int) = numV side m.length := ⟨(numV side m.length).toNat, Int.toNat_of_nonneg (by omega)⟩
    have HG := Lib.hid (show genL side ks m = newL side ks m N by unfold genL; rw [if_pos hok, ← hN, Int.toNat_natCast])
    have HOK := Lib.hid hok
    have HN := Lib.hid hN
    clear hro hs hnb hok hN
    go_wp2_with fail
    refine (l8New_any _ _ _ _ _ _ _ N _ ((hR.below hbe).more hbe.size) ((hM.below hbe).more hbe.size) HOK.out HN.out).mono ?_
    rintro e w3 ⟨A3, c3, rfl, hNI, hb3⟩
    have q2 := q2.below hb3 y2
    have hbe3 := hbe.trans (hb3.mono hbe.size)
    have hz3 := hb3.size
    have y2 := q2.lt
    clear r0 r1 u0 u1 u2 v0 v1 v2 hbe hb3
    obtain ⟨⟨u0, u1, u2⟩, ⟨v0, v1, v2⟩⟩ := q2.at3
    have hx := (Blk.set3 q2 (.int .i64 0) (.int .i64 0) (.slice A3 (newL side ks m N).length c3)).at3
    have hB := below_set3 hbe3 (b := w.heap.size + 1) (by omega) (.int .i64 0) (.int .i64 0) (.slice A3 (newL side ks m N).length c3)
    have HNI := Lib.hid ((((hNI.off ⟨w.heap.size + 1, 0, none⟩ (.int .i64 0) (by show w.heap.size + 1 < _; omega)).off ⟨w.heap.size + 1, 1, none⟩ (.int .i64 0) (by show w.heap.size + 1 < _; omega)).off ⟨w.heap.size + 1, 2, none⟩ (.slice A3 (newL side ks m N).length c3) (by show w.heap.size + 1 < _; omega)).wide (lo' := w.heap.size) (hi' := (((w3.setCell ⟨w.heap.size + 1, 0, none⟩ (.int .i64 0)).setCell ⟨w.heap.size + 1, 1, none⟩ (.int .i64 0)).setCell ⟨w.heap.size + 1, 2, none⟩ (.slice A3 (newL side ks m N).length c3)).heap.size) (by omega) (by simp [World.setCell]))
    clear hNI hbe3
    go_wp2_with fail
    refine bodyPost_ret (v := .agg #[.int .i64 0, .int .i64 0, .slice A3 (newL side ks m N).length c3]) ?_ rfl ⟨A3, c3, by rw [HG.out], by rw [HG.out]; exact HNI.out, hB⟩
    obtain ⟨⟨x0, x1, x2⟩, _⟩ := hx
    simp [results, Tryz.results8, go_sem, x0, x1, x2]
end Go.Proofs.YtmfcgikfgikbfaaGreatDoor.Ko

namespace Go.Proofs.YtmfcgikfgikbfaaGreatDoor.Ko
open Go.ChangeShapes Go.WideShapes Go.ChangeAt Go.RowKit Base Sq In
set_option linter.unusedVariables false
set_option maxRecDepth 20000
attribute [local irreducible] wpQuiet

/-- the first value of a position by its moves and check -/
def fvV (n : Nat) (b : Bool) : Int := if n = 0 then (if b = true then 2 else 1) else 1
theorem fv_state (side : Int) (ks : List Kd) (t : Int) (l : List St) : (if stateV side ks t l = 2 then (2 : Int) else 1) = fvV (movesL side ks t l).length (checkB side ks l t) := by
  unfold stateV fvV
  rcases Nat.eq_zero_or_pos (movesL side ks t l).length with h | h
  · rw [h]; cases checkB side ks l t <;> rfl
  · rw [if_pos h, if_neg (by omega : ¬ (movesL side ks t l).length = 0)]; rfl
theorem made_zero {w : World} {g n : Nat} {T : TypeId} (h : w.ownsRow g T 1 (.slice (some ⟨g, 0, none⟩) n n) n (madeCells #[.int .i64 0] (n * 1)).toList) : ∃ cur : Array Value, Blk w g cur T ∧ cur.size = n * 1 ∧ ∀ j, j < n → cur[j]? = some (.int .i64 0) := by
  rcases h.2 with ⟨h', _⟩ | ⟨g', cap', cur, h', _, hg, _, _, hs, ht⟩
  · simp at h'
  · simp only [Value.slice.injEq, Option.some.injEq, Addr.mk.injEq, and_true, true_and] at h'
    obtain ⟨rfl, rfl⟩ := h'
    refine ⟨cur, hg, hs, fun j hj => ?_⟩
    rw [toList_madeCells_one, List.take_of_length_le (by simp; omega)] at ht
    have : cur.toList[j]? = some (.int .i64 0) := by rw [ht]; simp [List.getElem?_replicate]; omega
    simpa using this

set_option maxHeartbeats 2000000 in
theorem firstVal_any (side : Int) (A : Option Addr) (c : Nat) (ks : List Kd) (M : Option Addr) (cm m : Nat) (D : Option Addr) (d : Nat) (t : Int) (Q : Option Addr) (cq : Nat) (l : List St) (n : Nat) (w : World) (hR : IsKinds w w.heap.size A ks) (hQ : IsSteps w w.heap.size Q l)
    (hok : rulesOk side ks = true) (hsh : shapeB side ks t l = true) (hn : n ≤ 64) :
    Calls Tryz.prog 42 #[.agg #[.int .i64 side, .slice A ks.length c, .slice M m cm, .slice D (m + 1) d], .agg #[.int .i64 t, .slice Q l.length cq], .int .i64 n] w fun e w' => e = .returned (.int .i64 (fvV n (checkB side ks l t))) ∧ Below w.heap.size w w' := by
  have hb0 : Below w.heap.size w ((w.alloc (.cells #[.int .i64 side, .slice A ks.length c, .slice M m cm, .slice D (m + 1) d] 74)).alloc (.cells #[.int .i64 t, .slice Q l.length cq] 58)) := (by repeat (first | exact Below.refl _ _ | assumption | (refine Below.alloc ?_ (by first | omega | (simp; done) | (simp; omega)) _) | (refine Below.setCell ?_ (by first | omega | (simp; done) | (simp; omega)) _) | refine Below.drew ?_))
  have HB0 := Lib.hid hb0
  have HR := Lib.hid hR
  have HQ := Lib.hid hQ
  have HOK := Lib.hid hok
  have HSH := Lib.hid hsh
  have HT := Lib.hid (shapeB_facts hsh).1
  clear hb0 hR hQ hok hsh
  go_enter Tryz.func42, Tryz.ntmps42
  by_cases h0 : n = 0
  · subst h0
    go_wp2_with fail
    refine (inCheck_any side A c ks Q cq l t t _ ((HR.out.below HB0.out).more HB0.out.size) ((HQ.out.below HB0.out).more HB0.out.size) HOK.out HSH.out (by have := HT.out; omega)).mono ?_
    rintro e w2 ⟨rfl, hb2⟩
    have HBE := Lib.hid (HB0.out.trans (hb2.mono HB0.out.size))
    clear hb2
    cases hck : checkB side ks l t
    · go_wp2_with fail
      go_ret
      exact ⟨by rw [hck]; rfl, HBE.out⟩
    · go_wp2_with fail
      go_ret
      exact ⟨by rw [hck]; rfl, HBE.out⟩
  · have HV := Lib.hid (show fvV n (checkB side ks l t) = 1 by unfold fvV; rw [if_neg h0])
    have hd : ((n : Int) == 0) = false := by simp; omega
    go_wp2_with fail
    go_ret
    exact ⟨by rw [HV.out]; rfl, HB0.out⟩

set_option maxHeartbeats 8000000 in
theorem GenNew_any (side : Int) (A : Option Addr) (c : Nat) (ks : List Kd) (M : Option Addr) (cm : Nat) (m : List Pc) (w : World) (hR : IsKinds w w.heap.size A ks) (hM : IsPcs w w.heap.size M m) (hT : TabAt w)
    (hsm : Small ks) (hm : m.length ≤ 1048576) :
    Calls Tryz.prog 11 #[.agg #[.int .i64 side, .slice A ks.length c], .slice M m.length cm] w fun e w' => GenRes (genL side ks m) w w' e := by
  obtain ⟨i0, hi, hz0, hz1, hz2⟩ := info_parts infoInt
  have hb0 : Below w.heap.size w ((w.alloc (.cells #[.int .i64 side, .slice A ks.length c] 34)).alloc (.cells #[.int .i64 0, .int .i64 0, .slice none 0 0] 30)) := (by repeat (first | exact Below.refl _ _ | assumption | (refine Below.alloc ?_ (by first | omega | (simp; done) | (simp; omega)) _) | (refine Below.setCell ?_ (by first | omega | (simp; done) | (simp; omega)) _) | refine Below.drew ?_))
  have p1 := (Blk.new w #[.int .i64 side, .slice A ks.length c] 34).alloc (.cells #[.int .i64 0, .int .i64 0, .slice none 0 0] 30)
  have p2 := Blk.new (w.alloc (.cells #[.int .i64 side, .slice A ks.length c] 34)) #[.int .i64 0, .int .i64 0, .slice none 0 0] 30
  simp only [World.size_alloc] at p2
  go_enter Tryz.func11, Tryz.ntmps11
  go_wp2_with fail
  generalize hW0 : (w.alloc _).alloc _ = W0 at *
  clear hW0
  refine (coderOf_any _ _ _ _ _ _ _ _ ((hR.below hb0).more hb0.size) ((hM.below hb0).more hb0.size) hsm hm).mono ?_
  rintro e w2 ⟨cv, rfl, hno, hyes, hb2⟩
  have q1 := p1.below hb2 p1.lt
  have q2 := p2.below hb2 p2.lt
  have hbe := hb0.trans (hb2.mono hb0.size)
  have y1 := q1.lt
  have y2 := q2.lt
  clear p1 p2 hb0 hb2
  cases hok : matV side ks m
  · have HG := Lib.hid (show genL side ks m = [] by unfold genL; rw [hok]; rfl)
    obtain rfl := hno hok
    clear hno hyes
    unfold nilCoder
    obtain ⟨⟨u0, u1, u2⟩, ⟨v0, v1, v2⟩⟩ := q2.at3
    have hx := ((Blk.set3 q2 (.int .i64 0) (.int .i64 0) (.slice none 0 0)).alloc (.cells #[.int .i64 0, .slice none 0 0, .slice none 0 0, .slice none 0 0] 74)).at3
    have hB0 := below_set3 hbe (b := w.heap.size + 1) (by omega) (.int .i64 0) (.int .i64 0) (.slice none 0 0)
    have hB := hB0.alloc hB0.size (.cells #[.int .i64 0, .slice none 0 0, .slice none 0 0, .slice none 0 0] 74)
    clear hok hbe q1 q2 hB0
    go_wp2_with fail
    refine bodyPost_ret (v := .agg #[.int .i64 0, .int .i64 0, .slice none 0 0]) ?_ rfl ⟨none, 0, by rw [HG.out]; rfl, by rw [HG.out]; exact fun h => absurd h (by simp), hB⟩
    obtain ⟨⟨x0, x1, x2⟩, _⟩ := hx
    simp [results, Tryz.results11, go_sem, x0, x1, x2]
  · obtain ⟨hro, hm4⟩ := matV_facts hok
    obtain ⟨hs, _⟩ := rulesOk_facts hro
    obtain ⟨D, cd, rfl, hD⟩ := hyes hok
    have hnb := (numV_bd hs (k := m.length) hm4)
    obtain ⟨N, hN⟩ : ∃ N : Nat, (N : Int) = numV side m.length := ⟨(numV side m.length).toNat, Int.toNat_of_nonneg (by omega)⟩
    have HG := Lib.hid (show genL side ks m = newL side ks m N by unfold genL; rw [if_pos hok, ← hN, Int.toNat_natCast])
    have HOK := Lib.hid hok
    have HRO := Lib.hid hro
    have HS := Lib.hid hs
    have HN := Lib.hid hN
    have hN4 : 2 ≤ N ∧ N ≤ 167042 := by omega
    have HM4 := Lib.hid hm4
    clear hno hyes hok hro hs hnb hN hm4
    have hbC := below_of w2 (.cells #[.int .i64 side, .slice A ks.length c, .slice M m.length cm, .slice D (m.length + 1) cd] 74)
    have p3 := Blk.new w2 #[.int .i64 side, .slice A ks.length c, .slice M m.length cm, .slice D (m.length + 1) cd] 74
    have q1 := q1.alloc (.cells #[.int .i64 side, .slice A ks.length c, .slice M m.length cm, .slice D (m.length + 1) cd] 74)
    have q2 := q2.alloc (.cells #[.int .i64 side, .slice A ks.length c, .slice M m.length cm, .slice D (m.length + 1) cd] 74)
    have hbe := hbe.trans (hbC.mono hbe.size)
    have HD := Lib.hid ((hD.below hbC).more hbC.size)
    go_wp2_with fail
    have hzC : w2.heap.size < (w2.alloc (.cells #[.int .i64 side, .slice A ks.length c, .slice M m.length cm, .slice D (m.length + 1) cd] 74)).heap.size := by simp
    generalize hWC : w2.alloc _ = WC at *
    generalize hgc : w2.heap.size = gc at *
    clear hWC hD hbC hgc
    refine (many_any _ _ _ _ _ _ _ _ _ _ HD.out HS.out HM4.out).mono ?_
    rintro e w3 ⟨rfl, hb3⟩
    rw [← HN.out]
    have p3 := p3.below hb3 p3.lt
    have y1 := q1.lt
    have y2 := q2.lt
    have q1 := q1.below hb3 y1
    have q2 := q2.below hb3 y2
    have hbe := hbe.trans (hb3.mono hbe.size)
    have HD := Lib.hid ((HD.out.below hb3).more hb3.size)
    have hz3 := hb3.size
    clear hb3
    go_wp2_with (at_make; refine wpList_make_full _ rfl _ _ _ rfl w3.heap.size 3 i0 (.int .i64 0) 1 Tryz.underlying28 hi hz0 hz1 .i64 .i64 _ _ N (by rfl) (by rfl) rfl rfl (by rw [hz2]; omega) (by unfold maxLen; omega) (Nat.le_refl _) ?_; intro w4 hown hgrow)
    obtain ⟨cur, hblk, hsz, hzero⟩ := made_zero hown
    have hb4 := below_of_grown hgrow (Nat.le_refl w3.heap.size)
    have HSZ := Lib.hid hsz
    have HZ := Lib.hid (show ∀ j, j < N → cur[j]? = some (.int .i64 (if j < 0 then newAt side ks m j else 0)) from fun j hj => by rw [if_neg (by omega)]; exact hzero j hj)
    have HT := Lib.hid (hT.keep hbe)
    have HR := Lib.hid ((hR.below hbe).more hbe.size)
    have HM := Lib.hid ((hM.below hbe).more hbe.size)
    have HBE := Lib.hid hbe
    have HSM := Lib.hid hsm
    have HNA := Lib.hid (fun i : Nat => show newAt side ks m i = (if posCB side ks m i = true then (if stateV side ks (posCT side ks m i) (posCL side ks m i) = 2 then 2 else 1) else 0) from rfl)
    have hg1 : w.heap.size < w3.heap.size := by omega
    have hg2 : w.heap.size + 1 < w3.heap.size := by omega
    have hg3 : gc < w3.heap.size := by omega
    generalize hvb : w3.heap.size = vb at *
    clear hown hgrow hsz hzero hT hR hM hsm hi hz0 hz1 hz2 y1 y2 hz3 hzC hm hbe
    go_loopw [25] (fun i wr => ∃ (k : Nat) (cs : Array Value), k ≤ N ∧ i = .int .i64 k ∧ cs.size = N * 1 ∧ Hid (∀ j, j < N → cs[j]? = some (.int .i64 (if j < k then newAt side ks m j else 0))) ∧ Blk wr vb cs 3 ∧ Below vb w3 wr) (fun i _ => N - (intOf i).toNat)
    case atStart => exact ⟨0, cur, by omega, rfl, HSZ.out, HZ, hblk, hb4⟩
    case round =>
      clear hblk hb4 HSZ HZ
      obtain ⟨k, cs, hk, rfl, hsz, hin, hb, hbw⟩ := hrel
      have HSZ := Lib.hid hsz
      have hzw : w3.heap.size ≤ wr.heap.size := hbw.size
      rw [hvb] at hzw
      have zb := hb.lt
      have r1 := q1.below hbw hg1
      have r2 := q2.below hbw hg2
      have r3 := p3.below hbw hg3
      have HBE1 := Lib.hid (HBE.out.trans (hbw.mono (by rw [← hvb]; exact HBE.out.size)))
      have HD1 := Lib.hid ((HD.out.below hbw).more hzw)
      by_cases hlt : k < N
      · have hdi : decide ((k : Int) < (N : Int)) = true := decide_eq_true (by omega)
        obtain ⟨a0, a1, a2, a3⟩ := Blk.at4 r3
        clear hsz
        go_wp2_with fail
        refine (pos_any side A c ks M cm m D cd (k : Int) _ ((HR.out.below hbw).more hzw) ((HM.out.below hbw).more hzw) HD1.out HOK.out HSM.out).mono ?_
        rintro e5 w5 hpr
        obtain ⟨A5, c5, rfl, hMA, hb5⟩ := posRes_men hpr
        have HVA := Lib.hid (HNA.out k)
        have HPK := Lib.hid (fun h => posC_ok (side := side) (ks := ks) (m := m) (code := (k : Int)) h)
        generalize posCT side ks m (k : Int) = T at *
        generalize posCL side ks m (k : Int) = L at *
        have hbP := hb5.trans ((below_of w5 (.cells #[.int .i64 T, .slice A5 L.length c5] 58)).mono hb5.size)
        have p5 := Blk.new w5 #[.int .i64 T, .slice A5 L.length c5] 58
        have hMP := (hMA.below (below_of w5 (.cells #[.int .i64 T, .slice A5 L.length c5] 58))).more (Nat.le_refl _) (below_of w5 (.cells #[.int .i64 T, .slice A5 L.length c5] 58)).size
        have hbw5 := hbw.trans (hbP.mono hzw)
        have hzb5 : vb < w5.heap.size := by have := hb5.size; omega
        have hb' := hb.below hbP zb
        have r1' := r1.below hbP r1.lt
        have r3' := r3.below hbP r3.lt
        have zb' := hb'.lt
        have zr1 := r1'.lt
        have zr3 := r3'.lt
        have z5 := p5.lt
        have HIN := Lib.hid hin.out
        clear hpr hMA hb r1 r2 r3 a0 a1 a2 a3 hin hb5
        cases hpb : posCB side ks m (k : Int)
        · have HVK := Lib.hid (show newAt side ks m k = 0 by rw [HVA.out, hpb]; rfl)
          clear hpb HVA HPK hMP p5
          go_wp2_with fail
          go_roundw
          case rel => exact ⟨k + 1, cs, by omega, by go_num, HSZ.out, Lib.hid (fun j hj => by
            rw [HIN.out j hj]
            by_cases h1 : j < k
            · rw [if_pos h1, if_pos (by omega)]
            · by_cases h2 : j = k
              · subst h2; rw [if_neg h1, if_pos (by omega), HVK.out]
              · rw [if_neg h1, if_neg (by omega)]), hb', hbw5⟩
          case measure => simp [intOf]; omega
        · obtain ⟨hsh, hpo⟩ := HPK.out hpb
          have HVK := Lib.hid (show newAt side ks m k = fvV (movesL side ks T L).length (checkB side ks L T) by rw [HVA.out, hpb, ← fv_state]; rfl)
          have HML := Lib.hid (movesL_len (ks := ks) (t := T) HS.out (shapeB_facts hsh).2.1)
          have HSH := Lib.hid hsh
          have HP5 := Lib.hid p5
          have HR1 := Lib.hid r1'
          have HR3 := Lib.hid r3'
          have HBV := Lib.hid hb'
          have HBW := Lib.hid hbw5
          have hzw5 := hbw5.size
          rw [hvb] at hzw5
          have HRK := Lib.hid ((HR.out.below hbw5).more hzw5)
          have HMS := Lib.hid hMP.is
          have HTT := Lib.hid (HT.out.keep (by rw [hvb]; exact hbw5))
          clear hpb HVA HPK hsh hpo hMP
          go_wp2_with fail
          generalize hW : w5.alloc _ = W at *
          generalize hb5x : w5.heap.size = b5 at *
          clear hW r1' r3' hb' hbw5 p5 hbP hbw
          have HS : Hid (∀ w', Below W.heap.size W w' → (w'.cell? ⟨b5, 0, none⟩ = some (.int .i64 T) ∧ w'.cell? ⟨b5, 1, none⟩ = some (.slice A5 L.length c5) ∧ w'.cell? ⟨gc, 0, none⟩ = some (.int .i64 side) ∧ w'.cell? ⟨gc, 1, none⟩ = some (.slice A ks.length c) ∧ w'.cell? ⟨gc, 2, none⟩ = some (.slice M m.length cm) ∧ w'.cell? ⟨gc, 3, none⟩ = some (.slice D (m.length + 1) cd) ∧ w'.cell? ⟨w.heap.size, 0, none⟩ = some (.int .i64 side) ∧ w'.cell? ⟨w.heap.size, 1, none⟩ = some (.slice A ks.length c))) := Lib.hid (fun w' hb => by
            obtain ⟨⟨a0, a1⟩, _⟩ := (HP5.out.below hb z5).at2
            obtain ⟨b0, b1, b2, b3⟩ := Blk.at4 (HR3.out.below hb zr3)
            obtain ⟨⟨e0, e1⟩, _⟩ := (HR1.out.below hb zr1).at2
            exact ⟨a0, a1, b0, b1, b2, b3, e0, e1⟩)
          have hw : Below W.heap.size W W.drew := (Below.refl _ _).drew
          have HSS : Hid (∀ w' u, Below W.heap.size W w' → ((w'.setCell ⟨vb, k, none⟩ u).cell? ⟨b5, 0, none⟩ = some (.int .i64 T) ∧ (w'.setCell ⟨vb, k, none⟩ u).cell? ⟨b5, 1, none⟩ = some (.slice A5 L.length c5) ∧ (w'.setCell ⟨vb, k, none⟩ u).cell? ⟨gc, 0, none⟩ = some (.int .i64 side) ∧ (w'.setCell ⟨vb, k, none⟩ u).cell? ⟨gc, 1, none⟩ = some (.slice A ks.length c) ∧ (w'.setCell ⟨vb, k, none⟩ u).cell? ⟨gc, 2, none⟩ = some (.slice M m.length cm) ∧ (w'.setCell ⟨vb, k, none⟩ u).cell? ⟨gc, 3, none⟩ = some (.slice D (m.length + 1) cd) ∧ (w'.setCell ⟨vb, k, none⟩ u).cell? ⟨w.heap.size, 0, none⟩ = some (.int .i64 side) ∧ (w'.setCell ⟨vb, k, none⟩ u).cell? ⟨w.heap.size, 1, none⟩ = some (.slice A ks.length c))) := Lib.hid (fun w' u hb => by
            obtain ⟨⟨a0, a1⟩, _⟩ := ((HP5.out.below hb z5).other ⟨vb, k, none⟩ u (by show b5 ≠ vb; omega)).at2
            obtain ⟨b0, b1, b2, b3⟩ := Blk.at4 ((HR3.out.below hb zr3).other ⟨vb, k, none⟩ u (by show gc ≠ vb; omega))
            obtain ⟨⟨e0, e1⟩, _⟩ := ((HR1.out.below hb zr1).other ⟨vb, k, none⟩ u (by show w.heap.size ≠ vb; omega)).at2
            exact ⟨a0, a1, b0, b1, b2, b3, e0, e1⟩)
          obtain ⟨o0, x0⟩ := old_cell (cs := cs) (i := k) (by have := HSZ.out; omega)
          have y0 := ((HBV.out.below hw zb').cell k).trans x0
          have f0 := (HBV.out.below hw zb').free k
          go_region_held3 (fun w' => (w'.cell? ⟨b5, 0, none⟩ = some (.int .i64 T) ∧ w'.cell? ⟨b5, 1, none⟩ = some (.slice A5 L.length c5) ∧ w'.cell? ⟨gc, 0, none⟩ = some (.int .i64 side) ∧ w'.cell? ⟨gc, 1, none⟩ = some (.slice A ks.length c) ∧ w'.cell? ⟨gc, 2, none⟩ = some (.slice M m.length cm) ∧ w'.cell? ⟨gc, 3, none⟩ = some (.slice D (m.length + 1) cd) ∧ w'.cell? ⟨w.heap.size, 0, none⟩ = some (.int .i64 side) ∧ w'.cell? ⟨w.heap.size, 1, none⟩ = some (.slice A ks.length c)))
            (first
              | exact HS.out _ hw
              | exact HSS.out _ _ hw)
            (first
              | (go_at_call 43; refine (movesFrom_any side A c ks T A5 c5 L _ ((HRK.out.below hw).more hw.size) ((HMS.out.below hw).more hw.size) (HTT.out.keep hw) HRO.out HSH.out).mono ?_; rintro e6 w6 ⟨A6, c6, rfl, hm6, hb6⟩; have hw := hw.trans (hb6.mono hw.size); have y0 := ((HBV.out.below hw zb').cell k).trans x0; have f0 := (HBV.out.below hw zb').free k)
              | (go_at_call 42; refine (firstVal_any side A c ks M cm m.length D cd T A5 c5 L (movesL side ks T L).length _ ((HRK.out.below hw).more hw.size) ((HMS.out.below hw).more hw.size) HRO.out HSH.out HML.out).mono ?_; rintro e8 w8 ⟨rfl, hb8⟩; have hw := hw.trans (hb8.mono hw.size); have y0 := ((HBV.out.below hw zb').cell k).trans x0; have f0 := (HBV.out.below hw zb').free k))
          all_goals
            have hwz := hw.size
            go_wp2_with fail
            go_roundw
            case rel => exact ⟨k + 1, _, by omega, by go_num, by simp only [Array.size_setIfInBounds]; exact HSZ.out, Lib.hid (fun j hj => by
              by_cases h2 : j = k
              · subst h2; rw [if_pos (by omega), HVK.out]; exact set_same (by have := HSZ.out; omega)
              · refine set_get ((HIN.out j hj).trans ?_) (fun h => h2 h.symm)
                by_cases h1 : j < k
                · rw [if_pos h1, if_pos (by omega)]
                · rw [if_neg h1, if_neg (by omega)]), (HBV.out.below hw zb').set k _, (HBW.out.trans (hw.mono (by omega))).setCell (by show vb ≤ vb; omega) _⟩
            case measure => simp [intOf]; omega
      · obtain rfl : k = N := by omega
        have hdi : decide ((k : Int) < (k : Int)) = false := decide_eq_false (by omega)
        obtain ⟨⟨u0, u1, u2⟩, ⟨v0, v1, v2⟩⟩ := r2.at3
        have hx := (Blk.set3 r2 (.int .i64 0) (.int .i64 0) (.slice (some ⟨vb, 0, none⟩) k k)).at3
        have hB := below_set3 HBE1.out (b := w.heap.size + 1) (by omega) (.int .i64 0) (.int .i64 0) (.slice (some ⟨vb, 0, none⟩) k k)
        have HNI : Hid (NewInts w.heap.size (((wr.setCell ⟨w.heap.size + 1, 0, none⟩ (.int .i64 0)).setCell ⟨w.heap.size + 1, 1, none⟩ (.int .i64 0)).setCell ⟨w.heap.size + 1, 2, none⟩ (.slice (some ⟨vb, 0, none⟩) k k)).heap.size (((wr.setCell ⟨w.heap.size + 1, 0, none⟩ (.int .i64 0)).setCell ⟨w.heap.size + 1, 1, none⟩ (.int .i64 0)).setCell ⟨w.heap.size + 1, 2, none⟩ (.slice (some ⟨vb, 0, none⟩) k k)) (some ⟨vb, 0, none⟩) (newL side ks m k)) := Lib.hid (fun _ => ⟨vb, cs, rfl, by omega, by simp [World.setCell]; omega, ((hb.other _ _ (by show vb ≠ w.heap.size + 1; omega)).other _ _ (by show vb ≠ w.heap.size + 1; omega)).other _ _ (by show vb ≠ w.heap.size + 1; omega), by rw [newL_len]; omega, fun i hi => by
          rw [newL_len] at hi
          rw [newL_at hi, hin.out i hi, if_pos hi]⟩)
        clear hsz hin hb
        go_wp2_with fail
        refine bodyPost_ret (v := .agg #[.int .i64 0, .int .i64 0, .slice (some ⟨vb, 0, none⟩) k k]) ?_ rfl ⟨some ⟨vb, 0, none⟩, k, by rw [HG.out, newL_len], by rw [HG.out]; exact HNI.out, hB⟩
        obtain ⟨⟨x0, x1, x2⟩, _⟩ := hx
        simp [results, Tryz.results11, go_sem, x0, x1, x2]
end Go.Proofs.YtmfcgikfgikbfaaGreatDoor.Ko

namespace Go.Proofs.YtmfcgikfgikbfaaGreatDoor.Ko
open Go.ChangeShapes Go.WideShapes Go.ChangeAt Go.RowKit Base Sq In
theorem genL_len (side : Int) (ks : List Kd) (m : List Pc) : (genL side ks m).length ≤ 1048576 := by
  unfold genL
  split
  · rename_i hok
    obtain ⟨hro, hm4⟩ := matV_facts hok
    obtain ⟨hs, _⟩ := rulesOk_facts hro
    have := numV_bd hs (k := m.length) hm4
    rw [newL_len]; omega
  · simp
end Go.Proofs.YtmfcgikfgikbfaaGreatDoor.Ko

namespace Go.Proofs.YtmfcgikfgikbfaaGreatDoor.Ko
open Go.ChangeShapes Go.WideShapes Go.ChangeAt Go.WideElems Go.RowKit Base
set_option linter.unusedVariables false
set_option maxRecDepth 20000

theorem gTab : Tryz.prog.globalNamed "math/bits.deBruijn64tab" = some 0 := by kernel_rfl
theorem tTab : (Tryz.prog.globals[0]?).map (·.type) = some 178 := by kernel_rfl
theorem datTab : (Rows.laid_math_bits_deBruijn64tab : DataW Unit) = .agg (Go.Lib.deBruijn64tab.map fun n : Nat => .lit (.int .u8 (n : Int))) := rfl
theorem tab_of_laid {W : World} (h : laidMetH Tryz.prog [("math/bits.deBruijn64tab", Rows.laid_math_bits_deBruijn64tab)] W) : TabAt W := by
  rw [MakeChecks.laidMetH_plain _ _ _ (by kernel_rfl)] at h
  obtain ⟨ps, ⟨g0, t0, cs0, f0, p0, q0, hg0, ht0, hv0, hd0, _⟩, _, _⟩ := h
  obtain rfl := Option.some.inj (gTab.symm.trans hg0)
  obtain rfl := Option.some.inj (tTab.symm.trans ht0)
  obtain ⟨xs, m1, rfl, hx1, hlen, hn3, hel⟩ := DataW.trod_array Tryz.underlying178 hd0
  rw [datTab] at hx1
  simp only [Prod.mk.injEq, DataW.agg.injEq] at hx1
  have c5 : Tryz.prog.cellsOf 5 = 1 := by kernel_rfl
  intro j hj
  have hc := World.var?_cell hg0 hv0 j
  have hj1 := hel j hj
  have hjx : j < xs.length := by omega
  rw [List.getElem?_eq_getElem hjx, c5, Nat.mul_one] at hj1
  obtain ⟨n, e1, e2, _⟩ := DataW.trod_int Tryz.underlying5 hj1
  have hd : (xs.map (·.1))[j]? = (Go.Lib.deBruijn64tab.map fun n : Nat => (DataW.lit (.int .u8 (n : Int)) : DataW Unit))[j]? := by rw [← hx1.1]
  rw [List.getElem?_map, List.getElem?_map, List.getElem?_eq_getElem hjx, e2] at hd
  have hjt : j < Go.Lib.deBruijn64tab.length := hj
  rw [List.getElem?_eq_getElem hjt] at hd
  simp only [Option.map_some, Option.some.injEq, DataW.lit.injEq, Lit.int.injEq, true_and] at hd
  rw [hc]
  have hcj : cs0.toList[j]? = some (.int .u8 n) := by
    have h0 := congrArg (fun l => l[0]?) e1
    simpa using h0
  rw [show cs0[j]? = some (.int .u8 n) from by simpa using hcj]
  rw [List.getD_eq_getElem?_getD, List.getElem?_eq_getElem hjt]
  simp [hd]
end Go.Proofs.YtmfcgikfgikbfaaGreatDoor.Ko

namespace Go.Proofs.YtmfcgikfgikbfaaGreatDoor.Laws
open Go.ChangeShapes Go.WideShapes Go.ChangeAt Go.RowKit Base Sq Ko Opn
set_option linter.unusedVariables false
set_option maxRecDepth 20000

set_option maxHeartbeats 16000000 in
theorem fnExactGenNew_walk {H : Type} {enc : TypeId × Value → H} {b0 : Nat} {d0 : DataW H} {pl0 : List MemPlace} {d1 : DataW H} {pl1 : List MemPlace} (w : World)
    (v0 : Value) (hv0 : Value.okWide Tryz.prog w .any b0 24 v0) (h0 : DataW.Trod enc Tryz.prog w 0 (fun _ => true) true 24 v0 d0 pl0)
    (v1 : Value) (hv1 : Value.okWide Tryz.prog w .any b0 25 v1) (h1 : DataW.Trod enc Tryz.prog w 0 (fun _ => true) true 25 v1 d1 pl1) (hT : TabAt w) :
    Calls Tryz.prog 3 #[v0, v1] w fun e w' => e = .returned (.bool true) ∧ Below w.heap.size w w' := by
  obtain ⟨sd0, A0, c0, ks0, rfl, hl0, hs0⟩ := open_rules hv0 h0
  obtain ⟨A1, c1, m1, rfl, hn1, hs1⟩ := open_pieces hv1 h1
  clear hv0 h0 hv1 h1
  have HT := Lib.hid hT
  have hT0 := hT.lt
  clear hT
  unfold maxLen at hn1
  go_enter Tryz.func3, Tryz.ntmps3
  go_wp2_with fail
  have hW0 : Below w.heap.size w (w.alloc (.cells #[.int .i64 sd0, .slice A0 ks0.length c0] 24)) := (by repeat (first | exact Below.refl _ _ | assumption | (refine Below.alloc ?_ (by first | omega | (simp; done) | (simp; omega)) _) | (refine Below.setCell ?_ (by first | omega | (simp; done) | (simp; omega)) _) | refine Below.drew ?_))
  have pB0_0 := (Blk.new w #[.int .i64 sd0, .slice A0 ks0.length c0] 24)
  generalize hWx : (w.alloc _) = W0 at *
  clear hWx
  have HO0 := Lib.hid hs0
  clear hs0
  have HO1 := Lib.hid hs1
  clear hs1
  refine (szRules_any _ _ _ _ _ _ ((HO0.out.below hW0).more hW0.size) hl0 (by omega) (by omega)).mono ?_
  rintro e w10 ⟨lf0, rfl, hle0, hor0, hb⟩
  clear hl0
  have pB0_1 := pB0_0.below hb pB0_0.lt
  have hW_1 := hW0.trans (hb.mono hW0.size)
  clear pB0_0 hW0
  clear hb
  rcases hor0 with rfl | ⟨hnn0, hsm0⟩
  · go_wp2_with fail
    go_ret
    exact ⟨rfl, hW_1⟩
  have HSM0 := Lib.hid hsm0
  clear hsm0
  obtain ⟨⟨a00, a01⟩, _⟩ := pB0_1.at2
  by_cases hbig : lf0 - (m1.length : Int) < 0
  · have HN := Lib.hid hbig
    clear hbig
    go_wp2_with fail
    refine (szPieceS_any _ _ _ _ _ (by omega) hnn0 hle0).mono ?_
    rw [if_pos (by have := HN.out; omega)]
    rintro e w2 ⟨rfl, rfl⟩
    go_wp2_with fail
    go_ret
    exact ⟨rfl, hW_1⟩
  have hl1 : m1.length ≤ 1048576 := by omega
  have HN := Lib.hid hbig
  clear hbig
  go_wp2_with fail
  refine (szPieceS_any _ _ _ _ _ (by omega) hnn0 hle0).mono ?_
  rw [if_neg (by have := HN.out; omega)]
  rintro e w2 ⟨rfl, rfl⟩
  have hnn1 : 0 ≤ lf0 - (m1.length : Int) := by have := HN.out; omega
  have hle1 : lf0 - (m1.length : Int) ≤ 1048576 := by omega
  generalize hvm : lf0 - (m1.length : Int) = lf1 at *
  clear hvm HN
  go_wp2_with fail
  have hlenL : (genL sd0 ks0 m1).length ≤ 1048576 := genL_len sd0 ks0 m1
  obtain ⟨LL, hLL⟩ : ∃ LL, LL = genL sd0 ks0 m1 := ⟨_, rfl⟩
  rw [← hLL] at hlenL
  have HLL := Lib.hid hLL
  clear hLL
  have hz_w0 := hW_1.size
  have hz_b0 := pB0_1.lt
  clear a00 a01
  obtain ⟨⟨z_pB00, z_pB01⟩, _⟩ := pB0_1.at2
  -- the model's
  clear z_pB00 z_pB01
  refine (toRules_any _ _ _ _ _ ((HO0.out.below hW_1).more hW_1.size) HSM0.out).mono ?_
  rintro e wrs ⟨grs, crs, rfl, hNx, hb⟩
  have pB0_2 := pB0_1.below hb pB0_1.lt
  have hW_2 := hW_1.trans (hb.mono hW_1.size)
  have hz_2 := hb.size
  clear pB0_1 hW_1
  have hks_2 := hNx
  clear hNx hb
  obtain ⟨⟨z_pB00, z_pB01⟩, _⟩ := pB0_2.at2
  go_wp2_with fail
  clear z_pB00 z_pB01
  refine (toPieceS_any _ _ _ _ ((HO1.out.below hW_2).more hW_2.size) hl1).mono ?_
  rintro e wms ⟨gms, cms, rfl, hNx, hb⟩
  have pB0_3 := pB0_2.below hb pB0_2.lt
  have hW_3 := hW_2.trans (hb.mono hW_2.size)
  have hks_3 := hks_2.below hb
  have hz_3 := hb.size
  clear pB0_2 hW_2 hks_2
  have hns_3 := hNx
  clear hNx hb
  obtain ⟨⟨z_pB00, z_pB01⟩, _⟩ := pB0_3.at2
  go_wp2_with fail
  clear z_pB00 z_pB01
  refine (specGenNew_any _ _ _ _ _ _ _ _ hks_3.is hns_3.is HSM0.out hl1).mono ?_
  rw [← HLL.out]
  rintro e wfs ⟨Afs, cfs, rfl, hIx, hb⟩
  have hXx := Blk.new wfs #[.int .i64 0, .int .i64 0, .slice Afs LL.length cfs] 30
  have hA := below_of wfs (.cells #[.int .i64 0, .int .i64 0, .slice Afs LL.length cfs] 30)
  have hbA := hb.trans (hA.mono hb.size)
  have hs_xfs : (wfs.alloc (.cells #[.int .i64 0, .int .i64 0, .slice Afs LL.length cfs] 30)).heap.size = wfs.heap.size + 1 := by simp
  have hq_xfs := hb.size
  have n_Is := hIx.below hA
  have lt_pB0 := (pB0_3.below hb pB0_3.lt).lt
  obtain ⟨⟨y_pB00, y_pB01⟩, _⟩ := (pB0_3.below hb pB0_3.lt).at2
  have pB0_4 := pB0_3.below hbA pB0_3.lt
  have hW_4 := hW_3.trans (hbA.mono hW_3.size)
  have hks_4 := hks_3.below hbA
  have hns_4 := hns_3.below hbA
  have hz_4 := hbA.size
  clear pB0_3 hW_3 hks_3 hns_3
  have Is_4 := n_Is
  clear n_Is
  have pxfs_4 := hXx
  clear hXx
  obtain ⟨⟨z_pB00, z_pB01⟩, _⟩ := pB0_4.at2
  obtain ⟨⟨z_pxfs0, z_pxfs1, z_pxfs2⟩, _⟩ := pxfs_4.at3
  go_wp2_with fail
  generalize hZx : wfs.alloc _ = Wfs at *
  generalize hzx : wfs.heap.size = xfs at *
  clear hZx hzx hb hA hbA
  clear y_pB00 y_pB01 z_pB00 z_pB01 z_pxfs0 z_pxfs1 z_pxfs2 lt_pB0
  clear hIx
  -- the arguments again
  refine (toRules_any _ _ _ _ _ ((HO0.out.below hW_4).more hW_4.size) HSM0.out).mono ?_
  rintro e wr ⟨gr, cr, rfl, hNx, hb⟩
  clear hks_4
  clear hns_4
  have hXx := Blk.new wr #[.int .i64 sd0, .slice (some ⟨gr, 0, none⟩) ks0.length cr] 34
  have hA := below_of wr (.cells #[.int .i64 sd0, .slice (some ⟨gr, 0, none⟩) ks0.length cr] 34)
  have hbA := hb.trans (hA.mono hb.size)
  have hs_xr : (wr.alloc (.cells #[.int .i64 sd0, .slice (some ⟨gr, 0, none⟩) ks0.length cr] 34)).heap.size = wr.heap.size + 1 := by simp
  have hq_xr := hb.size
  have n_hk := hNx.below hA
  have n_KS := hNx.shape.below hA
  have lt_pB0 := (pB0_4.below hb pB0_4.lt).lt
  obtain ⟨⟨y_pB00, y_pB01⟩, _⟩ := (pB0_4.below hb pB0_4.lt).at2
  have lt_pxfs := (pxfs_4.below hb pxfs_4.lt).lt
  obtain ⟨⟨y_pxfs0, y_pxfs1, y_pxfs2⟩, _⟩ := (pxfs_4.below hb pxfs_4.lt).at3
  have pB0_5 := pB0_4.below hbA pB0_4.lt
  have hW_5 := hW_4.trans (hbA.mono hW_4.size)
  have Is_5 := Is_4.below (hbA.mono (by omega))
  have pxfs_5 := pxfs_4.below hbA pxfs_4.lt
  have hz_5 := hbA.size
  clear pB0_4 hW_4 Is_4 pxfs_4
  have hk_5 := n_hk
  clear n_hk
  have KS_5 := n_KS
  clear n_KS
  have pxr_5 := hXx
  clear hXx
  obtain ⟨⟨z_pB00, z_pB01⟩, _⟩ := pB0_5.at2
  obtain ⟨⟨z_pxfs0, z_pxfs1, z_pxfs2⟩, _⟩ := pxfs_5.at3
  obtain ⟨⟨z_pxr0, z_pxr1⟩, _⟩ := pxr_5.at2
  go_wp2_with fail
  generalize hZx : wr.alloc _ = Wr at *
  generalize hzx : wr.heap.size = xr at *
  clear hZx hzx hb hA hbA
  clear y_pB00 y_pB01 y_pxfs0 y_pxfs1 y_pxfs2 z_pB00 z_pB01 z_pxfs0 z_pxfs1 z_pxfs2 z_pxr0 z_pxr1 lt_pB0 lt_pxfs
  clear hNx
  refine (toPieceS_any _ _ _ _ ((HO1.out.below hW_5).more hW_5.size) hl1).mono ?_
  rintro e wm ⟨gm, cm, rfl, hNx, hb⟩
  have hgm := hNx.lt
  have hgm0 : Wr.heap.size ≤ gm := by obtain ⟨_, hh, _⟩ := hNx; exact hh
  have pB0_6 := pB0_5.below hb pB0_5.lt
  have hW_6 := hW_5.trans (hb.mono hW_5.size)
  have Is_6 := Is_5.below (hb.mono (by omega))
  have pxfs_6 := pxfs_5.below hb pxfs_5.lt
  have hk_6 := hk_5.below hb
  have KS_6 := KS_5.below (hb.mono (by omega))
  have pxr_6 := pxr_5.below hb pxr_5.lt
  have hz_6 := hb.size
  clear pB0_5 hW_5 Is_5 pxfs_5 hk_5 KS_5 pxr_5
  have hn_6 := hNx
  have MB_6 := hNx.big
  clear hNx hb
  obtain ⟨⟨z_pB00, z_pB01⟩, _⟩ := pB0_6.at2
  obtain ⟨⟨z_pxfs0, z_pxfs1, z_pxfs2⟩, _⟩ := pxfs_6.at3
  obtain ⟨⟨z_pxr0, z_pxr1⟩, _⟩ := pxr_6.at2
  go_wp2_with fail
  clear z_pB00 z_pB01 z_pxfs0 z_pxfs1 z_pxfs2 z_pxr0 z_pxr1
  refine (GenNew_any _ _ _ _ _ _ _ _ hk_6.is hn_6.is (HT.out.below hW_6 hT0) HSM0.out hl1).mono ?_
  rw [← HLL.out]
  rintro e wfg ⟨Afg, cfg, rfl, hIx, hb⟩
  have hXx := Blk.new wfg #[.int .i64 0, .int .i64 0, .slice Afg LL.length cfg] 30
  have hA := below_of wfg (.cells #[.int .i64 0, .int .i64 0, .slice Afg LL.length cfg] 30)
  have hbA := hb.trans (hA.mono hb.size)
  have hs_xfg : (wfg.alloc (.cells #[.int .i64 0, .int .i64 0, .slice Afg LL.length cfg] 30)).heap.size = wfg.heap.size + 1 := by simp
  have hq_xfg := hb.size
  have n_Ig := hIx.below hA
  have lt_pB0 := (pB0_6.below hb pB0_6.lt).lt
  obtain ⟨⟨y_pB00, y_pB01⟩, _⟩ := (pB0_6.below hb pB0_6.lt).at2
  have lt_pxfs := (pxfs_6.below hb pxfs_6.lt).lt
  obtain ⟨⟨y_pxfs0, y_pxfs1, y_pxfs2⟩, _⟩ := (pxfs_6.below hb pxfs_6.lt).at3
  have lt_pxr := (pxr_6.below hb pxr_6.lt).lt
  obtain ⟨⟨y_pxr0, y_pxr1⟩, _⟩ := (pxr_6.below hb pxr_6.lt).at2
  have pB0_7 := pB0_6.below hbA pB0_6.lt
  have hW_7 := hW_6.trans (hbA.mono hW_6.size)
  have Is_7 := Is_6.below (hbA.mono (by omega))
  have pxfs_7 := pxfs_6.below hbA pxfs_6.lt
  have hk_7 := hk_6.below hbA
  have KS_7 := KS_6.below (hbA.mono (by omega))
  have pxr_7 := pxr_6.below hbA pxr_6.lt
  have hn_7 := hn_6.below hbA
  have MB_7 := MB_6.below hbA MB_6.lt
  have hz_7 := hbA.size
  clear pB0_6 hW_6 Is_6 pxfs_6 hk_6 KS_6 pxr_6 hn_6 MB_6
  have Ig_7 := n_Ig
  clear n_Ig
  have pxfg_7 := hXx
  clear hXx
  obtain ⟨⟨z_pB00, z_pB01⟩, _⟩ := pB0_7.at2
  obtain ⟨⟨z_pxfs0, z_pxfs1, z_pxfs2⟩, _⟩ := pxfs_7.at3
  obtain ⟨⟨z_pxr0, z_pxr1⟩, _⟩ := pxr_7.at2
  obtain ⟨⟨z_pxfg0, z_pxfg1, z_pxfg2⟩, _⟩ := pxfg_7.at3
  go_wp2_with fail
  generalize hZx : wfg.alloc _ = Wfg at *
  generalize hzx : wfg.heap.size = xfg at *
  clear hZx hzx hb hA hbA
  clear y_pB00 y_pB01 y_pxfs0 y_pxfs1 y_pxfs2 y_pxr0 y_pxr1 z_pB00 z_pB01 z_pxfs0 z_pxfs1 z_pxfs2 z_pxr0 z_pxr1 z_pxfg0 z_pxfg1 z_pxfg2 lt_pB0 lt_pxfs lt_pxr
  clear hIx
  refine (eqGen_same _ _ _ _ _ _ _ _ (Ig_7.is.more (by omega)) (Is_7.is.more (by omega)) hlenL).mono ?_
  rintro e we1 ⟨rfl, hb⟩
  have pB0_8 := pB0_7.below hb pB0_7.lt
  have hW_8 := hW_7.trans (hb.mono hW_7.size)
  have Is_8 := Is_7.below (hb.mono (by omega))
  have pxfs_8 := pxfs_7.below hb pxfs_7.lt
  have hk_8 := hk_7.below hb
  have KS_8 := KS_7.below (hb.mono (by omega))
  have pxr_8 := pxr_7.below hb pxr_7.lt
  have hn_8 := hn_7.below hb
  have MB_8 := MB_7.below hb MB_7.lt
  have Ig_8 := Ig_7.below (hb.mono (by omega))
  have pxfg_8 := pxfg_7.below hb pxfg_7.lt
  have hz_8 := hb.size
  clear pB0_7 hW_7 Is_7 pxfs_7 hk_7 KS_7 pxr_7 hn_7 MB_7 Ig_7 pxfg_7
  clear hb
  obtain ⟨⟨z_pB00, z_pB01⟩, _⟩ := pB0_8.at2
  obtain ⟨⟨z_pxfs0, z_pxfs1, z_pxfs2⟩, _⟩ := pxfs_8.at3
  obtain ⟨⟨z_pxr0, z_pxr1⟩, _⟩ := pxr_8.at2
  obtain ⟨⟨z_pxfg0, z_pxfg1, z_pxfg2⟩, _⟩ := pxfg_8.at3
  go_wp2_with fail
  clear z_pB00 z_pB01 z_pxfs0 z_pxfs1 z_pxfs2 z_pxr0 z_pxr1 z_pxfg0 z_pxfg1 z_pxfg2
  -- r as it was
  have HS : Hid (∀ w', Below we1.heap.size we1 w' → (w'.cell? ⟨w.heap.size, 0, none⟩ = some (.int .i64 sd0) ∧ w'.cell? ⟨w.heap.size, 1, none⟩ = some (.slice A0 ks0.length c0) ∧ w'.cell? ⟨xr, 0, none⟩ = some (.int .i64 sd0) ∧ w'.cell? ⟨xr, 1, none⟩ = some (.slice (some ⟨gr, 0, none⟩) ks0.length cr))) := Lib.hid (fun w' hb => by
    obtain ⟨⟨e00, e01⟩, _⟩ := (pB0_8.below hb pB0_8.lt).at2
    obtain ⟨⟨e10, e11⟩, _⟩ := (pxr_8.below hb pxr_8.lt).at2
    exact ⟨e00, e01, e10, e11⟩)
  have hw : Below we1.heap.size we1 we1.drew := (Below.refl _ _).drew
  have hO := ((HO0.out.below hW_8).more hW_8.size)
  have hNk := hk_8
  go_region_held3 (fun w' => w'.cell? ⟨w.heap.size, 0, none⟩ = some (.int .i64 sd0) ∧ w'.cell? ⟨w.heap.size, 1, none⟩ = some (.slice A0 ks0.length c0) ∧ w'.cell? ⟨xr, 0, none⟩ = some (.int .i64 sd0) ∧ w'.cell? ⟨xr, 1, none⟩ = some (.slice (some ⟨gr, 0, none⟩) ks0.length cr))
    (exact HS.out _ hw)
    (first
      | (go_at_call 9; refine (toRules_any _ _ _ _ _ ((hO.below hw).more hw.size) HSM0.out).mono ?_; rintro e wa ⟨ga, ca, rfl, hna, hba⟩; have hw := hw.trans (hba.mono hw.size))
      | (go_at_call 13; refine (eqRules_same _ _ _ _ _ _ _ (hNk.below hw).is hna.is HSM0.out).mono ?_; rintro e wq ⟨rfl, hbb⟩; have hw := hw.trans (hbb.mono hw.size)))
  clear HS hO hNk hna
  have pB0_9 := pB0_8.below hw pB0_8.lt
  have hW_9 := hW_8.trans (hw.mono hW_8.size)
  have Is_9 := Is_8.below (hw.mono (by omega))
  have pxfs_9 := pxfs_8.below hw pxfs_8.lt
  have KS_9 := KS_8.below (hw.mono (by omega))
  have pxr_9 := pxr_8.below hw pxr_8.lt
  have hn_9 := hn_8.below hw
  have MB_9 := MB_8.below hw MB_8.lt
  have Ig_9 := Ig_8.below (hw.mono (by omega))
  have pxfg_9 := pxfg_8.below hw pxfg_8.lt
  have hz_9 := hw.size
  clear pB0_8 hW_8 Is_8 pxfs_8 hk_8 KS_8 pxr_8 hn_8 MB_8 Ig_8 pxfg_8
  clear hw
  obtain ⟨⟨z_pB00, z_pB01⟩, _⟩ := pB0_9.at2
  obtain ⟨⟨z_pxfs0, z_pxfs1, z_pxfs2⟩, _⟩ := pxfs_9.at3
  obtain ⟨⟨z_pxr0, z_pxr1⟩, _⟩ := pxr_9.at2
  obtain ⟨⟨z_pxfg0, z_pxfg1, z_pxfg2⟩, _⟩ := pxfg_9.at3
  go_wp2_with fail
  clear z_pB00 z_pB01 z_pxfs0 z_pxfs1 z_pxfs2 z_pxr0 z_pxr1 z_pxfg0 z_pxfg1 z_pxfg2
  -- m as it was
  refine (toPieceS_any _ _ _ _ ((HO1.out.below hW_9).more hW_9.size) hl1).mono ?_
  rintro e wb ⟨gb, cb, rfl, hnb, hbb⟩
  have hNk := hn_9.below hbb
  go_wp2_with fail
  refine (eqPieceS_same _ _ _ _ _ _ hNk.is hnb.is hl1).mono ?_
  rintro e wc ⟨rfl, hbc⟩
  have hb := hbb.trans (hbc.mono hbb.size)
  clear hbb hbc hnb hNk
  have pB0_10 := pB0_9.below hb pB0_9.lt
  have hW_10 := hW_9.trans (hb.mono hW_9.size)
  have Is_10 := Is_9.below (hb.mono (by omega))
  have pxfs_10 := pxfs_9.below hb pxfs_9.lt
  have KS_10 := KS_9.below (hb.mono (by omega))
  have pxr_10 := pxr_9.below hb pxr_9.lt
  have MB_10 := MB_9.below hb MB_9.lt
  have Ig_10 := Ig_9.below (hb.mono (by omega))
  have pxfg_10 := pxfg_9.below hb pxfg_9.lt
  have hz_10 := hb.size
  clear pB0_9 hW_9 Is_9 pxfs_9 KS_9 pxr_9 hn_9 MB_9 Ig_9 pxfg_9
  clear hb
  obtain ⟨⟨z_pB00, z_pB01⟩, _⟩ := pB0_10.at2
  obtain ⟨⟨z_pxfs0, z_pxfs1, z_pxfs2⟩, _⟩ := pxfs_10.at3
  obtain ⟨⟨z_pxr0, z_pxr1⟩, _⟩ := pxr_10.at2
  obtain ⟨⟨z_pxfg0, z_pxfg1, z_pxfg2⟩, _⟩ := pxfg_10.at3
  go_wp2_with fail
  clear z_pB00 z_pB01 z_pxfs0 z_pxfs1 z_pxfs2 z_pxr0 z_pxr1 z_pxfg0 z_pxfg1 z_pxfg2
  -- marks
  have lx1 := pxr_10.lt
  have lx2 := MB_10.lt
  refine (markRules_any _ _ _ _ _ _ _ _ KS_10 HSM0.out (by omega) (by omega) (by omega)).mono ?_
  rintro e wk ⟨k1, rfl, hk11, hk12, sp⟩
  have pB0_11 := sp.blk pB0_10 (by omega)
  have hW_11 := hW_10.trans (sp.toBelow (B := w.heap.size) (by omega) (by omega))
  have Is_11 := Is_10.span sp (by omega)
  have pxfs_11 := sp.blk pxfs_10 (by omega)
  have pxr_11 := sp.blk pxr_10 (by omega)
  have MB_11 := sp.shape _ _ _ MB_10
  have Ig_11 := Ig_10.span sp (by omega)
  have pxfg_11 := sp.blk pxfg_10 (by omega)
  have hz_11 := sp.size
  clear pB0_10 hW_10 Is_10 pxfs_10 KS_10 pxr_10 MB_10 Ig_10 pxfg_10
  clear sp
  obtain ⟨⟨z_pB00, z_pB01⟩, _⟩ := pB0_11.at2
  obtain ⟨⟨z_pxfs0, z_pxfs1, z_pxfs2⟩, _⟩ := pxfs_11.at3
  obtain ⟨⟨z_pxr0, z_pxr1⟩, _⟩ := pxr_11.at2
  obtain ⟨⟨z_pxfg0, z_pxfg1, z_pxfg2⟩, _⟩ := pxfg_11.at3
  go_wp2_with fail
  clear z_pB00 z_pB01 z_pxfs0 z_pxfs1 z_pxfs2 z_pxr0 z_pxr1 z_pxfg0 z_pxfg1 z_pxfg2
  refine (markPieceS_any _ _ _ _ _ MB_11 hl1 (by omega) (by omega)).mono ?_
  rintro e wl ⟨rfl, sp⟩
  have pB0_12 := sp.blk pB0_11 (by omega)
  have hW_12 := hW_11.trans (sp.toBelow (B := w.heap.size) (by omega) (by omega))
  have Is_12 := Is_11.span sp (by omega)
  have pxfs_12 := sp.blk pxfs_11 (by omega)
  have pxr_12 := sp.blk pxr_11 (by omega)
  have Ig_12 := Ig_11.span sp (by omega)
  have pxfg_12 := sp.blk pxfg_11 (by omega)
  have hz_12 := sp.size
  clear pB0_11 hW_11 Is_11 pxfs_11 pxr_11 MB_11 Ig_11 pxfg_11
  clear sp
  have hkn : decide (k1 + 2 * (m1.length : Int) < 0) = false := decide_eq_false (by omega)
  obtain ⟨⟨z_pB00, z_pB01⟩, _⟩ := pB0_12.at2
  obtain ⟨⟨z_pxfs0, z_pxfs1, z_pxfs2⟩, _⟩ := pxfs_12.at3
  obtain ⟨⟨z_pxr0, z_pxr1⟩, _⟩ := pxr_12.at2
  obtain ⟨⟨z_pxfg0, z_pxfg1, z_pxfg2⟩, _⟩ := pxfg_12.at3
  go_wp2_with fail
  clear z_pB00 z_pB01 z_pxfs0 z_pxfs1 z_pxfs2 z_pxr0 z_pxr1 z_pxfg0 z_pxfg1 z_pxfg2
  refine (eqGen_same _ _ _ _ _ _ _ _ (Ig_12.is.more (by omega)) (Is_12.is.more (by omega)) hlenL).mono ?_
  rintro e we2 ⟨rfl, hb⟩
  have pB0_13 := pB0_12.below hb pB0_12.lt
  have hW_13 := hW_12.trans (hb.mono hW_12.size)
  have Is_13 := Is_12.below (hb.mono (by omega))
  have pxfs_13 := pxfs_12.below hb pxfs_12.lt
  have pxr_13 := pxr_12.below hb pxr_12.lt
  have Ig_13 := Ig_12.below (hb.mono (by omega))
  have pxfg_13 := pxfg_12.below hb pxfg_12.lt
  have hz_13 := hb.size
  clear pB0_12 hW_12 Is_12 pxfs_12 pxr_12 Ig_12 pxfg_12
  clear hb
  obtain ⟨⟨z_pB00, z_pB01⟩, _⟩ := pB0_13.at2
  obtain ⟨⟨z_pxfs0, z_pxfs1, z_pxfs2⟩, _⟩ := pxfs_13.at3
  obtain ⟨⟨z_pxr0, z_pxr1⟩, _⟩ := pxr_13.at2
  obtain ⟨⟨z_pxfg0, z_pxfg1, z_pxfg2⟩, _⟩ := pxfg_13.at3
  go_wp2_with fail
  clear z_pB00 z_pB01 z_pxfs0 z_pxfs1 z_pxfs2 z_pxr0 z_pxr1 z_pxfg0 z_pxfg1 z_pxfg2
  have hln : decide (1 + (LL.length : Int) < 0) = false := decide_eq_false (by omega)
  refine (markGen_any _ _ _ _ _ _ _ _ _ Ig_13 (by omega) hlenL (by omega) (by omega)).mono ?_
  rintro e wo ⟨rfl, hIm, sp⟩
  have pB0_14 := sp.blk pB0_13 (by omega)
  have hW_14 := hW_13.trans (sp.toBelow (B := w.heap.size) (by omega) (by omega))
  have Is_14 := Is_13.span sp (by omega)
  have pxfs_14 := sp.blk pxfs_13 (by omega)
  have pxr_14 := sp.blk pxr_13 (by omega)
  have pxfg_14 := sp.blk pxfg_13 (by omega)
  have hz_14 := sp.size
  clear pB0_13 hW_13 Is_13 pxfs_13 pxr_13 Ig_13 pxfg_13
  have Im_14 := hIm
  clear sp hIm
  obtain ⟨⟨z_pB00, z_pB01⟩, _⟩ := pB0_14.at2
  obtain ⟨⟨z_pxfs0, z_pxfs1, z_pxfs2⟩, _⟩ := pxfs_14.at3
  obtain ⟨⟨z_pxr0, z_pxr1⟩, _⟩ := pxr_14.at2
  obtain ⟨⟨z_pxfg0, z_pxfg1, z_pxfg2⟩, _⟩ := pxfg_14.at3
  go_wp2_with fail
  clear z_pB00 z_pB01 z_pxfs0 z_pxfs1 z_pxfs2 z_pxr0 z_pxr1 z_pxfg0 z_pxfg1 z_pxfg2
  refine (heldGen_any _ _ _ _ _ _ _ _ Im_14.is (by omega) hlenL (by omega) (by omega)).mono ?_
  rintro e wh ⟨rfl, hb⟩
  have pB0_15 := pB0_14.below hb pB0_14.lt
  have hW_15 := hW_14.trans (hb.mono hW_14.size)
  have Is_15 := Is_14.below (hb.mono (by omega))
  have pxfs_15 := pxfs_14.below hb pxfs_14.lt
  have pxr_15 := pxr_14.below hb pxr_14.lt
  have pxfg_15 := pxfg_14.below hb pxfg_14.lt
  have Im_15 := Im_14.below (hb.mono (by omega))
  have hz_15 := hb.size
  clear pB0_14 hW_14 Is_14 pxfs_14 pxr_14 pxfg_14 Im_14
  clear hb
  obtain ⟨⟨z_pB00, z_pB01⟩, _⟩ := pB0_15.at2
  obtain ⟨⟨z_pxfs0, z_pxfs1, z_pxfs2⟩, _⟩ := pxfs_15.at3
  obtain ⟨⟨z_pxr0, z_pxr1⟩, _⟩ := pxr_15.at2
  obtain ⟨⟨z_pxfg0, z_pxfg1, z_pxfg2⟩, _⟩ := pxfg_15.at3
  go_wp2_with fail
  clear z_pB00 z_pB01 z_pxfs0 z_pxfs1 z_pxfs2 z_pxr0 z_pxr1 z_pxfg0 z_pxfg1 z_pxfg2
  refine (toRules_any _ _ _ _ _ ((HO0.out.below hW_15).more hW_15.size) HSM0.out).mono ?_
  rintro e wrh ⟨grh, crh, rfl, hNx, hb⟩
  have pB0_16 := pB0_15.below hb pB0_15.lt
  have hW_16 := hW_15.trans (hb.mono hW_15.size)
  have Is_16 := Is_15.below (hb.mono (by omega))
  have pxfs_16 := pxfs_15.below hb pxfs_15.lt
  have pxr_16 := pxr_15.below hb pxr_15.lt
  have pxfg_16 := pxfg_15.below hb pxfg_15.lt
  have Im_16 := Im_15.below (hb.mono (by omega))
  have hz_16 := hb.size
  clear pB0_15 hW_15 Is_15 pxfs_15 pxr_15 pxfg_15 Im_15
  have hkh_16 := hNx
  clear hNx hb
  obtain ⟨⟨z_pB00, z_pB01⟩, _⟩ := pB0_16.at2
  obtain ⟨⟨z_pxfs0, z_pxfs1, z_pxfs2⟩, _⟩ := pxfs_16.at3
  obtain ⟨⟨z_pxr0, z_pxr1⟩, _⟩ := pxr_16.at2
  obtain ⟨⟨z_pxfg0, z_pxfg1, z_pxfg2⟩, _⟩ := pxfg_16.at3
  go_wp2_with fail
  clear z_pB00 z_pB01 z_pxfs0 z_pxfs1 z_pxfs2 z_pxr0 z_pxr1 z_pxfg0 z_pxfg1 z_pxfg2
  refine (toPieceS_any _ _ _ _ ((HO1.out.below hW_16).more hW_16.size) hl1).mono ?_
  rintro e wmh ⟨gmh, cmh, rfl, hNx, hb⟩
  have pB0_17 := pB0_16.below hb pB0_16.lt
  have hW_17 := hW_16.trans (hb.mono hW_16.size)
  have Is_17 := Is_16.below (hb.mono (by omega))
  have pxfs_17 := pxfs_16.below hb pxfs_16.lt
  have pxr_17 := pxr_16.below hb pxr_16.lt
  have pxfg_17 := pxfg_16.below hb pxfg_16.lt
  have Im_17 := Im_16.below (hb.mono (by omega))
  have hkh_17 := hkh_16.below hb
  have hz_17 := hb.size
  clear pB0_16 hW_16 Is_16 pxfs_16 pxr_16 pxfg_16 Im_16 hkh_16
  have hnh_17 := hNx
  clear hNx hb
  obtain ⟨⟨z_pB00, z_pB01⟩, _⟩ := pB0_17.at2
  obtain ⟨⟨z_pxfs0, z_pxfs1, z_pxfs2⟩, _⟩ := pxfs_17.at3
  obtain ⟨⟨z_pxr0, z_pxr1⟩, _⟩ := pxr_17.at2
  obtain ⟨⟨z_pxfg0, z_pxfg1, z_pxfg2⟩, _⟩ := pxfg_17.at3
  go_wp2_with fail
  clear z_pB00 z_pB01 z_pxfs0 z_pxfs1 z_pxfs2 z_pxr0 z_pxr1 z_pxfg0 z_pxfg1 z_pxfg2
  refine (GenNew_any _ _ _ _ _ _ _ _ hkh_17.is hnh_17.is (HT.out.below hW_17 hT0) HSM0.out hl1).mono ?_
  rw [← HLL.out]
  rintro e wfh ⟨Afh, cfh, rfl, hIx, hb⟩
  have hXx := Blk.new wfh #[.int .i64 0, .int .i64 0, .slice Afh LL.length cfh] 30
  have hA := below_of wfh (.cells #[.int .i64 0, .int .i64 0, .slice Afh LL.length cfh] 30)
  have hbA := hb.trans (hA.mono hb.size)
  have hs_xfh : (wfh.alloc (.cells #[.int .i64 0, .int .i64 0, .slice Afh LL.length cfh] 30)).heap.size = wfh.heap.size + 1 := by simp
  have hq_xfh := hb.size
  have n_Ih := hIx.below hA
  have lt_pB0 := (pB0_17.below hb pB0_17.lt).lt
  obtain ⟨⟨y_pB00, y_pB01⟩, _⟩ := (pB0_17.below hb pB0_17.lt).at2
  have lt_pxfs := (pxfs_17.below hb pxfs_17.lt).lt
  obtain ⟨⟨y_pxfs0, y_pxfs1, y_pxfs2⟩, _⟩ := (pxfs_17.below hb pxfs_17.lt).at3
  have lt_pxr := (pxr_17.below hb pxr_17.lt).lt
  obtain ⟨⟨y_pxr0, y_pxr1⟩, _⟩ := (pxr_17.below hb pxr_17.lt).at2
  have lt_pxfg := (pxfg_17.below hb pxfg_17.lt).lt
  obtain ⟨⟨y_pxfg0, y_pxfg1, y_pxfg2⟩, _⟩ := (pxfg_17.below hb pxfg_17.lt).at3
  have pB0_18 := pB0_17.below hbA pB0_17.lt
  have hW_18 := hW_17.trans (hbA.mono hW_17.size)
  have Is_18 := Is_17.below (hbA.mono (by omega))
  have pxfs_18 := pxfs_17.below hbA pxfs_17.lt
  have pxr_18 := pxr_17.below hbA pxr_17.lt
  have pxfg_18 := pxfg_17.below hbA pxfg_17.lt
  have Im_18 := Im_17.below (hbA.mono (by omega))
  have hkh_18 := hkh_17.below hbA
  have hnh_18 := hnh_17.below hbA
  have hz_18 := hbA.size
  clear pB0_17 hW_17 Is_17 pxfs_17 pxr_17 pxfg_17 Im_17 hkh_17 hnh_17
  have Ih_18 := n_Ih
  clear n_Ih
  have pxfh_18 := hXx
  clear hXx
  obtain ⟨⟨z_pB00, z_pB01⟩, _⟩ := pB0_18.at2
  obtain ⟨⟨z_pxfs0, z_pxfs1, z_pxfs2⟩, _⟩ := pxfs_18.at3
  obtain ⟨⟨z_pxr0, z_pxr1⟩, _⟩ := pxr_18.at2
  obtain ⟨⟨z_pxfg0, z_pxfg1, z_pxfg2⟩, _⟩ := pxfg_18.at3
  obtain ⟨⟨z_pxfh0, z_pxfh1, z_pxfh2⟩, _⟩ := pxfh_18.at3
  go_wp2_with fail
  generalize hZx : wfh.alloc _ = Wfh at *
  generalize hzx : wfh.heap.size = xfh at *
  clear hZx hzx hb hA hbA
  clear y_pB00 y_pB01 y_pxfs0 y_pxfs1 y_pxfs2 y_pxr0 y_pxr1 y_pxfg0 y_pxfg1 y_pxfg2 z_pB00 z_pB01 z_pxfs0 z_pxfs1 z_pxfs2 z_pxr0 z_pxr1 z_pxfg0 z_pxfg1 z_pxfg2 z_pxfh0 z_pxfh1 z_pxfh2 lt_pB0 lt_pxfs lt_pxr lt_pxfg
  clear hIx
  refine (eqGen_same _ _ _ _ _ _ _ _ (Ih_18.is.more (by omega)) (Is_18.is.more (by omega)) hlenL).mono ?_
  rintro e we3 ⟨rfl, hb⟩
  have pB0_19 := pB0_18.below hb pB0_18.lt
  have hW_19 := hW_18.trans (hb.mono hW_18.size)
  have Is_19 := Is_18.below (hb.mono (by omega))
  have pxfs_19 := pxfs_18.below hb pxfs_18.lt
  have pxr_19 := pxr_18.below hb pxr_18.lt
  have pxfg_19 := pxfg_18.below hb pxfg_18.lt
  have Im_19 := Im_18.below (hb.mono (by omega))
  have hkh_19 := hkh_18.below hb
  have hnh_19 := hnh_18.below hb
  have Ih_19 := Ih_18.below (hb.mono (by omega))
  have pxfh_19 := pxfh_18.below hb pxfh_18.lt
  have hz_19 := hb.size
  clear pB0_18 hW_18 Is_18 pxfs_18 pxr_18 pxfg_18 Im_18 hkh_18 hnh_18 Ih_18 pxfh_18
  clear hb
  obtain ⟨⟨z_pB00, z_pB01⟩, _⟩ := pB0_19.at2
  obtain ⟨⟨z_pxfs0, z_pxfs1, z_pxfs2⟩, _⟩ := pxfs_19.at3
  obtain ⟨⟨z_pxr0, z_pxr1⟩, _⟩ := pxr_19.at2
  obtain ⟨⟨z_pxfg0, z_pxfg1, z_pxfg2⟩, _⟩ := pxfg_19.at3
  obtain ⟨⟨z_pxfh0, z_pxfh1, z_pxfh2⟩, _⟩ := pxfh_19.at3
  go_wp2_with fail
  clear z_pB00 z_pB01 z_pxfs0 z_pxfs1 z_pxfs2 z_pxr0 z_pxr1 z_pxfg0 z_pxfg1 z_pxfg2 z_pxfh0 z_pxfh1 z_pxfh2
  refine (heldGen_any _ _ _ _ _ _ _ _ Im_19.is (by omega) hlenL (by omega) (by omega)).mono ?_
  rintro e wh ⟨rfl, hb⟩
  have pB0_20 := pB0_19.below hb pB0_19.lt
  have hW_20 := hW_19.trans (hb.mono hW_19.size)
  have Is_20 := Is_19.below (hb.mono (by omega))
  have pxfs_20 := pxfs_19.below hb pxfs_19.lt
  have pxr_20 := pxr_19.below hb pxr_19.lt
  have pxfg_20 := pxfg_19.below hb pxfg_19.lt
  have Im_20 := Im_19.below (hb.mono (by omega))
  have hkh_20 := hkh_19.below hb
  have hnh_20 := hnh_19.below hb
  have Ih_20 := Ih_19.below (hb.mono (by omega))
  have pxfh_20 := pxfh_19.below hb pxfh_19.lt
  have hz_20 := hb.size
  clear pB0_19 hW_19 Is_19 pxfs_19 pxr_19 pxfg_19 Im_19 hkh_19 hnh_19 Ih_19 pxfh_19
  clear hb
  obtain ⟨⟨z_pB00, z_pB01⟩, _⟩ := pB0_20.at2
  obtain ⟨⟨z_pxfs0, z_pxfs1, z_pxfs2⟩, _⟩ := pxfs_20.at3
  obtain ⟨⟨z_pxr0, z_pxr1⟩, _⟩ := pxr_20.at2
  obtain ⟨⟨z_pxfg0, z_pxfg1, z_pxfg2⟩, _⟩ := pxfg_20.at3
  obtain ⟨⟨z_pxfh0, z_pxfh1, z_pxfh2⟩, _⟩ := pxfh_20.at3
  go_wp2_with fail
  clear z_pB00 z_pB01 z_pxfs0 z_pxfs1 z_pxfs2 z_pxr0 z_pxr1 z_pxfg0 z_pxfg1 z_pxfg2 z_pxfh0 z_pxfh1 z_pxfh2
  go_ret
  exact ⟨rfl, hW_20⟩
end Go.Proofs.YtmfcgikfgikbfaaGreatDoor.Laws
