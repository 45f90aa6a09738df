/- The model's l4Put at no men. Positions of codes: values (no program is named). The digits of a code: digitsOf of the program. No men sorted by the program. Men that have been put, one after the other. The position of a code: coder.pos of the program. The position of a code: l7Pos of the model. The values at the beginning: l8New and GenNew of the model. -/
import Derived.Test.YtnjhcjjeehccbaaGreatDoorMp
import Derived.Test.YtnjhcjjeehccbaaGreatDoorDoM
import Derived.Test.YtnjhcjjeehccbaaGreatDoorPn
import Derived.Test.YtnjhcjjeehccbaaGreatDoorPr
import Derived.Test.YtnjhcjjeehccbaaGreatDoorIn
import Derived.Test.YtnjhcjjeehccbaaGreatDoorAf
import Derived.Test.YtnjhcjjeehccbaaGreatDoorMc
import Derived.Test.YtnjhcjjeehccbaaGreatDoorAg
import Derived.Test.YtnjhcjjeehccbaaGreatDoorY1
import Derived.Test.YtnjhcjjeehccbaaGreatDoorPk
import Derived.Deep.AppendLies
import Derived.Deep.RegionLaw
import Derived.Deep.RegionHeld3
import Derived.Test.YtnjhcjjeehccbaaGreatDoorY3
import Derived.Test.YtnjhcjjeehccbaaGreatDoorY2
import Derived.Maps.AppendAt
namespace Go.Proofs.YtnjhcjjeehccbaaGreatDoor.Ko
open Go.ChangeShapes Go.WideShapes Go.ChangeAt Go.RowKit Base Sq
set_option linter.unusedVariables false
set_option maxRecDepth 20000
attribute [local irreducible] wpQuiet

set_option maxHeartbeats 2000000 in
theorem l4Put_nil (dx dy far : Int) (w : World) :
    Calls Tryz.prog 142 #[.slice none 0 0, .agg #[.int .i64 dx, .int .i64 dy, .int .i64 far]] w fun e w' => ∃ A c', e = .returned (.slice A 1 c') ∧ MenA w.heap.size w'.heap.size w' A [⟨dx, dy, far⟩] ∧ Below w.heap.size w w' ∧ 1 ≤ c' ∧ c' ≤ maxLen := by
  obtain ⟨i0, hi0, hz0, hz1, hz2⟩ := info_parts manInfo
  have hp0 := Blk.new w #[.int .i64 dx, .int .i64 dy, .int .i64 far] 155
  have hb0 := below_of w (.cells #[.int .i64 dx, .int .i64 dy, .int .i64 far] 155)
  go_enter Tryz.func142, Tryz.ntmps142
  go_wp2_with fail
  go_loopw [5] (fun iv wr => iv = .int .i64 0 ∧ Blk wr w.heap.size #[.int .i64 dx, .int .i64 dy, .int .i64 far] 155 ∧ Below w.heap.size w wr) (fun iv _ => 0)
  case atStart => exact ⟨rfl, hp0, hb0⟩
  case round =>
    clear hp0 hb0
    obtain ⟨rfl, hp, hbe⟩ := hrel
    obtain ⟨⟨q0, q1, q2⟩, _⟩ := hp.at3
    have hz := hbe.size
    have zp := hp.lt
    go_wp2_with fail
    refine wp_region_below (W := wr) (by kernel_rfl) (by kernel_rfl) (Below.refl _ _) ?_
    repeat (first
      | (refine qs_skip (by rfl) ?_; simp only [Act.put, List.setIfInBounds_toArray, List.set_cons_zero, List.set_cons_succ])
      | (apply qs_take
         focus rfl
         focus (
           intro wq hwq
           obtain ⟨hcq, hfq⟩ := bcell hwq
           go_simp
           all_goals first
             | exact rfl
             | (exact ⟨trivial, rfl⟩))
         simp only [Act.put, List.setIfInBounds_toArray, List.set_cons_zero, List.set_cons_succ]))
    refine wpQuiet_nil ?_
    intro wq hwq
    have hpq := hp.below hwq zp
    have hbq := hbe.trans (hwq.mono hz)
    have hzq := hwq.size
    clear q0 q1 q2 hp hbe hwq
    obtain ⟨⟨q0, q1, q2⟩, _⟩ := hpq.at3
    have zq := hpq.lt
    have hO0 : OwnM (wq.alloc (.cells #[] 155)) (w.heap.size + 1) (.slice (some ⟨wq.heap.size, 0, none⟩) 0 0) 0 [] := ⟨rfl, .inr ⟨wq.heap.size, 0, #[], rfl, by omega, Blk.new wq #[] 155, Nat.le_refl _, Nat.zero_le _, rfl, rfl⟩⟩
    have hnew := Blk.new (wq.alloc (.cells #[] 155)) #[.int .i64 dx, .int .i64 dy, .int .i64 far] 155
    simp only [World.size_alloc] at hnew
    have HNEW := Lib.hid hnew
    have HO1 := Lib.hid (hO0.alloc (.cells #[.int .i64 dx, .int .i64 dy, .int .i64 far] 155))
    have HBA := Lib.hid ((Below.alloc (Below.refl (w.heap.size + 1) wq) (by omega) (.cells #[] 155)).alloc (by simp; omega) (.cells #[.int .i64 dx, .int .i64 dy, .int .i64 far] 155))
    have HBQ := Lib.hid hbq
    clear hO0 hnew hbq hpq
    have hmx : 0 + 1 ≤ maxLen := by unfold maxLen; omega
    go_wp2_with (at_builtin; refine wpList_append_own _ rfl _ _ 38 rfl (w.heap.size + 1) 155 i0 (.agg #[.int .i64 0, .int .i64 0, .int .i64 0]) 3 24 Tryz.underlying38 hi0 hz0 hz1 hz2 rfl (by decide) _ _ _ rfl HO1.out ⟨wq.heap.size + 1, 0, none⟩ 1 1 [.int .i64 dx, .int .i64 dy, .int .i64 far] rfl rfl (news3 HNEW.out) (fun u hu => by simp at hu; rcases hu with rfl | rfl | rfl <;> rfl) hmx (by omega) (by simp; omega) ?_; intro v2 w6 hown2 hgrow2 hnil2; have hb6 := HO1.out.base hgrow2 HBA.out (Nat.le_refl _) (by simp; omega); have hO2 : w6.ownsRow (w.heap.size + 1) 155 3 v2 1 (cellsM [⟨dx, dy, far⟩]) := (by simpa [cellsM] using hown2); obtain ⟨g2, c2, rfl, hc2, hcm2⟩ : ∃ g2 c2, v2 = .slice (some ⟨g2, 0, none⟩) 1 c2 ∧ 1 ≤ c2 ∧ c2 ≤ maxLen := (by rcases hO2.2 with ⟨he, _⟩ | ⟨g2, c2, _, he, _, _, h4, h5, _⟩; exact absurd (hnil2.1 he).2 (by omega); exact ⟨g2, c2, he, h4, h5⟩); clear hown2 hgrow2 hnil2 HO1 HBA HNEW)
    obtain ⟨A3, d3, he3, hm⟩ := MenA.of (l := [⟨dx, dy, far⟩]) hO2
    cases he3
    go_ret
    exact ⟨_, _, rfl, hm.more (by omega) (Nat.le_refl _), HBQ.out.trans (hb6.mono (by omega)), hc2, hcm2⟩
end Go.Proofs.YtnjhcjjeehccbaaGreatDoor.Ko

namespace Go.Proofs.YtnjhcjjeehccbaaGreatDoor.Ko
open Go.ChangeShapes Go.WideShapes Go.ChangeAt Go.RowKit Base Sq
set_option linter.unusedVariables false
set_option maxRecDepth 20000

/-- a code without its last k digits -/
def remK (b code : Int) : Nat → Int
  | 0 => code
  | k + 1 => remK b code k / b
/-- where the piece i of n is -/
def digC (b code : Int) (n i : Nat) : Int := remK b code (n - 1 - i) % b
/-- the man of the piece i, if it is not gone -/
def manC (s code : Int) (m : List Pc) (i : Nat) : List St := if digC (s * s + 1) code m.length i = s * s then [] else [⟨(pcAt m i).kd, (pcAt m i).ow, digC (s * s + 1) code m.length i⟩]
/-- the men of the first i pieces -/
def menC (s code : Int) (m : List Pc) : Nat → List St
  | 0 => []
  | i + 1 => menC s code m i ++ manC s code m i
/-- the men of the last k pieces -/
def menD (s code : Int) (m : List Pc) : Nat → List St
  | 0 => []
  | k + 1 => manC s code m (m.length - 1 - k) ++ menD s code m k
/-- the same, each put where it belongs -/
def putC (s code : Int) (m : List Pc) : Nat → List St
  | 0 => []
  | k + 1 => if remK (s * s + 1) code k % (s * s + 1) = s * s then putC s code m k else putL (putC s code m k) ⟨(pcAt m (m.length - 1 - k)).kd, (pcAt m (m.length - 1 - k)).ow, remK (s * s + 1) code k % (s * s + 1)⟩
/-- no man stands already where the k-th from the end goes -/
def goodC (s code : Int) (m : List Pc) (k : Nat) : Bool := decide (remK (s * s + 1) code k % (s * s + 1) = s * s) || decide (manV (putC s code m k) (remK (s * s + 1) code k % (s * s + 1)) = -1)
def posIB (s : Int) (ks : List Kd) (m : List Pc) (code : Int) : Bool := (List.range m.length).all (goodC s code m) && posOk s ks (remK (s * s + 1) code m.length) (putC s code m m.length)
/-- the code is one of a position -/
def posCB (s : Int) (ks : List Kd) (m : List Pc) (code : Int) : Bool := decide (0 ≤ code ∧ code < numV s m.length) && posIB s ks m code
def posCT (s : Int) (ks : List Kd) (m : List Pc) (code : Int) : Int := if posCB s ks m code = true then remK (s * s + 1) code m.length else 0
def posCL (s : Int) (ks : List Kd) (m : List Pc) (code : Int) : List St := if posCB s ks m code = true then putC s code m m.length else []

theorem digC_rem {b code : Int} {n k : Nat} (hk : k < n) : digC b code n (n - 1 - k) = remK b code k % b := by unfold digC; rw [show n - 1 - (n - 1 - k) = k by omega]
theorem remK_bd {s code : Int} (hs : s = 2 ∨ s = 3 ∨ s = 4) {n : Nat} (h0 : 0 ≤ code) (h1 : code < numV s n) : ∀ k, k ≤ n → 0 ≤ remK (s * s + 1) code k ∧ remK (s * s + 1) code k < numV s (n - k) := by
  intro k
  induction k with
  | zero => intro _; exact ⟨h0, h1⟩
  | succ k ih =>
    intro hk
    obtain ⟨a, b⟩ := ih (by omega)
    simp only [remK]
    have e : numV s (n - k) = numV s (n - (k + 1)) * (s * s + 1) := by rw [show n - k = (n - (k + 1)) + 1 by omega]; rfl
    rw [e] at b
    generalize remK (s * s + 1) code k = x at *
    generalize numV s (n - (k + 1)) = y at *
    rcases hs with rfl | rfl | rfl <;> omega
theorem digC_bd {s code : Int} (hs : s = 2 ∨ s = 3 ∨ s = 4) (n i : Nat) : 0 ≤ digC (s * s + 1) code n i ∧ digC (s * s + 1) code n i ≤ s * s := by
  unfold digC
  rcases hs with rfl | rfl | rfl <;> omega
theorem menC_rest {s code : Int} {m : List Pc} : ∀ i, i ≤ m.length → menC s code m i ++ menD s code m (m.length - i) = menD s code m m.length := by
  intro i
  induction i with
  | zero => intro _; rfl
  | succ i ih =>
    intro hi
    rw [← ih (by omega), show m.length - i = (m.length - (i + 1)) + 1 by omega]
    simp only [menC, menD]
    rw [show m.length - 1 - (m.length - (i + 1)) = i by omega, List.append_assoc]
theorem menC_all (s code : Int) (m : List Pc) : menC s code m m.length = menD s code m m.length := by
  have := menC_rest (s := s) (code := code) (m := m) m.length (Nat.le_refl _)
  rw [Nat.sub_self] at this
  simpa [menD] using this
theorem manC_len (s code : Int) (m : List Pc) (i : Nat) : (manC s code m i).length ≤ 1 := by unfold manC; split <;> simp
theorem menC_len (s code : Int) (m : List Pc) : ∀ i, (menC s code m i).length ≤ i := by
  intro i
  induction i with
  | zero => exact Nat.le_refl _
  | succ i ih => have := manC_len s code m i; simp only [menC, List.length_append]; omega
theorem putC_len (s code : Int) (m : List Pc) : ∀ k, (putC s code m k).length ≤ k := by
  intro k
  induction k with
  | zero => exact Nat.le_refl _
  | succ k ih => simp only [putC]; split
                 · omega
                 · rw [putL_len]; omega
theorem putC_ok {s code : Int} {m : List Pc} : ∀ k, k ≤ m.length → (∀ j, j < k → goodC s code m j = true) → Asc (putC s code m k) ∧ (putC s code m k).Perm (menD s code m k) := by
  intro k
  induction k with
  | zero => intro _ _; exact ⟨List.Pairwise.nil, .refl _⟩
  | succ k ih =>
    intro hk hg
    obtain ⟨ha, hp⟩ := ih (by omega) (fun j hj => hg j (by omega))
    have hgk := hg k (by omega)
    unfold goodC at hgk
    simp only [Bool.or_eq_true, decide_eq_true_eq] at hgk
    simp only [putC, menD, manC, digC_rem (show k < m.length by omega)]
    by_cases hc : remK (s * s + 1) code k % (s * s + 1) = s * s
    · rw [if_pos hc, if_pos hc]; exact ⟨ha, hp⟩
    · rw [if_neg hc, if_neg hc]
      have hm := hgk.resolve_left hc
      refine ⟨putL_asc ha (fun x hx => ?_), (putL_perm _ _).trans (List.Perm.cons _ hp)⟩
      obtain ⟨i, hi, rfl⟩ := List.getElem_of_mem hx
      rw [← stAt_lt hi]
      exact manV_miss hm i hi
/-- where two men stand on one square, no order of them is a position -/
theorem putC_bad {s code : Int} {m : List Pc} {k : Nat} (hk : k < m.length) (hg : ∀ j, j < k → goodC s code m j = true) (hb : goodC s code m k = false) : ¬ (menD s code m m.length).Pairwise (fun a b => a.far ≠ b.far) := by
  obtain ⟨_, hp⟩ := putC_ok k (by omega) hg
  unfold goodC at hb
  simp only [Bool.or_eq_false_iff, decide_eq_false_iff_not] at hb
  obtain ⟨hc, hm⟩ := hb
  obtain ⟨h1, h2, _⟩ := manV_far hm
  have hmem : stAt (putC s code m k) (manV (putC s code m k) (remK (s * s + 1) code k % (s * s + 1))).toNat ∈ menD s code m k := hp.mem_iff.1 (stAt_mem h1)
  have hbad : ¬ (menD s code m (k + 1)).Pairwise (fun a b => a.far ≠ b.far) := by
    simp only [menD, manC, digC_rem hk]
    rw [if_neg hc]
    intro h
    obtain ⟨h3, _⟩ := List.pairwise_cons.1 h
    exact h3 _ hmem h2.symm
  have hsub : ∀ d, k + 1 + d ≤ m.length → ∃ L, menD s code m (k + 1 + d) = L ++ menD s code m (k + 1) := by
    intro d
    induction d with
    | zero => intro _; exact ⟨[], rfl⟩
    | succ d ih =>
      intro hd
      obtain ⟨L, hL⟩ := ih (by omega)
      refine ⟨manC s code m (m.length - 1 - (k + 1 + d)) ++ L, ?_⟩
      rw [show k + 1 + (d + 1) = (k + 1 + d) + 1 by omega]
      simp only [menD, hL, List.append_assoc]
  intro h
  obtain ⟨L, hL⟩ := hsub (m.length - (k + 1)) (by omega)
  rw [show k + 1 + (m.length - (k + 1)) = m.length by omega] at hL
  rw [hL] at h
  exact hbad (List.pairwise_append.1 h).2.1
theorem pairwise_ne_perm {a b : List St} (hp : a.Perm b) (h : a.Pairwise (fun x y => x.far ≠ y.far)) : b.Pairwise (fun x y => x.far ≠ y.far) :=
  hp.pairwise h (fun {x y} hxy e => hxy e.symm)
theorem up_asc {l : List St} (h : Up l) : Asc l := by
  unfold Asc
  refine List.pairwise_iff_getElem.2 fun i j hi hj hij => ?_
  have := h.lt hij hj
  rwa [stAt_lt hi, stAt_lt hj] at this
/-- what the program's sorted list says: the same as the model's -/
theorem posC_of {s : Int} {ks : List Kd} {m : List Pc} {code : Int} {l' : List St} (hp : l'.Perm (menC s code m m.length)) (ho : l'.Pairwise fun x y => x.far ≤ y.far) :
    (posOk s ks (remK (s * s + 1) code m.length) l' = posIB s ks m code) ∧ (posIB s ks m code = true → l' = putC s code m m.length) := by
  rw [menC_all] at hp
  cases hg : (List.range m.length).all (goodC s code m)
  · have hB : posIB s ks m code = false := by unfold posIB; rw [hg]; rfl
    rw [hB]
    refine ⟨?_, fun h => by cases h⟩
    cases hq : posOk s ks (remK (s * s + 1) code m.length) l'
    · rfl
    · exfalso
      rw [List.all_eq_false] at hg
      obtain ⟨k0, hk0, hb0⟩ := hg
      have hk0' : k0 < m.length := by simpa using hk0
      have hex : ∃ k, k < m.length ∧ (∀ j, j < k → goodC s code m j = true) ∧ goodC s code m k = false := by
        have : ∀ n, n ≤ m.length → (∀ j, j < n → goodC s code m j = true) ∨ ∃ k, k < n ∧ (∀ j, j < k → goodC s code m j = true) ∧ goodC s code m k = false := by
          intro n
          induction n with
          | zero => intro _; exact .inl fun j hj => absurd hj (by omega)
          | succ n ih =>
            intro hn
            rcases ih (by omega) with h | ⟨k, hk, h⟩
            · cases hgn : goodC s code m n
              · exact .inr ⟨n, by omega, h, hgn⟩
              · exact .inl (all_succ h hgn)
            · exact .inr ⟨k, by omega, h⟩
        rcases this m.length (Nat.le_refl _) with h | h
        · exact absurd (h k0 hk0') hb0
        · exact h
      obtain ⟨k, hk, h1, h2⟩ := hex
      refine putC_bad hk h1 h2 (pairwise_ne_perm hp ?_)
      unfold posOk at hq
      simp only [Bool.and_eq_true] at hq
      exact (up_asc (shapeB_up hq.1)).imp fun h => by omega
  · have hgo : ∀ j, j < m.length → goodC s code m j = true := fun j hj => by
      rw [List.all_eq_true] at hg; exact hg j (by simpa using hj)
    obtain ⟨ha, hpp⟩ := putC_ok m.length (Nat.le_refl _) hgo
    have he : l' = putC s code m m.length := asc_unique (hp.trans hpp.symm) ha ho
    refine ⟨?_, fun _ => he⟩
    unfold posIB
    rw [hg, he]; rfl
theorem posCB_in {s : Int} {ks : List Kd} {m : List Pc} {code : Int} (h0 : 0 ≤ code) (h1 : code < numV s m.length) : posCB s ks m code = posIB s ks m code := by unfold posCB; rw [decide_eq_true ⟨h0, h1⟩]; rfl
theorem posCB_out {s : Int} {ks : List Kd} {m : List Pc} {code : Int} (h : ¬ (0 ≤ code ∧ code < numV s m.length)) : posCB s ks m code = false := by unfold posCB; rw [decide_eq_false h]; rfl
theorem posIB_bad {s : Int} {ks : List Kd} {m : List Pc} {code : Int} {k : Nat} (hk : k < m.length) (h : goodC s code m k = false) : posIB s ks m code = false := by
  unfold posIB
  rw [show (List.range m.length).all (goodC s code m) = false from by rw [List.all_eq_false]; exact ⟨k, by simpa using hk, by simp [h]⟩]; rfl
theorem posIB_end {s : Int} {ks : List Kd} {m : List Pc} {code : Int} (h : ∀ j, j < m.length → goodC s code m j = true) : posIB s ks m code = posOk s ks (remK (s * s + 1) code m.length) (putC s code m m.length) := by
  unfold posIB
  rw [show (List.range m.length).all (goodC s code m) = true from by rw [List.all_eq_true]; intro j hj; exact h j (by simpa using hj)]; rfl
end Go.Proofs.YtnjhcjjeehccbaaGreatDoor.Ko

namespace Go.Proofs.YtnjhcjjeehccbaaGreatDoor.Ko
open Go.ChangeShapes Go.WideShapes Go.ChangeAt Go.RowKit Base Sq In
set_option linter.unusedVariables false
set_option maxRecDepth 20000
attribute [local irreducible] wpQuiet

/-- the digits of a code: who is to move, and where each piece is -/
def digL (b code : Int) (n : Nat) : List Int := remK b code n :: (List.range n).map (digC b code n)
theorem digL_len (b code : Int) (n : Nat) : (digL b code n).length = n + 1 := by simp [digL]
theorem digL_zero (b code : Int) (n : Nat) : iAt (digL b code n) 0 = remK b code n := rfl
theorem digL_succ {b code : Int} {n i : Nat} (h : i < n) : iAt (digL b code n) (i + 1) = digC b code n i := by
  unfold iAt digL; simp [List.getD_eq_getElem?_getD, h]
/-- the digit that the j-th round writes -/
theorem digL_at {b code : Int} {n j : Nat} (hj : j ≤ n) (hr : j = n → 0 ≤ remK b code n ∧ remK b code n < 2) : iAt (digL b code n) (n - j) = remK b code j % (if j = n then 2 else b) := by
  by_cases h : j = n
  · subst h
    rw [if_pos rfl, Nat.sub_self, digL_zero]
    have := hr rfl
    omega
  · rw [if_neg h, show n - j = (n - 1 - j) + 1 by omega, digL_succ (by omega), digC_rem (by omega)]

end Go.Proofs.YtnjhcjjeehccbaaGreatDoor.Ko

namespace Go.Proofs.YtnjhcjjeehccbaaGreatDoor.Ko
open Go.ChangeShapes Go.WideShapes Go.ChangeAt Go.RowKit Base Sq
set_option linter.unusedVariables false
set_option maxRecDepth 20000
attribute [local irreducible] wpQuiet

theorem ins_nil (W : World) : Calls Tryz.prog 222 #[.slice none 0 0, .int .i64 0, .int .i64 0, .func (.func 206) #[] #[]] W fun e w' => e = .returned (.tuple #[]) ∧ W = w' := by
  go_enter Tryz.func222, Tryz.ntmps222
  go_wp2_with fail
  go_loop [8] (fun i => i = .int .i64 1) (fun i => 0)
  case atStart => rfl
  case round =>
    obtain rfl := hrel
    go_wp2_with fail
    go_end0
    exact ⟨rfl, rfl⟩
theorem pdq_nil (l : Int) (W : World) : Calls Tryz.prog 214 #[.slice none 0 0, .int .i64 0, .int .i64 0, .int .i64 l, .func (.func 206) #[] #[]] W fun e w' => e = .returned (.tuple #[]) ∧ W = w' := by
  go_enter Tryz.func214, Tryz.ntmps214
  go_wp2_with fail
  go_loop [1, 2] (fun a b => a = .int .i64 0 ∧ b = .int .i64 0) (fun _ _ => 0)
  case atStart => exact ⟨rfl, rfl⟩
  case round =>
    obtain ⟨rfl, rfl⟩ := hrel
    go_wp2_with fail
    refine (ins_nil _).mono ?_
    rintro e w' ⟨rfl, rfl⟩
    go_wp2_with fail
    exact bodyPost_ret (v := .tuple #[]) (by simp [results, Tryz.results214, go_sem]) rfl ⟨rfl, rfl⟩
theorem sort_nil (W : World) : Calls Tryz.prog 205 #[.slice none 0 0, .func (.func 206) #[] #[]] W fun e w' => e = .returned (.tuple #[]) ∧ W = w' := by
  go_enter Tryz.func205, Tryz.ntmps205
  go_wp2_with fail
  refine (bitsLen_any 0 _ (by omega)).mono ?_
  rintro e w' ⟨⟨l, rfl⟩, rfl⟩
  go_wp2_with fail
  refine (pdq_nil l _).mono ?_
  rintro e w' ⟨rfl, rfl⟩
  go_wp2_with fail
  go_end0
  exact ⟨rfl, rfl⟩
theorem sortMen_nil (W : World) : Calls Tryz.prog 185 #[.slice none 0 0] W fun e w' => e = .returned (.tuple #[]) ∧ W = w' := by
  go_enter Tryz.func185, Tryz.ntmps185
  go_wp2_with fail
  refine (sort_nil _).mono ?_
  rintro e w' ⟨rfl, rfl⟩
  go_wp2_with fail
  go_end0
  exact ⟨rfl, rfl⟩
end Go.Proofs.YtnjhcjjeehccbaaGreatDoor.Ko

namespace Go.Proofs.YtnjhcjjeehccbaaGreatDoor.Ko
open Go.ChangeShapes Go.WideShapes Go.ChangeAt Go.RowKit Base Sq
set_option linter.unusedVariables false
set_option maxRecDepth 20000

/-- the men that have been put, in a block of the call's own -/
def PutA (lo : Nat) (w : World) (v : Value) (L : List St) : Prop := (L = [] ∧ v = .slice none 0 0) ∨ (0 < L.length ∧ ∃ A c, v = .slice A L.length c ∧ MenA lo w.heap.size w A L ∧ L.length ≤ c ∧ c ≤ maxLen)

theorem MenA.off {lo hi : Nat} {w : World} {A : Option Addr} {l : List St} (h : MenA lo hi w A l) (a : Addr) (u : Value) (ha : a.block < lo) : MenA lo hi (w.setCell a u) A l := fun hn => by
  obtain ⟨b, cs, rfl, h1, h2, h3, h4, h5⟩ := h hn
  exact ⟨b, cs, rfl, h1, h2, h3.other a u (by omega), h4, h5⟩
theorem PutA.below {lo : Nat} {w w' : World} {v : Value} {L : List St} (h : PutA lo w v L) (hb : Below w.heap.size w w') : PutA lo w' v L := by
  rcases h with h | ⟨h1, A, c, h2, h3, h4⟩
  · exact .inl h
  · exact .inr ⟨h1, A, c, h2, (h3.below hb).more (Nat.le_refl _) hb.size, h4⟩
end Go.Proofs.YtnjhcjjeehccbaaGreatDoor.Ko

namespace Go.Proofs.YtnjhcjjeehccbaaGreatDoor.Ko
open Go.ChangeShapes Go.WideShapes Go.ChangeAt Go.RowKit Base Sq In
set_option linter.unusedVariables false
set_option maxRecDepth 20000
attribute [local irreducible] wpQuiet

/-- a position and whether there is one; its men lie in new memory -/
def PosRes (B : Bool) (T : Int) (L : List St) (w w' : World) (e : Ending) : Prop :=
  ∃ A c lo hi, e = .returned (.tuple #[.agg #[.int .i64 T, .slice A L.length c], .bool B]) ∧ w.heap.size ≤ lo ∧ hi ≤ w'.heap.size ∧ MenA lo hi w' A L ∧ Below w.heap.size w w'
theorem posCT_no {s : Int} {ks : List Kd} {m : List Pc} {code : Int} (h : posCB s ks m code = false) : posCT s ks m code = 0 ∧ posCL s ks m code = [] := by unfold posCT posCL; rw [h]; exact ⟨rfl, rfl⟩
theorem posCT_yes {s : Int} {ks : List Kd} {m : List Pc} {code : Int} (h : posCB s ks m code = true) : posCT s ks m code = remK (s * s + 1) code m.length ∧ posCL s ks m code = putC s code m m.length := by unfold posCT posCL; rw [h]; exact ⟨rfl, rfl⟩
theorem posRes_no {s : Int} {ks : List Kd} {m : List Pc} {code : Int} {w w' : World} (h : posCB s ks m code = false) (hb : Below w.heap.size w w') : PosRes (posCB s ks m code) (posCT s ks m code) (posCL s ks m code) w w' (.returned (.tuple #[.agg #[.int .i64 0, .slice none 0 0], .bool false])) := by
  obtain ⟨h1, h2⟩ := posCT_no h
  rw [h, h1, h2]
  exact ⟨none, 0, w.heap.size, w'.heap.size, rfl, Nat.le_refl _, Nat.le_refl _, MenA.nil _ _ _ _, hb⟩
/-- what holds at each round's head -/
def CpInv (w wr : World) (side : Int) (A : Option Addr) (c n : Nat) (M : Option Addr) (cm m : Nat) (D : Option Addr) (d : Nat) (pb g : Nat) (t : Int) (dl : List Int) (v : Value) (L : List St) : Prop :=
  OwnM wr (pb + 1) v L.length L ∧ Blk wr w.heap.size #[.int .i64 side, .slice A n c, .slice M m cm, .slice D (m + 1) d] 132 ∧ Blk wr (w.heap.size + 1) #[.int .i64 0, .slice none 0 0] 40 ∧
    Blk wr pb #[.int .i64 t, v] 40 ∧ IsInts wr pb (some ⟨g, 0, none⟩) dl ∧ Below w.heap.size w wr ∧ w.heap.size + 2 ≤ pb
theorem OwnM.off2 {w : World} {base n : Nat} {v : Value} {l : List St} {b : Nat} {i : Nat} (h : OwnM w base v n l) (hb : b < base) (u : Value) : OwnM (w.setCell ⟨b, i, none⟩ u) base v n l := h.other _ _ hb
theorem IsInts.other' {w : World} {B : Nat} {A : Option Addr} {l : List Int} (h : IsInts w B A l) (a : Addr) (u : Value) (hne : ∀ b, A = some ⟨b, 0, none⟩ → b ≠ a.block) : IsInts (w.setCell a u) B A l := fun hn => by
  obtain ⟨b, rfl, hB, hc⟩ := h hn
  exact ⟨b, rfl, hB, fun i hi => (World.cell?_of_block (Below.heap_setCell w a u b (hne b rfl))).trans (hc i hi)⟩
theorem cp_next {w w7 : World} {side : Int} {A : Option Addr} {c n : Nat} {M : Option Addr} {cm m : Nat} {D : Option Addr} {d pb g : Nat} {t : Int} {dl : List Int} {v : Value} {B7 : Option Addr} {c7 : Nat} {L L' : List St} {s : St} (hL : L' = L ++ [s])
    (hO : OwnM w7 (pb + 1) (.slice B7 (L.length + 1) c7) (L.length + 1) (L ++ [s])) (r1 : Blk w7 w.heap.size #[.int .i64 side, .slice A n c, .slice M m cm, .slice D (m + 1) d] 132) (r2 : Blk w7 (w.heap.size + 1) #[.int .i64 0, .slice none 0 0] 40)
    (r3 : Blk w7 pb #[.int .i64 t, v] 40) (hG : IsInts w7 pb (some ⟨g, 0, none⟩) dl) (hbe : Below w.heap.size w w7) (hpz : w.heap.size + 2 ≤ pb) (hg : g < pb) :
    CpInv w (w7.setCell ⟨pb, 1, none⟩ (.slice B7 (L.length + 1) c7)) side A c n M cm m D d pb g t dl (.slice B7 L'.length c7) L' := by
  subst hL
  have e : (L ++ [s]).length = L.length + 1 := by simp
  unfold CpInv
  rw [e]
  exact ⟨hO.off2 (by omega : pb < pb + 1) _, Blk.other r1 _ _ (by show w.heap.size ≠ pb; omega), r2.other _ _ (by show w.heap.size + 1 ≠ pb; omega), r3.set 1 _, IsInts.other' hG _ _ (fun b hb => by injection hb with hb; injection hb with hb; subst hb; show g ≠ pb; omega), hbe.setCell (by show w.heap.size ≤ pb; omega) _, hpz⟩
theorem ownM_none (w : World) (base : Nat) : OwnM w base (.slice none 0 0) ([] : List St).length [] := ⟨rfl, .inl ⟨rfl, rfl⟩⟩

end Go.Proofs.YtnjhcjjeehccbaaGreatDoor.Ko

namespace Go.Proofs.YtnjhcjjeehccbaaGreatDoor.Ko
open Go.ChangeShapes Go.WideShapes Go.ChangeAt Go.RowKit Base Sq In
set_option linter.unusedVariables false
set_option maxRecDepth 20000
attribute [local irreducible] wpQuiet

/-- what holds at each round's head: k pieces are done -/
def LpInv (w wr : World) (side : Int) (A : Option Addr) (c n : Nat) (v : Value) (L : List St) : Prop :=
  Blk wr w.heap.size #[.int .i64 side, .slice A n c] 36 ∧ Blk wr (w.heap.size + 1) #[.int .i64 0, .slice none 0 0] 40 ∧ Blk wr (w.heap.size + 1 + 1) #[.int .i64 0, v] 40 ∧ PutA (w.heap.size + 1 + 1 + 1) wr v L ∧ Below w.heap.size w wr

end Go.Proofs.YtnjhcjjeehccbaaGreatDoor.Ko

namespace Go.Proofs.YtnjhcjjeehccbaaGreatDoor.Ko
open Go.ChangeShapes Go.WideShapes Go.ChangeAt Go.RowKit Base Sq In
set_option linter.unusedVariables false
set_option maxRecDepth 20000
attribute [local irreducible] wpQuiet

/-- the value of a code at the beginning -/
def newAt (side : Int) (ks : List Kd) (m : List Pc) (code : Int) : Int :=
  if posCB side ks m code = true then (if stateV side ks (posCT side ks m code) (posCL side ks m code) = 2 then 2 else 1) else 0
def newL (side : Int) (ks : List Kd) (m : List Pc) (n : Nat) : List Int := (List.range n).map fun i : Nat => newAt side ks m i
theorem newL_len (side : Int) (ks : List Kd) (m : List Pc) (n : Nat) : (newL side ks m n).length = n := by simp [newL]
theorem newL_succ (side : Int) (ks : List Kd) (m : List Pc) (n : Nat) : newL side ks m (n + 1) = newL side ks m n ++ [newAt side ks m n] := by simp [newL, List.range_succ]
theorem newL_at {side : Int} {ks : List Kd} {m : List Pc} {n i : Nat} (h : i < n) : iAt (newL side ks m n) i = newAt side ks m i := by unfold iAt newL; simp [List.getD_eq_getElem?_getD, h]
/-- a position that a code has is valid -/
theorem posC_ok {side : Int} {ks : List Kd} {m : List Pc} {code : Int} (h : posCB side ks m code = true) : shapeB side ks (posCT side ks m code) (posCL side ks m code) = true ∧ posOk side ks (posCT side ks m code) (posCL side ks m code) = true := by
  obtain ⟨h1, h2⟩ := posCT_yes h
  rw [h1, h2]
  unfold posCB at h
  simp only [Bool.and_eq_true] at h
  have h3 := h.2
  unfold posIB at h3
  simp only [Bool.and_eq_true] at h3
  refine ⟨?_, h3.2⟩
  have h4 := h3.2
  unfold posOk at h4
  simp only [Bool.and_eq_true] at h4
  exact h4.1
theorem posRes_men {B : Bool} {T : Int} {L : List St} {w w' : World} {e : Ending} (h : PosRes B T L w w' e) : ∃ A c, e = .returned (.tuple #[.agg #[.int .i64 T, .slice A L.length c], .bool B]) ∧ MenA w.heap.size w'.heap.size w' A L ∧ Below w.heap.size w w' := by
  obtain ⟨A, c, lo, hi, he, h1, h2, h3, h4⟩ := h
  exact ⟨A, c, he, h3.more h1 h2, h4⟩
def IntsRes (L : List Int) (w w' : World) (e : Ending) : Prop := ∃ A c, e = .returned (.slice A L.length c) ∧ NewInts w.heap.size w'.heap.size w' A L ∧ Below w.heap.size w w'
theorem own_row0 {w : World} {base n : Nat} {v : Value} {l : List Int} (h : In.Own w base v l) (hn : l.length = n) : w.ownsRow base 3 1 v n (In.nums l) := by have := h; unfold In.Own at this; rwa [hn] at this

end Go.Proofs.YtnjhcjjeehccbaaGreatDoor.Ko
