/- Periods of subtraction games. -/
import Derived.Test.YtiilijpljhnphaaKd
namespace Go.Proofs.Ytiilijpljhnphaa.Per
open Go.ChangeShapes Go.WideShapes Go.ChangeAt Go.RowKit Base Sq In Ko
set_option linter.unusedVariables false
set_option maxRecDepth 20000
attribute [local irreducible] wpQuiet

def repD (g : List Int) (p : Nat) : Nat → Nat
  | 0 => 0
  | k + 1 => if iAt g k = iAt g (k + p) then repD g p k else k + 1
theorem repD_le (g : List Int) (p : Nat) : ∀ k, repD g p k ≤ k := by
  intro k
  induction k with
  | zero => exact Nat.le_refl _
  | succ k ih => unfold repD; split <;> omega
theorem repD_eq {g : List Int} {p : Nat} : ∀ k i, repD g p k ≤ i → i < k → iAt g i = iAt g (i + p) := by
  intro k
  induction k with
  | zero => intro i _ h; omega
  | succ k ih =>
    intro i h1 h2
    unfold repD at h1
    split at h1
    · rename_i e
      rcases Nat.eq_or_lt_of_le (show i ≤ k by omega) with rfl | h3
      · exact e
      · exact ih i h1 h3
    · omega
theorem repD_ne {g : List Int} {p : Nat} : ∀ k j, repD g p k = j + 1 → iAt g j ≠ iAt g (j + p) := by
  intro k
  induction k with
  | zero => intro j h; simp [repD] at h
  | succ k ih =>
    intro j h
    unfold repD at h
    split at h
    · exact ih j h
    · rename_i e
      obtain rfl : k = j := by omega
      exact e
/-- from where on the list repeats itself after p -/
def repF (g : List Int) (p : Nat) : Nat := repD g p (g.length - p)
def PerR (g : List Int) (P F : Nat) : Prop := (P = 0 ∧ F = 0 ∧ ∀ p : Nat, 1 ≤ p → 2 * p + 9 ≤ 60 → 60 < repF g p + 2 * p + 9) ∨ (1 ≤ P ∧ F = repF g P ∧ F + 2 * P + 9 ≤ 60 ∧ ∀ p : Nat, 1 ≤ p → p < P → 60 < repF g p + 2 * p + 9)
theorem PerR.uniq {g : List Int} {P F P' F' : Nat} (h : PerR g P F) (h' : PerR g P' F') : P = P' ∧ F = F' := by
  rcases h with ⟨rfl, rfl, h⟩ | ⟨a, b, c, h⟩ <;> rcases h' with ⟨rfl, rfl, h'⟩ | ⟨a', b', c', h'⟩
  · exact ⟨rfl, rfl⟩
  · have := h P' a' (by omega); omega
  · have := h' P a (by omega); omega
  · rcases Nat.lt_trichotomy P P' with h1 | rfl | h1
    · have := h' P a h1; omega
    · exact ⟨rfl, by rw [b, b']⟩
    · have := h P' a' h1; omega
/-- what TakePeriod answers -/
def TP (z : List Int) (P F : Nat) : Prop := (setB z = true ∧ PerR (gruV z 61) P F) ∨ (setB z = false ∧ P = 0 ∧ F = 0)
theorem TP.uniq {z : List Int} {P F P' F' : Nat} (h : TP z P F) (h' : TP z P' F') : P = P' ∧ F = F' := by
  rcases h with ⟨a, h⟩ | ⟨a, rfl, rfl⟩ <;> rcases h' with ⟨a', h'⟩ | ⟨a', rfl, rfl⟩
  · exact h.uniq h'
  · rw [a] at a'; cases a'
  · rw [a] at a'; cases a'
  · exact ⟨rfl, rfl⟩
def TwoPost (z : List Int) (w w' : World) (e : Ending) : Prop := ∃ P F : Nat, e = .returned (.tuple #[.int .i64 (P : Int), .int .i64 (F : Int)]) ∧ TP z P F ∧ Below w.heap.size w w'

set_option maxHeartbeats 4000000 in
theorem repeatsFrom_any (A : Option Addr) (c : Nat) (g : List Int) (p : Nat) (w : World) (hA : IsInts w w.heap.size A g) (hl : g.length = 61) (hp : 1 ≤ p) (hp2 : p ≤ 60) :
    Calls Try.prog 68 #[.slice A 61 c, .int .i64 (p : Int)] w fun e w' => e = .returned (.int .i64 (repF g p : Int)) ∧ Below w.heap.size w w' := by
  obtain ⟨gb, rfl⟩ := hA.some (by omega)
  have HL := Lib.hid hl
  clear hl
  obtain ⟨q, hq⟩ : ∃ q : Nat, 61 - p = q := ⟨_, rfl⟩
  have hq1 : (61 : Int) - (p : Int) = (q : Int) := by omega
  have hq2 : IntKind.i64.wrap ((61 : Int) - (p : Int)) = (q : Int) := by rw [hq1]; exact IntWalk.i64_in _ (by omega)
  have HR := Lib.hid (show repD g p q = repF g p by unfold repF; rw [HL.out, hq])
  go_enter Try.func68, Try.ntmps68
  go_wp2_with fail
  go_loopw [5] (fun iv wr => ∃ k : Nat, k ≤ q ∧ iv = .int .i64 k ∧ Hid (repD g p k = repF g p) ∧ Below w.heap.size w wr) (fun iv _ => (intOf iv).toNat)
  case atStart => exact ⟨q, Nat.le_refl _, rfl, HR, Below.refl _ _⟩
  case round =>
    obtain ⟨k, hk, rfl, hr, hbe⟩ := hrel
    have hsz := hbe.size
    rcases Nat.eq_zero_or_pos k with rfl | hk0
    · have hre : ((repF g p : Nat) : Int) = 0 := by rw [← hr.out]; rfl
      go_wp2_with fail
      refine wp_region_below (W := wr) (by kernel_rfl) (by kernel_rfl) (Below.refl _ _) ?_
      repeat (first
        | (refine qs_skip (by rfl) ?_; simp only [Act.put, List.setIfInBounds_toArray, List.set_cons_zero, List.set_cons_succ])
        | (apply qs_take
           focus rfl
           focus (
             intro wq hwq
             obtain ⟨hcq, hfq⟩ := bcell hwq
             go_simp
             all_goals first
               | exact rfl
               | (exact ⟨trivial, rfl⟩))
           simp only [Act.put, List.setIfInBounds_toArray, List.set_cons_zero, List.set_cons_succ]))
      refine wpQuiet_nil ?_
      intro wq hwq
      go_wp2_with fail
      go_ret
      exact ⟨by rw [hre]; rfl, hbe.trans (hwq.mono hsz)⟩
    · obtain ⟨j, hj⟩ : ∃ j : Nat, k = j + 1 := ⟨k - 1, by omega⟩
      obtain ⟨r, hr2⟩ : ∃ r : Nat, j + p = r := ⟨_, rfl⟩
      have hd1 : decide ((0 : Int) < (k : Int)) = true := decide_eq_true (by omega)
      have hd2 : decide (0 < k) = true := decide_eq_true hk0
      have hk1 : (k : Int) - 1 = (j : Int) := by omega
      have hk2 : IntKind.i64.wrap ((k : Int) - 1) = (j : Int) := by rw [hk1]; exact IntWalk.i64_in _ (by omega)
      have hk3 : IntKind.i64.wrap (j : Int) = (j : Int) := IntWalk.i64_in _ (by omega)
      have hk4 : (j : Int) + (p : Int) = (r : Int) := by omega
      have hk5 : IntKind.i64.wrap ((j : Int) + (p : Int)) = (r : Int) := by rw [hk4]; exact IntWalk.i64_in _ (by omega)
      have hk6 : IntKind.i64.wrap (r : Int) = (r : Int) := IntWalk.i64_in _ (by omega)
      have i1 : (0 : Int) ≤ (j : Int) := by omega
      have i2 : (j : Int) < 61 := by omega
      have i3 : (0 : Int) ≤ (r : Int) := by omega
      have i4 : (r : Int) < 61 := by omega
      obtain ⟨hgB, c0⟩ := (hA.below hbe).at (i := j) (by rw [HL.out]; omega)
      obtain ⟨_, c1⟩ := (hA.below hbe).at (i := r) (by rw [HL.out]; omega)
      have z1 : gb < wr.heap.size := by omega
      by_cases he : iAt g j = iAt g r
      · have heb : (iAt g j == iAt g r) = true := by rw [beq_iff_eq]; exact he
        have HR2 := Lib.hid (show repD g p j = repF g p by rw [← hr.out, hj]; show repD g p j = (if iAt g j = iAt g (j + p) then repD g p j else j + 1); rw [hr2, if_pos he])
        have HJ := Lib.hid hj
        have HR3 := Lib.hid hr2
        clear he hj hr2 hk0
        go_wp2_with fail
        refine wp_region_below (W := wr) (by kernel_rfl) (by kernel_rfl) (Below.refl _ _) ?_
        repeat (first
          | (refine qs_skip (by rfl) ?_; simp only [Act.put, List.setIfInBounds_toArray, List.set_cons_zero, List.set_cons_succ])
          | (apply qs_take
             focus rfl
             focus (
               intro wq hwq
               obtain ⟨hcq, hfq⟩ := bcell hwq
               go_simp
               all_goals first
                 | exact rfl
                 | (exact ⟨trivial, rfl⟩))
             simp only [Act.put, List.setIfInBounds_toArray, List.set_cons_zero, List.set_cons_succ]))
        refine wpQuiet_nil ?_
        intro wq hwq
        go_wp2_with fail
        go_roundw
        case rel => exact ⟨j, by have := HJ.out; omega, rfl, HR2, hbe.trans (hwq.mono hsz)⟩
        case measure => have := HJ.out; simp [intOf]; omega
      · have heb : (iAt g j == iAt g r) = false := by rw [beq_eq_false_iff_ne]; exact he
        have hre : ((repF g p : Nat) : Int) = (k : Int) := by rw [← hr.out, hj]; show (((if iAt g j = iAt g (j + p) then repD g p j else j + 1) : Nat) : Int) = _; rw [hr2, if_neg he]
        have HRE := Lib.hid hre
        clear he hj hr2 hk0 hre
        go_wp2_with fail
        refine wp_region_below (W := wr) (by kernel_rfl) (by kernel_rfl) (Below.refl _ _) ?_
        repeat (first
          | (refine qs_skip (by rfl) ?_; simp only [Act.put, List.setIfInBounds_toArray, List.set_cons_zero, List.set_cons_succ])
          | (apply qs_take
             focus rfl
             focus (
               intro wq hwq
               obtain ⟨hcq, hfq⟩ := bcell hwq
               go_simp
               all_goals first
                 | exact rfl
                 | (exact ⟨trivial, rfl⟩))
             simp only [Act.put, List.setIfInBounds_toArray, List.set_cons_zero, List.set_cons_succ]))
        refine wpQuiet_nil ?_
        intro wq hwq
        go_wp2_with fail
        go_ret
        exact ⟨by rw [HRE.out]; rfl, hbe.trans (hwq.mono hsz)⟩

set_option maxHeartbeats 4000000 in
theorem takePeriod_any (V : Option Addr) (cv : Nat) (z : List Int) (w : World) (hV : IsInts w w.heap.size V z) (hz : z.length ≤ 1048576) :
    Calls Try.prog 33 #[.slice V z.length cv] w fun e w' => TwoPost z w w' e := by
  cases hs : setB z
  · have HS := Lib.hid hs
    clear hs
    go_enter Try.func33, Try.ntmps33
    go_wp2_with fail
    refine (takeOk_any V cv z w hV hz).mono ?_
    rw [HS.out]
    rintro e w' ⟨rfl, rfl⟩
    go_wp2_with fail
    go_ret2
    exact ⟨0, 0, rfl, .inr ⟨HS.out, rfl, rfl⟩, Below.refl _ _⟩
  · have HS := Lib.hid hs
    clear hs
    go_enter Try.func33, Try.ntmps33
    go_wp2_with fail
    refine (takeOk_any V cv z w hV hz).mono ?_
    rw [HS.out]
    rintro e w' ⟨rfl, rfl⟩
    go_wp2_with fail
    refine (takeAll_any V cv z 60 w hV hz).mono ?_
    rw [show takeV z 60 = gruV z 61 from takeV_yes (m := 60) HS.out (by omega)]
    obtain ⟨G, hG⟩ : ∃ G, G = gruV z 61 := ⟨_, rfl⟩
    have HG := Lib.hid hG
    have HGL := Lib.hid (show G.length = 61 by rw [hG, gruV_len])
    rw [← hG]
    clear hG
    unfold LenNew
    rw [HGL.out]
    rintro e w1 ⟨A, c, rfl, hN, hb1⟩
    have HI := Lib.hid hN.is
    have HW := Lib.hid hb1
    have hsw := hb1.size
    clear hN hb1 hV
    go_wp2_with fail
    go_loopw [5] (fun iv wr => ∃ p : Nat, 1 ≤ p ∧ p ≤ 26 ∧ iv = .int .i64 p ∧ Hid (∀ p' : Nat, 1 ≤ p' → p' < p → 60 < repF G p' + 2 * p' + 9) ∧ Below w1.heap.size w1 wr) (fun iv _ => 26 - (intOf iv).toNat)
    case atStart => exact ⟨1, by omega, by omega, rfl, Lib.hid (fun p' h1 h2 => absurd h2 (by omega)), Below.refl _ _⟩
    case round =>
      obtain ⟨p, hp1, hp2, rfl, hall, hbe⟩ := hrel
      have hsz := hbe.size
      have w2p : IntKind.i64.wrap (2 * (p : Int)) = 2 * (p : Int) := IntWalk.i64_in _ (by omega)
      have w2q : IntKind.i64.wrap (2 * (p : Int) + 9) = 2 * (p : Int) + 9 := IntWalk.i64_in _ (by omega)
      by_cases hgo : 2 * (p : Int) + 9 ≤ 60
      · have hgd : decide (2 * (p : Int) + 9 ≤ 60) = true := decide_eq_true hgo
        go_wp2_with fail
        refine (repeatsFrom_any A c G p wr ((HI.out.below hbe).more hsz) HGL.out hp1 (by omega)).mono ?_
        obtain ⟨f, hf⟩ : ∃ f, f = repF G p := ⟨_, rfl⟩
        have HF := Lib.hid hf
        have hf61 : f ≤ 61 := by
          have := repD_le G p (G.length - p)
          have h2 := HGL.out
          rw [hf]; unfold repF; omega
        rw [← hf]
        clear hf
        rintro e w2 ⟨rfl, hb2⟩
        have hbe2 := hbe.trans (hb2.mono hsz)
        clear hbe hb2
        have v1 : IntKind.i64.wrap ((f : Int) + 2 * (p : Int)) = (f : Int) + 2 * (p : Int) := IntWalk.i64_in _ (by omega)
        have v2 : IntKind.i64.wrap ((f : Int) + 2 * (p : Int) + 9) = (f : Int) + 2 * (p : Int) + 9 := IntWalk.i64_in _ (by omega)
        by_cases hin : (f : Int) + 2 * (p : Int) + 9 ≤ 60
        · have hid : decide ((f : Int) + 2 * (p : Int) + 9 ≤ 60) = true := decide_eq_true hin
          have HIN := Lib.hid hin
          clear hin
          go_wp2_with fail
          go_ret2
          exact ⟨p, f, rfl, .inl ⟨HS.out, by rw [← HG.out]; exact .inr ⟨hp1, HF.out, by have := HIN.out; omega, hall.out⟩⟩, HW.out.trans (hbe2.mono hsw)⟩
        · have hid : decide ((f : Int) + 2 * (p : Int) + 9 ≤ 60) = false := decide_eq_false hin
          have HALL := Lib.hid (show ∀ p' : Nat, 1 ≤ p' → p' < p + 1 → 60 < repF G p' + 2 * p' + 9 from fun p' h1 h2 => by
            rcases Nat.eq_or_lt_of_le (show p' ≤ p by omega) with rfl | h3
            · rw [← HF.out]; omega
            · exact hall.out p' h1 h3)
          clear hin
          go_wp2_with fail
          go_roundw
          case rel => exact ⟨p + 1, by omega, by omega, by go_num, HALL, hbe2⟩
          case measure => simp [intOf]; omega
      · have hgd : decide (2 * (p : Int) + 9 ≤ 60) = false := decide_eq_false hgo
        have HPN := Lib.hid (show ∀ p' : Nat, 1 ≤ p' → 2 * p' + 9 ≤ 60 → 60 < repF G p' + 2 * p' + 9 from fun p' h1 h2 => hall.out p' h1 (by omega))
        clear hgo
        go_wp2_with fail
        go_ret2
        exact ⟨0, 0, rfl, .inl ⟨HS.out, by rw [← HG.out]; exact .inl ⟨rfl, rfl, HPN.out⟩⟩, HW.out.trans (hbe.mono hsw)⟩
end Go.Proofs.Ytiilijpljhnphaa.Per
