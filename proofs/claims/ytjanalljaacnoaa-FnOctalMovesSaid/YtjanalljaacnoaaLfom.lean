/- The walk of the law FnOctalMoves. -/
import Derived.Test.YtjanalljaacnoaaSo3
import Derived.Test.YtjanalljaacnoaaZj
import Derived.Test.YtjanalljaacnoaaKr
import Derived.Test.YtjanalljaacnoaaOt
namespace Go.Proofs.Ytjanalljaacnoaa.Laws
open Go.ChangeShapes Go.WideShapes Go.ChangeAt Go.RowKit Base Sq In Ko Sd So
set_option linter.unusedVariables false
set_option maxRecDepth 20000
attribute [local irreducible] wpQuiet

/-- what a pair of the list says of its digit -/
def OctC (d a b : Int) : Prop := (a = 0 ∧ b = 0 ∧ d % 2 = 1) ∨ (a = 0 ∧ 0 < b ∧ d / 2 % 2 = 1) ∨ (0 < a ∧ a ≤ b ∧ d / 4 = 1)
theorem octAt_cases {c : List Int} {h : Int} {k : Nat} {p : Pr} (hp : p ∈ octAt c h k) : ∃ a b, p = (a, b) ∧ h - a - b = (k : Int) + 1 ∧ OctC (iAt c k) a b := by
  unfold octAt at hp
  rcases List.mem_append.1 hp with hp | hp
  · rcases List.mem_append.1 hp with hp | hp
    · split at hp
      · rename_i h1
        obtain rfl : p = ((0 : Int), (0 : Int)) := by simpa using hp
        exact ⟨0, 0, rfl, by omega, .inl ⟨rfl, rfl, h1.1⟩⟩
      · exact absurd hp (by simp)
    · split at hp
      · rename_i h1
        obtain rfl : p = ((0 : Int), h - k - 1) := by simpa using hp
        exact ⟨0, h - k - 1, rfl, by omega, .inr (.inl ⟨rfl, h1.2, h1.1⟩)⟩
      · exact absurd hp (by simp)
  · split at hp
    · rename_i h1
      obtain ⟨j, hj, rfl⟩ := splitK_mem hp
      exact ⟨_, _, rfl, by omega, .inr (.inr ⟨by omega, by omega, h1⟩)⟩
    · exact absurd hp (by simp)
theorem octMV_mem {c : List Int} {q : Int} {p : Pr} (hp : p ∈ octMV c q) : ∃ (k : Nat) (a b : Int), p = (a, b) ∧ k < c.length ∧ q - a - b = (k : Int) + 1 ∧ 0 ≤ iAt c k ∧ iAt c k ≤ 7 ∧ OctC (iAt c k) a b := by
  by_cases h : octB c = true ∧ 0 ≤ q ∧ q ≤ 60
  · unfold octMV at hp
    rw [if_pos h] at hp
    unfold octM at hp
    obtain ⟨k, hk, hpk⟩ := (Ot.octK_mem _).1 hp
    obtain ⟨a, b, e, f, g⟩ := octAt_cases hpk
    have hk2 : k < c.length := by omega
    obtain ⟨d0, d7⟩ := octB_in h.1 hk2
    exact ⟨k, a, b, e, hk2, f, d0, d7, g⟩
  · rw [octMV_no h] at hp
    exact absurd hp (by simp)
theorem prAt_mem2 {l : List Pr} {i : Nat} (h : i < l.length) : prAt l i ∈ l := by
  unfold prAt; rw [List.getD_eq_getElem?_getD, List.getElem?_eq_getElem h]; exact List.getElem_mem _

set_option maxHeartbeats 8000000 in
theorem fnOctalMoves_walk (w : World) (A : Option Addr) (n c : Nat) (zs : List Int) (h : IsRow .u8 w A n c zs) :
    Calls Try.prog 9 #[.slice A n c] w fun e w' => e = .returned (.bool true) ∧ Below w.heap.size w w' := by
  by_cases hn : 1048576 < n
  · have hd : decide (1048576 < (n : Int)) = true := decide_eq_true (by omega)
    clear h
    go_enter Try.func9, Try.ntmps9
    go_wp2_with fail
    go_ret
    exact ⟨rfl, Below.refl _ _⟩
  have hd : decide (1048576 < (n : Int)) = false := decide_eq_false (by omega)
  have hn2 : n ≤ 1048576 := by omega
  have HH := Lib.hid h
  clear h hn
  go_enter Try.func9, Try.ntmps9
  go_wp2_with fail
  refine (drawOctalMoves_any _ _ _ _ _ HH.out hn2).mono ?_
  rintro e w1 ⟨V, cv, s, x, rfl, hs6, hx0, hx1, hcap, hI1, hW1⟩
  clear HH hd hn2
  have hML : (octMV s x).length ≤ 1048576 := octMV_len
  have HMEM := Lib.hid (fun p (hp : p ∈ octMV s x) => octMV_mem hp)
  have hoc := octalMoves_any V cv s x w1 hI1 (by omega) hcap
  have hsp := fun w2 (h : IsInts w2 w2.heap.size V s) => specOctalMoves_any V cv s x w2 h (by omega)
  generalize octMV s x = M at *
  have HSP := Lib.hid hsp
  have HOC := Lib.hid hoc
  clear hsp hoc
  go_wp2_with fail
  refine HOC.out.mono ?_
  rintro e w2 ⟨A2, c2, rfl, hN2, hb2⟩
  have hI2 := (hI1.below hb2).more hb2.size
  have hP2 := hN2.is
  have hW2 := hW1.trans (hb2.mono hW1.size)
  clear hI1 hN2 hb2 hW1 HOC
  go_wp2_with fail
  refine (HSP.out w2 hI2).mono ?_
  rintro e w3 ⟨A3, c3, rfl, hN3, hb3⟩
  have hI3 := (hI2.below hb3).more hb3.size
  have hP3 := (hP2.below hb3).more hb3.size
  have hQ3 := hN3.is
  have hW3 := hW2.trans (hb3.mono hW2.size)
  clear hI2 hP2 hN3 hb3 hW2 HSP
  have HI := Lib.hid hI3
  have HP := Lib.hid hP3
  have HQ := Lib.hid hQ3
  have HW := Lib.hid hW3
  have hszw := hW3.size
  clear hI3 hP3 hQ3 hW3
  go_wp2_with fail
  go_loopw [7] (fun iv wr => ∃ n : Nat, n ≤ M.length ∧ iv = .int .i64 n ∧ Below w3.heap.size w3 wr) (fun iv _ => M.length - (intOf iv).toNat)
  case atStart => exact ⟨0, by omega, rfl, Below.refl _ _⟩
  case round =>
    obtain ⟨n, hn, rfl, hbe⟩ := hrel
    have hsz := hbe.size
    by_cases hlt : n < M.length
    · have hlt' : (n : Int) < (M.length : Int) := by omega
      have hn0 : (0 : Int) ≤ (n : Int) := by omega
      obtain ⟨k, a, b, hxy, hk, htk, hd0, hd7, hoct⟩ := HMEM.out _ (prAt_mem2 hlt)
      obtain ⟨gb, rfl, _⟩ := HP.out.at hlt
      obtain ⟨qb, rfl, _⟩ := HQ.out.at hlt
      obtain ⟨vb, rfl⟩ := HI.out.some (show 0 < s.length by omega)
      obtain ⟨hgB, c0, c1⟩ := (HP.out.below hbe).atb hlt hxy
      obtain ⟨hqB, d0, d1⟩ := (HQ.out.below hbe).atb hlt hxy
      obtain ⟨hvB, u0⟩ := (HI.out.below hbe).at hk
      have z1 : gb < wr.heap.size := by omega
      have z2 : qb < wr.heap.size := by omega
      have hab : 0 ≤ a ∧ a ≤ b ∧ b ≤ 100 := by unfold OctC at hoct; omega
      obtain ⟨ha0, hab, hb100⟩ := hab
      obtain ⟨T, hT⟩ : ∃ T : Int, x - a - b = T := ⟨_, rfl⟩
      have hra : IntKind.i64.wrap (x - a) = x - a := IntWalk.i64_in _ (by omega)
      have hrb : IntKind.i64.wrap (x - a - b) = T := by rw [hT]; exact IntWalk.i64_in _ (by omega)
      have hrt : IntKind.i64.wrap T = T := IntWalk.i64_in _ (by omega)
      have hTk : T - 1 = (k : Int) := by omega
      have hrk : IntKind.i64.wrap (T - 1) = (k : Int) := by rw [hTk]; exact IntWalk.i64_in _ (by omega)
      have hrk2 : IntKind.i64.wrap (k : Int) = (k : Int) := IntWalk.i64_in _ (by omega)
      have hki : (k : Int) < (s.length : Int) := by omega
      have hk0 : (0 : Int) ≤ (k : Int) := by omega
      have f1 : decide (b < a) = false := decide_eq_false (by omega)
      have f2 : decide (a < 0) = false := decide_eq_false (by omega)
      have f3 : decide (T < 1) = false := decide_eq_false (by omega)
      have f4 : decide ((s.length : Int) < T) = false := decide_eq_false (by omega)
      have HXY := Lib.hid hxy
      clear hxy htk ha0 hab hb100
      go_wp2_with fail
      refine wp_region_below (W := wr) (by kernel_rfl) (by kernel_rfl) (Below.refl _ _) ?_
      repeat (first
        | (refine qs_skip (by rfl) ?_; simp only [Act.put, List.setIfInBounds_toArray, List.set_cons_zero, List.set_cons_succ])
        | (apply qs_take
           focus rfl
           focus (
             intro wq hwq
             obtain ⟨hcq, hfq⟩ := bcell hwq
             go_simp
             all_goals first
               | exact rfl
               | (exact ⟨trivial, rfl⟩))
           simp only [Act.put, List.setIfInBounds_toArray, List.set_cons_zero, List.set_cons_succ]))
      refine wpQuiet_nil ?_
      intro wq hwq
      have hbq := hbe.trans (hwq.mono hsz)
      have hsq := hbq.size
      clear c0 c1 d0 d1 u0 hgB hqB hvB z1 z2 hwq hbe
      generalize wq = w5 at *
      obtain ⟨hgB, c0, c1⟩ := (HP.out.below hbq).atb hlt HXY.out
      obtain ⟨hqB, d0, d1⟩ := (HQ.out.below hbq).atb hlt HXY.out
      have z1 : gb < w5.heap.size := by omega
      have z2 : qb < w5.heap.size := by omega
      go_wp2_with fail
      refine wp_region_below (W := w5) (by kernel_rfl) (by kernel_rfl) (Below.refl _ _) ?_
      repeat (first
        | (refine qs_skip (by rfl) ?_; simp only [Act.put, List.setIfInBounds_toArray, List.set_cons_zero, List.set_cons_succ])
        | (apply qs_take
           focus rfl
           focus (
             intro wq hwq
             obtain ⟨hcq, hfq⟩ := bcell hwq
             go_simp
             all_goals first
               | exact rfl
               | (exact ⟨trivial, rfl⟩))
           simp only [Act.put, List.setIfInBounds_toArray, List.set_cons_zero, List.set_cons_succ]))
      refine wpQuiet_nil ?_
      intro wq hwq
      have hb6 := hbq.trans (hwq.mono hsq)
      have hs6q := hb6.size
      clear c0 c1 d0 d1 hgB hqB z1 z2 hwq hbq
      generalize wq = w6 at *
      obtain ⟨hgB, c0, c1⟩ := (HP.out.below hb6).atb hlt HXY.out
      obtain ⟨hvB, u0⟩ := (HI.out.below hb6).at hk
      have hcase : (((b == 0) = true ∧ decide (0 < b) = false ∧ decide (0 < a) = false ∧ (a == 0) = true) ∧ (iAt s k % 2 == 0) = false) ∨ (((b == 0) = false ∧ decide (0 < b) = true ∧ decide (0 < a) = false ∧ (a == 0) = true) ∧ (iAt s k / 2 % 2 == 0) = false) ∨ (((b == 0) = false ∧ decide (0 < b) = true ∧ decide (0 < a) = true ∧ (a == 0) = false) ∧ (iAt s k / 4 == 0) = false) := by
        rcases hoct with ⟨g1, g2, g3⟩ | ⟨g1, g2, g3⟩ | ⟨g1, g2, g3⟩
        · exact .inl ⟨⟨by rw [beq_iff_eq]; omega, decide_eq_false (by omega), decide_eq_false (by omega), by rw [beq_iff_eq]; omega⟩, by rw [beq_eq_false_iff_ne]; omega⟩
        · exact .inr (.inl ⟨⟨by rw [beq_eq_false_iff_ne]; omega, decide_eq_true (by omega), decide_eq_false (by omega), by rw [beq_iff_eq]; omega⟩, by rw [beq_eq_false_iff_ne]; omega⟩)
        · exact .inr (.inr ⟨⟨by rw [beq_eq_false_iff_ne]; omega, decide_eq_true (by omega), decide_eq_true (by omega), by rw [beq_eq_false_iff_ne]; omega⟩, by rw [beq_eq_false_iff_ne]; omega⟩)
      clear hoct hT
      rcases hcase with ⟨⟨e1, e2, e3, e4⟩, e5⟩ | ⟨⟨e1, e2, e3, e4⟩, e5⟩ | ⟨⟨e1, e2, e3, e4⟩, e5⟩
      all_goals
        go_wp2_with fail
        go_roundw
        case rel => exact ⟨n + 1, by omega, by go_num, hb6⟩
        case measure => simp [intOf]; omega
    · obtain rfl : n = M.length := by omega
      go_wp2_with fail
      go_ret
      exact ⟨rfl, HW.out.trans (hbe.mono hszw)⟩
end Go.Proofs.Ytjanalljaacnoaa.Laws
