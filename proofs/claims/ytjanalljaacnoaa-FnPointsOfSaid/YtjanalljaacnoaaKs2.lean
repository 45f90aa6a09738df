/- ResultsOk: the program's and the model's. -/
import Derived.Test.YtjanalljaacnoaaJr
import Derived.Test.YtjanalljaacnoaaHr
namespace Go.Proofs.Ytjanalljaacnoaa.Ko
open Go.ChangeShapes Go.WideShapes Go.ChangeAt Go.RowKit Base Sq In
set_option linter.unusedVariables false
set_option maxRecDepth 20000
attribute [local irreducible] wpQuiet

theorem resB_out {p : Int} {l : List St} (h : ¬ ((2 ≤ p ∧ p ≤ 8) ∧ l.length ≤ 28)) : resB p l = false := by
  unfold resB
  cases h1 : decide (2 ≤ p ∧ p ≤ 8)
  · simp
  · have h2 : ¬ l.length ≤ 28 := fun h3 => h ⟨of_decide_eq_true h1, h3⟩
    rw [decide_eq_false h2, Bool.and_false]
theorem entrantsOk_any (q : Int) (w : World) : Calls Try.prog 74 #[.int .i64 q] w fun e w' => e = .returned (.bool (inB q 2 8)) ∧ w = w' := by
  rcases ltge q 2 with h | h
  · have HN := Lib.hid (show inB q 2 8 = false from decide_eq_false (by omega))
    have d1 : decide (2 ≤ q) = false := decide_eq_false (by omega)
    clear h
    go_enter Try.func74, Try.ntmps74
    go_wp2_with fail
    go_ret
    exact ⟨rb HN.out.symm, rfl⟩
  · rcases ltge 8 q with h2 | h2
    · have HN := Lib.hid (show inB q 2 8 = false from decide_eq_false (by omega))
      have d1 : decide (2 ≤ q) = true := decide_eq_true (by omega)
      have d2 : decide (q ≤ 8) = false := decide_eq_false (by omega)
      clear h h2
      go_enter Try.func74, Try.ntmps74
      go_wp2_with fail
      go_ret
      exact ⟨rb HN.out.symm, rfl⟩
    · have HN := Lib.hid (show inB q 2 8 = true from decide_eq_true (by omega))
      have d1 : decide (2 ≤ q) = true := decide_eq_true (by omega)
      have d2 : decide (q ≤ 8) = true := decide_eq_true (by omega)
      clear h h2
      go_enter Try.func74, Try.ntmps74
      go_wp2_with fail
      go_ret
      exact ⟨rb HN.out.symm, rfl⟩
/-- one result is valid -/
def rB (p a b c : Int) : Bool := decide (0 ≤ a ∧ a ≤ p - 1) && decide (0 ≤ b ∧ b ≤ p - 1) && !decide (a = b) && decide (0 ≤ c ∧ c ≤ 2)
theorem resAt_rB (p : Int) (l : List St) (i : Nat) : resAt p l i = rB p (stAt l i).dx (stAt l i).dy (stAt l i).far := rfl
theorem resOk_any (a b c p : Int) (w : World) :
    Calls Try.prog 75 #[.agg #[.int .i64 a, .int .i64 b, .int .i64 c], .int .i64 p] w fun e w' => e = .returned (.bool (rB p a b c)) ∧ Below w.heap.size w w' := by
  go_enter Try.func75, Try.ntmps75
  go_wp2_with fail
  all_goals
    go_ret
    exact ⟨rb (by first | (unfold rB; rw [Bool.eq_iff_iff]; simp at *; done) | (unfold rB; rw [Bool.eq_iff_iff]; simp at *; omega)), (by repeat (first | exact Below.refl _ _ | assumption | (refine Below.alloc ?_ (by first | omega | (simp; done) | (simp; omega)) _) | (refine Below.setCell ?_ (by first | omega | (simp; done) | (simp; omega)) _) | refine Below.drew ?_))⟩
set_option maxHeartbeats 1000000 in
theorem resultsOk_any (p : Int) (A : Option Addr) (ca : Nat) (l : List St) (w : World) (hA : IsSteps w w.heap.size A l) (hl : l.length ≤ 1048576) :
    Calls Try.prog 43 #[.int .i64 p, .slice A l.length ca] w fun e w' => e = .returned (.bool (resB p l)) ∧ Below w.heap.size w w' := by
  cases hp : inB p 2 8
  · have HP := Lib.hid hp
    have HN := Lib.hid (resB_out (p := p) (l := l) (fun h => of_decide_eq_false hp h.1))
    clear hp
    go_enter Try.func43, Try.ntmps43
    go_wp2_with (go_at_call 74; refine (entrantsOk_any _ _).mono ?_; rw [HP.out]; rintro e w' ⟨rfl, rfl⟩)
    go_ret
    exact ⟨rb HN.out.symm, Below.refl _ _⟩
  · have HP := Lib.hid hp
    have hpp : 2 ≤ p ∧ p ≤ 8 := of_decide_eq_true hp
    by_cases h28 : (28 : Int) < (l.length : Int)
    · have HN := Lib.hid (resB_out (p := p) (l := l) (fun h => by omega))
      clear hp
      go_enter Try.func43, Try.ntmps43
      go_wp2_with (go_at_call 74; refine (entrantsOk_any _ _).mono ?_; rw [HP.out]; rintro e w' ⟨rfl, rfl⟩)
      go_ret
      exact ⟨rb HN.out.symm, Below.refl _ _⟩
    · have hd : decide ((28 : Int) < (l.length : Int)) = false := decide_eq_false h28
      have HE := Lib.hid (show (decide (2 ≤ p ∧ p ≤ 8) && decide (l.length ≤ 28)) = true by rw [decide_eq_true hpp, decide_eq_true (by omega)]; rfl)
      have h28' : (l.length : Int) ≤ 28 := by omega
      clear h28 hp
      go_enter Try.func43, Try.ntmps43
      go_wp2_with (go_at_call 74; refine (entrantsOk_any _ _).mono ?_; rw [HP.out]; rintro e w' ⟨rfl, rfl⟩)
      clear hd
      go_loopw [17] (fun i wr => ∃ k : Nat, k ≤ l.length ∧ i = .int .i64 k ∧ Hid (∀ j, j < k → resAt p l j = true) ∧ Below w.heap.size w wr) (fun i _ => l.length - (intOf i).toNat)
      case atStart => exact ⟨0, by omega, rfl, Lib.hid (fun j hj => absurd hj (by omega)), Below.refl _ _⟩
      case round =>
        obtain ⟨k, hk, rfl, hg, hbe⟩ := hrel
        by_cases hlt : k < l.length
        · have hltI : (k : Int) < (l.length : Int) := by omega
          obtain ⟨b, off, rfl, hB, hc⟩ := (hA.below hbe) (by omega)
          obtain ⟨c0, c1, c2⟩ := hc k hlt
          have hsz := hbe.size
          obtain ⟨⟨e0, e1, e2⟩, _⟩ := (Blk.new wr #[.int .i64 (stAt l k).dx, .int .i64 (stAt l k).dy, .int .i64 (stAt l k).far] 76).at3
          have hbA := hbe.alloc hsz (.cells #[.int .i64 (stAt l k).dx, .int .i64 (stAt l k).dy, .int .i64 (stAt l k).far] 76)
          clear hc
          cases hr : resAt p l k
          · have HR := Lib.hid (show rB p (stAt l k).dx (stAt l k).dy (stAt l k).far = false from hr)
            have HB := Lib.hid (resB_bad hlt hr)
            clear hr
            go_wp2_with (go_at_call 75; refine (resOk_any _ _ _ _ _).mono ?_; rw [HR.out]; rintro e w2 ⟨rfl, hb2⟩)
            go_ret
            exact ⟨rb HB.out.symm, hbA.trans (hb2.mono hbA.size)⟩
          · have HR := Lib.hid (show rB p (stAt l k).dx (stAt l k).dy (stAt l k).far = true from hr)
            have HG := Lib.hid (all_succ hg.out hr)
            clear hr hg
            go_wp2_with (go_at_call 75; refine (resOk_any _ _ _ _ _).mono ?_; rw [HR.out]; rintro e w2 ⟨rfl, hb2⟩)
            have hb3 := hbA.trans (hb2.mono hbA.size)
            go_roundw
            case rel => exact ⟨k + 1, by omega, by go_num, HG, hb3⟩
            case measure => simp [intOf]; omega
        · obtain rfl : k = l.length := by omega
          go_wp2_with fail
          go_ret
          exact ⟨rb (by rw [resB_end hg.out, HE.out]), hbe⟩
/-- one result is valid, the highest number of a player given -/
def rQ (q : Int) (l : List St) (i : Nat) : Bool := inB (stAt l i).dx 0 q && inB (stAt l i).dy 0 q && !decide ((stAt l i).dx = (stAt l i).dy) && inB (stAt l i).far 0 2
theorem rQ_res {p q : Int} (hq : 2 ≤ p ∧ p ≤ 8 → q = p - 1) (h : 2 ≤ p ∧ p ≤ 8) (l : List St) (i : Nat) : rQ q l i = resAt p l i := by rw [hq h]; rfl
theorem rQ_bad {p q : Int} (hq : 2 ≤ p ∧ p ≤ 8 → q = p - 1) {l : List St} {k : Nat} (hk : k < l.length) (h : rQ q l k = false) : resB p l = false := by
  by_cases hp : 2 ≤ p ∧ p ≤ 8
  · exact resB_bad hk (by rw [← rQ_res hq hp]; exact h)
  · exact resB_out (fun h => hp h.1)
theorem rQ_end {p q : Int} (hq : 2 ≤ p ∧ p ≤ 8 → q = p - 1) {l : List St} (h : ∀ j, j < l.length → rQ q l j = true) : resB p l = (inB p 2 8 && decide (l.length ≤ 28)) := by
  by_cases hp : 2 ≤ p ∧ p ≤ 8
  · rw [resB_end (fun j hj => by rw [← rQ_res hq hp]; exact h j hj)]; rfl
  · rw [resB_out (fun h => hp h.1), show inB p 2 8 = false from decide_eq_false hp]; rfl
set_option maxHeartbeats 2000000 in
theorem l20Ok_any (p : Int) (A : Option Addr) (ca : Nat) (l : List St) (w : World) (hA : IsSteps w w.heap.size A l) (hl : l.length ≤ 1048576) :
    Calls Try.prog 72 #[.int .i64 p, .slice A l.length ca] w fun e w' => e = .returned (.bool (resB p l)) ∧ Below w.heap.size w w' := by
  have HQ := Lib.hid (show 2 ≤ p ∧ p ≤ 8 → wrap64 (p - 1) = p - 1 from fun h => by unfold wrap64; omega)
  go_enter Try.func72, Try.ntmps72
  go_wp2_with fail
  go_loopw [5] (fun i wr => ∃ k : Nat, k ≤ l.length ∧ i = .int .i64 k ∧ Hid (∀ j, j < k → rQ (wrap64 (p - 1)) l j = true) ∧ Below w.heap.size w wr) (fun i _ => l.length - (intOf i).toNat)
  case atStart => exact ⟨0, by omega, rfl, Lib.hid (fun j hj => absurd hj (by omega)), Below.refl _ _⟩
  case round =>
    obtain ⟨k, hk, rfl, hg, hbe⟩ := hrel
    by_cases hlt : k < l.length
    · have hltI : (k : Int) < (l.length : Int) := by omega
      obtain ⟨b, off, rfl, hB, hc⟩ := (hA.below hbe) (by omega)
      obtain ⟨c0, c1, c2⟩ := hc k hlt
      have hsz := hbe.size
      obtain ⟨x, hx⟩ : ∃ x, (stAt l k).dx = x := ⟨_, rfl⟩
      obtain ⟨y, hy⟩ : ∃ y, (stAt l k).dy = y := ⟨_, rfl⟩
      obtain ⟨z, hz⟩ : ∃ z, (stAt l k).far = z := ⟨_, rfl⟩
      have HR := Lib.hid (show rQ (wrap64 (p - 1)) l k = (inB x 0 (wrap64 (p - 1)) && inB y 0 (wrap64 (p - 1)) && !decide (x = y) && inB z 0 2) by unfold rQ; rw [hx, hy, hz])
      rw [hx] at c0
      rw [hy] at c1
      rw [hz] at c2
      obtain ⟨⟨e0, e1, e2⟩, _⟩ := (Blk.new wr #[.int .i64 x, .int .i64 y, .int .i64 z] 76).at3
      have hbA := hbe.alloc hsz (.cells #[.int .i64 x, .int .i64 y, .int .i64 z] 76)
      have HB := Lib.hid (fun h : rQ (wrap64 (p - 1)) l k = false => rQ_bad HQ.out hlt h)
      clear hc hx hy hz hbe
      cases h1 : inB x 0 (wrap64 (p - 1))
      · have E1 := Lib.hid h1
        have HN := Lib.hid (HB.out (by rw [HR.out, h1]; rfl))
        clear h1
        go_wp2_with (go_at_call 56; refine (in_any _ _ _ _).mono ?_; rw [E1.out]; rintro e w' ⟨rfl, rfl⟩)
        go_ret
        exact ⟨rb HN.out.symm, hbA⟩
      · have E1 := Lib.hid h1
        cases h2 : inB y 0 (wrap64 (p - 1))
        · have E2 := Lib.hid h2
          have HN := Lib.hid (HB.out (by rw [HR.out, h1, h2]; rfl))
          clear h1 h2
          go_wp2_with (go_at_call 56; refine (in_any _ _ _ _).mono ?_; (first | rw [E1.out] | rw [E2.out]); rintro e w' ⟨rfl, rfl⟩)
          go_ret
          exact ⟨rb HN.out.symm, hbA⟩
        · have E2 := Lib.hid h2
          by_cases h3 : x = y
          · have HN := Lib.hid (HB.out (by rw [HR.out, h1, h2, decide_eq_true h3]; rfl))
            have d3 : (x == y) = true := by simpa using h3
            clear h1 h2 h3
            go_wp2_with (go_at_call 56; refine (in_any _ _ _ _).mono ?_; (first | rw [E1.out] | rw [E2.out]); rintro e w' ⟨rfl, rfl⟩)
            go_ret
            exact ⟨rb HN.out.symm, hbA⟩
          · have d3 : (x == y) = false := by rw [beq_eq_false_iff_ne]; exact h3
            cases h4 : inB z 0 2
            · have E4 := Lib.hid h4
              have HN := Lib.hid (HB.out (by rw [HR.out, h1, h2, h4, Bool.and_false]))
              clear h1 h2 h3 h4
              go_wp2_with (go_at_call 56; refine (in_any _ _ _ _).mono ?_; (first | rw [E1.out] | rw [E2.out] | rw [E4.out]); rintro e w' ⟨rfl, rfl⟩)
              go_ret
              exact ⟨rb HN.out.symm, hbA⟩
            · have E4 := Lib.hid h4
              have HG := Lib.hid (all_succ hg.out (show rQ (wrap64 (p - 1)) l k = true by rw [HR.out, h1, h2, h4, decide_eq_false h3]; rfl))
              clear h1 h2 h3 h4 hg
              go_wp2_with (go_at_call 56; refine (in_any _ _ _ _).mono ?_; (first | rw [E1.out] | rw [E2.out] | rw [E4.out]); rintro e w' ⟨rfl, rfl⟩)
              go_roundw
              case rel => exact ⟨k + 1, by omega, by go_num, HG, hbA⟩
              case measure => simp [intOf]; omega
    · obtain rfl : k = l.length := by omega
      have HE := Lib.hid (rQ_end HQ.out hg.out)
      cases hp : inB p 2 8
      · have HP := Lib.hid hp
        have HN := Lib.hid (show resB p l = false by rw [HE.out, hp]; rfl)
        clear hp
        go_wp2_with (go_at_call 56; refine (in_any _ _ _ _).mono ?_; rw [HP.out]; rintro e w' ⟨rfl, rfl⟩)
        go_ret
        exact ⟨rb HN.out.symm, hbe⟩
      · have HP := Lib.hid hp
        have HN := Lib.hid (show resB p l = decide ((l.length : Int) ≤ 28) by rw [HE.out, hp, Bool.true_and, Bool.eq_iff_iff]; simp; omega)
        clear hp
        go_wp2_with (go_at_call 56; refine (in_any _ _ _ _).mono ?_; rw [HP.out]; rintro e w' ⟨rfl, rfl⟩)
        go_ret
        exact ⟨rb HN.out.symm, hbe⟩
theorem specResultsOk_any (p : Int) (A : Option Addr) (ca : Nat) (l : List St) (w : World) (hA : IsSteps w w.heap.size A l) (hl : l.length ≤ 1048576) :
    Calls Try.prog 44 #[.int .i64 p, .slice A l.length ca] w fun e w' => e = .returned (.bool (resB p l)) ∧ Below w.heap.size w w' := by
  go_enter Try.func44, Try.ntmps44
  go_wp2_with fail
  refine (l20Ok_any _ _ _ _ _ hA hl).mono ?_
  rintro e w' ⟨rfl, hb⟩
  go_wp2_with fail
  go_ret
  exact ⟨rfl, hb⟩
end Go.Proofs.Ytjanalljaacnoaa.Ko
