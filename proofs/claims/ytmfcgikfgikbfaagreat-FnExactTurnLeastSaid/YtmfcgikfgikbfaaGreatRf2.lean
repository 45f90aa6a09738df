/- Whether a kind, whether rules are even: the program and the model. -/
import Derived.Test.YtmfcgikfgikbfaaGreatTo
import Derived.Test.YtmfcgikfgikbfaaGreatRe
import Derived.Test.YtmfcgikfgikbfaaGreatPv
import Derived.Laws.StructEq
import Derived.ChangeKeysEq
namespace Go.Proofs.YtmfcgikfgikbfaaGreat.Ko
open Go.ChangeShapes Go.WideShapes Go.ChangeAt Go.RowKit Base Sq
set_option linter.unusedVariables false
set_option maxRecDepth 20000
attribute [local irreducible] wpQuiet

def sameB (s t : St) : Bool := (s.dx == t.dx) && (s.dy == t.dy) && (s.far == t.far)
def hasB (l : List St) (s : St) (k : Nat) : Bool := (List.range k).any fun i => sameB (stAt l i) s
theorem hasB_zero (l : List St) (s : St) : hasB l s 0 = false := rfl
theorem hasB_succ (l : List St) (s : St) (k : Nat) : hasB l s (k + 1) = (hasB l s k || sameB (stAt l k) s) := by unfold hasB; rw [List.range_succ, List.any_append]; simp
theorem hasB_yes {l : List St} {s : St} {n k : Nat} (hk : k < n) (h : sameB (stAt l k) s = true) : hasB l s n = true := by unfold hasB; rw [List.any_eq_true]; exact ⟨k, by simpa using hk, h⟩
theorem hasB_no {l : List St} {s : St} {n : Nat} (h : ∀ k, k < n → sameB (stAt l k) s = false) : hasB l s n = false := by unfold hasB; rw [List.any_eq_false]; intro i hi; simp [h i (by simpa using hi)]
def evenAt (k : Int) (l : List St) (i : Nat) : Bool := hasB l (turnSt k (stAt l i)) l.length
def evenK (k : Int) (l : List St) : Bool := (List.range l.length).all (evenAt k l)
theorem evenK_bad {k : Int} {l : List St} {i : Nat} (hi : i < l.length) (h : evenAt k l i = false) : evenK k l = false := by unfold evenK; rw [List.all_eq_false]; exact ⟨i, by simpa using hi, by simp [h]⟩
theorem evenK_good {k : Int} {l : List St} (h : ∀ i, i < l.length → evenAt k l i = true) : evenK k l = true := by unfold evenK; rw [List.all_eq_true]; intro i hi; exact h i (by simpa using hi)
def evenB (k : Int) (ks : List Kd) : Bool := (List.range ks.length).all fun i => evenK k (kAt ks i).steps
theorem evenB_bad {k : Int} {ks : List Kd} {i : Nat} (hi : i < ks.length) (h : evenK k (kAt ks i).steps = false) : evenB k ks = false := by unfold evenB; rw [List.all_eq_false]; exact ⟨i, by simpa using hi, by simp [h]⟩
theorem evenB_good {k : Int} {ks : List Kd} (h : ∀ i, i < ks.length → evenK k (kAt ks i).steps = true) : evenB k ks = true := by unfold evenB; rw [List.all_eq_true]; intro i hi; exact h i (by simpa using hi)
def rulesEven (side : Int) (ks : List Kd) (k : Int) : Bool := rulesOk side ks && inB k 0 7 && evenB k ks

theorem plainInt : Tryz.prog.plainKey 3 = true := by kernel_rfl
theorem eq_step (a b c a' b' c' : Int) (w : World) : (Op.equalIn 10000 104 (.agg #[.int .i64 a, .int .i64 b, .int .i64 c]) (.agg #[.int .i64 a', .int .i64 b', .int .i64 c'])).run Tryz.prog w = .ok (sameB ⟨a, b, c⟩ ⟨a', b', c'⟩) w := by
  have p0 : ∀ x y z : Int, (part 3 #[.int .i64 x, .int .i64 y, .int .i64 z] 0).run Tryz.prog w = .ok (.int .i64 x) w := fun x y z => run_part_plain w plainInt rfl
  have p1 : ∀ x y z : Int, (part 3 #[.int .i64 x, .int .i64 y, .int .i64 z] 1).run Tryz.prog w = .ok (.int .i64 y) w := fun x y z => run_part_plain w plainInt rfl
  have p2 : ∀ x y z : Int, (part 3 #[.int .i64 x, .int .i64 y, .int .i64 z] 2).run Tryz.prog w = .ok (.int .i64 z) w := fun x y z => run_part_plain w plainInt rfl
  have e0 : ∀ x y : Int, (Op.equalIn 9999 3 (.int .i64 x) (.int .i64 y)).run Tryz.prog w = .ok (x == y) w := fun x y => run_equalIn_int w 9998 3 .i64 .i64 x y Tryz.underlying3
  rw [show (10000 : Nat) = 9999 + 1 from rfl, run_equalIn_struct w 9999 _ _ _ (by kernel_rfl) (by kernel_rfl)]
  simp only [Program.fieldsOf, Tryz.underlying104, Op.eqFields]
  by_cases h1 : a = a' <;> by_cases h2 : b = b' <;> by_cases h3 : c = c' <;> simp [p0, p1, p2, e0, sameB, h1, h2, h3]

set_option maxHeartbeats 2000000 in
theorem has_any (name : Int) (king : Bool) (A : Option Addr) (c : Nat) (l : List St) (dx dy far : Int) (w : World) (h : IsSteps w w.heap.size A l) (hl : l.length ≤ 1048576) :
    Calls Tryz.prog 100 #[.agg #[.int .i64 name, .bool king, .slice A l.length c], .agg #[.int .i64 dx, .int .i64 dy, .int .i64 far]] w fun e w' => e = .returned (.bool (hasB l ⟨dx, dy, far⟩ l.length)) ∧ Below w.heap.size w w' := by
  go_enter Tryz.func100, Tryz.ntmps100
  go_wp2_with fail
  have p1 := (Blk.new w #[.int .i64 name, .bool king, .slice A l.length c] 94).alloc (.cells #[.int .i64 dx, .int .i64 dy, .int .i64 far] 104)
  have p2 := Blk.new (w.alloc (.cells #[.int .i64 name, .bool king, .slice A l.length c] 94)) #[.int .i64 dx, .int .i64 dy, .int .i64 far] 104
  simp only [World.size_alloc] at p2
  have HY := Lib.hid (fun k => hasB_yes (l := l) (s := ⟨dx, dy, far⟩) (n := l.length) (k := k))
  have HN := Lib.hid (hasB_no (l := l) (s := ⟨dx, dy, far⟩) (n := l.length))
  go_loopw [10] (fun i wr => ∃ k : Nat, k ≤ l.length ∧ i = .int .i64 k ∧ Hid (∀ j, j < k → sameB (stAt l j) ⟨dx, dy, far⟩ = false) ∧ Blk wr (w.heap.size + 1) #[.int .i64 dx, .int .i64 dy, .int .i64 far] 104 ∧ Below w.heap.size w wr) (fun i _ => l.length - (intOf i).toNat)
  case atStart => exact ⟨0, by omega, rfl, Lib.hid (fun j hj => absurd hj (by omega)), p2, (by repeat (first | exact Below.refl _ _ | assumption | (refine Below.alloc ?_ (by first | omega | (simp; done) | (simp; omega)) _) | (refine Below.setCell ?_ (by first | omega | (simp; done) | (simp; omega)) _) | refine Below.drew ?_))⟩
  case round =>
    clear p1 p2
    obtain ⟨k, hk, rfl, hg, p2, hbe⟩ := hrel
    by_cases hlt : k < l.length
    · obtain ⟨b, off, rfl, hB, hc⟩ := h.below hbe (by omega)
      obtain ⟨c0, c1, c2⟩ := hc k hlt
      obtain ⟨⟨t0, t1, t2⟩, _⟩ := p2.at3
      have hz := hbe.size
      have z1 := p2.lt
      clear hc
      have hEq := eq_step (stAt l k).dx (stAt l k).dy (stAt l k).far dx dy far
      cases hs : sameB (stAt l k) ⟨dx, dy, far⟩
      · have HS := Lib.hid hs
        rw [show sameB ⟨(stAt l k).dx, (stAt l k).dy, (stAt l k).far⟩ ⟨dx, dy, far⟩ = false from hs] at hEq
        clear hs
        go_wp2_with fail
        go_roundw
        case rel => exact ⟨k + 1, by omega, by go_num, Lib.hid (all_succ hg.out HS.out), p2.alloc _, (by repeat (first | exact Below.refl _ _ | assumption | (refine Below.alloc ?_ (by first | omega | (simp; done) | (simp; omega)) _) | (refine Below.setCell ?_ (by first | omega | (simp; done) | (simp; omega)) _) | refine Below.drew ?_))⟩
        case measure => simp [intOf]; omega
      · have HS := Lib.hid (HY.out k hlt hs)
        rw [show sameB ⟨(stAt l k).dx, (stAt l k).dy, (stAt l k).far⟩ ⟨dx, dy, far⟩ = true from hs] at hEq
        clear hs
        go_wp2_with fail
        go_ret
        exact ⟨rb HS.out.symm, (by repeat (first | exact Below.refl _ _ | assumption | (refine Below.alloc ?_ (by first | omega | (simp; done) | (simp; omega)) _) | (refine Below.setCell ?_ (by first | omega | (simp; done) | (simp; omega)) _) | refine Below.drew ?_))⟩
    · obtain rfl : k = l.length := by omega
      go_wp2_with fail
      go_ret
      exact ⟨rb (HN.out hg.out).symm, hbe⟩

/-- the steps of a kind are short -/
def ShortK (l : List St) : Prop := ∀ i, i < l.length → (-2 ≤ (stAt l i).dx ∧ (stAt l i).dx ≤ 2) ∧ (-2 ≤ (stAt l i).dy ∧ (stAt l i).dy ≤ 2)

set_option maxHeartbeats 2000000 in
theorem even_any (name : Int) (king : Bool) (A : Option Addr) (c : Nat) (l : List St) (k : Int) (w : World) (h : IsSteps w w.heap.size A l) (hl : l.length ≤ 1048576) (hsh : ShortK l) (hk : 0 ≤ k ∧ k ≤ 7) :
    Calls Tryz.prog 76 #[.agg #[.int .i64 name, .bool king, .slice A l.length c], .int .i64 k] w fun e w' => e = .returned (.bool (evenK k l)) ∧ Below w.heap.size w w' := by
  have HB := Lib.hid (fun i => evenK_bad (k := k) (l := l) (i := i))
  have HG := Lib.hid (evenK_good (k := k) (l := l))
  have HSH := Lib.hid hsh
  have HK := Lib.hid hk
  clear hsh hk
  go_enter Tryz.func76, Tryz.ntmps76
  go_wp2_with fail
  go_loopw [10] (fun i wr => ∃ n : Nat, n ≤ l.length ∧ i = .int .i64 n ∧ Hid (∀ j, j < n → evenAt k l j = true) ∧ Blk wr w.heap.size #[.int .i64 name, .bool king, .slice A l.length c] 94 ∧ Below w.heap.size w wr) (fun i _ => l.length - (intOf i).toNat)
  case atStart => exact ⟨0, by omega, rfl, Lib.hid (fun j hj => absurd hj (by omega)), Blk.new _ _ _, below_of _ _⟩
  case round =>
    obtain ⟨n, hn, rfl, hg, p1, hbe⟩ := hrel
    by_cases hlt : n < l.length
    · obtain ⟨b, off, rfl, hB, hc⟩ := h.below hbe (by omega)
      obtain ⟨c0, c1, c2⟩ := hc n hlt
      have hz := hbe.size
      have z0 : b < wr.heap.size := by omega
      have z9 := p1.lt
      clear hc
      go_wp2_with fail
      have s1 := Blk.new wr #[.int .i64 (stAt l n).dx, .int .i64 (stAt l n).dy, .int .i64 (stAt l n).far] 104
      have p2 := p1.alloc (.cells #[.int .i64 (stAt l n).dx, .int .i64 (stAt l n).dy, .int .i64 (stAt l n).far] 104)
      have hb2 := hbe.alloc hz (.cells #[.int .i64 (stAt l n).dx, .int .i64 (stAt l n).dy, .int .i64 (stAt l n).far] 104)
      have t1 := (h.below hb2).more hb2.size
      generalize hW1 : wr.alloc _ = W1 at *
      have z1 := s1.lt
      have z2 := p2.lt
      have hz2 := hb2.size
      obtain ⟨⟨a0, a1, a2⟩, _⟩ := s1.at3
      obtain ⟨⟨e0, e1, e2⟩, _⟩ := p2.at3
      clear hW1 c0 c1 c2 p1 hbe
      cases ho : evenAt k l n
      · have HO := Lib.hid (show hasB l ⟨(turnSt k ⟨(stAt l n).dx, (stAt l n).dy, (stAt l n).far⟩).dx, (turnSt k ⟨(stAt l n).dx, (stAt l n).dy, (stAt l n).far⟩).dy, (turnSt k ⟨(stAt l n).dx, (stAt l n).dy, (stAt l n).far⟩).far⟩ l.length = false from ho)
        have HF := Lib.hid (HB.out n hlt ho)
        clear ho
        refine wp_region_below (W := W1) (by kernel_rfl) (by kernel_rfl) (Below.refl _ _) ?_
        repeat (first
          | (refine qs_skip (by rfl) ?_; simp only [Act.put, List.setIfInBounds_toArray, List.set_cons_zero, List.set_cons_succ])
          | (apply qs_take
             focus rfl
             focus (
               intro wq hwq
               obtain ⟨hcq, hfq⟩ := bcell hwq
               go_simp
               all_goals first
                 | exact rfl
                 | (go_at_call 101; refine (stTurned_any _ _ _ _ _ (HSH.out n hlt).1 (HSH.out n hlt).2 HK.out).mono ?_; exact fun e w2 h => ⟨h.1, hwq.trans (h.2.mono hwq.size)⟩)
                 | (go_at_call 100; refine (has_any _ _ _ _ _ _ _ _ _ ((t1.below hwq).more hwq.size) hl).mono ?_; rw [HO.out]; exact fun e w2 h => ⟨h.1, hwq.trans (h.2.mono hwq.size)⟩)
                 | (exact ⟨trivial, rfl⟩))
             simp only [Act.put, List.setIfInBounds_toArray, List.set_cons_zero, List.set_cons_succ]))
        refine wpQuiet_nil ?_
        intro wq hwq
        go_wp2_with fail
        go_ret
        exact ⟨rb HF.out.symm, hb2.trans (hwq.mono hz2)⟩
      · have HO := Lib.hid (show hasB l ⟨(turnSt k ⟨(stAt l n).dx, (stAt l n).dy, (stAt l n).far⟩).dx, (turnSt k ⟨(stAt l n).dx, (stAt l n).dy, (stAt l n).far⟩).dy, (turnSt k ⟨(stAt l n).dx, (stAt l n).dy, (stAt l n).far⟩).far⟩ l.length = true from ho)
        have HF := Lib.hid ho
        clear ho
        refine wp_region_below (W := W1) (by kernel_rfl) (by kernel_rfl) (Below.refl _ _) ?_
        repeat (first
          | (refine qs_skip (by rfl) ?_; simp only [Act.put, List.setIfInBounds_toArray, List.set_cons_zero, List.set_cons_succ])
          | (apply qs_take
             focus rfl
             focus (
               intro wq hwq
               obtain ⟨hcq, hfq⟩ := bcell hwq
               go_simp
               all_goals first
                 | exact rfl
                 | (go_at_call 101; refine (stTurned_any _ _ _ _ _ (HSH.out n hlt).1 (HSH.out n hlt).2 HK.out).mono ?_; exact fun e w2 h => ⟨h.1, hwq.trans (h.2.mono hwq.size)⟩)
                 | (go_at_call 100; refine (has_any _ _ _ _ _ _ _ _ _ ((t1.below hwq).more hwq.size) hl).mono ?_; rw [HO.out]; exact fun e w2 h => ⟨h.1, hwq.trans (h.2.mono hwq.size)⟩)
                 | (exact ⟨trivial, rfl⟩))
             simp only [Act.put, List.setIfInBounds_toArray, List.set_cons_zero, List.set_cons_succ]))
        refine wpQuiet_nil ?_
        intro wq hwq
        go_wp2_with fail
        go_roundw
        case rel => exact ⟨n + 1, by omega, by go_num, Lib.hid (all_succ hg.out HF.out), p2.below hwq z2, hb2.trans (hwq.mono hz2)⟩
        case measure => simp [intOf]; omega
    · obtain rfl : n = l.length := by omega
      go_wp2_with fail
      go_ret
      exact ⟨rb (HG.out hg.out).symm, hbe⟩
theorem rulesOk_short {side : Int} {ks : List Kd} (h : rulesOk side ks = true) : 1 ≤ ks.length ∧ ks.length ≤ 4 ∧ ∀ i, i < ks.length → (kAt ks i).steps.length ≤ 8 ∧ ShortK (kAt ks i).steps := by
  obtain ⟨_, h1, h2, _, h3⟩ := rulesOk_facts h
  exact ⟨h1, h2, fun i hi => ⟨(h3 i hi).1, fun j hj => ⟨((h3 i hi).2 j hj).1, ((h3 i hi).2 j hj).2.1⟩⟩⟩
theorem turnOk_v (v : Int) (w : World) : Calls Tryz.prog 75 #[.int .i64 v] w fun e w' => e = .returned (.bool (inB v 0 7)) ∧ w = w' := turnOk_any v w

set_option maxHeartbeats 2000000 in
theorem rulesEven_any (side : Int) (A : Option Addr) (c : Nat) (ks : List Kd) (k : Int) (w : World) (h : IsKinds w w.heap.size A ks) (hsm : Small ks) :
    Calls Tryz.prog 45 #[.agg #[.int .i64 side, .slice A ks.length c], .int .i64 k] w fun e w' => e = .returned (.bool (rulesEven side ks k)) ∧ Below w.heap.size w w' := by
  go_enter Tryz.func45, Tryz.ntmps45
  go_wp2_with fail
  have p0 := Blk.new w #[.int .i64 side, .slice A ks.length c] 35
  have hb0 := below_of w (.cells #[.int .i64 side, .slice A ks.length c] 35)
  generalize hW0 : w.alloc _ = W0 at *
  clear hW0
  refine (rulesOk_any _ _ _ _ _ ((h.below hb0).more hb0.size) hsm).mono ?_
  rintro e w1 ⟨rfl, hb1⟩
  have p1 := p0.below hb1 p0.lt
  have hb := hb0.trans (hb1.mono hb0.size)
  obtain ⟨⟨e0, e1⟩, _⟩ := p1.at2
  clear p0 hb0 hb1
  cases hok : rulesOk side ks
  · have HO := Lib.hid hok
    clear hok
    go_wp2_with fail
    go_ret
    exact ⟨rb (by unfold rulesEven; rw [HO.out]; rfl), hb⟩
  · have HO := Lib.hid hok
    obtain ⟨hk1, hk4, hsh⟩ := rulesOk_short hok
    have HSH := Lib.hid hsh
    clear hok hsh
    cases hin : inB k 0 7
    · have HI := Lib.hid hin
      clear hin
      go_wp2_with (go_at_call 75; refine (turnOk_any _ _).mono ?_; rw [HI.out]; rintro e w' ⟨rfl, rfl⟩)
      go_ret
      exact ⟨rb (by unfold rulesEven; rw [HO.out, HI.out]; rfl), hb⟩
    · have HI := Lib.hid hin
      have hk07 : 0 ≤ k ∧ k ≤ 7 := of_decide_eq_true hin
      have HK := Lib.hid hk07
      have HB := Lib.hid (fun i => evenB_bad (k := k) (ks := ks) (i := i))
      have HG := Lib.hid (evenB_good (k := k) (ks := ks))
      clear hin hk07
      go_wp2_with (go_at_call 75; refine (turnOk_any _ _).mono ?_; rw [HI.out]; rintro e w' ⟨rfl, rfl⟩)
      go_loopw [18] (fun i wr => ∃ n : Nat, n ≤ ks.length ∧ i = .int .i64 n ∧ Hid (∀ j, j < n → evenK k (kAt ks j).steps = true) ∧ Below w.heap.size w wr) (fun i _ => ks.length - (intOf i).toNat)
      case atStart => exact ⟨0, by omega, rfl, Lib.hid (fun j hj => absurd hj (by omega)), hb⟩
      case round =>
        obtain ⟨n, hn, rfl, hg, hbe⟩ := hrel
        by_cases hlt : n < ks.length
        · obtain ⟨b, off, rfl, hB, hc⟩ := h.below hbe (by omega)
          obtain ⟨S, cc, c0, c1, c2, hst⟩ := hc n hlt
          have hz := hbe.size
          have z0 : b < wr.heap.size := by omega
          clear hc
          go_wp2_with fail
          have hA := below_of wr (.cells #[.int .i64 (kAt ks n).name, .bool (kAt ks n).king, .slice S (kAt ks n).steps.length cc] 94)
          have hb2 := hbe.trans (hA.mono hz)
          refine (even_any _ _ _ _ _ _ _ (((hst.more hz).below hA).more hA.size) (by have := (HSH.out n hlt).1; omega) (HSH.out n hlt).2 HK.out).mono ?_
          rintro e w3 ⟨rfl, hb3⟩
          have hb4 := hb2.trans (hb3.mono hb2.size)
          clear hA hb2 hb3
          cases hev : evenK k (kAt ks n).steps
          · have HF := Lib.hid (HB.out n hlt hev)
            clear hev
            go_wp2_with fail
            go_ret
            exact ⟨rb (by unfold rulesEven; rw [HF.out]; simp), hb4⟩
          · have HF := Lib.hid hev
            clear hev
            go_wp2_with fail
            go_roundw
            case rel => exact ⟨n + 1, by omega, by go_num, Lib.hid (all_succ hg.out HF.out), hb4⟩
            case measure => simp [intOf]; omega
        · obtain rfl : n = ks.length := by omega
          go_wp2_with fail
          go_ret
          exact ⟨rb (by unfold rulesEven; rw [HO.out, HI.out, HG.out hg.out]; rfl), hbe⟩

set_option maxHeartbeats 4000000 in
theorem l2Even_any (side : Int) (A : Option Addr) (c : Nat) (ks : List Kd) (k : Int) (w : World) (h : IsKinds w w.heap.size A ks) (hok : rulesOk side ks = true) (hk : 0 ≤ k ∧ k ≤ 7) :
    Calls Tryz.prog 40 #[.agg #[.int .i64 side, .slice A ks.length c], .int .i64 k] w fun e w' => e = .returned (.bool (evenB k ks)) ∧ Below w.heap.size w w' := by
  obtain ⟨hk1, hk4, hsh⟩ := rulesOk_short hok
  have HSH := Lib.hid hsh
  have HK := Lib.hid hk
  have HB := Lib.hid (fun i => evenB_bad (k := k) (ks := ks) (i := i))
  have HG := Lib.hid (evenB_good (k := k) (ks := ks))
  clear hok hsh hk
  go_enter Tryz.func40, Tryz.ntmps40
  go_wp2_with fail
  go_loopw [5] (fun i wr => ∃ n : Nat, n ≤ ks.length ∧ i = .int .i64 n ∧ Hid (∀ j, j < n → evenK k (kAt ks j).steps = true) ∧ Blk wr w.heap.size #[.int .i64 side, .slice A ks.length c] 35 ∧ Below w.heap.size w wr) (fun i _ => ks.length - (intOf i).toNat)
  case atStart => exact ⟨0, by omega, rfl, Lib.hid (fun j hj => absurd hj (by omega)), Blk.new _ _ _, below_of _ _⟩
  case round =>
    obtain ⟨n, hn, rfl, hg, p1, hbe⟩ := hrel
    obtain ⟨⟨r0, r1⟩, _⟩ := p1.at2
    by_cases hlt : n < ks.length
    · obtain ⟨b, off, rfl, hB, hc⟩ := h (by omega)
      obtain ⟨S, cc, c0, c1, c2, hst⟩ := hc n hlt
      obtain ⟨hl8, hshort⟩ := HSH.out n hlt
      have HSK := Lib.hid hshort
      have HBK := Lib.hid (fun i => evenK_bad (k := k) (l := (kAt ks n).steps) (i := i))
      have HGK := Lib.hid (evenK_good (k := k) (l := (kAt ks n).steps))
      have HEV := Lib.hid (fun i (h : evenAt k (kAt ks n).steps i = false) => h)
      clear hc c0 c1 hshort
      go_wp2_with fail
      go_loopw [6] (fun i wr => ∃ m : Nat, m ≤ (kAt ks n).steps.length ∧ i = .int .i64 m ∧ Hid (∀ j, j < m → evenAt k (kAt ks n).steps j = true) ∧ Blk wr w.heap.size #[.int .i64 side, .slice (some ⟨b, off, none⟩) ks.length c] 35 ∧ Below w.heap.size w wr) (fun i _ => (kAt ks n).steps.length - (intOf i).toNat)
      case atStart => exact ⟨0, by omega, rfl, Lib.hid (fun j hj => absurd hj (by omega)), p1, hbe⟩
      case round =>
        clear r0 r1 p1 hbe
        obtain ⟨m, hm, rfl, hgm, p1, hbe⟩ := hrel
        obtain ⟨⟨r0, r1⟩, _⟩ := p1.at2
        have z1 := p1.lt
        have hz := hbe.size
        have z0 : b < wr.heap.size := by omega
        have k2 := (hbe.cell (p := ⟨b, off + n * 3 + 2, none⟩) hB).trans c2
        by_cases hmt : m < (kAt ks n).steps.length
        · obtain ⟨b', off', rfl, hB', hcs⟩ := (hst.below hbe) (by omega)
          obtain ⟨s0, s1, s2⟩ := hcs m hmt
          have z3 : b' < wr.heap.size := by omega
          clear hcs
          go_wp2_with fail
          refine (l2Turn_any _ _ _ _ _ (HSK.out m hmt).1 (HSK.out m hmt).2 HK.out).mono ?_
          rintro e w2 ⟨rfl, hb2⟩
          have p2 := p1.below hb2 z1
          have hb2' := hbe.trans (hb2.mono hz)
          have hz2 := hb2'.size
          obtain ⟨⟨r0, r1⟩, _⟩ := p2.at2
          generalize hT : turnSt k ⟨(stAt (kAt ks n).steps m).dx, (stAt (kAt ks n).steps m).dy, (stAt (kAt ks n).steps m).far⟩ = T at *
          have HT : Hid (∀ b, hasB (kAt ks n).steps ⟨T.dx, T.dy, T.far⟩ (kAt ks n).steps.length = b → evenAt k (kAt ks n).steps m = b) := Lib.hid (fun b hb => by rw [← hb, ← hT]; rfl)
          clear hT p1 hbe k2 s0 s1 s2 hb2 z0 z1 z3
          go_wp2_with fail
          have sB := Blk.new w2 #[.int .i64 T.dx, .int .i64 T.dy, .int .i64 T.far] 104
          have p3 := p2.alloc (.cells #[.int .i64 T.dx, .int .i64 T.dy, .int .i64 T.far] 104)
          have hb3 := hb2'.alloc hz2 (.cells #[.int .i64 T.dx, .int .i64 T.dy, .int .i64 T.far] 104)
          generalize hW3 : w2.alloc _ = W3 at *
          generalize hbs : w2.heap.size = bs at *
          clear hW3 hbs p2 hb2' r0 r1
          go_loopw [8, 9] (fun x i wr => ∃ (j : Nat) (bb : Bool), j ≤ (kAt ks n).steps.length ∧ i = .int .i64 j ∧ x = .bool bb ∧ Hid (hasB (kAt ks n).steps ⟨T.dx, T.dy, T.far⟩ j = bb) ∧ Blk wr w.heap.size #[.int .i64 side, .slice (some ⟨b, off, none⟩) ks.length c] 35 ∧ Blk wr bs #[.int .i64 T.dx, .int .i64 T.dy, .int .i64 T.far] 104 ∧ Below w.heap.size w wr) (fun _ i _ => (kAt ks n).steps.length - (intOf i).toNat)
          case atStart => exact ⟨0, false, by omega, rfl, rfl, Lib.hid rfl, p3, sB, hb3⟩
          case round =>
            clear p3 sB hb3
            obtain ⟨j, bb, hj, rfl, rfl, HH, p3, sB, hbe⟩ := hrel
            obtain ⟨⟨r0, r1⟩, _⟩ := p3.at2
            obtain ⟨⟨t0, t1, t2⟩, _⟩ := sB.at3
            have z1 := p3.lt
            have z2 := sB.lt
            have hz := hbe.size
            have z0 : b < wr.heap.size := by omega
            have k2 := (hbe.cell (p := ⟨b, off + n * 3 + 2, none⟩) hB).trans c2
            have n0 : (0 : Int) ≤ (n : Int) := by omega
            have n1 : (n : Int) < (ks.length : Int) := by omega
            have j0 : (0 : Int) ≤ (j : Int) := by omega
            by_cases hjt : j < (kAt ks n).steps.length
            · obtain ⟨b2, off2, hA2, hB2, hcs⟩ := (hst.below hbe) (by omega)
              obtain ⟨rfl, rfl⟩ : b' = b2 ∧ off' = off2 := by injection hA2 with hA2; injection hA2 with h1 h2; exact ⟨h1, h2⟩
              obtain ⟨s0, s1, s2⟩ := hcs j hjt
              have z3 : b' < wr.heap.size := by omega
              have j1 : (j : Int) < ((kAt ks n).steps.length : Int) := by omega
              clear hcs hA2
              cases bb
              · have hEq := eq_step (stAt (kAt ks n).steps j).dx (stAt (kAt ks n).steps j).dy (stAt (kAt ks n).steps j).far T.dx T.dy T.far
                cases hsm : sameB ⟨(stAt (kAt ks n).steps j).dx, (stAt (kAt ks n).steps j).dy, (stAt (kAt ks n).steps j).far⟩ ⟨T.dx, T.dy, T.far⟩
                · rw [hsm] at hEq
                  have HS := Lib.hid (show hasB (kAt ks n).steps ⟨T.dx, T.dy, T.far⟩ (j + 1) = false by rw [hasB_succ, HH.out]; exact hsm)
                  clear hsm
                  go_wp2_with fail
                  refine wp_region_below (W := wr) (by kernel_rfl) (by kernel_rfl) (Below.refl _ _) ?_
                  repeat (first
                    | (refine qs_skip (by rfl) ?_; simp only [Act.put, List.setIfInBounds_toArray, List.set_cons_zero, List.set_cons_succ])
                    | (apply qs_take
                       focus rfl
                       focus (
                         intro wq hwq
                         obtain ⟨hcq, hfq⟩ := bcell hwq
                         go_simp
                         all_goals first
                           | exact rfl
                           | (exact ⟨trivial, rfl⟩))
                       simp only [Act.put, List.setIfInBounds_toArray, List.set_cons_zero, List.set_cons_succ]))
                  refine wpQuiet_nil ?_
                  intro wq hwq
                  go_wp2_with fail
                  go_roundw
                  case rel => exact ⟨j + 1, false, by omega, by go_num, rfl, HS, p3.below hwq z1, sB.below hwq z2, hbe.trans (hwq.mono hz)⟩
                  case measure => simp [intOf]; omega
                · rw [hsm] at hEq
                  have HS := Lib.hid (show hasB (kAt ks n).steps ⟨T.dx, T.dy, T.far⟩ (j + 1) = true by rw [hasB_succ, HH.out]; exact hsm)
                  clear hsm
                  go_wp2_with fail
                  refine wp_region_below (W := wr) (by kernel_rfl) (by kernel_rfl) (Below.refl _ _) ?_
                  repeat (first
                    | (refine qs_skip (by rfl) ?_; simp only [Act.put, List.setIfInBounds_toArray, List.set_cons_zero, List.set_cons_succ])
                    | (apply qs_take
                       focus rfl
                       focus (
                         intro wq hwq
                         obtain ⟨hcq, hfq⟩ := bcell hwq
                         go_simp
                         all_goals first
                           | exact rfl
                           | (exact ⟨trivial, rfl⟩))
                       simp only [Act.put, List.setIfInBounds_toArray, List.set_cons_zero, List.set_cons_succ]))
                  refine wpQuiet_nil ?_
                  intro wq hwq
                  go_wp2_with fail
                  go_roundw
                  case rel => exact ⟨j + 1, true, by omega, by go_num, rfl, HS, p3.below hwq z1, sB.below hwq z2, hbe.trans (hwq.mono hz)⟩
                  case measure => simp [intOf]; omega
              · have HS := Lib.hid (show hasB (kAt ks n).steps ⟨T.dx, T.dy, T.far⟩ (j + 1) = true by rw [hasB_succ, HH.out]; rfl)
                go_wp2_with fail
                refine wp_region_below (W := wr) (by kernel_rfl) (by kernel_rfl) (Below.refl _ _) ?_
                repeat (first
                  | (refine qs_skip (by rfl) ?_; simp only [Act.put, List.setIfInBounds_toArray, List.set_cons_zero, List.set_cons_succ])
                  | (apply qs_take
                     focus rfl
                     focus (
                       intro wq hwq
                       obtain ⟨hcq, hfq⟩ := bcell hwq
                       go_simp
                       all_goals first
                         | exact rfl
                         | (exact ⟨trivial, rfl⟩))
                     simp only [Act.put, List.setIfInBounds_toArray, List.set_cons_zero, List.set_cons_succ]))
                refine wpQuiet_nil ?_
                intro wq hwq
                go_wp2_with fail
                go_roundw
                case rel => exact ⟨j + 1, true, by omega, by go_num, rfl, HS, p3.below hwq z1, sB.below hwq z2, hbe.trans (hwq.mono hz)⟩
                case measure => simp [intOf]; omega
            · obtain rfl : j = (kAt ks n).steps.length := by omega
              cases bb
              · have HF := Lib.hid (HB.out n hlt (HBK.out m hmt (HT.out false HH.out)))
                go_wp2_with fail
                go_ret
                exact ⟨rb HF.out.symm, hbe⟩
              · have HF := Lib.hid (HT.out true HH.out)
                go_wp2_with fail
                go_roundw
                case rel => exact ⟨m + 1, by omega, by go_num, Lib.hid (all_succ hgm.out HF.out), p3, hbe⟩
                case measure => simp [intOf]; omega
        · obtain rfl : m = (kAt ks n).steps.length := by omega
          have HF := Lib.hid (HGK.out hgm.out)
          go_wp2_with fail
          go_roundw
          case rel => exact ⟨n + 1, by omega, by go_num, Lib.hid (all_succ hg.out HF.out), p1, hbe⟩
          case measure => simp [intOf]; omega
    · obtain rfl : n = ks.length := by omega
      go_wp2_with fail
      go_ret
      exact ⟨rb (HG.out hg.out).symm, hbe⟩

end Go.Proofs.YtmfcgikfgikbfaaGreat.Ko
