/- Small functions of chapter 3: the man on a square, the king's kind, whose king stands where, a man that is valid by itself. -/
import Derived.Test.YtcgfklljbblhlaaGreatDoorPv
namespace Go.Proofs.YtcgfklljbblhlaaGreatDoor.Ko
open Go.ChangeShapes Go.WideShapes Go.ChangeAt Go.RowKit Base Sq
set_option linter.unusedVariables false
set_option maxRecDepth 20000
attribute [local irreducible] wpQuiet

theorem manAt_any (A : Option Addr) (c : Nat) (l : List St) (q : Int) (w : World) (h : IsSteps w w.heap.size A l) (hl : l.length ≤ 1048576) :
    Calls Tryz.prog 66 #[.slice A l.length c, .int .i64 q] w fun e w' => e = .returned (.int .i64 (manV l q)) ∧ Below w.heap.size w w' := by
  have HH := Lib.hid (fun k => manV_hit (l := l) (q := q) (k := k))
  have HN := Lib.hid (manV_none (l := l) (q := q))
  go_enter Tryz.func66, Tryz.ntmps66
  go_wp2_with fail
  go_loopw [9] (fun i wr => ∃ k : Nat, k ≤ l.length ∧ i = .int .i64 k ∧ Hid (∀ j, j < k → (stAt l j).far ≠ q) ∧ Below w.heap.size w wr) (fun i _ => l.length - (intOf i).toNat)
  case atStart => exact ⟨0, by omega, rfl, Lib.hid (fun j hj => absurd hj (by omega)), Below.refl _ _⟩
  case round =>
    obtain ⟨k, hk, rfl, hg, hbe⟩ := hrel
    by_cases hlt : k < l.length
    · obtain ⟨b, off, rfl, hB, hc⟩ := h.below hbe (by omega)
      obtain ⟨c0, c1, c2⟩ := hc k hlt
      have hz := hbe.size
      clear hc
      by_cases he : (stAt l k).far = q
      · have HE := Lib.hid (HH.out k hlt hg.out he)
        have hd : ((stAt l k).far == q) = true := by simpa using he
        clear he
        go_wp2_with fail
        go_ret
        exact ⟨ri HE.out.symm, (by repeat (first | exact Below.refl _ _ | assumption | (refine Below.alloc ?_ (by first | omega | (simp; done) | (simp; omega)) _) | (refine Below.setCell ?_ (by first | omega | (simp; done) | (simp; omega)) _) | refine Below.drew ?_))⟩
      · have HE := Lib.hid he
        have hd : ((stAt l k).far == q) = false := by simpa using he
        clear he
        go_wp2_with fail
        go_roundw
        case rel => exact ⟨k + 1, by omega, by go_num, Lib.hid (all_succ hg.out HE.out), (by repeat (first | exact Below.refl _ _ | assumption | (refine Below.alloc ?_ (by first | omega | (simp; done) | (simp; omega)) _) | (refine Below.setCell ?_ (by first | omega | (simp; done) | (simp; omega)) _) | refine Below.drew ?_))⟩
        case measure => simp [intOf]; omega
    · obtain rfl : k = l.length := by omega
      go_wp2_with fail
      go_ret
      exact ⟨ri (HN.out hg.out).symm, hbe⟩
theorem l3Man_any (t : Int) (A : Option Addr) (c : Nat) (l : List St) (q : Int) (w : World) (h : IsSteps w w.heap.size A l) (hl : l.length ≤ 1048576) :
    Calls Tryz.prog 71 #[.agg #[.int .i64 t, .slice A l.length c], .int .i64 q] w fun e w' => e = .returned (.int .i64 (manV l q)) ∧ Below w.heap.size w w' := by
  have HH := Lib.hid (fun k => manV_hit (l := l) (q := q) (k := k))
  have HN := Lib.hid (manV_none (l := l) (q := q))
  go_enter Tryz.func71, Tryz.ntmps71
  go_wp2_with fail
  go_loopw [5] (fun i wr => ∃ k : Nat, k ≤ l.length ∧ i = .int .i64 k ∧ Hid (∀ j, j < k → (stAt l j).far ≠ q) ∧ Blk wr w.heap.size #[.int .i64 t, .slice A l.length c] 35 ∧ Below w.heap.size w wr) (fun i _ => l.length - (intOf i).toNat)
  case atStart => exact ⟨0, by omega, rfl, Lib.hid (fun j hj => absurd hj (by omega)), Blk.new _ _ _, below_of _ _⟩
  case round =>
    obtain ⟨k, hk, rfl, hg, hb, hbe⟩ := hrel
    obtain ⟨⟨e0, e1⟩, f0, f1⟩ := hb.at2
    by_cases hlt : k < l.length
    · obtain ⟨b, off, rfl, hB, hc⟩ := h.below hbe (by omega)
      obtain ⟨c0, c1, c2⟩ := hc k hlt
      have hz := hbe.size
      clear hc
      by_cases he : (stAt l k).far = q
      · have HE := Lib.hid (HH.out k hlt hg.out he)
        have hd : ((stAt l k).far == q) = true := by simpa using he
        clear he
        go_wp2_with fail
        go_ret
        exact ⟨ri HE.out.symm, hbe⟩
      · have HE := Lib.hid he
        have hd : ((stAt l k).far == q) = false := by simpa using he
        clear he
        go_wp2_with fail
        go_roundw
        case rel => exact ⟨k + 1, by omega, by go_num, Lib.hid (all_succ hg.out HE.out), hb, hbe⟩
        case measure => simp [intOf]; omega
    · obtain rfl : k = l.length := by omega
      go_wp2_with fail
      go_ret
      exact ⟨ri (HN.out hg.out).symm, hbe⟩
theorem l2King_any (side : Int) (A : Option Addr) (c : Nat) (ks : List Kd) (w : World) (h : IsKinds w w.heap.size A ks) (hl : ks.length ≤ 1048576) :
    Calls Tryz.prog 72 #[.agg #[.int .i64 side, .slice A ks.length c]] w fun e w' => e = .returned (.int .i64 (kingV ks)) ∧ Below w.heap.size w w' := by
  have HH := Lib.hid (fun k => kingV_hit (ks := ks) (k := k))
  have HN := Lib.hid (kingV_none (ks := ks))
  go_enter Tryz.func72, Tryz.ntmps72
  go_wp2_with fail
  go_loopw [3] (fun i wr => ∃ k : Nat, k ≤ ks.length ∧ i = .int .i64 k ∧ Hid (∀ j, j < k → (kAt ks j).king = false) ∧ Blk wr w.heap.size #[.int .i64 side, .slice A ks.length c] 40 ∧ Below w.heap.size w wr) (fun i _ => ks.length - (intOf i).toNat)
  case atStart => exact ⟨0, by omega, rfl, Lib.hid (fun j hj => absurd hj (by omega)), Blk.new _ _ _, below_of _ _⟩
  case round =>
    obtain ⟨k, hk, rfl, hg, hb, hbe⟩ := hrel
    obtain ⟨⟨e0, e1⟩, f0, f1⟩ := hb.at2
    by_cases hlt : k < ks.length
    · obtain ⟨b, off, rfl, hB, hc⟩ := h.below hbe (by omega)
      obtain ⟨S, cc, c0, c1, c2, hst⟩ := hc k hlt
      have hz := hbe.size
      clear hc hst
      cases he : (kAt ks k).king
      · have HE := Lib.hid he
        rw [he] at c1
        clear he
        go_wp2_with fail
        go_roundw
        case rel => exact ⟨k + 1, by omega, by go_num, Lib.hid (all_succ hg.out HE.out), hb, hbe⟩
        case measure => simp [intOf]; omega
      · have HE := Lib.hid (HH.out k hlt hg.out he)
        rw [he] at c1
        clear he
        go_wp2_with fail
        go_ret
        exact ⟨ri HE.out.symm, hbe⟩
    · obtain rfl : k = ks.length := by omega
      go_wp2_with fail
      go_ret
      exact ⟨ri (HN.out hg.out).symm, hbe⟩
theorem playerOk_any (v : Int) (w : World) :
    Calls Tryz.prog 82 #[.int .i64 v] w fun e w' => e = .returned (.bool (inB v 0 1)) ∧ w = w' := by
  by_cases h1 : 0 ≤ v
  · by_cases h2 : v < 2
    · rw [inB_yes (by omega)]
      go_enter Tryz.func82, Tryz.ntmps82
      go_wp2
      go_ret
      exact ⟨rb (by first | rfl | (simp; done) | (simp; omega)), rfl⟩
    · rw [inB_no (by omega)]
      have h3 : 2 ≤ v := by omega
      clear h2
      go_enter Tryz.func82, Tryz.ntmps82
      go_wp2
      go_ret
      exact ⟨rb (by first | rfl | (simp; done) | (simp; omega)), rfl⟩
  · rw [inB_no (by omega)]
    have h3 : v < 0 := by omega
    clear h1
    go_enter Tryz.func82, Tryz.ntmps82
    go_wp2
    go_ret
    exact ⟨rb (by first | rfl | (simp; done) | (simp; omega)), rfl⟩
theorem hasKind_any (side : Int) (A : Option Addr) (c n : Nat) (v : Int) (w : World) :
    Calls Tryz.prog 115 #[.agg #[.int .i64 side, .slice A n c], .int .i64 v] w fun e w' => e = .returned (.bool (inB v 0 (n - 1))) ∧ Below w.heap.size w w' := by
  by_cases h1 : 0 ≤ v
  · by_cases h2 : v < n
    · rw [inB_yes (by omega)]
      go_enter Tryz.func115, Tryz.ntmps115
      go_wp2
      go_ret
      exact ⟨rb (by first | rfl | (simp; done) | (simp; omega)), (by repeat (first | exact Below.refl _ _ | assumption | (refine Below.alloc ?_ (by first | omega | (simp; done) | (simp; omega)) _) | (refine Below.setCell ?_ (by first | omega | (simp; done) | (simp; omega)) _) | refine Below.drew ?_))⟩
    · rw [inB_no (by omega)]
      have h3 : (n : Int) ≤ v := by omega
      clear h2
      go_enter Tryz.func115, Tryz.ntmps115
      go_wp2
      go_ret
      exact ⟨rb (by first | rfl | (simp; done) | (simp; omega)), (by repeat (first | exact Below.refl _ _ | assumption | (refine Below.alloc ?_ (by first | omega | (simp; done) | (simp; omega)) _) | (refine Below.setCell ?_ (by first | omega | (simp; done) | (simp; omega)) _) | refine Below.drew ?_))⟩
  · rw [inB_no (by omega)]
    have h3 : v < 0 := by omega
    clear h1
    go_enter Tryz.func115, Tryz.ntmps115
    go_wp2
    go_ret
    exact ⟨rb (by first | rfl | (simp; done) | (simp; omega)), (by repeat (first | exact Below.refl _ _ | assumption | (refine Below.alloc ?_ (by first | omega | (simp; done) | (simp; omega)) _) | (refine Below.setCell ?_ (by first | omega | (simp; done) | (simp; omega)) _) | refine Below.drew ?_))⟩
/-- a man that is valid by itself -/
def manOk (side : Int) (n : Nat) (m : St) : Bool := inB m.dx 0 (n - 1) && inB m.dy 0 1 && okB side m.far
theorem manOk_any (side : Int) (A : Option Addr) (c n : Nat) (dx dy far : Int) (w : World) :
    Calls Tryz.prog 101 #[.agg #[.int .i64 dx, .int .i64 dy, .int .i64 far], .agg #[.int .i64 side, .slice A n c]] w fun e w' => e = .returned (.bool (manOk side n ⟨dx, dy, far⟩)) ∧ Below w.heap.size w w' := by
  unfold manOk
  go_enter Tryz.func101, Tryz.ntmps101
  go_wp2_with fail
  refine (hasKind_any _ _ _ _ _ _).mono ?_
  rintro e w2 ⟨rfl, hb2⟩
  have hM := ((Blk.new w #[.int .i64 dx, .int .i64 dy, .int .i64 far] 105).alloc (.cells #[.int .i64 side, .slice A n c] 40)).below hb2 (by first | (simp; done) | (simp; omega) | omega)
  have hR := (Blk.new (w.alloc (.cells #[.int .i64 dx, .int .i64 dy, .int .i64 far] 105)) #[.int .i64 side, .slice A n c] 40).below hb2 (by first | (simp; done) | (simp; omega) | omega)
  have hw := Below.trans (B := w.heap.size) (a := w) (by repeat (first | exact Below.refl _ _ | assumption | (refine Below.alloc ?_ (by first | omega | (simp; done) | (simp; omega)) _) | (refine Below.setCell ?_ (by first | omega | (simp; done) | (simp; omega)) _) | refine Below.drew ?_)) (hb2.mono (by first | (simp; done) | (simp; omega) | omega))
  obtain ⟨⟨a0, a1, a2⟩, _⟩ := hM.at3
  obtain ⟨⟨b0, b1⟩, _⟩ := hR.at2
  simp at b0 b1
  clear hb2
  cases h1 : inB dx 0 (n - 1)
  · go_wp2_with fail
    go_ret
    exact ⟨rb (by first | rfl | (simp; done) | (simp [*]; done)), hw⟩
  · cases h2 : inB dy 0 1
    · go_wp2_with (first | (go_at_call 82; refine (playerOk_any _ _).mono ?_; rw [h2]; rintro e w' ⟨rfl, rfl⟩))
      go_ret
      exact ⟨rb (by first | rfl | (simp; done) | (simp [*]; done)), hw⟩
    · go_wp2_with (first | (go_at_call 82; refine (playerOk_any _ _).mono ?_; rw [h2]; rintro e w' ⟨rfl, rfl⟩) | (go_at_call 116; refine (sq_ok _ _ _).mono ?_; rintro e w' ⟨rfl, rfl⟩))
      go_ret
      exact ⟨rb (by first | rfl | (simp; done) | (simp [*]; done)), hw⟩
end Go.Proofs.YtcgfklljbblhlaaGreatDoor.Ko
