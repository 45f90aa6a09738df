/- How many sequences of moves there are: the model's l10Many. -/
import Derived.Test.YtoaajkkebnleaaaGreatDoorLv
import Derived.Test.YtoaajkkebnleaaaGreatDoorVm
import Derived.Deep.RegionHeld3
namespace Go.Proofs.YtoaajkkebnleaaaGreatDoor.Ko
open Go.ChangeShapes Go.WideShapes Go.ChangeAt Go.RowKit Base Sq
set_option linter.unusedVariables false
set_option maxRecDepth 20000
attribute [local irreducible] wpQuiet

set_option maxRecDepth 100000 in
set_option maxHeartbeats 4000000 in
theorem l10Many_any (side : Int) (A : Option Addr) (c : Nat) (ks : List Kd) (hok : rulesOk side ks = true) : ∀ (n : Nat), n ≤ 3 → ∀ (t : Int) (M : Option Addr) (cm : Nat) (l : List St) (w : World), IsKinds w w.heap.size A ks → IsSteps w w.heap.size M l → shapeB side ks t l = true →
    Calls Tryz.prog 40 #[.agg #[.int .i64 side, .slice A ks.length c], .agg #[.int .i64 t, .slice M l.length cm], .int .i64 n] w fun e w' => e = .returned (.int .i64 (linesV side ks n t l)) ∧ Below w.heap.size w w' := by
  intro n
  induction n with
  | zero =>
    intro _ t M cm l w hR hM hsh
    clear hR hM
    go_enter Tryz.func40, Tryz.ntmps40
    go_wp2_with fail
    go_ret
    exact ⟨rfl, (by repeat (first | exact Below.refl _ _ | assumption | (refine Below.alloc ?_ (by first | omega | (simp; done) | (simp; omega)) _) | (refine Below.setCell ?_ (by first | omega | (simp; done) | (simp; omega)) _) | refine Below.drew ?_))⟩
  | succ n ih =>
    intro hn t M cm l w hR hM hsh
    have IH := Lib.hid (ih (by omega))
    have hs := (rulesOk_facts hok).1
    have hlen := movesL_len (ks := ks) (t := t) hs (shapeB_facts hsh).2.1
    have HP := Lib.hid (fun k (hk : k ≤ (movesL side ks t l).length) => lines_part (n := n) hs (by omega) hsh hk)
    have HF := Lib.hid (fun k (hk : k < (movesL side ks t l).length) => move_facts hs hsh (mvAt_mem hk))
    have HOK := Lib.hid hok
    have HSH := Lib.hid hsh
    have HR := Lib.hid hR
    have HM := Lib.hid hM
    have hb0 := (below_of w (.cells #[.int .i64 side, .slice A ks.length c] 34)).alloc (by first | (simp; done) | (simp; omega) | omega) (.cells #[.int .i64 t, .slice M l.length cm] 38)
    have p1 := (Blk.new w #[.int .i64 side, .slice A ks.length c] 34).alloc (.cells #[.int .i64 t, .slice M l.length cm] 38)
    have p2 := Blk.new (w.alloc (.cells #[.int .i64 side, .slice A ks.length c] 34)) #[.int .i64 t, .slice M l.length cm] 38
    simp only [World.size_alloc] at p2
    have hd0 : (((n + 1 : Nat) : Int) == 0) = false := by simp; omega
    have hn2 : n ≤ 2 := by omega
    clear ih hok hsh hR hM hs hn
    go_enter Tryz.func40, Tryz.ntmps40
    go_wp2_with fail
    generalize hW0 : (w.alloc _).alloc _ = W0 at *
    clear hW0
    refine (l4All_any side A c ks t M cm l _ ((HR.out.below hb0).more hb0.size) ((HM.out.below hb0).more hb0.size) HOK.out HSH.out).mono ?_
    rintro e w2 ⟨A2, c2, rfl, hmv, hb2⟩
    have p1' := p1.below hb2 p1.lt
    have p2' := p2.below hb2 p2.lt
    have hbe := hb0.trans (hb2.mono hb0.size)
    have hz2 := hbe.size
    clear p1 p2 hb2 hb0
    generalize hms : movesL side ks t l = ms at *
    go_wp2_with fail
    have hmv2 := hmv
    have hI0 : Hid (MvA W0.heap.size w2.heap.size w2 A2 ms) := Lib.hid hmv
    clear hmv hmv2
    generalize hFF : (fun m => linesV side ks n (1 - t) (nextL l m)) = F at *
    go_loopg [7, 9] ms.length (fun gk s7 s9 wr => ∃ k : Nat, k ≤ ms.length ∧ ms.length - k ≤ gk ∧ s7 = .int .i64 (sumM F ms k) ∧ s9 = .int .i64 k ∧ Hid (MvA W0.heap.size w2.heap.size wr A2 ms) ∧ Blk wr w.heap.size #[.int .i64 side, .slice A ks.length c] 34 ∧ Blk wr (w.heap.size + 1) #[.int .i64 t, .slice M l.length cm] 38 ∧ Below w.heap.size w wr ∧ w2.heap.size ≤ wr.heap.size)
    case atStart => exact ⟨0, by omega, by omega, rfl, rfl, hI0, p1', p2', hbe, Nat.le_refl _⟩
    case round =>
      clear hI0 p1' p2' hbe hz2
      obtain ⟨k, hk, hgk, rfl, rfl, hI, p1, p2, hbe, hz2⟩ := hrel
      by_cases hlt : k < ms.length
      · have hd : decide (k < ms.length) = true := decide_eq_true hlt
        obtain ⟨bm, rfl, hbm, c0, c1⟩ := hI.out.at hlt
        obtain ⟨i, hi1, hi2, hi3, hi4, hi5, hi6, hi7⟩ := HF.out k hlt
        have hbd := HP.out (k + 1) hlt
        rw [hi6] at hi7
        have hsum : sumM F ms (k + 1) = sumM F ms k + linesV side ks n (1 - t) (doL l i (mvAt ms k).2) := by
          rw [sumM, ← hFF]
          show sumM _ ms k + linesV side ks n (1 - t) (nextL l (mvAt ms k)) = _
          rw [hi6]
        have hwr : IntKind.i64.wrap (sumM F ms k + linesV side ks n (1 - t) (doL l i (mvAt ms k).2)) = sumM F ms (k + 1) := by rw [← hsum]; exact IntWalk.i64_in _ (by omega)
        have HI1 := Lib.hid hi1
        have HI3 := Lib.hid hi3
        have HI5 := Lib.hid hi5
        have HI7 := Lib.hid hi7
        have hz := hbe.size
        have zbm : bm < wr.heap.size := by omega
        have z1 := p1.lt
        have z2 := p2.lt
        clear hi1 hi3 hi4 hi5 hi6 hi7 hbd hsum
        have HRa := Lib.hid ((HR.out.below hbe).more hz)
        have HMa := Lib.hid ((HM.out.below hbe).more hz)
        have HS : Hid (∀ w', Below wr.heap.size wr w' → (w'.cell? ⟨w.heap.size, 0, none⟩ = some (.int .i64 side) ∧ w'.cell? ⟨w.heap.size, 1, none⟩ = some (.slice A ks.length c) ∧ w'.cell? ⟨w.heap.size + 1, 0, none⟩ = some (.int .i64 t) ∧ w'.cell? ⟨w.heap.size + 1, 1, none⟩ = some (.slice M l.length cm) ∧ w'.cell? ⟨bm, k * 2, none⟩ = some (.int .i64 (mvAt ms k).1) ∧ w'.cell? ⟨bm, k * 2 + 1, none⟩ = some (.int .i64 (mvAt ms k).2))) := Lib.hid (fun w' hb => by
          obtain ⟨⟨a0, a1⟩, _⟩ := (p1.below hb p1.lt).at2
          obtain ⟨⟨b0, b1⟩, _⟩ := (p2.below hb p2.lt).at2
          exact ⟨a0, a1, b0, b1, (hb.cell (p := ⟨bm, k * 2, none⟩) zbm).trans c0, (hb.cell (p := ⟨bm, k * 2 + 1, none⟩) zbm).trans c1⟩)
        have HP1 := Lib.hid p1
        have HP2 := Lib.hid p2
        have HBE := Lib.hid hbe
        have ht01 := (shapeB_facts HSH.out).1
        have hl4 := (shapeB_facts HSH.out).2.1
        have hwn : IntKind.i64.wrap (n : Int) = (n : Int) := IntWalk.i64_in _ (by omega)
        have HRP := Lib.hid (resL_pos HSH.out (freeB_king (i := i) (shapeB_up HSH.out) HI5.out))
        clear p1 p2 hbe c0 c1
        go_wp2_with fail
        have hw : Below wr.heap.size wr wr.drew := (Below.refl _ _).drew
        go_region_held3 (fun w' => w'.cell? ⟨w.heap.size, 0, none⟩ = some (.int .i64 side) ∧ w'.cell? ⟨w.heap.size, 1, none⟩ = some (.slice A ks.length c) ∧ w'.cell? ⟨w.heap.size + 1, 0, none⟩ = some (.int .i64 t) ∧ w'.cell? ⟨w.heap.size + 1, 1, none⟩ = some (.slice M l.length cm) ∧ w'.cell? ⟨bm, k * 2, none⟩ = some (.int .i64 (mvAt ms k).1) ∧ w'.cell? ⟨bm, k * 2 + 1, none⟩ = some (.int .i64 (mvAt ms k).2))
          (exact HS.out _ hw)
          (first
            | (go_at_call 62; refine (l4Do_any _ _ _ _ i _ _ _ ((HMa.out.below hw).more hw.size) ht01 hl4 hi2 HI3.out (shapeB_up HSH.out) HRP.out).mono ?_; rintro e wa ⟨Aa, ca, rfl, hna, hba⟩; have hw := hw.trans (hba.mono hw.size))
            | (go_at_call 40; refine (IH.out _ _ _ _ _ ((HRa.out.below hw).more hw.size) hna.is HI7.out).mono ?_; rintro e wc ⟨rfl, hbc⟩; have hw := hw.trans (hbc.mono hw.size)))
        all_goals
          go_wp2_with fail
          go_roundg (ms.length - (k + 1))
          case measure => omega
          case rel => exact ⟨k + 1, hlt, Nat.le_refl _, rfl, by go_num, Lib.hid (hI.out.below (hw.mono hz2)), HP1.out.below hw HP1.out.lt, HP2.out.below hw HP2.out.lt, HBE.out.trans (hw.mono hz), Nat.le_trans hz2 hw.size⟩
      · obtain rfl : k = ms.length := by omega
        have hd : decide (ms.length < ms.length) = false := decide_eq_false (by omega)
        clear hI p1 p2
        go_wp2_with fail
        go_ret
        exact ⟨ri (by rw [linesV, hms, hFF]), hbe⟩
end Go.Proofs.YtoaajkkebnleaaaGreatDoor.Ko
