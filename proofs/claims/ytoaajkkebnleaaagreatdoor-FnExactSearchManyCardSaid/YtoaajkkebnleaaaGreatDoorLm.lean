/- How many sequences of moves there are: the program's linesMany. -/
import Derived.Test.YtoaajkkebnleaaaGreatDoorLv
import Derived.Test.YtoaajkkebnleaaaGreatDoorVf
import Derived.Test.YtoaajkkebnleaaaGreatDoorMdv
import Derived.Deep.RegionHeld3
namespace Go.Proofs.YtoaajkkebnleaaaGreatDoor.Ko
open Go.ChangeShapes Go.WideShapes Go.ChangeAt Go.RowKit Base Sq
set_option linter.unusedVariables false
set_option maxRecDepth 20000
attribute [local irreducible] wpQuiet

set_option maxRecDepth 100000 in
set_option maxHeartbeats 4000000 in
theorem linesMany_any (side : Int) (A : Option Addr) (c : Nat) (ks : List Kd) (hok : rulesOk side ks = true) : ∀ (n : Nat), n ≤ 3 → ∀ (t : Int) (M : Option Addr) (cm : Nat) (l : List St) (w : World), IsKinds w w.heap.size A ks → IsSteps w w.heap.size M l → TabAt w → shapeB side ks t l = true →
    Calls Tryz.prog 42 #[.agg #[.int .i64 side, .slice A ks.length c], .agg #[.int .i64 t, .slice M l.length cm], .int .i64 n] w fun e w' => e = .returned (.int .i64 (linesV side ks n t l)) ∧ Below w.heap.size w w' := by
  intro n
  induction n with
  | zero =>
    intro _ t M cm l w hR hM hT hsh
    clear hR hM hT
    go_enter Tryz.func42, Tryz.ntmps42
    go_wp2_with fail
    go_ret
    exact ⟨rfl, (by repeat (first | exact Below.refl _ _ | assumption | (refine Below.alloc ?_ (by first | omega | (simp; done) | (simp; omega)) _) | (refine Below.setCell ?_ (by first | omega | (simp; done) | (simp; omega)) _) | refine Below.drew ?_))⟩
  | succ n ih =>
    intro hn t M cm l w hR hM hT hsh
    have IH := Lib.hid (ih (by omega))
    have hs := (rulesOk_facts hok).1
    have hlen := movesL_len (ks := ks) (t := t) hs (shapeB_facts hsh).2.1
    have HP := Lib.hid (fun k (hk : k ≤ (movesL side ks t l).length) => lines_part (n := n) hs (by omega) hsh hk)
    have HF := Lib.hid (fun k (hk : k < (movesL side ks t l).length) => move_facts hs hsh (mvAt_mem hk))
    have HOK := Lib.hid hok
    have HSH := Lib.hid hsh
    have HR := Lib.hid hR
    have HM := Lib.hid hM
    have HT := Lib.hid hT
    have HT0 := hT.lt
    have hb0 := (below_of w (.cells #[.int .i64 side, .slice A ks.length c] 34)).alloc (by first | (simp; done) | (simp; omega) | omega) (.cells #[.int .i64 t, .slice M l.length cm] 38)
    have p1 := (Blk.new w #[.int .i64 side, .slice A ks.length c] 34).alloc (.cells #[.int .i64 t, .slice M l.length cm] 38)
    have p2 := Blk.new (w.alloc (.cells #[.int .i64 side, .slice A ks.length c] 34)) #[.int .i64 t, .slice M l.length cm] 38
    simp only [World.size_alloc] at p2
    have hd0 : (((n + 1 : Nat) : Int) == 0) = false := by simp; omega
    have hn2 : n ≤ 2 := by omega
    clear ih hok hsh hR hM hT hs hn
    go_enter Tryz.func42, Tryz.ntmps42
    go_wp2_with fail
    generalize hW0 : (w.alloc _).alloc _ = W0 at *
    clear hW0
    refine (movesFrom_any side A c ks t M cm l _ ((HR.out.below hb0).more hb0.size) ((HM.out.below hb0).more hb0.size) (HT.out.below hb0 HT0) HOK.out HSH.out).mono ?_
    rintro e w2 ⟨A2, c2, rfl, hmv, hb2⟩
    have p1' := p1.below hb2 p1.lt
    have p2' := p2.below hb2 p2.lt
    have hbe := hb0.trans (hb2.mono hb0.size)
    have hz2 := hbe.size
    clear p1 p2 hb2 hb0
    generalize hms : movesL side ks t l = ms at *
    go_wp2_with fail
    have hmv2 := hmv
    have hI0 : Hid (MvA W0.heap.size w2.heap.size w2 A2 ms) := Lib.hid hmv
    clear hmv hmv2
    generalize hFF : (fun m => linesV side ks n (1 - t) (nextL l m)) = F at *
    go_loopg [7, 16] ms.length (fun gk s7 s16 wr => ∃ k : Nat, k ≤ ms.length ∧ ms.length - k ≤ gk ∧ s7 = .int .i64 (sumM F ms k) ∧ s16 = .int .i64 k ∧ Hid (MvA W0.heap.size w2.heap.size wr A2 ms) ∧ Blk wr w.heap.size #[.int .i64 side, .slice A ks.length c] 34 ∧ Blk wr (w.heap.size + 1) #[.int .i64 t, .slice M l.length cm] 38 ∧ Below w.heap.size w wr ∧ w2.heap.size ≤ wr.heap.size)
    case atStart => exact ⟨0, by omega, by omega, rfl, rfl, hI0, p1', p2', hbe, Nat.le_refl _⟩
    case round =>
      clear hI0 p1' p2' hbe hz2
      obtain ⟨k, hk, hgk, rfl, rfl, hI, p1, p2, hbe, hz2⟩ := hrel
      by_cases hlt : k < ms.length
      · have hd : decide (k < ms.length) = true := decide_eq_true hlt
        obtain ⟨bm, rfl, hbm, c0, c1⟩ := hI.out.at hlt
        obtain ⟨i, hi1, hi2, hi3, hi4, hi5, hi6, hi7⟩ := HF.out k hlt
        have hbd := HP.out (k + 1) hlt
        rw [hi6] at hi7
        have hsum : sumM F ms (k + 1) = sumM F ms k + linesV side ks n (1 - t) (doL l i (mvAt ms k).2) := by
          rw [sumM, ← hFF]
          show sumM _ ms k + linesV side ks n (1 - t) (nextL l (mvAt ms k)) = _
          rw [hi6]
        have hwr : IntKind.i64.wrap (sumM F ms k + linesV side ks n (1 - t) (doL l i (mvAt ms k).2)) = sumM F ms (k + 1) := by rw [← hsum]; exact IntWalk.i64_in _ (by omega)
        have HI1 := Lib.hid hi1
        have HI3 := Lib.hid hi3
        have HI7 := Lib.hid hi7
        have hz := hbe.size
        have zbm : bm < wr.heap.size := by omega
        have z1 := p1.lt
        have z2 := p2.lt
        clear hi1 hi3 hi4 hi5 hi6 hi7 hbd hsum
        go_wp2_with fail
        have p1a := p1.alloc (.cells #[.int .i64 (mvAt ms k).1, .int .i64 (mvAt ms k).2] 60)
        have p2a := p2.alloc (.cells #[.int .i64 (mvAt ms k).1, .int .i64 (mvAt ms k).2] 60)
        have p3a := Blk.new wr #[.int .i64 (mvAt ms k).1, .int .i64 (mvAt ms k).2] 60
        have hbr := below_of wr (.cells #[.int .i64 (mvAt ms k).1, .int .i64 (mvAt ms k).2] 60)
        have hIa := Lib.hid (hI.out.below (hbr.mono hz2))
        have hbea := hbe.trans (hbr.mono hz)
        have hz2a := Nat.le_trans hz2 hbr.size
        clear p1 p2 hI hbe hbr c0 c1 hz2 z1 z2 zbm
        generalize wr.heap.size = g3 at *
        generalize hW3 : wr.alloc _ = W3 at *
        clear hW3
        have HRa := Lib.hid ((HR.out.below hbea).more hbea.size)
        have HMa := Lib.hid ((HM.out.below hbea).more hbea.size)
        have HTa := Lib.hid (HT.out.below hbea HT0)
        have HS : Hid (∀ w', Below W3.heap.size W3 w' → (w'.cell? ⟨w.heap.size, 0, none⟩ = some (.int .i64 side) ∧ w'.cell? ⟨w.heap.size, 1, none⟩ = some (.slice A ks.length c) ∧ w'.cell? ⟨w.heap.size + 1, 0, none⟩ = some (.int .i64 t) ∧ w'.cell? ⟨w.heap.size + 1, 1, none⟩ = some (.slice M l.length cm) ∧ w'.cell? ⟨g3, 0, none⟩ = some (.int .i64 (mvAt ms k).1) ∧ w'.cell? ⟨g3, 1, none⟩ = some (.int .i64 (mvAt ms k).2))) := Lib.hid (fun w' hb => by
          obtain ⟨⟨a0, a1⟩, _⟩ := (p1a.below hb p1a.lt).at2
          obtain ⟨⟨b0, b1⟩, _⟩ := (p2a.below hb p2a.lt).at2
          obtain ⟨⟨d0, d1⟩, _⟩ := (p3a.below hb p3a.lt).at2
          exact ⟨a0, a1, b0, b1, d0, d1⟩)
        have HP1 := Lib.hid p1a
        have HP2 := Lib.hid p2a
        have HBE := Lib.hid hbea
        have ht01 := (shapeB_facts HSH.out).1
        have hl4 := (shapeB_facts HSH.out).2.1
        have hza := hbea.size
        have hwn : IntKind.i64.wrap (n : Int) = (n : Int) := IntWalk.i64_in _ (by omega)
        clear p1a p2a p3a hbea
        have hw : Below W3.heap.size W3 W3.drew := (Below.refl _ _).drew
        go_region_held3 (fun w' => w'.cell? ⟨w.heap.size, 0, none⟩ = some (.int .i64 side) ∧ w'.cell? ⟨w.heap.size, 1, none⟩ = some (.slice A ks.length c) ∧ w'.cell? ⟨w.heap.size + 1, 0, none⟩ = some (.int .i64 t) ∧ w'.cell? ⟨w.heap.size + 1, 1, none⟩ = some (.slice M l.length cm) ∧ w'.cell? ⟨g3, 0, none⟩ = some (.int .i64 (mvAt ms k).1) ∧ w'.cell? ⟨g3, 1, none⟩ = some (.int .i64 (mvAt ms k).2))
          (exact HS.out _ hw)
          (first
            | (go_at_call 63; refine (moved_any _ _ _ _ _ _ i _ ((HMa.out.below hw).more hw.size) ht01 hl4 HI1.out hi2 (shapeB_up HSH.out)).mono ?_; rintro e wa ⟨Aa, ca, rfl, hna, hba⟩; have hw := hw.trans (hba.mono hw.size))
            | (go_at_call 42; refine (IH.out _ _ _ _ _ ((HRa.out.below hw).more hw.size) hna.is (HTa.out.below hw (by omega)) HI7.out).mono ?_; rintro e wc ⟨rfl, hbc⟩; have hw := hw.trans (hbc.mono hw.size)))
        all_goals
          go_wp2_with fail
          go_roundg (ms.length - (k + 1))
          case measure => omega
          case rel => exact ⟨k + 1, hlt, Nat.le_refl _, rfl, by go_num, Lib.hid (hIa.out.below (hw.mono hz2a)), HP1.out.below hw HP1.out.lt, HP2.out.below hw HP2.out.lt, HBE.out.trans (hw.mono hza), Nat.le_trans hz2a hw.size⟩
      · obtain rfl : k = ms.length := by omega
        have hd : decide (ms.length < ms.length) = false := decide_eq_false (by omega)
        clear hI p1 p2
        go_wp2_with fail
        go_ret
        exact ⟨ri (by rw [linesV, hms, hFF]), hbe⟩
end Go.Proofs.YtoaajkkebnleaaaGreatDoor.Ko
