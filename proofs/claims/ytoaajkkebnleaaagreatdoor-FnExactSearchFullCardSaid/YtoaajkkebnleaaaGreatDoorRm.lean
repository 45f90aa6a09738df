/- A full search: the model's l10Full. SearchFull of the model. -/
import Derived.Test.YtoaajkkebnleaaaGreatDoorRn
import Derived.Test.YtoaajkkebnleaaaGreatDoorVm
import Derived.Test.YtoaajkkebnleaaaGreatDoorMq
import Derived.Deep.RegionHeld3
import Derived.Deep.LoopGhost
import Derived.Test.YtoaajkkebnleaaaGreatDoorRs
namespace Go.Proofs.YtoaajkkebnleaaaGreatDoor.Ko
open Go.ChangeShapes Go.WideShapes Go.ChangeAt Go.RowKit Base Sq
set_option linter.unusedVariables false
set_option maxRecDepth 20000
attribute [local irreducible] wpQuiet

set_option maxRecDepth 100000 in
set_option maxHeartbeats 8000000 in
theorem l10Full_any (side : Int) (A : Option Addr) (c : Nat) (ks : List Kd) (hok : rulesOk side ks = true) : ∀ (r m : Nat), m + r ≤ 3 → ∀ (t : Int) (M : Option Addr) (cm : Nat) (l : List St) (w : World), IsKinds w w.heap.size A ks → IsSteps w w.heap.size M l → shapeB side ks t l = true →
    Calls Tryz.prog 43 #[.agg #[.int .i64 side, .slice A ks.length c], .agg #[.int .i64 t, .slice M l.length cm], .int .i64 r, .int .i64 m] w fun e w' => RunPost w w' (runV side ks false r m (-200) 200 t l) e := by
  intro r
  induction r with
  | zero =>
    intro m hm t M cm l w hR hM hsh
    have ht01 := (shapeB_facts hsh).1
    have HOK := Lib.hid hok
    have HSH := Lib.hid hsh
    have HR := Lib.hid hR
    have HM := Lib.hid hM
    have hb0 := (below_of w (.cells #[.int .i64 side, .slice A ks.length c] 34)).alloc (by first | (simp; done) | (simp; omega) | omega) (.cells #[.int .i64 t, .slice M l.length cm] 38)
    have p1 := (Blk.new w #[.int .i64 side, .slice A ks.length c] 34).alloc (.cells #[.int .i64 t, .slice M l.length cm] 38)
    have p2 := Blk.new (w.alloc (.cells #[.int .i64 side, .slice A ks.length c] 34)) #[.int .i64 t, .slice M l.length cm] 38
    simp only [World.size_alloc] at p2
    have hwsub : IntKind.i64.wrap ((m : Int) - 100) = (m : Int) - 100 := IntWalk.i64_in _ (by omega)
    clear hok hsh hR hM
    go_enter Tryz.func43, Tryz.ntmps43
    go_wp2_with fail
    generalize hW0 : (w.alloc _).alloc _ = W0 at *
    clear hW0
    refine (l4All_any side A c ks t M cm l _ ((HR.out.below hb0).more hb0.size) ((HM.out.below hb0).more hb0.size) HOK.out HSH.out).mono ?_
    rintro e w2 ⟨A2, c2, rfl, hmv, hb2⟩
    have p1' := p1.below hb2 p1.lt
    have p2' := p2.below hb2 p2.lt
    have hbe := hb0.trans (hb2.mono hb0.size)
    have hz2 := hbe.size
    obtain ⟨⟨r0, r1⟩, _⟩ := p1'.at2
    obtain ⟨⟨o0, o1⟩, _⟩ := p2'.at2
    clear p1 p2 hb2 hb0 hmv
    by_cases h0 : 0 < (movesL side ks t l).length
    · have hd : (((movesL side ks t l).length : Int) == 0) = false := beq_eq_false_iff_ne.2 (by omega)
      have HV := Lib.hid (run_zero (pr := false) (m := (m : Int)) (lo := -200) (hi := 200) (state_open.2 h0))
      clear h0
      go_wp2_with fail
      refine bodyPost_ret (v := .tuple #[.int .i64 0, .int .i64 1]) (by simp [results, Tryz.results43, go_sem]) rfl ⟨by rw [HV.out], hbe⟩
    · have hd : (((movesL side ks t l).length : Int) == 0) = true := beq_iff_eq.2 (by omega)
      cases hc : checkB side ks l t
      · have HV := Lib.hid (run_stale (pr := false) (r := 0) (m := (m : Int)) (lo := -200) (hi := 200) (state_stale h0 hc))
        have HC := Lib.hid hc
        clear h0 hc
        go_wp2_with fail
        refine (l3Check_any _ _ _ _ _ _ _ _ _ t _ ((HR.out.below hbe).more hbe.size) ((HM.out.below hbe).more hbe.size) HOK.out HSH.out (by omega)).mono ?_
        rw [HC.out]
        rintro e w5 ⟨rfl, hb5⟩
        go_wp2_with fail
        refine bodyPost_ret (v := .tuple #[.int .i64 0, .int .i64 1]) (by simp [results, Tryz.results43, go_sem]) rfl ⟨by rw [HV.out], hbe.trans (hb5.mono hz2)⟩
      · have HV := Lib.hid (run_mate (pr := false) (r := 0) (m := (m : Int)) (lo := -200) (hi := 200) (state_mate h0 hc))
        have HC := Lib.hid hc
        clear h0 hc
        go_wp2_with fail
        refine (l3Check_any _ _ _ _ _ _ _ _ _ t _ ((HR.out.below hbe).more hbe.size) ((HM.out.below hbe).more hbe.size) HOK.out HSH.out (by omega)).mono ?_
        rw [HC.out]
        rintro e w5 ⟨rfl, hb5⟩
        go_wp2_with fail
        refine bodyPost_ret (v := .tuple #[.int .i64 ((m : Int) - 100), .int .i64 1]) (by simp [results, Tryz.results43, go_sem]) rfl ⟨by rw [HV.out], hbe.trans (hb5.mono hz2)⟩
  | succ r ih =>
    intro m hm t M cm l w hR hM hsh
    have IH := Lib.hid (ih (m + 1) (by omega))
    have hs := (rulesOk_facts hok).1
    have ht01 := (shapeB_facts hsh).1
    have hl4 := (shapeB_facts hsh).2.1
    have hlen := movesL_len (ks := ks) (t := t) hs hl4
    have HP := Lib.hid (fun k (hk : k ≤ (movesL side ks t l).length) => And.intro (full_lt (ks := ks) (r := r) (m := (m : Int)) hs (by omega) hsh hk) (run_part hs false (r := r) (m := (m : Int)) (lo := -200) (hi := 200) (by omega) hsh hk))
    have HF := Lib.hid (fun k (hk : k < (movesL side ks t l).length) => move_facts hs hsh (mvAt_mem hk))
    have HSS := Lib.hid hs
    have HOK := Lib.hid hok
    have HSH := Lib.hid hsh
    have HR := Lib.hid hR
    have HM := Lib.hid hM
    have hb0 := (below_of w (.cells #[.int .i64 side, .slice A ks.length c] 34)).alloc (by first | (simp; done) | (simp; omega) | omega) (.cells #[.int .i64 t, .slice M l.length cm] 38)
    have p1 := (Blk.new w #[.int .i64 side, .slice A ks.length c] 34).alloc (.cells #[.int .i64 t, .slice M l.length cm] 38)
    have p2 := Blk.new (w.alloc (.cells #[.int .i64 side, .slice A ks.length c] 34)) #[.int .i64 t, .slice M l.length cm] 38
    simp only [World.size_alloc] at p2
    have hwsub : IntKind.i64.wrap ((m : Int) - 100) = (m : Int) - 100 := IntWalk.i64_in _ (by omega)
    have hd0 : (((r + 1 : Nat) : Int) == 0) = false := by simp; omega
    clear ih hok hsh hR hM hs
    go_enter Tryz.func43, Tryz.ntmps43
    go_wp2_with fail
    generalize hW0 : (w.alloc _).alloc _ = W0 at *
    clear hW0
    refine (l4All_any side A c ks t M cm l _ ((HR.out.below hb0).more hb0.size) ((HM.out.below hb0).more hb0.size) HOK.out HSH.out).mono ?_
    rintro e w2 ⟨A2, c2, rfl, hmv, hb2⟩
    have p1' := p1.below hb2 p1.lt
    have p2' := p2.below hb2 p2.lt
    have hbe := hb0.trans (hb2.mono hb0.size)
    have hz2 := hbe.size
    obtain ⟨⟨r0, r1⟩, _⟩ := p1'.at2
    obtain ⟨⟨o0, o1⟩, _⟩ := p2'.at2
    clear p1 p2 hb2 hb0
    by_cases h0 : 0 < (movesL side ks t l).length
    · have hd : (((movesL side ks t l).length : Int) == 0) = false := beq_eq_false_iff_ne.2 (by omega)
      have HV := Lib.hid (run_succ (pr := false) (r := r) (m := (m : Int)) (lo := -200) (hi := 200) (state_open.2 h0))
      clear h0
      go_wp2_with fail
      have hI0 : Hid (MvA W0.heap.size w2.heap.size w2 A2 (movesL side ks t l)) := Lib.hid hmv
      clear hmv
      generalize hms : movesL side ks t l = ms at *
      generalize hGG : (fun best mv => runV side ks false r ((m : Int) + 1) (loV false (-200) 200) (hiV false (-200) 200 best) (1 - t) (nextL l mv)) = G at *
      go_loopg [11, 12, 13] ms.length (fun gk s11 s12 s13 wr => ∃ k : Nat, k ≤ ms.length ∧ ms.length - k ≤ gk ∧ s11 = .int .i64 (stepsV G 200 ms k).1 ∧ s12 = .int .i64 (stepsV G 200 ms k).2 ∧ s13 = .int .i64 k ∧ Hid (MvA W0.heap.size w2.heap.size wr A2 ms) ∧ Blk wr w.heap.size #[.int .i64 side, .slice A ks.length c] 34 ∧ Blk wr (w.heap.size + 1) #[.int .i64 t, .slice M l.length cm] 38 ∧ Below w.heap.size w wr ∧ w2.heap.size ≤ wr.heap.size)
      case atStart => exact ⟨0, by omega, by omega, rfl, rfl, rfl, hI0, p1', p2', hbe, Nat.le_refl _⟩
      case round =>
        clear hI0 p1' p2' hbe hz2 r0 r1 o0 o1
        obtain ⟨k, hk, hgk, rfl, rfl, rfl, hI, p1, p2, hbe, hz2⟩ := hrel
        by_cases hlt : k < ms.length
        · have hd3 : decide (k < ms.length) = true := decide_eq_true hlt
          obtain ⟨bm, rfl, hbm, c0, c1⟩ := hI.out.at hlt
          obtain ⟨i, hi1, hi2, hi3, hi4, hi5, hi6, hi7⟩ := HF.out k hlt
          obtain ⟨hlt2, hbd1, hbd2, hbd3⟩ := HP.out k hk
          rw [hi6] at hi7
          have hnx := steps_next hlt2
          rw [show (G (stepsV G 200 ms k).1 (mvAt ms k)) = runV side ks false r ((m : Int) + 1) (-200) 200 (1 - t) (doL l i (mvAt ms k).2) from by rw [← hi6, ← hGG]; rfl] at hnx
          have hRb := run_bd HSS.out false r ((m : Int) + 1) (-200) 200 (1 - t) (doL l i (mvAt ms k).2) (by omega) hi7
          have h65 : (65 : Int) ^ r ≤ 4225 := by
            have h4 : r = 0 ∨ r = 1 ∨ r = 2 := by omega
            rcases h4 with rfl | rfl | rfl <;> decide
          generalize hRR : runV side ks false r ((m : Int) + 1) (-200) 200 (1 - t) (doL l i (mvAt ms k).2) = R at *
          have HRR := Lib.hid hRR
          have HI1 := Lib.hid hi1
          have HI3 := Lib.hid hi3
          have HI5 := Lib.hid hi5
          have HI7 := Lib.hid hi7
          have hneg : IntKind.i64.wrap (-R.1) = -R.1 := IntWalk.i64_in _ (by omega)
          have hvis : IntKind.i64.wrap ((stepsV G 200 ms k).2 + R.2) = (stepsV G 200 ms k).2 + R.2 := IntWalk.i64_in _ (by omega)
          have hz := hbe.size
          have zbm : bm < wr.heap.size := by omega
          have HRa := Lib.hid ((HR.out.below hbe).more hz)
          have HMa := Lib.hid ((HM.out.below hbe).more hz)
          have HS : Hid (∀ w', Below wr.heap.size wr w' → (w'.cell? ⟨w.heap.size, 0, none⟩ = some (.int .i64 side) ∧ w'.cell? ⟨w.heap.size, 1, none⟩ = some (.slice A ks.length c) ∧ w'.cell? ⟨w.heap.size + 1, 0, none⟩ = some (.int .i64 t) ∧ w'.cell? ⟨w.heap.size + 1, 1, none⟩ = some (.slice M l.length cm) ∧ w'.cell? ⟨bm, k * 2, none⟩ = some (.int .i64 (mvAt ms k).1) ∧ w'.cell? ⟨bm, k * 2 + 1, none⟩ = some (.int .i64 (mvAt ms k).2))) := Lib.hid (fun w' hb => by
            obtain ⟨⟨a0, a1⟩, _⟩ := (p1.below hb p1.lt).at2
            obtain ⟨⟨b0, b1⟩, _⟩ := (p2.below hb p2.lt).at2
            exact ⟨a0, a1, b0, b1, (hb.cell (p := ⟨bm, k * 2, none⟩) zbm).trans c0, (hb.cell (p := ⟨bm, k * 2 + 1, none⟩) zbm).trans c1⟩)
          have HP1 := Lib.hid p1
          have HP2 := Lib.hid p2
          have HBE := Lib.hid hbe
          have hwn : IntKind.i64.wrap (r : Int) = (r : Int) := IntWalk.i64_in _ (by omega)
          have hwm : IntKind.i64.wrap ((m : Int) + 1) = ((m + 1 : Nat) : Int) := by rw [IntWalk.i64_in _ (by omega)]; omega
          have HRP := Lib.hid (resL_pos HSH.out (freeB_king (i := i) (shapeB_up HSH.out) HI5.out))
          have HIH := Lib.hid (show ∀ Aa ca wx, IsKinds wx wx.heap.size A ks → IsSteps wx wx.heap.size Aa (doL l i (mvAt ms k).2) → Calls Tryz.prog 43 #[.agg #[.int .i64 side, .slice A ks.length c], .agg #[.int .i64 (1 - t), .slice Aa (doL l i (mvAt ms k).2).length ca], .int .i64 r, .int .i64 ((m + 1 : Nat) : Int)] wx fun e w' => RunPost wx w' R e from fun Aa ca wx h1 h2 => by
            have h := IH.out (1 - t) Aa ca (doL l i (mvAt ms k).2) wx h1 h2 HI7.out
            rw [show ((m + 1 : Nat) : Int) = (m : Int) + 1 from by omega, HRR.out] at h
            rw [show ((m + 1 : Nat) : Int) = (m : Int) + 1 from by omega]
            exact h)
          have HNX := Lib.hid hnx
          clear hi1 hi3 hi4 hi5 hi6 hi7 hnx hRR h65 hRb p1 p2 hbe c0 c1
          go_wp2_with fail
          have hw : Below wr.heap.size wr wr.drew := (Below.refl _ _).drew
          go_region_held3 (fun w' => w'.cell? ⟨w.heap.size, 0, none⟩ = some (.int .i64 side) ∧ w'.cell? ⟨w.heap.size, 1, none⟩ = some (.slice A ks.length c) ∧ w'.cell? ⟨w.heap.size + 1, 0, none⟩ = some (.int .i64 t) ∧ w'.cell? ⟨w.heap.size + 1, 1, none⟩ = some (.slice M l.length cm) ∧ w'.cell? ⟨bm, k * 2, none⟩ = some (.int .i64 (mvAt ms k).1) ∧ w'.cell? ⟨bm, k * 2 + 1, none⟩ = some (.int .i64 (mvAt ms k).2))
            (exact HS.out _ hw)
            (first
              | (go_at_call 62; refine (l4Do_any _ _ _ _ i _ _ _ ((HMa.out.below hw).more hw.size) ht01 hl4 hi2 HI3.out (shapeB_up HSH.out) HRP.out).mono ?_; rintro e wa ⟨Aa, ca, rfl, hna, hba⟩; have hw := hw.trans (hba.mono hw.size))
              | (go_at_call 43; refine (HIH.out _ _ _ ((HRa.out.below hw).more hw.size) hna.is).mono ?_; rintro e wc ⟨rfl, hbc⟩; have hw := hw.trans (hbc.mono hw.size)))
          all_goals
            by_cases hgt : (stepsV G 200 ms k).1 < -R.1
            · have hdg : decide ((stepsV G 200 ms k).1 < -R.1) = true := decide_eq_true hgt
              have HMX := Lib.hid (show max (stepsV G 200 ms k).1 (-R.1) = -R.1 by omega)
              clear hgt
              go_wp2_with fail
              go_roundg (ms.length - (k + 1))
              case measure => omega
              case rel => exact ⟨k + 1, hlt, Nat.le_refl _, by rw [HNX.out, HMX.out], by rw [HNX.out], by go_num, Lib.hid (hI.out.below (hw.mono hz2)), HP1.out.below hw HP1.out.lt, HP2.out.below hw HP2.out.lt, HBE.out.trans (hw.mono hz), Nat.le_trans hz2 hw.size⟩
            · have hdg : decide ((stepsV G 200 ms k).1 < -R.1) = false := decide_eq_false hgt
              have HMX := Lib.hid (show max (stepsV G 200 ms k).1 (-R.1) = (stepsV G 200 ms k).1 by omega)
              clear hgt
              go_wp2_with fail
              go_roundg (ms.length - (k + 1))
              case measure => omega
              case rel => exact ⟨k + 1, hlt, Nat.le_refl _, by rw [HNX.out, HMX.out], by rw [HNX.out], by go_num, Lib.hid (hI.out.below (hw.mono hz2)), HP1.out.below hw HP1.out.lt, HP2.out.below hw HP2.out.lt, HBE.out.trans (hw.mono hz), Nat.le_trans hz2 hw.size⟩
        · obtain rfl : k = ms.length := by omega
          have hd3 : decide (ms.length < ms.length) = false := decide_eq_false (by omega)
          clear hI p1 p2
          go_wp2_with fail
          refine bodyPost_ret (v := .tuple #[.int .i64 (stepsV G 200 ms ms.length).1, .int .i64 (stepsV G 200 ms ms.length).2]) (by simp [results, Tryz.results43, go_sem]) rfl ⟨by rw [HV.out], hbe⟩
    · have hd : (((movesL side ks t l).length : Int) == 0) = true := beq_iff_eq.2 (by omega)
      cases hc : checkB side ks l t
      · have HV := Lib.hid (run_stale (pr := false) (r := r + 1) (m := (m : Int)) (lo := -200) (hi := 200) (state_stale h0 hc))
        have HC := Lib.hid hc
        clear h0 hc hmv
        go_wp2_with fail
        refine (l3Check_any _ _ _ _ _ _ _ _ _ t _ ((HR.out.below hbe).more hbe.size) ((HM.out.below hbe).more hbe.size) HOK.out HSH.out (by omega)).mono ?_
        rw [HC.out]
        rintro e w5 ⟨rfl, hb5⟩
        go_wp2_with fail
        refine bodyPost_ret (v := .tuple #[.int .i64 0, .int .i64 1]) (by simp [results, Tryz.results43, go_sem]) rfl ⟨by rw [HV.out], hbe.trans (hb5.mono hz2)⟩
      · have HV := Lib.hid (run_mate (pr := false) (r := r + 1) (m := (m : Int)) (lo := -200) (hi := 200) (state_mate h0 hc))
        have HC := Lib.hid hc
        clear h0 hc hmv
        go_wp2_with fail
        refine (l3Check_any _ _ _ _ _ _ _ _ _ t _ ((HR.out.below hbe).more hbe.size) ((HM.out.below hbe).more hbe.size) HOK.out HSH.out (by omega)).mono ?_
        rw [HC.out]
        rintro e w5 ⟨rfl, hb5⟩
        go_wp2_with fail
        refine bodyPost_ret (v := .tuple #[.int .i64 ((m : Int) - 100), .int .i64 1]) (by simp [results, Tryz.results43, go_sem]) rfl ⟨by rw [HV.out], hbe.trans (hb5.mono hz2)⟩
end Go.Proofs.YtoaajkkebnleaaaGreatDoor.Ko

namespace Go.Proofs.YtoaajkkebnleaaaGreatDoor.Ko
open Go.ChangeShapes Go.WideShapes Go.ChangeAt Go.RowKit Base Sq
set_option linter.unusedVariables false
attribute [local irreducible] wpQuiet

set_option maxHeartbeats 4000000 in
theorem specSearchFull_any (side : Int) (A : Option Addr) (c : Nat) (ks : List Kd) (t : Int) (M : Option Addr) (cm : Nat) (l : List St) (n : Int) (w : World) (hR : IsKinds w w.heap.size A ks) (hM : IsSteps w w.heap.size M l)
    (hsm : Small ks) (hl : l.length ≤ 1048576) :
    Calls Tryz.prog 22 #[.agg #[.int .i64 side, .slice A ks.length c], .agg #[.int .i64 t, .slice M l.length cm], .int .i64 n] w fun e w' => RunPost w w' (fullS side ks t l n) e := by
  have hb0 := (below_of w (.cells #[.int .i64 side, .slice A ks.length c] 34)).alloc (by first | (simp; done) | (simp; omega) | omega) (.cells #[.int .i64 t, .slice M l.length cm] 38)
  have p1 := (Blk.new w #[.int .i64 side, .slice A ks.length c] 34).alloc (.cells #[.int .i64 t, .slice M l.length cm] 38)
  have p2 := Blk.new (w.alloc (.cells #[.int .i64 side, .slice A ks.length c] 34)) #[.int .i64 t, .slice M l.length cm] 38
  simp only [World.size_alloc] at p2
  have hR1 := (hR.below hb0).more hb0.size
  have hM1 := (hM.below hb0).more hb0.size
  have hz := hb0.size
  clear hR hM
  go_enter Tryz.func22, Tryz.ntmps22
  go_wp2_with fail
  generalize hW0 : (w.alloc _).alloc _ = W0 at *
  clear hW0
  refine (specPosOk_any _ _ _ _ _ _ _ _ _ hR1 hM1 hsm hl).mono ?_
  rintro e w2 ⟨rfl, hb2⟩
  have p1' := p1.below hb2 p1.lt
  have p2' := p2.below hb2 p2.lt
  have hR2 := (hR1.below hb2).more hb2.size
  have hM2 := (hM1.below hb2).more hb2.size
  have hbe := hb0.trans (hb2.mono hz)
  obtain ⟨⟨r0, r1⟩, _⟩ := p1'.at2
  obtain ⟨⟨o0, o1⟩, _⟩ := p2'.at2
  have hz2 := hbe.size
  clear p1 p2 hb0 hb2 hR1 hM1
  cases hp : posB side ks t l
  · have HN := Lib.hid (show fullS side ks t l n = (0, 0) by unfold fullS searchB; rw [hp, Bool.and_false]; rfl)
    clear hp
    go_wp2_with fail
    refine bodyPost_ret (v := .tuple #[.int .i64 0, .int .i64 0]) (by simp [results, Tryz.results22, go_sem]) rfl ⟨by rw [HN.out], hbe⟩
  · obtain ⟨hok, hsh, _⟩ := posB_facts hp
    have HO := Lib.hid hok
    have HS := Lib.hid hsh
    by_cases hn : 0 ≤ n ∧ n ≤ 3
    · have hi : inB n 0 3 = true := by unfold inB; exact decide_eq_true hn
      have HI := Lib.hid hi
      have HN := Lib.hid (show fullS side ks t l n = runV side ks false n.toNat 0 (-200) 200 t l by unfold fullS searchB; rw [hp, decide_eq_true hn]; rfl)
      obtain ⟨m, rfl⟩ : ∃ m : Nat, n = (m : Int) := ⟨n.toNat, by omega⟩
      have hm3 : m ≤ 3 := by omega
      rw [Int.toNat_natCast] at HN
      have hrun := l10Full_any side A c ks HO.out m 0 (by omega) t M cm l w2 hR2 hM2 HS.out
      rw [Int.natCast_zero] at hrun
      have HRUN := Lib.hid hrun
      clear hp hok hsh hn hi hrun
      go_wp2_with (go_at_call 39; refine (in_any _ _ _ _).mono ?_; rw [HI.out]; rintro e w' ⟨rfl, rfl⟩)
      refine HRUN.out.mono ?_
      rintro e w3 ⟨rfl, hb3⟩
      go_wp2_with fail
      refine bodyPost_ret (v := .tuple #[.int .i64 (fullS side ks t l m).1, .int .i64 (fullS side ks t l m).2]) (by simp [results, Tryz.results22, go_sem, HN.out]) rfl ⟨rfl, hbe.trans (hb3.mono hz2)⟩
    · have hi : inB n 0 3 = false := by unfold inB; exact decide_eq_false hn
      have HI := Lib.hid hi
      have HN := Lib.hid (show fullS side ks t l n = (0, 0) by unfold fullS searchB; rw [hp, decide_eq_false hn]; rfl)
      clear hp hok hsh hn hi
      go_wp2_with (go_at_call 39; refine (in_any _ _ _ _).mono ?_; rw [HI.out]; rintro e w' ⟨rfl, rfl⟩)
      refine bodyPost_ret (v := .tuple #[.int .i64 0, .int .i64 0]) (by simp [results, Tryz.results22, go_sem]) rfl ⟨by rw [HN.out], hbe⟩
end Go.Proofs.YtoaajkkebnleaaaGreatDoor.Ko
