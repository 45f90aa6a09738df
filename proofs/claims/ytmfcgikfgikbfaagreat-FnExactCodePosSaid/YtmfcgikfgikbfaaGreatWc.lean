/- The position of a code: l7Pos of the model. -/
import Derived.Test.YtmfcgikfgikbfaaGreatRa
import Derived.Test.YtmfcgikfgikbfaaGreatPa
import Derived.Test.YtmfcgikfgikbfaaGreatMn
import Derived.Test.YtmfcgikfgikbfaaGreatPk
import Derived.Test.YtmfcgikfgikbfaaGreatPq
import Derived.Test.YtmfcgikfgikbfaaGreatWb
import Derived.Deep.RegionHeld3
import Derived.Deep.AppendLies
import Derived.Deep.RegionLaw
namespace Go.Proofs.YtmfcgikfgikbfaaGreat.Ko
open Go.ChangeShapes Go.WideShapes Go.ChangeAt Go.RowKit Base Sq In
set_option linter.unusedVariables false
set_option maxRecDepth 20000
attribute [local irreducible] wpQuiet

/-- what holds at each round's head: k pieces are done -/
def LpInv (w wr : World) (side : Int) (A : Option Addr) (c n : Nat) (v : Value) (L : List St) : Prop :=
  Blk wr w.heap.size #[.int .i64 side, .slice A n c] 35 ∧ Blk wr (w.heap.size + 1) #[.int .i64 0, .slice none 0 0] 30 ∧ Blk wr (w.heap.size + 1 + 1) #[.int .i64 0, v] 30 ∧ PutA (w.heap.size + 1 + 1 + 1) wr v L ∧ Below w.heap.size w wr

set_option maxHeartbeats 8000000 in
theorem l7Pos_any (side : Int) (A : Option Addr) (c : Nat) (ks : List Kd) (M : Option Addr) (cm : Nat) (m : List Pc) (code : Int) (w : World) (hR : IsKinds w w.heap.size A ks) (hM : IsPcs w w.heap.size M m)
    (hok : matV side ks m = true) (h0 : 0 ≤ code) (h1 : code < numV side m.length) :
    Calls Tryz.prog 26 #[.agg #[.int .i64 side, .slice A ks.length c], .slice M m.length cm, .int .i64 code] w fun e w' => PosRes (posCB side ks m code) (posCT side ks m code) (posCL side ks m code) w w' e := by
  obtain ⟨hro, hm4⟩ := matV_facts hok
  obtain ⟨hs, _⟩ := rulesOk_facts hro
  have HSD := Lib.hid hs
  have HRO := Lib.hid hro
  have HIN := Lib.hid (posCB_in (s := side) (ks := ks) (m := m) h0 h1)
  have HR := Lib.hid (remK_bd hs h0 h1)
  have HNV := Lib.hid (fun k (hk : k ≤ 4) => numV_bd hs (k := k) hk)
  have HZ := Lib.hid (fun k (hk : k ≤ m.length) => And.intro (HR.out k hk).1 (Int.le_trans (Int.le_of_lt (HR.out k hk).2) (HNV.out (m.length - k) (by omega)).2))
  have HR2 := Lib.hid (fun j => show remK (side * side + 1) code (j + 1) = remK (side * side + 1) code j / (side * side + 1) from rfl)
  have HBAD := Lib.hid (fun k => posIB_bad (s := side) (ks := ks) (m := m) (code := code) (k := k))
  have HEND := Lib.hid (posIB_end (s := side) (ks := ks) (m := m) (code := code))
  have hss : 4 ≤ side * side ∧ side * side ≤ 16 := by rcases hs with rfl | rfl | rfl <;> omega
  have hw1 : IntKind.i64.wrap (side * side) = side * side := IntWalk.i64_in _ (by omega)
  have hw2 : IntKind.i64.wrap (side * side + 1) = side * side + 1 := IntWalk.i64_in _ (by omega)
  have hx0 : 0 ≤ code ∧ code ≤ 167042 := HZ.out 0 (by omega)
  clear hok hro hs h0 h1
  go_enter Tryz.func26, Tryz.ntmps26
  go_wp2_with fail
  have hb0 : Below w.heap.size w (((w.alloc (.cells #[.int .i64 side, .slice A ks.length c] 35)).alloc (.cells #[.int .i64 0, .slice none 0 0] 30)).alloc (.cells #[.int .i64 0, .slice none 0 0] 30)) := (by repeat (first | exact Below.refl _ _ | assumption | (refine Below.alloc ?_ (by first | omega | (simp; done) | (simp; omega)) _) | (refine Below.setCell ?_ (by first | omega | (simp; done) | (simp; omega)) _) | refine Below.drew ?_))
  have p1 := ((Blk.new w #[.int .i64 side, .slice A ks.length c] 35).alloc (.cells #[.int .i64 0, .slice none 0 0] 30)).alloc (.cells #[.int .i64 0, .slice none 0 0] 30)
  have p2 := (Blk.new (w.alloc (.cells #[.int .i64 side, .slice A ks.length c] 35)) #[.int .i64 0, .slice none 0 0] 30).alloc (.cells #[.int .i64 0, .slice none 0 0] 30)
  have p3 := Blk.new ((w.alloc (.cells #[.int .i64 side, .slice A ks.length c] 35)).alloc (.cells #[.int .i64 0, .slice none 0 0] 30)) #[.int .i64 0, .slice none 0 0] 30
  simp only [World.size_alloc] at p2 p3
  generalize hW0 : ((w.alloc _).alloc _).alloc _ = W0 at *
  clear hW0
  have hI0 : Hid (LpInv w W0 side A c ks.length (.slice none 0 0) (putC side code m 0)) := Lib.hid ⟨p1, p2, p3, .inl ⟨rfl, rfl⟩, hb0⟩
  clear p1 p2 p3 hb0
  have hbz : (side * side + 1 == 0) = false := by simp; omega
  have hw3 : IntKind.i64.wrap (side * side + 1 - 1) = side * side := by rw [show side * side + 1 - 1 = side * side by omega]; exact hw1
  have HLP := Lib.hid (fun k => putC_len side code m k)
  go_loopw [2, 10] (fun x i wr => ∃ (q : Nat) (v : Value) (Y : Int), q ≤ m.length ∧ i = .int .i64 ((q : Int) - 1) ∧ x = .int .i64 Y ∧ Hid (Y = remK (side * side + 1) code (m.length - q)) ∧ 0 ≤ Y ∧ Y ≤ 167042 ∧ Hid (∀ j, j < m.length - q → goodC side code m j = true) ∧
    Hid (LpInv w wr side A c ks.length v (putC side code m (m.length - q)))) (fun _ i _ => (intOf i + 1).toNat)
  case atStart => exact ⟨m.length, .slice none 0 0, code, Nat.le_refl _, rfl, rfl, Lib.hid (by rw [Nat.sub_self]; rfl), hx0.1, hx0.2, Lib.hid (fun j hj => absurd hj (by omega)), by rw [Nat.sub_self]; exact hI0⟩
  case round =>
    clear hI0 hx0
    obtain ⟨q, v, Y, hq, rfl, rfl, hY, hY0, hY1, hgood, hI⟩ := hrel
    obtain ⟨p1, p2, p3, hput, hbe⟩ := hI.out
    have hz := hbe.size
    have z1 := p1.lt
    have z2 := p2.lt
    have z3 := p3.lt
    obtain ⟨⟨r0, r1⟩, _⟩ := p1.at2
    obtain ⟨⟨u0, u1⟩, ⟨u2, u3⟩⟩ := p3.at2
    obtain ⟨⟨v0, v1⟩, ⟨v2, v3⟩⟩ := p2.at2
    rcases Nat.eq_zero_or_pos q with rfl | hq0
    · rw [Nat.sub_zero] at hY hgood
      rw [Nat.sub_zero] at hput
      have hlt : (((0 : Nat) : Int) - 1) < 0 := by omega
      have HEQ := Lib.hid (HEND.out hgood.out)
      have HYY := Lib.hid hY.out.symm
      obtain ⟨L, hL⟩ : ∃ L, L = putC side code m m.length := ⟨_, rfl⟩
      have HL := Lib.hid hL
      rw [← hL] at hput
      have HLL := Lib.hid (show L.length ≤ 4 by rw [hL]; have := HLP.out m.length; omega)
      obtain ⟨A', c', hv, hS, hMA⟩ : ∃ A' c', v = .slice A' L.length c' ∧ IsSteps wr wr.heap.size A' L ∧ MenA (w.heap.size + 1 + 1 + 1) wr.heap.size wr A' L := by
        rcases hput with ⟨h1, h2⟩ | ⟨_, A', c', h2, h3, _⟩
        · exact ⟨none, 0, by rw [h2, h1]; rfl, (fun h => absurd h (by rw [h1]; simp)), by rw [h1]; exact MenA.nil _ _ _ _⟩
        · exact ⟨A', c', h2, h3.is, h3⟩
      subst hv
      have hMA2 : MenA (w.heap.size + 1 + 1 + 1) (wr.setCell ⟨w.heap.size + 1 + 1, 0, none⟩ (.int .i64 Y)).heap.size (wr.setCell ⟨w.heap.size + 1 + 1, 0, none⟩ (.int .i64 Y)) A' L := (hMA.off _ _ (by show w.heap.size + 1 + 1 < _; omega)).more (Nat.le_refl _) (by simp [World.setCell])
      have q1 := p1.other ⟨w.heap.size + 1 + 1, 0, none⟩ (.int .i64 Y) (by show w.heap.size ≠ w.heap.size + 1 + 1; omega)
      have q2 := p2.other ⟨w.heap.size + 1 + 1, 0, none⟩ (.int .i64 Y) (by show w.heap.size + 1 ≠ w.heap.size + 1 + 1; omega)
      have q3 := p3.set 0 (.int .i64 Y)
      have hbe2 := hbe.setCell (p := ⟨w.heap.size + 1 + 1, 0, none⟩) (by show w.heap.size ≤ w.heap.size + 1 + 1; omega) (.int .i64 Y)
      clear hput hI hL hY hgood hS hMA
      go_wp2_with fail
      generalize hW4 : wr.setCell _ _ = W4 at *
      clear hW4 r0 r1 u0 u1 u2 u3 v0 v1 v2 v3 z1 z2 z3 hz p1 p2 p3 hbe
      have q3 : Blk W4 (w.heap.size + 1 + 1) #[.int .i64 Y, .slice A' L.length c'] 30 := q3
      have z2 := q2.lt
      have z3 := q3.lt
      refine (l3Ok_any _ _ _ _ _ _ _ _ _ ((hR.below hbe2).more hbe2.size) hMA2.is HRO.out (by have := HLL.out; omega)).mono ?_
      rintro e5 w5 ⟨rfl, hb5⟩
      have r2 := q2.below hb5 z2
      have r3 := q3.below hb5 z3
      have hbe5 := hbe2.trans (hb5.mono hbe2.size)
      have hMA5 := (hMA2.below hb5).more (Nat.le_refl _) hb5.size
      have hz5 := hb5.size
      obtain ⟨⟨u0, u1⟩, ⟨u2, u3⟩⟩ := r3.at2
      obtain ⟨⟨v0, v1⟩, ⟨v2, v3⟩⟩ := r2.at2
      have y2 := r2.lt
      have y3 := r3.lt
      have HPI := Lib.hid (show posIB side ks m code = posOk side ks Y L by rw [HEQ.out, HYY.out, ← HL.out])
      clear q1 q2 q3 hMA2 hb5 hbe2 z2 z3
      cases hB : posOk side ks Y L
      · have HB := Lib.hid (HIN.out.trans (HPI.out.trans hB))
        clear hB
        have hx := (Blk.set2 r2 (.int .i64 0) (.slice none 0 0)).at2
        go_wp2_with fail
        refine bodyPost_ret (v := .tuple #[.agg #[.int .i64 0, .slice none 0 0], .bool false]) ?_ rfl (posRes_no HB.out ((hbe5.setCell (by show w.heap.size ≤ w.heap.size + 1; omega) _).setCell (by show w.heap.size ≤ w.heap.size + 1; omega) _))
        obtain ⟨⟨x0, x1⟩, _⟩ := hx
        simp [results, Tryz.results26, go_sem, x0, x1]
      · have HB := Lib.hid (HIN.out.trans (HPI.out.trans hB))
        clear hB
        have hx := (Blk.set2 r2 (.int .i64 Y) (.slice A' L.length c')).at2
        go_wp2_with fail
        refine bodyPost_ret (v := .tuple #[.agg #[.int .i64 Y, .slice A' L.length c'], .bool true]) ?_ rfl ?_
        · obtain ⟨⟨x0, x1⟩, _⟩ := hx
          simp [results, Tryz.results26, go_sem, x0, x1]
        · obtain ⟨h1, h2⟩ := posCT_yes HB.out
          rw [HB.out, h1, h2, ← HL.out, HYY.out]
          exact ⟨A', c', w.heap.size + 1 + 1 + 1, w5.heap.size, rfl, by omega, by simp [World.setCell], (hMA5.off _ _ (by show w.heap.size + 1 < _; omega)).off _ _ (by show w.heap.size + 1 < _; omega), (hbe5.setCell (by show w.heap.size ≤ w.heap.size + 1; omega) _).setCell (by show w.heap.size ≤ w.heap.size + 1; omega) _⟩
    · obtain ⟨p, rfl⟩ : ∃ p, q = p + 1 := ⟨q - 1, by omega⟩
      rw [show (((p + 1 : Nat) : Int) - 1) = (p : Int) by omega]
      have hpm : p < m.length := by omega
      have hpm' : (p : Int) < (m.length : Int) := by omega
      have hk1 : m.length - p = (m.length - (p + 1)) + 1 := by omega
      have hx1 : 0 ≤ Y % (side * side + 1) := Int.emod_nonneg _ (by omega)
      have hx2 : Y % (side * side + 1) < side * side + 1 := Int.emod_lt_of_pos _ (by omega)
      have hd1 : 0 ≤ Y / (side * side + 1) := Int.ediv_nonneg hY0 (by omega)
      have hd2 : Y / (side * side + 1) ≤ Y := Int.ediv_le_self _ hY0
      have HY' := Lib.hid (show Y / (side * side + 1) = remK (side * side + 1) code (m.length - p) by rw [hk1, HR2.out, ← hY.out])
      obtain ⟨L, hL⟩ : ∃ L, L = putC side code m (m.length - (p + 1)) := ⟨_, rfl⟩
      have HL := Lib.hid hL
      rw [← hL] at hput
      have HLL := Lib.hid (show L.length ≤ 4 by rw [hL]; have := HLP.out (m.length - (p + 1)); omega)
      clear hL hI
      by_cases hc : Y % (side * side + 1) = side * side
      · have hd : (Y % (side * side + 1) == side * side) = true := by simp [hc]
        have HG : Hid (∀ j, j < m.length - p → goodC side code m j = true) := Lib.hid (by
          rw [hk1]
          refine all_succ hgood.out ?_
          unfold goodC; rw [← hY.out, decide_eq_true hc]; rfl)
        have HP : Hid (putC side code m (m.length - p) = L) := Lib.hid (by
          rw [hk1, HL.out]; simp only [putC]; rw [if_pos (by rw [← hY.out]; exact hc)])
        have HI := Lib.hid (show LpInv w wr side A c ks.length v L from ⟨p1, p2, p3, hput, hbe⟩)
        clear hc p1 p2 p3 hput hbe hY hgood
        go_wp2_with fail
        go_roundw
        case rel => exact ⟨p, v, _, by omega, by go_num, rfl, HY', by omega, by omega, HG, by rw [HP.out]; exact HI⟩
        case measure => simp [intOf]
      · have hd : (Y % (side * side + 1) == side * side) = false := by simp [hc]
        obtain ⟨A', c', hv, hS⟩ : ∃ A' c', v = .slice A' L.length c' ∧ IsSteps wr wr.heap.size A' L := by
          rcases hput with ⟨h1, h2⟩ | ⟨_, A', c', h2, h3, _⟩
          · exact ⟨none, 0, by rw [h2, h1]; rfl, fun h => absurd h (by rw [h1]; simp)⟩
          · exact ⟨A', c', h2, h3.is⟩
        subst hv
        obtain ⟨X, hX⟩ : ∃ X, X = Y % (side * side + 1) := ⟨_, rfl⟩
        have HX := Lib.hid hX
        have HC := Lib.hid hc
        have hmod : Y % (side * side + 1) = X := hX.symm
        rw [← hX] at hx1 hx2 hd
        clear hX hc
        go_wp2_with fail
        refine (l3Man_any _ _ _ _ _ _ hS (by have := HLL.out; omega)).mono ?_
        rintro e5 w5 ⟨rfl, hb5⟩
        have q1 := p1.below hb5 z1
        have q2 := p2.below hb5 z2
        have q3 := p3.below hb5 z3
        have hput := hput.below hb5
        have hbe5 := hbe.trans (hb5.mono hz)
        have hz5 := hbe5.size
        have z1 := q1.lt
        have z2 := q2.lt
        have z3 := q3.lt
        obtain ⟨mv, hmv⟩ : ∃ mv, mv = manV L X := ⟨_, rfl⟩
        have HMV := Lib.hid hmv
        rw [← hmv]
        clear r0 r1 u0 u1 u2 u3 v0 v1 v2 v3 p1 p2 p3 hbe hS hb5 hmv
        obtain ⟨⟨u0, u1⟩, ⟨u2, u3⟩⟩ := q3.at2
        obtain ⟨⟨v0, v1⟩, ⟨v2, v3⟩⟩ := q2.at2
        by_cases hm1 : mv = -1
        · subst hm1
          have hneg : decide ((0 : Int) ≤ -1) = false := by decide
          have HG : Hid (∀ j, j < m.length - p → goodC side code m j = true) := Lib.hid (by
            rw [hk1]
            refine all_succ hgood.out ?_
            unfold goodC; rw [← hY.out, ← HX.out, ← HL.out, ← HMV.out]; simp)
          have HP : Hid (putC side code m (m.length - p) = putL L ⟨(pcAt m p).kd, (pcAt m p).ow, X⟩) := Lib.hid (by
            rw [hk1, HL.out]; simp only [putC]
            rw [if_neg (by rw [← hY.out]; exact HC.out), ← hY.out, ← HX.out, show m.length - 1 - (m.length - (p + 1)) = p by omega])
          obtain ⟨bM, off, rfl, hBM, hcM⟩ := hM.below hbe5 (by omega)
          obtain ⟨s0, s1⟩ := hcM p hpm
          have zM : bM < w5.heap.size := by omega
          have HQ1 := Lib.hid q1
          have HQ2 := Lib.hid q2
          have HQ3 := Lib.hid q3
          have HBE := Lib.hid hbe5
          clear hcM q1 q2 q3 hbe5 hgood hY
          go_wp2_with fail
          rcases hput with ⟨hL0, hv⟩ | ⟨hLp, A'', c'', hv, hmA, hcc, hcm⟩
          · injection hv with hv1 hv2 hv3
            subst hv1
            subst hv3
            subst hL0
            have HS : Hid (∀ w', Below w5.heap.size w5 w' → (w'.cell? ⟨w.heap.size + 1 + 1, 1, none⟩ = some (.slice none 0 0) ∧ w'.cell? ⟨bM, off + p * 2, none⟩ = some (.int .i64 (pcAt m p).kd) ∧ w'.cell? ⟨bM, off + p * 2 + 1, none⟩ = some (.int .i64 (pcAt m p).ow))) := Lib.hid (fun w' hb => by
              obtain ⟨⟨_, a1⟩, _⟩ := (HQ3.out.below hb z3).at2
              exact ⟨a1, (hb.cell (p := ⟨bM, off + p * 2, none⟩) zM).trans s0, (hb.cell (p := ⟨bM, off + p * 2 + 1, none⟩) zM).trans s1⟩)
            have hw : Below w5.heap.size w5 w5.drew := (Below.refl _ _).drew
            clear u0 u1 u2 u3 v0 v1 v2 v3 s0 s1
            obtain ⟨t0, t1, t2⟩ := HS.out _ hw
            go_region_law
              (go_simp; go_at_call 53; refine (l4Put_nil _ _ _ _).mono ?_; rintro e6 w6 ⟨A6, c6, rfl, hm6, hb6, hc6, hcm6⟩; have hw6 := hw.size; have hw := hw.trans (hb6.mono hw.size); obtain ⟨t3, t4, t5⟩ := HS.out _ hw; obtain ⟨⟨g0, g1⟩, ⟨g2, g3⟩⟩ := (HQ3.out.below hw z3).at2)
            all_goals
              have hwz := hw.size
              have hdz : w5.heap.size ≤ w5.drew.heap.size := Nat.le_refl _
              go_wp2_with fail
              go_roundw
              case rel => exact ⟨p, _, _, by omega, by go_num, rfl, HY', by omega, by omega, HG, by
                rw [HP.out]
                exact Lib.hid ⟨(HQ1.out.below hw z1).other _ _ (by show w.heap.size ≠ w.heap.size + 1 + 1; omega), (HQ2.out.below hw z2).other _ _ (by show w.heap.size + 1 ≠ w.heap.size + 1 + 1; omega), (HQ3.out.below hw z3).set 1 _, .inr ⟨by simp [putL], A6, c6, rfl, ((hm6.off _ _ (by show w.heap.size + 1 + 1 < _; omega)).more (by omega) (by simp [World.setCell])), hc6, hcm6⟩, (HBE.out.trans (hw.mono hz5)).setCell (by show w.heap.size ≤ w.heap.size + 1 + 1; omega) _⟩⟩
              case measure => simp [intOf]
          · injection hv with hv1 hv2 hv3
            subst hv1
            subst hv3
            obtain ⟨gg, csg, hgA, _⟩ := hmA hLp
            have HMA := Lib.hid hmA
            subst hgA
            clear hmA
            have HS : Hid (∀ w', Below w5.heap.size w5 w' → (w'.cell? ⟨w.heap.size + 1 + 1, 1, none⟩ = some (.slice (some ⟨gg, 0, none⟩) L.length c') ∧ w'.cell? ⟨bM, off + p * 2, none⟩ = some (.int .i64 (pcAt m p).kd) ∧ w'.cell? ⟨bM, off + p * 2 + 1, none⟩ = some (.int .i64 (pcAt m p).ow))) := Lib.hid (fun w' hb => by
              obtain ⟨⟨_, a1⟩, _⟩ := (HQ3.out.below hb z3).at2
              exact ⟨a1, (hb.cell (p := ⟨bM, off + p * 2, none⟩) zM).trans s0, (hb.cell (p := ⟨bM, off + p * 2 + 1, none⟩) zM).trans s1⟩)
            have hw : Below w5.heap.size w5 w5.drew := (Below.refl _ _).drew
            clear u0 u1 u2 u3 v0 v1 v2 v3 s0 s1
            obtain ⟨t0, t1, t2⟩ := HS.out _ hw
            go_region_law
              (go_simp; go_at_call 53; refine (l4Put_any _ _ _ _ _ _ _ _ (((HMA.out.is).below hw).more hw.size) HLL.out hLp hcc hcm).mono ?_; rintro e6 w6 ⟨A6, c6, rfl, hm6, hb6, hc6, hcm6⟩; have hw6 := hw.size; have hw := hw.trans (hb6.mono hw.size); obtain ⟨t3, t4, t5⟩ := HS.out _ hw; obtain ⟨⟨g0, g1⟩, ⟨g2, g3⟩⟩ := (HQ3.out.below hw z3).at2)
            all_goals
              have hwz := hw.size
              have hdz : w5.heap.size ≤ w5.drew.heap.size := Nat.le_refl _
              go_wp2_with fail
              go_roundw
              case rel => exact ⟨p, _, _, by omega, by go_num, rfl, HY', by omega, by omega, HG, by
                rw [HP.out]
                exact Lib.hid ⟨(HQ1.out.below hw z1).other _ _ (by show w.heap.size ≠ w.heap.size + 1 + 1; omega), (HQ2.out.below hw z2).other _ _ (by show w.heap.size + 1 ≠ w.heap.size + 1 + 1; omega), (HQ3.out.below hw z3).set 1 _, .inr ⟨by rw [putL_len]; omega, A6, c6, rfl, ((hm6.off _ _ (by show w.heap.size + 1 + 1 < _; omega)).more (by omega) (by simp [World.setCell])), hc6, hcm6⟩, (HBE.out.trans (hw.mono hz5)).setCell (by show w.heap.size ≤ w.heap.size + 1 + 1; omega) _⟩⟩
              case measure => simp [intOf]
        · have hge : 0 ≤ mv := by rw [HMV.out]; exact (manV_far (by rw [← HMV.out]; exact hm1)).2.2
          have hneg : decide ((0 : Int) ≤ mv) = true := decide_eq_true hge
          have HB := Lib.hid (HIN.out.trans (HBAD.out (m.length - (p + 1)) (by omega) (by
            unfold goodC; rw [← hY.out, decide_eq_false HC.out, ← HX.out, ← HL.out, ← HMV.out, decide_eq_false hm1]; rfl)))
          have hx := (Blk.set2 q2 (.int .i64 0) (.slice none 0 0)).at2
          clear hm1 hge
          go_wp2_with fail
          refine bodyPost_ret (v := .tuple #[.agg #[.int .i64 0, .slice none 0 0], .bool false]) ?_ rfl (posRes_no HB.out ((hbe5.setCell (by show w.heap.size ≤ w.heap.size + 1; omega) _).setCell (by show w.heap.size ≤ w.heap.size + 1; omega) _))
          obtain ⟨⟨x0, x1⟩, _⟩ := hx
          simp [results, Tryz.results26, go_sem, x0, x1]
end Go.Proofs.YtmfcgikfgikbfaaGreat.Ko
