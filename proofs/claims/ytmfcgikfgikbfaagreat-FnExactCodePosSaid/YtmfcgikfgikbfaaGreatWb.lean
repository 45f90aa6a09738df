/- The position of a code: coder.pos of the program. -/
import Derived.Test.YtmfcgikfgikbfaaGreatWa
import Derived.Test.YtmfcgikfgikbfaaGreatWn
import Derived.Test.YtmfcgikfgikbfaaGreatPa
import Derived.Test.YtmfcgikfgikbfaaGreatAg
import Derived.Test.YtmfcgikfgikbfaaGreatPs
import Derived.Test.YtmfcgikfgikbfaaGreatPk
import Derived.Test.YtmfcgikfgikbfaaGreatPx
import Derived.Deep.AppendLies
import Derived.Deep.RegionLaw
namespace Go.Proofs.YtmfcgikfgikbfaaGreat.Ko
open Go.ChangeShapes Go.WideShapes Go.ChangeAt Go.RowKit Base Sq In
set_option linter.unusedVariables false
set_option maxRecDepth 20000
attribute [local irreducible] wpQuiet

/-- a position and whether there is one; its men lie in new memory -/
def PosRes (B : Bool) (T : Int) (L : List St) (w w' : World) (e : Ending) : Prop :=
  ∃ A c lo hi, e = .returned (.tuple #[.agg #[.int .i64 T, .slice A L.length c], .bool B]) ∧ w.heap.size ≤ lo ∧ hi ≤ w'.heap.size ∧ MenA lo hi w' A L ∧ Below w.heap.size w w'
theorem posCT_no {s : Int} {ks : List Kd} {m : List Pc} {code : Int} (h : posCB s ks m code = false) : posCT s ks m code = 0 ∧ posCL s ks m code = [] := by unfold posCT posCL; rw [h]; exact ⟨rfl, rfl⟩
theorem posCT_yes {s : Int} {ks : List Kd} {m : List Pc} {code : Int} (h : posCB s ks m code = true) : posCT s ks m code = remK (s * s + 1) code m.length ∧ posCL s ks m code = putC s code m m.length := by unfold posCT posCL; rw [h]; exact ⟨rfl, rfl⟩
theorem posRes_no {s : Int} {ks : List Kd} {m : List Pc} {code : Int} {w w' : World} (h : posCB s ks m code = false) (hb : Below w.heap.size w w') : PosRes (posCB s ks m code) (posCT s ks m code) (posCL s ks m code) w w' (.returned (.tuple #[.agg #[.int .i64 0, .slice none 0 0], .bool false])) := by
  obtain ⟨h1, h2⟩ := posCT_no h
  rw [h, h1, h2]
  exact ⟨none, 0, w.heap.size, w'.heap.size, rfl, Nat.le_refl _, Nat.le_refl _, MenA.nil _ _ _ _, hb⟩
/-- what holds at each round's head -/
def CpInv (w wr : World) (side : Int) (A : Option Addr) (c n : Nat) (M : Option Addr) (cm m : Nat) (D : Option Addr) (d : Nat) (pb g : Nat) (t : Int) (dl : List Int) (v : Value) (L : List St) : Prop :=
  OwnM wr (pb + 1) v L.length L ∧ Blk wr w.heap.size #[.int .i64 side, .slice A n c, .slice M m cm, .slice D (m + 1) d] 64 ∧ Blk wr (w.heap.size + 1) #[.int .i64 0, .slice none 0 0] 30 ∧
    Blk wr pb #[.int .i64 t, v] 30 ∧ IsInts wr pb (some ⟨g, 0, none⟩) dl ∧ Below w.heap.size w wr ∧ w.heap.size + 2 ≤ pb
theorem OwnM.off2 {w : World} {base n : Nat} {v : Value} {l : List St} {b : Nat} {i : Nat} (h : OwnM w base v n l) (hb : b < base) (u : Value) : OwnM (w.setCell ⟨b, i, none⟩ u) base v n l := h.other _ _ hb
theorem IsInts.other' {w : World} {B : Nat} {A : Option Addr} {l : List Int} (h : IsInts w B A l) (a : Addr) (u : Value) (hne : ∀ b, A = some ⟨b, 0, none⟩ → b ≠ a.block) : IsInts (w.setCell a u) B A l := fun hn => by
  obtain ⟨b, rfl, hB, hc⟩ := h hn
  exact ⟨b, rfl, hB, fun i hi => (World.cell?_of_block (Below.heap_setCell w a u b (hne b rfl))).trans (hc i hi)⟩
theorem cp_next {w w7 : World} {side : Int} {A : Option Addr} {c n : Nat} {M : Option Addr} {cm m : Nat} {D : Option Addr} {d pb g : Nat} {t : Int} {dl : List Int} {v : Value} {B7 : Option Addr} {c7 : Nat} {L L' : List St} {s : St} (hL : L' = L ++ [s])
    (hO : OwnM w7 (pb + 1) (.slice B7 (L.length + 1) c7) (L.length + 1) (L ++ [s])) (r1 : Blk w7 w.heap.size #[.int .i64 side, .slice A n c, .slice M m cm, .slice D (m + 1) d] 64) (r2 : Blk w7 (w.heap.size + 1) #[.int .i64 0, .slice none 0 0] 30)
    (r3 : Blk w7 pb #[.int .i64 t, v] 30) (hG : IsInts w7 pb (some ⟨g, 0, none⟩) dl) (hbe : Below w.heap.size w w7) (hpz : w.heap.size + 2 ≤ pb) (hg : g < pb) :
    CpInv w (w7.setCell ⟨pb, 1, none⟩ (.slice B7 (L.length + 1) c7)) side A c n M cm m D d pb g t dl (.slice B7 L'.length c7) L' := by
  subst hL
  have e : (L ++ [s]).length = L.length + 1 := by simp
  unfold CpInv
  rw [e]
  exact ⟨hO.off2 (by omega : pb < pb + 1) _, Blk.other r1 _ _ (by show w.heap.size ≠ pb; omega), r2.other _ _ (by show w.heap.size + 1 ≠ pb; omega), r3.set 1 _, IsInts.other' hG _ _ (fun b hb => by injection hb with hb; injection hb with hb; subst hb; show g ≠ pb; omega), hbe.setCell (by show w.heap.size ≤ pb; omega) _, hpz⟩
theorem ownM_none (w : World) (base : Nat) : OwnM w base (.slice none 0 0) ([] : List St).length [] := ⟨rfl, .inl ⟨rfl, rfl⟩⟩

set_option maxHeartbeats 8000000 in
theorem pos_any (side : Int) (A : Option Addr) (c : Nat) (ks : List Kd) (M : Option Addr) (cm : Nat) (m : List Pc) (D : Option Addr) (d : Nat) (code : Int) (w : World) (hR : IsKinds w w.heap.size A ks) (hM : IsPcs w w.heap.size M m) (hD : IsInts w w.heap.size D (basesV side m.length))
    (hok : matV side ks m = true) (hsm : Small ks) :
    Calls Tryz.prog 30 #[.agg #[.int .i64 side, .slice A ks.length c, .slice M m.length cm, .slice D (m.length + 1) d], .int .i64 code] w fun e w' => PosRes (posCB side ks m code) (posCT side ks m code) (posCL side ks m code) w w' e := by
  obtain ⟨hro, hm4⟩ := matV_facts hok
  obtain ⟨hs, _⟩ := rulesOk_facts hro
  have HSD := Lib.hid hs
  have HRO := Lib.hid hro
  have hbx := (below_of w (.cells #[.int .i64 side, .slice A ks.length c, .slice M m.length cm, .slice D (m.length + 1) d] 64)).alloc (by first | (simp; done) | (simp; omega) | omega) (.cells #[.int .i64 0, .slice none 0 0] 30)
  have p1 := (Blk.new w #[.int .i64 side, .slice A ks.length c, .slice M m.length cm, .slice D (m.length + 1) d] 64).alloc (.cells #[.int .i64 0, .slice none 0 0] 30)
  have p2 := Blk.new (w.alloc (.cells #[.int .i64 side, .slice A ks.length c, .slice M m.length cm, .slice D (m.length + 1) d] 64)) #[.int .i64 0, .slice none 0 0] 30
  simp only [World.size_alloc] at p2
  clear hok hro hs
  by_cases h0 : code < 0
  · have HB := Lib.hid (posCB_out (s := side) (ks := ks) (m := m) (code := code) (by omega))
    have hd : decide (code < 0) = true := decide_eq_true h0
    go_enter Tryz.func30, Tryz.ntmps30
    go_wp2_with fail
    refine bodyPost_ret (v := .tuple #[.agg #[.int .i64 0, .slice none 0 0], .bool false]) (by simp [results, Tryz.results30, go_sem]) rfl (posRes_no HB.out ?_)
    exact (by repeat (first | exact Below.refl _ _ | assumption | (refine Below.alloc ?_ (by first | omega | (simp; done) | (simp; omega)) _) | (refine Below.setCell ?_ (by first | omega | (simp; done) | (simp; omega)) _) | refine Below.drew ?_))
  have hd0 : decide (code < 0) = false := decide_eq_false h0
  have hD0 := (hD.below hbx).more hbx.size
  by_cases h1 : numV side m.length ≤ code
  · have HB := Lib.hid (posCB_out (s := side) (ks := ks) (m := m) (code := code) (by omega))
    have hd1 : decide (numV side m.length ≤ code) = true := decide_eq_true h1
    clear h0 h1
    go_enter Tryz.func30, Tryz.ntmps30
    go_wp2_with fail
    generalize hW0 : (w.alloc _).alloc _ = W0 at *
    clear hW0
    refine (many_any side A c ks.length M cm m.length D d _ hD0 HSD.out hm4).mono ?_
    rintro e w1 ⟨rfl, hb1⟩
    have q2 := p2.below hb1 p2.lt
    have hbe := hbx.trans (hb1.mono hbx.size)
    obtain ⟨⟨c0, c1⟩, ⟨f0, f1⟩⟩ := q2.at2
    have hx := (Blk.set2 q2 (.int .i64 0) (.slice none 0 0)).at2
    clear p1 p2 hbx hb1
    go_wp2_with fail
    refine bodyPost_ret (v := .tuple #[.agg #[.int .i64 0, .slice none 0 0], .bool false]) ?_ rfl (posRes_no HB.out ((hbe.setCell (by show w.heap.size ≤ w.heap.size + 1; omega) _).setCell (by show w.heap.size ≤ w.heap.size + 1; omega) _))
    obtain ⟨⟨x0, x1⟩, _⟩ := hx
    simp [results, Tryz.results30, go_sem, x0, x1]
  have hd1 : decide (numV side m.length ≤ code) = false := decide_eq_false h1
  have HR := Lib.hid (remK_bd HSD.out (n := m.length) (by omega : 0 ≤ code) (by omega : code < numV side m.length))
  have HIN := Lib.hid (posCB_in (s := side) (ks := ks) (m := m) (code := code) (by omega) (by omega))
  have HPO := Lib.hid (fun l' => posC_of (s := side) (ks := ks) (m := m) (code := code) (l' := l'))
  have hc0 : 0 ≤ code := by omega
  have hc1 : code < numV side m.length := by omega
  clear h0 h1
  go_enter Tryz.func30, Tryz.ntmps30
  go_wp2_with fail
  generalize hW0 : (w.alloc _).alloc _ = W0 at *
  clear hW0
  refine (many_any side A c ks.length M cm m.length D d _ hD0 HSD.out hm4).mono ?_
  rintro e w1 ⟨rfl, hb1⟩
  have q1 := Blk.below p1 hb1 p1.lt
  have q2 := p2.below hb1 p2.lt
  have hbe := hbx.trans (hb1.mono hbx.size)
  have hD1 := (hD0.below hb1).more hb1.size
  obtain ⟨y0, y1, y2, y3⟩ := Blk.at4 q1
  clear p1 p2 hbx hb1 hD0
  go_wp2_with fail
  refine (digitsOf_any side code m.length D d _ hD1 HSD.out hm4 hc0 hc1).mono ?_
  rintro e w2 ⟨g, cg, rfl, hg1, hg2, hG, hb2⟩
  have q1 := Blk.below q1 hb2 q1.lt
  have q2 := q2.below hb2 q2.lt
  have hbe := hbe.trans (hb2.mono hbe.size)
  have hT := (HR.out m.length (Nat.le_refl _))
  rw [Nat.sub_self] at hT
  have hG0 : w2.cell? ⟨g, 0, none⟩ = some (.int .i64 (remK (side * side + 1) code m.length)) := by
    obtain ⟨b', hb', _, hc'⟩ := hG (by rw [digL_len]; omega)
    injection hb' with hb'
    injection hb' with hb'
    subst hb'
    exact hc' 0 (by rw [digL_len]; omega)
  obtain ⟨T, hTT⟩ : ∃ T, T = remK (side * side + 1) code m.length := ⟨_, rfl⟩
  rw [← hTT] at hG0
  have HTT := Lib.hid hTT
  obtain ⟨y0, y1, y2, y3⟩ := Blk.at4 q1
  have z1 := q1.lt
  clear hTT hT
  go_wp2_with fail
  have hpz : w.heap.size + 2 ≤ w2.heap.size := by have := q2.lt; omega
  have hA := below_of w2 (.cells #[.int .i64 T, .slice none 0 0] 30)
  have q3 := Blk.new w2 #[.int .i64 T, .slice none 0 0] 30
  have q1 := Blk.below q1 hA q1.lt
  have q2 := q2.below hA q2.lt
  have hG3 := hG.below hA
  have hz2 := hbe.size
  have hbe3 := hbe.trans (hA.mono hbe.size)
  clear hA hG hG0 y0 y1 y2 y3 hbe hb2 z1
  generalize hW3 : w2.alloc _ = W3 at *
  generalize hpb : w2.heap.size = pb at *
  clear hW3 hpb
  have hI0 : Hid (CpInv w W3 side A c ks.length M cm m.length D d pb g T (digL (side * side + 1) code m.length) (.slice none 0 0) (menC side code m 0)) := Lib.hid ⟨ownM_none _ _, q1, q2, q3, hG3, hbe3, hpz⟩
  clear q1 q2 q3 hG3 hbe3
  obtain ⟨i0, hi0, hzi0, hzi1, hzi2⟩ := info_parts manInfo
  go_loopw [31] (fun i wr => ∃ (k : Nat) (B : Option Addr) (e : Nat), k ≤ m.length ∧ i = .int .i64 k ∧ Hid ((menC side code m k).length = 0 → B = none ∧ e = 0) ∧ Hid (CpInv w wr side A c ks.length M cm m.length D d pb g T (digL (side * side + 1) code m.length) (.slice B (menC side code m k).length e) (menC side code m k))) (fun i _ => m.length - (intOf i).toNat)
  case atStart => exact ⟨0, none, 0, by omega, rfl, Lib.hid (fun _ => ⟨rfl, rfl⟩), hI0⟩
  case round =>
    clear hI0
    obtain ⟨k, B, e, hk, rfl, hnl, hI⟩ := hrel
    obtain ⟨hO, q1, q2, q3, hG, hbe, _⟩ := hI.out
    have hz := hbe.size
    have z1 := q1.lt
    have z2 := q2.lt
    have z3 := q3.lt
    by_cases hlt : k < m.length
    · have hlt' : (k : Int) < (m.length : Int) := by omega
      have HL1 := Lib.hid (menC_len side code m k)
      obtain ⟨bM, off, rfl, hBM, hcM⟩ := hM.below hbe (by omega)
      obtain ⟨s0, s1⟩ := hcM k hlt
      have hgc : wr.cell? ⟨g, 1 + k, none⟩ = some (.int .i64 (digC (side * side + 1) code m.length k)) := by
        obtain ⟨b', hb', _, hc'⟩ := hG (by rw [digL_len]; omega)
        injection hb' with hb'
        injection hb' with hb'
        subst hb'
        rw [Nat.add_comm, hc' (k + 1) (by rw [digL_len]; omega), digL_succ hlt]
      obtain ⟨X, hX⟩ : ∃ X, X = digC (side * side + 1) code m.length k := ⟨_, rfl⟩
      rw [← hX] at hgc
      have HX := Lib.hid hX
      have zM : bM < wr.heap.size := by omega
      have hgw : g < wr.heap.size := by omega
      obtain ⟨y0, y1, y2, y3⟩ := Blk.at4 q1
      clear hcM hX hI
      go_wp2_with fail
      have hA := below_of wr (.cells #[.int .i64 (pcAt m k).kd, .int .i64 (pcAt m k).ow] 59)
      have q5 := Blk.new wr #[.int .i64 (pcAt m k).kd, .int .i64 (pcAt m k).ow] 59
      have q1 := Blk.below q1 hA z1
      have q2 := q2.below hA z2
      have q3 := q3.below hA z3
      have hO := hO.below hA
      have hG := hG.below (hA.mono (by omega))
      have hbe := hbe.trans (hA.mono hz)
      have hz5 := hbe.size
      clear y0 y1 y2 y3 s0 s1 hgc z1 z2 z3 hA
      generalize hW5 : wr.alloc _ = W5 at *
      generalize hb5 : wr.heap.size = b5 at *
      clear hW5
      have hpW : pb ≤ W5.heap.size := by have := q3.lt; omega
      refine (squares_any _ _ _ _ _ HSD.out).mono ?_
      rintro e6 w6 ⟨rfl, hb6⟩
      have q1 := Blk.below q1 hb6 q1.lt
      have q2 := q2.below hb6 q2.lt
      have q3 := q3.below hb6 q3.lt
      have q5 := q5.below hb6 q5.lt
      have hO := hO.below hb6
      have hG := hG.below (hb6.mono hpW)
      have hbe := hbe.trans (hb6.mono hz5)
      have hz6 := hbe.size
      have z1 := q1.lt
      have z2 := q2.lt
      have z3 := q3.lt
      have z5 := q5.lt
      by_cases hc : X = side * side
      · have hd : (X == side * side) = true := by simp [hc]
        have HL : Hid (menC side code m (k + 1) = menC side code m k) := Lib.hid (by
          simp only [menC, manC]; rw [if_pos (by rw [← HX.out, hc])]; simp)
        have HI := Lib.hid (show CpInv w w6 side A c ks.length _ cm m.length D d pb g T (digL (side * side + 1) code m.length) (.slice B (menC side code m k).length e) (menC side code m k) from ⟨hO, q1, q2, q3, hG, hbe, hpz⟩)
        clear hc hO q1 q2 q3 q5 hG hbe hb6
        go_wp2_with fail
        go_roundw
        case rel => exact ⟨k + 1, B, e, by omega, by go_num, by rw [HL.out]; exact hnl, by rw [HL.out]; exact HI⟩
        case measure => simp [intOf]; omega
      · have hd : (X == side * side) = false := by simp [hc]
        have HL : Hid (menC side code m (k + 1) = menC side code m k ++ [⟨(pcAt m k).kd, (pcAt m k).ow, X⟩]) := Lib.hid (by
          simp only [menC, manC]; rw [if_neg (by rw [← HX.out]; exact hc), HX.out])
        have HQ1 := Lib.hid (Blk.alloc q1 (.cells #[.int .i64 (pcAt m k).kd, .int .i64 (pcAt m k).ow, .int .i64 X] 84))
        have HQ2 := Lib.hid (q2.alloc (.cells #[.int .i64 (pcAt m k).kd, .int .i64 (pcAt m k).ow, .int .i64 X] 84))
        have HQ3 := Lib.hid (q3.alloc (.cells #[.int .i64 (pcAt m k).kd, .int .i64 (pcAt m k).ow, .int .i64 X] 84))
        have HG := Lib.hid (hG.below ((below_of w6 (.cells #[.int .i64 (pcAt m k).kd, .int .i64 (pcAt m k).ow, .int .i64 X] 84)).mono (by omega)))
        have HBE := Lib.hid (hbe.alloc hz6 (.cells #[.int .i64 (pcAt m k).kd, .int .i64 (pcAt m k).ow, .int .i64 X] 84))
        have HO2 := Lib.hid (hO.alloc (.cells #[.int .i64 (pcAt m k).kd, .int .i64 (pcAt m k).ow, .int .i64 X] 84))
        have HNEW := Lib.hid (Blk.new w6 #[.int .i64 (pcAt m k).kd, .int .i64 (pcAt m k).ow, .int .i64 X] 84)
        have hl1 := HL1.out
        have hmx : (menC side code m k).length + 1 ≤ maxLen := by have := HL1.out; unfold maxLen; omega
        obtain ⟨⟨u0, u1⟩, ⟨u2, u3⟩⟩ := q3.at2
        obtain ⟨⟨v0, v1⟩, _⟩ := q5.at2
        clear hc hb6 q1 q2 q3 q5 hG hbe hO
        go_wp2_with (at_builtin; refine wpList_append_own _ rfl _ _ 28 rfl (pb + 1) 84 i0 (.agg #[.int .i64 0, .int .i64 0, .int .i64 0]) 3 24 Tryz.underlying28 hi0 hzi0 hzi1 hzi2 rfl (by decide) _ _ _ rfl HO2.out ⟨w6.heap.size, 0, none⟩ 1 1 [.int .i64 (pcAt m k).kd, .int .i64 (pcAt m k).ow, .int .i64 X] rfl rfl (news3 HNEW.out) (fun u hu => by simp at hu; rcases hu with rfl | rfl | rfl <;> rfl) hmx (by omega) (by simp; omega) ?_; intro v2 w7 hown2 hgrow2 hnil2; have hO7 := OwnM.snoc (s := ⟨(pcAt m k).kd, (pcAt m k).ow, X⟩) hown2; obtain ⟨B7, c7, rfl⟩ := hO7.slice; have hb7 := HO2.out.base hgrow2 (Below.refl (pb + 1) _) (Nat.le_refl _) (by simp; omega); have r1 := Blk.below HQ1.out hb7 (by omega); have r2 := HQ2.out.below hb7 (by omega); have r3 := HQ3.out.below hb7 (by omega); have hG7 := HG.out.below (hb7.mono (by omega)); have hbe7 := HBE.out.trans (hb7.mono (by omega)); have hz7 := hbe7.size; have y3 := r3.lt; obtain ⟨⟨u0, u1⟩, ⟨u2, u3⟩⟩ := r3.at2; clear hown2 hgrow2 hnil2 hb7)
        go_roundw
        case rel => exact ⟨k + 1, B7, c7, by omega, by go_num, Lib.hid (fun h => by rw [HL.out] at h; simp at h), Lib.hid (cp_next HL.out hO7 r1 r2 r3 hG7 hbe7 hpz (by omega))⟩
        case measure => simp [intOf]; omega
    · obtain rfl : k = m.length := by omega
      have HL1 := Lib.hid (Nat.le_trans (menC_len side code m m.length) hm4)
      clear hI
      generalize menC side code m m.length = ML at *
      have hpb : pb + 1 ≤ wr.heap.size := by omega
      rcases Nat.eq_zero_or_pos ML.length with hz0 | hp0
      · obtain ⟨rfl, rfl⟩ := hnl.out hz0
        obtain rfl : ML = [] := List.length_eq_zero_iff.1 hz0
        have HV := Lib.hid (HPO.out [] (List.Perm.refl _) List.Pairwise.nil)
        obtain ⟨⟨u0, u1⟩, ⟨u2, u3⟩⟩ := q3.at2
        clear hO hG hnl hz0 HPO
        go_wp2_with fail
        refine (sortMen_nil _).mono ?_
        rintro e8 w8 ⟨rfl, rfl⟩
        clear u0 u1 u2 u3
        obtain ⟨l', hl'⟩ : ∃ l' : List St, l' = [] := ⟨_, rfl⟩
        obtain ⟨S, hSS⟩ : ∃ S : Option Addr, S = none := ⟨_, rfl⟩
        obtain ⟨es, hes⟩ : ∃ es : Nat, es = 0 := ⟨_, rfl⟩
        have hS : IsSteps wr wr.heap.size S l' := fun h => absurd h (by rw [hl']; simp)
        have hMA : MenA (pb + 1) wr.heap.size wr S l' := by rw [hl']; exact MenA.nil _ _ _ _
        have hlen : l'.length ≤ 4 := by rw [hl']; simp
        have q3 : Blk wr pb #[.int .i64 T, .slice S l'.length es] 30 := by rw [hl', hSS, hes]; exact q3
        rw [← hl'] at HV
        clear hl' hSS hes
        obtain ⟨w8, hw8⟩ : ∃ w8, w8 = wr := ⟨_, rfl⟩
        obtain ⟨⟨u0, u1⟩, ⟨u2, u3⟩⟩ := q3.at2
        obtain ⟨y0, y1, y2, y3⟩ := Blk.at4 q1
        obtain ⟨⟨v0, v1⟩, ⟨v2, v3⟩⟩ := q2.at2
        go_wp2_with fail
        refine (posOk_any _ _ _ _ _ _ _ _ _ ((hR.below hbe).more hbe.size) hS hsm (by omega)).mono ?_
        rw [show posB side ks T l' = posOk side ks T l' from by unfold posB; rw [HRO.out]; rfl, HTT.out, HV.out.1]
        rintro e9 w9 ⟨rfl, hb9⟩
        have q3 := q3.below hb9 z3
        have q2 := q2.below hb9 z2
        have hbe9 := hbe.trans (hb9.mono hbe.size)
        have hMA := (hMA.below hb9).more (Nat.le_refl _) hb9.size
        have z2 := q2.lt
        have z3 := q3.lt
        clear u0 u1 u2 u3 y0 y1 y2 y3 v0 v1 v2 v3 hb9
        obtain ⟨⟨u0, u1⟩, ⟨u2, u3⟩⟩ := q3.at2
        obtain ⟨⟨v0, v1⟩, ⟨v2, v3⟩⟩ := q2.at2
        cases hB : posIB side ks m code
        · have HB := Lib.hid (HIN.out.trans hB)
          clear hB
          have hx := (Blk.set2 q2 (.int .i64 0) (.slice none 0 0)).at2
          go_wp2_with fail
          refine bodyPost_ret (v := .tuple #[.agg #[.int .i64 0, .slice none 0 0], .bool false]) ?_ rfl (posRes_no HB.out ((hbe9.setCell (by show w.heap.size ≤ w.heap.size + 1; omega) _).setCell (by show w.heap.size ≤ w.heap.size + 1; omega) _))
          obtain ⟨⟨x0, x1⟩, _⟩ := hx
          simp [results, Tryz.results30, go_sem, x0, x1]
        · have HB := Lib.hid (HIN.out.trans hB)
          have HE := Lib.hid (HV.out.2 hB)
          clear hB
          have hx := (Blk.set2 q2 (.int .i64 T) (.slice S l'.length es)).at2
          go_wp2_with fail
          refine bodyPost_ret (v := .tuple #[.agg #[.int .i64 T, .slice S l'.length es], .bool true]) ?_ rfl ?_
          · obtain ⟨⟨x0, x1⟩, _⟩ := hx
            simp [results, Tryz.results30, go_sem, x0, x1]
          · obtain ⟨h1, h2⟩ := posCT_yes HB.out
            rw [HB.out, h1, h2, ← HE.out, ← HTT.out]
            exact ⟨S, es, pb + 1, w9.heap.size, rfl, by omega, by simp [World.setCell], (hMA.off _ _ (by show w.heap.size + 1 < pb + 1; omega)).off _ _ (by show w.heap.size + 1 < pb + 1; omega), (hbe9.setCell (by show w.heap.size ≤ w.heap.size + 1; omega) _).setCell (by show w.heap.size ≤ w.heap.size + 1; omega) _⟩
      · obtain ⟨gB, rfl⟩ : ∃ gB, B = some ⟨gB, 0, none⟩ := by
          rcases hO.2 with ⟨_, h0⟩ | ⟨gB, cap, cur, hv, _⟩
          · omega
          · injection hv with hv; exact ⟨gB, hv⟩
        obtain ⟨cs, hbk, hsz, hin, hgb⟩ := hO.blk rfl
        obtain ⟨⟨u0, u1⟩, ⟨u2, u3⟩⟩ := q3.at2
        have hl4 := HL1.out
        clear hO hG hnl
        go_wp2_with fail
        refine (sortMen_any _ _ _ _ _ hbk (by omega) hin).mono ?_
        rintro e8 w8 ⟨rfl, l', cs', hpm, hsrt, hbk', hsz', hin', hbel⟩
        have hlen' := hpm.length_eq
        have HV := Lib.hid (HPO.out l' hpm hsrt)
        have hb8 := hbel (pb + 1) hgb
        have q1 := Blk.below q1 hb8 (by omega)
        have q2 := q2.below hb8 (by omega)
        have q3 := q3.below hb8 (by omega)
        have hbe := hbe.trans (hb8.mono (by omega))
        have z1 := q1.lt
        have z2 := q2.lt
        have z3 := q3.lt
        clear u0 u1 u2 u3 hbel HPO hpm hsrt hbk hin
        obtain ⟨S, hSS⟩ : ∃ S : Option Addr, S = some ⟨gB, 0, none⟩ := ⟨_, rfl⟩
        rw [← hlen'] at q3 hsz hin'
        have hMA : MenA (pb + 1) w8.heap.size w8 S l' := fun _ => ⟨gB, cs', hSS, hgb, hbk'.lt, hbk', by omega, hin'⟩
        have hS : IsSteps w8 w8.heap.size S l' := hMA.is
        have hlen : l'.length ≤ 4 := by omega
        rw [← hSS] at q3
        obtain ⟨es, hes⟩ : ∃ es : Nat, es = e := ⟨_, rfl⟩
        rw [← hes] at q3
        have hz8 := hb8.size
        clear hes hSS hb8 hbk' hin' hsz hsz' hlen' hl4
        obtain ⟨⟨u0, u1⟩, ⟨u2, u3⟩⟩ := q3.at2
        obtain ⟨y0, y1, y2, y3⟩ := Blk.at4 q1
        obtain ⟨⟨v0, v1⟩, ⟨v2, v3⟩⟩ := q2.at2
        go_wp2_with fail
        refine (posOk_any _ _ _ _ _ _ _ _ _ ((hR.below hbe).more hbe.size) hS hsm (by omega)).mono ?_
        rw [show posB side ks T l' = posOk side ks T l' from by unfold posB; rw [HRO.out]; rfl, HTT.out, HV.out.1]
        rintro e9 w9 ⟨rfl, hb9⟩
        have q3 := q3.below hb9 z3
        have q2 := q2.below hb9 z2
        have hbe9 := hbe.trans (hb9.mono hbe.size)
        have hMA := (hMA.below hb9).more (Nat.le_refl _) hb9.size
        have z2 := q2.lt
        have z3 := q3.lt
        clear u0 u1 u2 u3 y0 y1 y2 y3 v0 v1 v2 v3 hb9
        obtain ⟨⟨u0, u1⟩, ⟨u2, u3⟩⟩ := q3.at2
        obtain ⟨⟨v0, v1⟩, ⟨v2, v3⟩⟩ := q2.at2
        cases hB : posIB side ks m code
        · have HB := Lib.hid (HIN.out.trans hB)
          clear hB
          have hx := (Blk.set2 q2 (.int .i64 0) (.slice none 0 0)).at2
          go_wp2_with fail
          refine bodyPost_ret (v := .tuple #[.agg #[.int .i64 0, .slice none 0 0], .bool false]) ?_ rfl (posRes_no HB.out ((hbe9.setCell (by show w.heap.size ≤ w.heap.size + 1; omega) _).setCell (by show w.heap.size ≤ w.heap.size + 1; omega) _))
          obtain ⟨⟨x0, x1⟩, _⟩ := hx
          simp [results, Tryz.results30, go_sem, x0, x1]
        · have HB := Lib.hid (HIN.out.trans hB)
          have HE := Lib.hid (HV.out.2 hB)
          clear hB
          have hx := (Blk.set2 q2 (.int .i64 T) (.slice S l'.length es)).at2
          go_wp2_with fail
          refine bodyPost_ret (v := .tuple #[.agg #[.int .i64 T, .slice S l'.length es], .bool true]) ?_ rfl ?_
          · obtain ⟨⟨x0, x1⟩, _⟩ := hx
            simp [results, Tryz.results30, go_sem, x0, x1]
          · obtain ⟨h1, h2⟩ := posCT_yes HB.out
            rw [HB.out, h1, h2, ← HE.out, ← HTT.out]
            exact ⟨S, es, pb + 1, w9.heap.size, rfl, by omega, by simp [World.setCell], (hMA.off _ _ (by show w.heap.size + 1 < pb + 1; omega)).off _ _ (by show w.heap.size + 1 < pb + 1; omega), (hbe9.setCell (by show w.heap.size ≤ w.heap.size + 1; omega) _).setCell (by show w.heap.size ≤ w.heap.size + 1; omega) _⟩
end Go.Proofs.YtmfcgikfgikbfaaGreat.Ko
