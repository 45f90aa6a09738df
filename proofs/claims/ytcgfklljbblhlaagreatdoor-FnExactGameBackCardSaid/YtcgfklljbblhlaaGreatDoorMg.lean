/- Whether a man may go to a square; whether a move is legal: the program. -/
import Derived.Test.YtcgfklljbblhlaaGreatDoorAg
import Derived.Test.YtcgfklljbblhlaaGreatDoorPk
import Derived.Deep.RegionHeld3
namespace Go.Proofs.YtcgfklljbblhlaaGreatDoor.Ko
open Go.ChangeShapes Go.WideShapes Go.ChangeAt Go.RowKit Base Sq
set_option linter.unusedVariables false
set_option maxRecDepth 20000
attribute [local irreducible] wpQuiet

def moveB (side : Int) (ks : List Kd) (t : Int) (l : List St) (f q : Int) : Bool := posB side ks t l && canB side ks t l f q
def takesB (side : Int) (ks : List Kd) (t : Int) (l : List St) (f q : Int) : Bool := moveB side ks t l f q && decide (manV l q ≠ -1)
theorem freeB_none {ks : List Kd} {t : Int} {l : List St} {q : Int} (h : manV l q = -1) : freeB ks t l q = true := by unfold freeB; rw [decide_eq_true h]; rfl
theorem freeB_some {ks : List Kd} {t : Int} {l : List St} {q : Int} {n : Nat} (h : manV l q = (n : Int)) : freeB ks t l q = (decide ((stAt l n).dy ≠ t) && decide ((stAt l n).dx ≠ kingV ks)) := by
  unfold freeB; rw [h, decide_eq_false (by omega), Int.toNat_natCast]; rfl
theorem mayB_no {side : Int} {ks : List Kd} {t : Int} {l : List St} {i : Nat} {q : Int} (h : freeB ks t l q = false) : mayB side ks t l i q = false := by unfold mayB; rw [h]; rfl
theorem mayB_yes {side : Int} {ks : List Kd} {t : Int} {l : List St} {i : Nat} {q : Int} (h : freeB ks t l q = true) : mayB side ks t l i q = !checkB side ks (doL l i q) t := by unfold mayB; rw [h]; rfl

theorem fieldMen (t : Int) (A : Option Addr) (n c : Nat) (w : World) : Sem.run Tryz.prog (Instr.field 35 (.agg #[.int .i64 t, .slice A n c]) 1) w = .ok (.slice A n c) w := by kernel_rfl

set_option maxHeartbeats 4000000 in
theorem mayGo_any (side : Int) (A : Option Addr) (c : Nat) (ks : List Kd) (t : Int) (M : Option Addr) (cm : Nat) (l : List St) (i : Nat) (q : Int) (w : World) (hR : IsKinds w w.heap.size A ks) (hM : IsSteps w w.heap.size M l)
    (hok : rulesOk side ks = true) (hsh : shapeB side ks t l = true) (hi : i < l.length) (hq : 0 ≤ q ∧ q < side * side) :
    Calls Tryz.prog 90 #[.agg #[.int .i64 side, .slice A ks.length c], .agg #[.int .i64 t, .slice M l.length cm], .int .i64 i, .int .i64 q] w fun e w' => e = .returned (.bool (mayB side ks t l i q)) ∧ Below w.heap.size w w' := by
  obtain ⟨hs, hk1, hk4, hkk, _⟩ := rulesOk_facts hok
  obtain ⟨⟨ht0, ht1⟩, hl4, _, _, hmen⟩ := shapeB_facts hsh
  have HU := Lib.hid (shapeB_up hsh)
  have HMEN := Lib.hid hmen
  have HOK := Lib.hid hok
  have HSH := Lib.hid hsh
  have HKK := Lib.hid hkk
  have HQ := Lib.hid hq
  have HT : Hid (0 ≤ t ∧ t ≤ 1) := Lib.hid ⟨ht0, ht1⟩
  clear hs hkk hmen hok hsh hq
  have hfd := fieldMen
  go_enter Tryz.func90, Tryz.ntmps90
  go_wp2_with fail
  have hb0 : Below w.heap.size w ((w.alloc (.cells #[.int .i64 side, .slice A ks.length c] 40)).alloc (.cells #[.int .i64 t, .slice M l.length cm] 35)) := (by repeat (first | exact Below.refl _ _ | assumption | (refine Below.alloc ?_ (by first | omega | (simp; done) | (simp; omega)) _) | (refine Below.setCell ?_ (by first | omega | (simp; done) | (simp; omega)) _) | refine Below.drew ?_))
  have p1 := (Blk.new w #[.int .i64 side, .slice A ks.length c] 40).alloc (.cells #[.int .i64 t, .slice M l.length cm] 35)
  have p2 := Blk.new (w.alloc (.cells #[.int .i64 side, .slice A ks.length c] 40)) #[.int .i64 t, .slice M l.length cm] 35
  simp only [World.size_alloc] at p2
  generalize hW0 : (w.alloc _).alloc _ = W0 at *
  clear hW0
  refine (manAt_any _ _ _ _ _ ((hM.below hb0).more hb0.size) (by omega)).mono ?_
  rintro e w2 ⟨rfl, hb2⟩
  have p1' := p1.below hb2 p1.lt
  have p2' := p2.below hb2 p2.lt
  have hb0' := hb0.trans (hb2.mono hb0.size)
  have hR2 := (hR.below hb0').more hb0'.size
  have hM2 := (hM.below hb0').more hb0'.size
  obtain ⟨⟨r0, r1⟩, _⟩ := p1'.at2
  obtain ⟨⟨o0, o1⟩, _⟩ := p2'.at2
  have z1 := p1'.lt
  have z2 := p2'.lt
  have hz := hb0'.size
  clear p1 p2 hb0 hb2
  by_cases hm : manV l q = -1
  · have HF := Lib.hid (freeB_none (ks := ks) (t := t) hm)
    have hd : decide (manV l q = -1) = true := decide_eq_true hm
    rw [hm]
    have HS : Hid (∀ w', Below w2.heap.size w2 w' → (w'.cell? ⟨w.heap.size, 0, none⟩ = some (.int .i64 side) ∧ w'.cell? ⟨w.heap.size, 1, none⟩ = some (.slice A ks.length c) ∧ w'.cell? ⟨w.heap.size + 1, 0, none⟩ = some (.int .i64 t) ∧ w'.cell? ⟨w.heap.size + 1, 1, none⟩ = some (.slice M l.length cm))) := Lib.hid (fun w' hb => by
      obtain ⟨⟨a0, a1⟩, _⟩ := (p1'.below hb p1'.lt).at2
      obtain ⟨⟨b0, b1⟩, _⟩ := (p2'.below hb p2'.lt).at2
      exact ⟨a0, a1, b0, b1⟩)
    have HBE := Lib.hid hb0'
    clear hm hd p1' p2' hb0'
    go_wp2_with fail
    have hw : Below w2.heap.size w2 w2.drew := (Below.refl _ _).drew
    go_region_held3 (fun w' => w'.cell? ⟨w.heap.size, 0, none⟩ = some (.int .i64 side) ∧ w'.cell? ⟨w.heap.size, 1, none⟩ = some (.slice A ks.length c) ∧ w'.cell? ⟨w.heap.size + 1, 0, none⟩ = some (.int .i64 t) ∧ w'.cell? ⟨w.heap.size + 1, 1, none⟩ = some (.slice M l.length cm))
      (exact HS.out _ hw)
      (first
        | (go_at_call 91; refine (after_any _ _ _ _ _ _ _ ((hM2.below hw).more hw.size) HT.out hl4 hi HU.out).mono ?_; rintro e wa ⟨Aa, ca, rfl, hna, hba⟩; have hw := hw.trans (hba.mono hw.size))
        | (go_at_call 84; refine (inCheck_any _ _ _ _ _ _ _ t _ _ ((hR2.below hw).more hw.size) hna.is HOK.out (doL_shape HSH.out HT.out hi HQ.out (freeB_king HU.out HF.out)) (by omega)).mono ?_; rintro e wc ⟨rfl, hbc⟩; have hw := hw.trans (hbc.mono hw.size)))
    all_goals
      go_wp2_with fail
      go_ret
      exact ⟨rb (by rw [mayB_yes HF.out]), HBE.out.trans (hw.mono hz)⟩
  · obtain ⟨h1, h2, h3⟩ := manV_far hm
    obtain ⟨n, hn⟩ : ∃ n : Nat, manV l q = (n : Int) := ⟨(manV l q).toNat, by omega⟩
    rw [hn] at h1 h2 hm
    simp only [Int.toNat_natCast] at h1 h2
    have HF := Lib.hid (freeB_some (ks := ks) (t := t) hn)
    rw [hn]
    clear hn hm h2 h3
    obtain ⟨b, off, rfl, hB, hc⟩ := hM2 (by omega)
    obtain ⟨s0, s1, s2⟩ := hc n h1
    obtain ⟨⟨m1, m2⟩, ⟨m3, m4⟩, ⟨m5, m6⟩, _⟩ := HMEN.out n h1
    obtain ⟨b0, off0, rfl, hB0, hcK⟩ := hR2 (by omega)
    obtain ⟨S, cc, _, kc1, _, _⟩ := hcK (stAt l n).dx.toNat (by omega)
    have KI := Lib.hid (king_iff HKK.out (k := (stAt l n).dx.toNat) (by omega))
    have e0 : (((stAt l n).dx.toNat : Nat) : Int) = (stAt l n).dx := by omega
    have hne : ((n : Int) == -1) = false := by simp
    have HS2 : Hid (IsSteps w2 w2.heap.size (some ⟨b, off, none⟩) l) := Lib.hid hM2
    have HR2 : Hid (IsKinds w2 w2.heap.size (some ⟨b0, off0, none⟩) ks) := Lib.hid hR2
    have HM0 := Lib.hid hM
    have HR0 := Lib.hid hR
    clear hc hcK hM2 hR2 hM hR
    by_cases hown : (stAt l n).dy = t
    · have hd : ((stAt l n).dy == t) = true := by simpa using hown
      have HN := Lib.hid (mayB_no (side := side) (i := i) (show freeB ks t l q = false by rw [HF.out, hown]; simp))
      clear hown e0 kc1
      go_wp2_with fail
      go_ret
      exact ⟨rb HN.out.symm, hb0'.alloc hz _⟩
    · have hd : ((stAt l n).dy == t) = false := by simpa using hown
      cases hkg : (kAt ks (stAt l n).dx.toNat).king
      · rw [hkg] at kc1
        have HF2 : Hid (freeB ks t l q = true) := Lib.hid (by
          rw [HF.out, decide_eq_true hown, decide_eq_true (p := (stAt l n).dx ≠ kingV ks) (fun h => by
            have := KI.out.2 (by rw [e0]; exact h)
            rw [hkg] at this; cases this)]; rfl)
        have p1'' := p1'.alloc (.cells #[.int .i64 (stAt l n).dx, .int .i64 (stAt l n).dy, .int .i64 (stAt l n).far] 105)
        have p2'' := p2'.alloc (.cells #[.int .i64 (stAt l n).dx, .int .i64 (stAt l n).dy, .int .i64 (stAt l n).far] 105)
        have hb3 := below_of w2 (.cells #[.int .i64 (stAt l n).dx, .int .i64 (stAt l n).dy, .int .i64 (stAt l n).far] 105)
        have HM3 := Lib.hid ((HS2.out.below hb3).more hb3.size)
        have HR3 := Lib.hid ((HR2.out.below hb3).more hb3.size)
        have HBE := Lib.hid (hb0'.trans (hb3.mono hz))
        have HZ3 := Lib.hid (Nat.le_trans hz hb3.size)
        clear hown hkg e0 hb3
        go_wp2_with fail
        generalize hW3 : w2.alloc _ = W3 at *
        have HS : Hid (∀ w', Below W3.heap.size W3 w' → (w'.cell? ⟨w.heap.size, 0, none⟩ = some (.int .i64 side) ∧ w'.cell? ⟨w.heap.size, 1, none⟩ = some (.slice (some ⟨b0, off0, none⟩) ks.length c) ∧ w'.cell? ⟨w.heap.size + 1, 0, none⟩ = some (.int .i64 t) ∧ w'.cell? ⟨w.heap.size + 1, 1, none⟩ = some (.slice (some ⟨b, off, none⟩) l.length cm))) := Lib.hid (fun w' hb => by
          obtain ⟨⟨a0, a1⟩, _⟩ := (p1''.below hb p1''.lt).at2
          obtain ⟨⟨b0, b1⟩, _⟩ := (p2''.below hb p2''.lt).at2
          exact ⟨a0, a1, b0, b1⟩)
        clear hW3 p1' p2' hb0' r0 r1 o0 o1 s0 s1 s2 kc1 p1'' p2''
        have hw : Below W3.heap.size W3 W3.drew := (Below.refl _ _).drew
        go_region_held3 (fun w' => w'.cell? ⟨w.heap.size, 0, none⟩ = some (.int .i64 side) ∧ w'.cell? ⟨w.heap.size, 1, none⟩ = some (.slice (some ⟨b0, off0, none⟩) ks.length c) ∧ w'.cell? ⟨w.heap.size + 1, 0, none⟩ = some (.int .i64 t) ∧ w'.cell? ⟨w.heap.size + 1, 1, none⟩ = some (.slice (some ⟨b, off, none⟩) l.length cm))
          (exact HS.out _ hw)
          (first
            | (go_at_call 91; refine (after_any _ _ _ _ _ _ _ ((HM3.out.below hw).more hw.size) HT.out hl4 hi HU.out).mono ?_; rintro e wa ⟨Aa, ca, rfl, hna, hba⟩; have hw := hw.trans (hba.mono hw.size))
            | (go_at_call 84; refine (inCheck_any _ _ _ _ _ _ _ t _ _ ((HR3.out.below hw).more hw.size) hna.is HOK.out (doL_shape HSH.out HT.out hi HQ.out (freeB_king HU.out HF2.out)) (by omega)).mono ?_; rintro e wc ⟨rfl, hbc⟩; have hw := hw.trans (hbc.mono hw.size)))
        all_goals
          go_wp2_with fail
          go_ret
          exact ⟨rb (by rw [mayB_yes HF2.out]), HBE.out.trans (hw.mono HZ3.out)⟩
      · rw [hkg] at kc1
        have HN := Lib.hid (mayB_no (side := side) (i := i) (show freeB ks t l q = false by
          have hk2 := KI.out.1 hkg
          rw [e0] at hk2
          rw [HF.out, hk2]; simp))
        clear hown hkg e0
        go_wp2_with fail
        go_ret
        exact ⟨rb HN.out.symm, hb0'.alloc hz _⟩
end Go.Proofs.YtcgfklljbblhlaaGreatDoor.Ko
