/- Materials: what they say; matKnown of the program. -/
import Derived.Test.YtnjhcjjeehccbaaGreatDoorPb
import Derived.Test.YtnjhcjjeehccbaaGreatDoorMo
namespace Go.Proofs.YtnjhcjjeehccbaaGreatDoor.Ko
open Go.ChangeShapes Go.WideShapes Go.ChangeAt Go.RowKit Base Sq
set_option linter.unusedVariables false
set_option maxRecDepth 20000
attribute [local irreducible] wpQuiet

def goodP (n : Nat) (l : List Pc) (i : Nat) : Bool := inB (pcAt l i).kd 0 (n - 1) && inB (pcAt l i).ow 0 1 && (decide (i = 0) || pcLess (pcAt l (i - 1)) (pcAt l i))
/-- how many of the first pieces are kings -/
def cntA (ks : List Kd) (l : List Pc) : Nat → Int
  | 0 => 0
  | k + 1 => cntA ks l k + if (pcAt l k).kd = kingV ks then 1 else 0
def knownB (ks : List Kd) (l : List Pc) : Bool := (List.range l.length).all (goodP ks.length l) && decide (cntA ks l l.length = 2)
theorem cntA_bd (ks : List Kd) (l : List Pc) (k : Nat) : 0 ≤ cntA ks l k ∧ cntA ks l k ≤ k := by
  induction k with
  | zero => exact ⟨Int.le_refl _, Int.le_refl _⟩
  | succ k ih => simp only [cntA]; split <;> omega
theorem cntA_hit {ks : List Kd} {l : List Pc} {k : Nat} (h : (pcAt l k).kd = kingV ks) : cntA ks l (k + 1) = cntA ks l k + 1 := by simp [cntA, h]
theorem cntA_no {ks : List Kd} {l : List Pc} {k : Nat} (h : ¬ (pcAt l k).kd = kingV ks) : cntA ks l (k + 1) = cntA ks l k := by simp [cntA, h]
theorem knownB_bad {ks : List Kd} {l : List Pc} {k : Nat} (hk : k < l.length) (h : goodP ks.length l k = false) : knownB ks l = false := by
  unfold knownB
  rw [show (List.range l.length).all (goodP ks.length l) = false from by rw [List.all_eq_false]; exact ⟨k, by simpa using hk, by simp [h]⟩]; rfl
theorem knownB_end {ks : List Kd} {l : List Pc} (h : ∀ j, j < l.length → goodP ks.length l j = true) : knownB ks l = decide (cntA ks l l.length = 2) := by
  unfold knownB
  rw [show (List.range l.length).all (goodP ks.length l) = true from by rw [List.all_eq_true]; intro j hj; exact h j (by simpa using hj)]; rfl
theorem inB_facts' {n lo hi : Int} (h : inB n lo hi = true) : lo ≤ n ∧ n ≤ hi := of_decide_eq_true h
theorem goodP_kind {n : Nat} {l : List Pc} {i : Nat} (h : inB (pcAt l i).kd 0 (n - 1) = false) : goodP n l i = false := by unfold goodP; rw [h]; rfl
theorem goodP_owner {n : Nat} {l : List Pc} {i : Nat} (h : inB (pcAt l i).ow 0 1 = false) : goodP n l i = false := by unfold goodP; rw [h]; simp
theorem goodP_first {n : Nat} {l : List Pc} {i : Nat} (hi : ¬ 0 < i) (h : inB (pcAt l i).kd 0 (n - 1) = true) (h2 : inB (pcAt l i).ow 0 1 = true) : goodP n l i = true := by
  unfold goodP; rw [h, h2, decide_eq_true (by omega)]; rfl
theorem goodP_next {n : Nat} {l : List Pc} {i : Nat} {b : Bool} (hi : 0 < i) (h : inB (pcAt l i).kd 0 (n - 1) = true) (h2 : inB (pcAt l i).ow 0 1 = true)
    (h3 : pcLess ⟨(pcAt l (i - 1)).kd, (pcAt l (i - 1)).ow⟩ ⟨(pcAt l i).kd, (pcAt l i).ow⟩ = b) : goodP n l i = b := by
  unfold goodP; rw [h, h2, show pcLess (pcAt l (i - 1)) (pcAt l i) = b from h3, decide_eq_false (by omega)]; simp

set_option maxHeartbeats 4000000 in
theorem matKnown_any (side : Int) (A : Option Addr) (c : Nat) (ks : List Kd) (M : Option Addr) (cm : Nat) (l : List Pc) (w : World) (hR : IsKinds w w.heap.size A ks) (hM : IsPcs w w.heap.size M l)
    (hok : rulesOk side ks = true) (hl : l.length ≤ 1048576) :
    Calls Tryz.prog 176 #[.agg #[.int .i64 side, .slice A ks.length c], .slice M l.length cm] w fun e w' => e = .returned (.bool (knownB ks l)) ∧ Below w.heap.size w w' := by
  obtain ⟨hs, hk1, hk4, hkk, _⟩ := rulesOk_facts hok
  have HKK := Lib.hid hkk
  have HB := Lib.hid (fun k => knownB_bad (ks := ks) (l := l) (k := k))
  have HE := Lib.hid (knownB_end (ks := ks) (l := l))
  clear hs hkk hok
  obtain ⟨b0, off0, rfl, hB0, hcK⟩ := hR (by omega)
  have HCK := Lib.hid hcK
  clear hcK
  go_enter Tryz.func176, Tryz.ntmps176
  go_wp2_with fail
  have p1 := Blk.new w #[.int .i64 side, .slice (some ⟨b0, off0, none⟩) ks.length c] 36
  go_loopw [5, 10] (fun v i wr => ∃ k : Nat, k ≤ l.length ∧ i = .int .i64 k ∧ v = .int .i64 (cntA ks l k) ∧ Hid (∀ j, j < k → goodP ks.length l j = true) ∧ Blk wr w.heap.size #[.int .i64 side, .slice (some ⟨b0, off0, none⟩) ks.length c] 36 ∧
    Below w.heap.size w wr) (fun v i _ => l.length - (intOf i).toNat)
  case atStart => exact ⟨0, by omega, rfl, rfl, Lib.hid (fun j hj => absurd hj (by omega)), p1, (by repeat (first | exact Below.refl _ _ | assumption | (refine Below.alloc ?_ (by first | omega | (simp; done) | (simp; omega)) _) | (refine Below.setCell ?_ (by first | omega | (simp; done) | (simp; omega)) _) | refine Below.drew ?_))⟩
  case round =>
    clear p1
    obtain ⟨k, hk, rfl, rfl, hg, p1, hbe⟩ := hrel
    obtain ⟨⟨r0, r1⟩, _⟩ := p1.at2
    have z1 := p1.lt
    have hz := hbe.size
    obtain ⟨cb1, cb2⟩ := cntA_bd ks l k
    by_cases hlt : k < l.length
    · obtain ⟨b, off, rfl, hB, hc⟩ := hM.below hbe (by omega)
      obtain ⟨s0, s1⟩ := hc k hlt
      have z3 : b < wr.heap.size := by omega
      go_wp2_with fail
      have q1 := Blk.new wr #[.int .i64 (pcAt l k).kd, .int .i64 (pcAt l k).ow] 128
      have p3 := p1.alloc (.cells #[.int .i64 (pcAt l k).kd, .int .i64 (pcAt l k).ow] 128)
      have hb2 := hbe.alloc hz (.cells #[.int .i64 (pcAt l k).kd, .int .i64 (pcAt l k).ow] 128)
      generalize hW2 : wr.alloc _ = W2 at *
      generalize hbk : wr.heap.size = bk at *
      obtain ⟨b', off', hA, hB', hc'⟩ := hM.below hb2 (by omega)
      obtain ⟨rfl, rfl⟩ : b = b' ∧ off = off' := by injection hA with hA; injection hA with h1 h2; exact ⟨h1, h2⟩
      clear hW2 hbk hA hc s0 s1 p1 r0 r1 hbe
      obtain ⟨⟨a0, a1⟩, _⟩ := q1.at2
      obtain ⟨⟨r0, r1⟩, _⟩ := p3.at2
      have y1 := p3.lt
      have y3 := q1.lt
      have hz2 := hb2.size
      have y4 : b < W2.heap.size := by omega
      cases hmk : inB (pcAt l k).kd 0 (ks.length - 1)
      · have HM := Lib.hid hmk
        clear hmk hc'
        refine wp_region_below (W := W2) (by kernel_rfl) (by kernel_rfl) (Below.refl _ _) ?_
        repeat (first
          | (refine qs_skip (by rfl) ?_; simp only [Act.put, List.setIfInBounds_toArray, List.set_cons_zero, List.set_cons_succ])
          | (apply qs_take
             focus rfl
             focus (
               intro wq hwq
               obtain ⟨hcq, hfq⟩ := bcell hwq
               go_simp
               all_goals first
                 | exact rfl
                 | (go_at_call 196; refine (hasKind_any _ _ _ _ _ _).mono ?_; rw [HM.out]; exact fun e w2 h => ⟨h.1, hwq.trans (h.2.mono hwq.size)⟩)
                 | (exact ⟨trivial, rfl⟩))
             simp only [Act.put, List.setIfInBounds_toArray, List.set_cons_zero, List.set_cons_succ]))
        refine wpQuiet_nil ?_
        intro wq hwq
        go_wp2_with fail
        go_ret
        exact ⟨rb (HB.out k hlt (goodP_kind HM.out)).symm, hb2.trans (hwq.mono hz2)⟩
      · have HM := Lib.hid hmk
        clear hmk
        cases hmo : inB (pcAt l k).ow 0 1
        · have HO := Lib.hid hmo
          clear hmo hc'
          refine wp_region_below (W := W2) (by kernel_rfl) (by kernel_rfl) (Below.refl _ _) ?_
          repeat (first
            | (refine qs_skip (by rfl) ?_; simp only [Act.put, List.setIfInBounds_toArray, List.set_cons_zero, List.set_cons_succ])
            | (apply qs_take
               focus rfl
               focus (
                 intro wq hwq
                 obtain ⟨hcq, hfq⟩ := bcell hwq
                 go_simp
                 all_goals first
                   | exact rfl
                   | (go_at_call 196; refine (hasKind_any _ _ _ _ _ _).mono ?_; rw [HM.out]; exact fun e w2 h => ⟨h.1, hwq.trans (h.2.mono hwq.size)⟩)
                   | (go_at_call 126; refine (playerOk_any _ _).mono ?_; rw [HO.out]; exact fun e w2 h => ⟨h.1, h.2 ▸ hwq⟩)
                   | (exact ⟨trivial, rfl⟩))
               simp only [Act.put, List.setIfInBounds_toArray, List.set_cons_zero, List.set_cons_succ]))
          refine wpQuiet_nil ?_
          intro wq hwq
          go_wp2_with fail
          go_ret
          exact ⟨rb (HB.out k hlt (goodP_owner HO.out)).symm, hb2.trans (hwq.mono hz2)⟩
        · have HO := Lib.hid hmo
          clear hmo
          have n12 := inB_facts' HM.out
          obtain ⟨n1, n2⟩ := n12
          obtain ⟨S, cc, _, kc1, _, _⟩ := HCK.out (pcAt l k).kd.toNat (by omega)
          by_cases hk0 : 0 < k
          · obtain ⟨q0, q1'⟩ := hc' (k - 1) (by omega)
            have hk1' : (0 : Int) < (k : Int) := by omega
            have g2 : (1 : Int) ≤ (k : Int) := by omega
            have g2' : (0 : Int) ≤ (k : Int) - 1 := by omega
            have g3 : (k : Int) - 1 < (l.length : Int) := by omega
            have g4 : ((k : Int) - 1).toNat = k - 1 := by omega
            have g1 : IntKind.i64.wrap ((k : Int) - 1) = (k : Int) - 1 := IntWalk.i64_in _ (by omega)
            have hd0 : decide (0 < k) = true := decide_eq_true hk0
            clear hc'
            cases hle : pcLess ⟨(pcAt l (k - 1)).kd, (pcAt l (k - 1)).ow⟩ ⟨(pcAt l k).kd, (pcAt l k).ow⟩
            · have HL := Lib.hid hle
              have HG := Lib.hid (goodP_next hk0 HM.out HO.out hle)
              clear hle
              refine wp_region_below (W := W2) (by kernel_rfl) (by kernel_rfl) (Below.refl _ _) ?_
              repeat (first
                | (refine qs_skip (by rfl) ?_; simp only [Act.put, List.setIfInBounds_toArray, List.set_cons_zero, List.set_cons_succ])
                | (apply qs_take
                   focus rfl
                   focus (
                     intro wq hwq
                     obtain ⟨hcq, hfq⟩ := bcell hwq
                     go_simp
                     all_goals first
                       | exact rfl
                       | (go_at_call 196; refine (hasKind_any _ _ _ _ _ _).mono ?_; rw [HM.out]; exact fun e w2 h => ⟨h.1, hwq.trans (h.2.mono hwq.size)⟩)
                       | (go_at_call 126; refine (playerOk_any _ _).mono ?_; rw [HO.out]; exact fun e w2 h => ⟨h.1, h.2 ▸ hwq⟩)
                       | (go_at_call 201; refine (pbefore_any _ _ _ _ _).mono ?_; rw [HL.out]; exact fun e w2 h => ⟨h.1, hwq.trans (h.2.mono hwq.size)⟩)
                       | (exact ⟨trivial, rfl⟩))
                   simp only [Act.put, List.setIfInBounds_toArray, List.set_cons_zero, List.set_cons_succ]))
              refine wpQuiet_nil ?_
              intro wq hwq
              go_wp2_with fail
              go_ret
              exact ⟨rb (HB.out k hlt HG.out).symm, hb2.trans (hwq.mono hz2)⟩
            · have HL := Lib.hid hle
              have HG := Lib.hid (goodP_next hk0 HM.out HO.out hle)
              clear hle
              refine wp_region_below (W := W2) (by kernel_rfl) (by kernel_rfl) (Below.refl _ _) ?_
              repeat (first
                | (refine qs_skip (by rfl) ?_; simp only [Act.put, List.setIfInBounds_toArray, List.set_cons_zero, List.set_cons_succ])
                | (apply qs_take
                   focus rfl
                   focus (
                     intro wq hwq
                     obtain ⟨hcq, hfq⟩ := bcell hwq
                     go_simp
                     all_goals first
                       | exact rfl
                       | (go_at_call 196; refine (hasKind_any _ _ _ _ _ _).mono ?_; rw [HM.out]; exact fun e w2 h => ⟨h.1, hwq.trans (h.2.mono hwq.size)⟩)
                       | (go_at_call 126; refine (playerOk_any _ _).mono ?_; rw [HO.out]; exact fun e w2 h => ⟨h.1, h.2 ▸ hwq⟩)
                       | (go_at_call 201; refine (pbefore_any _ _ _ _ _).mono ?_; rw [HL.out]; exact fun e w2 h => ⟨h.1, hwq.trans (h.2.mono hwq.size)⟩)
                       | (exact ⟨trivial, rfl⟩))
                   simp only [Act.put, List.setIfInBounds_toArray, List.set_cons_zero, List.set_cons_succ]))
              refine wpQuiet_nil ?_
              intro wq hwq
              clear q0 q1' g1 g2 g2' g3 g4
              have p3 := p3.below hwq y1
              have q1 := q1.below hwq y3
              have hb3 := hb2.trans (hwq.mono hz2)
              have kc1 := (hb3.cell (p := ⟨b0, _, none⟩) hB0).trans kc1
              obtain ⟨⟨r0, r1⟩, _⟩ := p3.at2
              obtain ⟨⟨a0, a1⟩, _⟩ := q1.at2
              have hz3 := hb3.size
              clear hwq
              cases hkg : (kAt ks (pcAt l k).kd.toNat).king
              · rw [hkg] at kc1
                have HNK : Hid (¬ (pcAt l k).kd = kingV ks) := Lib.hid (fun h => by
                  have h2 := (king_iff HKK.out (k := (pcAt l k).kd.toNat) (by omega)).2 (by rw [Int.toNat_of_nonneg n1]; exact h)
                  rw [hkg] at h2; cases h2)
                clear hkg
                go_wp2_with fail
                go_roundw
                case rel => exact ⟨k + 1, by omega, by go_num, by rw [cntA_no HNK.out], Lib.hid (all_succ hg.out HG.out), p3, hb3⟩
                case measure => simp [intOf]; omega
              · rw [hkg] at kc1
                have hk2 : (pcAt l k).kd = kingV ks := by
                  have h2 := (king_iff HKK.out (k := (pcAt l k).kd.toNat) (by omega)).1 hkg
                  rwa [Int.toNat_of_nonneg n1] at h2
                have HK2 := Lib.hid hk2
                clear hkg hk2
                go_wp2_with fail
                go_roundw
                case rel => exact ⟨k + 1, by omega, by go_num, by rw [cntA_hit HK2.out], Lib.hid (all_succ hg.out HG.out), p3, hb3⟩
                case measure => simp [intOf]; omega
          · have HG := Lib.hid (goodP_first hk0 HM.out HO.out)
            have hd0 : decide (0 < k) = false := decide_eq_false hk0
            have hd1 : decide ((0 : Int) < (k : Int)) = false := decide_eq_false (by omega)
            clear hc'
            refine wp_region_below (W := W2) (by kernel_rfl) (by kernel_rfl) (Below.refl _ _) ?_
            repeat (first
              | (refine qs_skip (by rfl) ?_; simp only [Act.put, List.setIfInBounds_toArray, List.set_cons_zero, List.set_cons_succ])
              | (apply qs_take
                 focus rfl
                 focus (
                   intro wq hwq
                   obtain ⟨hcq, hfq⟩ := bcell hwq
                   go_simp
                   all_goals first
                     | exact rfl
                     | (go_at_call 196; refine (hasKind_any _ _ _ _ _ _).mono ?_; rw [HM.out]; exact fun e w2 h => ⟨h.1, hwq.trans (h.2.mono hwq.size)⟩)
                     | (go_at_call 126; refine (playerOk_any _ _).mono ?_; rw [HO.out]; exact fun e w2 h => ⟨h.1, h.2 ▸ hwq⟩)
                     | (exact ⟨trivial, rfl⟩))
                 simp only [Act.put, List.setIfInBounds_toArray, List.set_cons_zero, List.set_cons_succ]))
            refine wpQuiet_nil ?_
            intro wq hwq
            have p3 := p3.below hwq y1
            have q1 := q1.below hwq y3
            have hb3 := hb2.trans (hwq.mono hz2)
            have kc1 := (hb3.cell (p := ⟨b0, _, none⟩) hB0).trans kc1
            obtain ⟨⟨r0, r1⟩, _⟩ := p3.at2
            obtain ⟨⟨a0, a1⟩, _⟩ := q1.at2
            have hz3 := hb3.size
            clear hwq
            cases hkg : (kAt ks (pcAt l k).kd.toNat).king
            · rw [hkg] at kc1
              have HNK : Hid (¬ (pcAt l k).kd = kingV ks) := Lib.hid (fun h => by
                have h2 := (king_iff HKK.out (k := (pcAt l k).kd.toNat) (by omega)).2 (by rw [Int.toNat_of_nonneg n1]; exact h)
                rw [hkg] at h2; cases h2)
              clear hkg
              go_wp2_with fail
              go_roundw
              case rel => exact ⟨k + 1, by omega, by go_num, by rw [cntA_no HNK.out], Lib.hid (all_succ hg.out HG.out), p3, hb3⟩
              case measure => simp [intOf]; omega
            · rw [hkg] at kc1
              have hk2 : (pcAt l k).kd = kingV ks := by
                have h2 := (king_iff HKK.out (k := (pcAt l k).kd.toNat) (by omega)).1 hkg
                rwa [Int.toNat_of_nonneg n1] at h2
              have HK2 := Lib.hid hk2
              clear hkg hk2
              go_wp2_with fail
              go_roundw
              case rel => exact ⟨k + 1, by omega, by go_num, by rw [cntA_hit HK2.out], Lib.hid (all_succ hg.out HG.out), p3, hb3⟩
              case measure => simp [intOf]; omega
    · obtain rfl : k = l.length := by omega
      go_wp2_with fail
      go_ret
      exact ⟨rb (by rw [HE.out hg.out]; first | rfl | simp), hbe⟩
end Go.Proofs.YtnjhcjjeehccbaaGreatDoor.Ko
