/- Whether a player is in check: the program and the model. -/
import Derived.Test.YtcgfklljbblhlaaGreatDoorHi
namespace Go.Proofs.YtcgfklljbblhlaaGreatDoor.Ko
open Go.ChangeShapes Go.WideShapes Go.ChangeAt Go.RowKit Base Sq
set_option linter.unusedVariables false
set_option maxRecDepth 20000
attribute [local irreducible] wpQuiet

def attB (side : Int) (ks : List Kd) (l : List St) (o : Int) (i : Nat) : Bool := decide ((stAt l i).dy ≠ o) && hitsB side l (kOf ks (stAt l i)).steps (stAt l i).far (kingAt ks l o)
theorem checkB_yes {side o : Int} {ks : List Kd} {l : List St} {i : Nat} (hi : i < l.length) (h : attB side ks l o i = true) : checkB side ks l o = true := by
  unfold checkB; rw [List.any_eq_true]; exact ⟨i, by simpa using hi, h⟩
theorem checkB_no {side o : Int} {ks : List Kd} {l : List St} (h : ∀ i, i < l.length → attB side ks l o i = false) : checkB side ks l o = false := by
  unfold checkB; rw [List.any_eq_false]; intro i hi; rw [show (decide ((stAt l i).dy ≠ o) && hitsB side l (kOf ks (stAt l i)).steps (stAt l i).far (kingAt ks l o)) = attB side ks l o i from rfl, h i (by simpa using hi)]; simp
theorem attB_own {side o : Int} {ks : List Kd} {l : List St} {i : Nat} (h : (stAt l i).dy = o) : attB side ks l o i = false := by simp [attB, h]
theorem attB_hit {side o : Int} {ks : List Kd} {l : List St} {i : Nat} {b : Bool} (h : ¬ (stAt l i).dy = o) (hb : hitsB side l (kOf ks (stAt l i)).steps (stAt l i).far (kingAt ks l o) = b) : attB side ks l o i = b := by simp [attB, h, hb]

set_option maxHeartbeats 4000000 in
theorem inCheck_any (side : Int) (A : Option Addr) (c : Nat) (ks : List Kd) (M : Option Addr) (cm : Nat) (l : List St) (t o : Int) (w : World) (hR : IsKinds w w.heap.size A ks) (hM : IsSteps w w.heap.size M l)
    (hok : rulesOk side ks = true) (hsh : shapeB side ks t l = true) (ho : o = 0 ∨ o = 1) :
    Calls Tryz.prog 84 #[.agg #[.int .i64 side, .slice A ks.length c], .slice M l.length cm, .int .i64 o] w fun e w' => e = .returned (.bool (checkB side ks l o)) ∧ Below w.heap.size w w' := by
  obtain ⟨hs, hk1, hk4, hkk, _⟩ := rulesOk_facts hok
  obtain ⟨_, hl4, hc0, hc1, hmen⟩ := shapeB_facts hsh
  have hcnt : cntK ks l o l.length = 1 := by rcases ho with rfl | rfl <;> assumption
  have HMEN := Lib.hid hmen
  have HOK := Lib.hid hok
  have HKK := Lib.hid hkk
  have HCNT := Lib.hid hcnt
  have HY := Lib.hid (fun i => checkB_yes (side := side) (o := o) (ks := ks) (l := l) (i := i))
  have HN := Lib.hid (checkB_no (side := side) (o := o) (ks := ks) (l := l))
  have HX := Lib.hid (kingAt_some hcnt)
  have HSS := Lib.hid hs
  clear hs hkk hc0 hc1 hmen hcnt hok hsh ho
  obtain ⟨b0, off0, rfl, hB0, hcK⟩ := hR (by omega)
  have HR : Hid (IsKinds w w.heap.size (some ⟨b0, off0, none⟩) ks) := Lib.hid hR
  have HCK := Lib.hid hcK
  clear hR hcK
  go_enter Tryz.func84, Tryz.ntmps84
  go_wp2_with fail
  go_loopw [13] (fun i wr => ∃ k : Nat, k ≤ l.length ∧ i = .int .i64 k ∧ Hid (∀ j, j < k → (stAt l j).dy = o ∧ (stAt l j).dx = kingV ks → checkB side ks l o = false) ∧ Blk wr w.heap.size #[.int .i64 side, .slice (some ⟨b0, off0, none⟩) ks.length c] 40 ∧ Below w.heap.size w wr) (fun i _ => l.length - (intOf i).toNat)
  case atStart => exact ⟨0, by omega, rfl, Lib.hid (fun j hj => absurd hj (by omega)), Blk.new _ _ _, below_of _ _⟩
  case round =>
    obtain ⟨k, hk, rfl, hg, p1, hbe⟩ := hrel
    by_cases hlt : k < l.length
    · obtain ⟨b, off, rfl, hB, hc⟩ := hM.below hbe (by omega)
      obtain ⟨s0, s1, s2⟩ := hc k hlt
      obtain ⟨⟨m1, m2⟩, ⟨m3, m4⟩, ⟨m5, m6⟩, _⟩ := HMEN.out k hlt
      obtain ⟨S, cc, _, kc1, _, _⟩ := HCK.out (stAt l k).dx.toNat (by omega)
      have kc1 := (hbe.cell (p := ⟨b0, _, none⟩) hB0).trans kc1
      obtain ⟨⟨r0, r1⟩, _⟩ := p1.at2
      have z1 := p1.lt
      have hz := hbe.size
      have z2 : b < wr.heap.size := by omega
      have z3 : b0 < wr.heap.size := by omega
      clear hc
      by_cases hown : (stAt l k).dy = o
      · have hd : ((stAt l k).dy != o) = false := by simp [hown]
        cases hkg : (kAt ks (stAt l k).dx.toNat).king
        · rw [hkg] at kc1
          have HNK : Hid (¬ ((stAt l k).dy = o ∧ (stAt l k).dx = kingV ks)) := Lib.hid (fun h => by
            have h2 := (king_iff HKK.out (k := (stAt l k).dx.toNat) (by omega)).2 (by rw [Int.toNat_of_nonneg m1]; exact h.2)
            rw [hkg] at h2; cases h2)
          clear hown hkg
          go_wp2_with fail
          go_roundw
          case rel => exact ⟨k + 1, by omega, by go_num, Lib.hid (all_succ hg.out (fun h => absurd h HNK.out)), p1.alloc _, hbe.alloc hz _⟩
          case measure => simp [intOf]; omega
        · rw [hkg] at kc1
          have hk2 : (stAt l k).dx = kingV ks := by
            have h2 := (king_iff HKK.out (k := (stAt l k).dx.toNat) (by omega)).1 hkg
            rwa [Int.toNat_of_nonneg m1] at h2
          have HKA := Lib.hid (kingAt_one HCNT.out hlt ⟨hown, hk2⟩)
          clear hkg hk2 hown
          go_wp2_with fail
          have q1 := Blk.new wr #[.int .i64 (stAt l k).dx, .int .i64 (stAt l k).dy, .int .i64 (stAt l k).far] 105
          have p2 := p1.alloc (.cells #[.int .i64 (stAt l k).dx, .int .i64 (stAt l k).dy, .int .i64 (stAt l k).far] 105)
          have hb2 := hbe.alloc hz (.cells #[.int .i64 (stAt l k).dx, .int .i64 (stAt l k).dy, .int .i64 (stAt l k).far] 105)
          generalize hW2 : wr.alloc _ = W2 at *
          generalize hbk : wr.heap.size = bk at *
          clear hW2 s0 s1 s2 r0 r1 p1 hbe kc1 z1 z2 z3 hbk
          go_loopw [33] (fun i wr => ∃ j : Nat, j ≤ l.length ∧ i = .int .i64 j ∧ Hid (∀ i, i < j → attB side ks l o i = false) ∧ Blk wr w.heap.size #[.int .i64 side, .slice (some ⟨b0, off0, none⟩) ks.length c] 40 ∧ Blk wr bk #[.int .i64 (stAt l k).dx, .int .i64 (stAt l k).dy, .int .i64 (stAt l k).far] 105 ∧ Below w.heap.size w wr) (fun i _ => l.length - (intOf i).toNat)
          case atStart => exact ⟨0, by omega, rfl, Lib.hid (fun j hj => absurd hj (by omega)), p2, q1, hb2⟩
          case round =>
            clear q1 p2 hb2
            obtain ⟨j, hj, rfl, hh, p2, q1, hbe⟩ := hrel
            by_cases hjt : j < l.length
            · obtain ⟨b', off', hA, hB', hc'⟩ := hM.below hbe (by omega)
              obtain ⟨rfl, rfl⟩ : b = b' ∧ off = off' := by injection hA with hA; injection hA with h1 h2; exact ⟨h1, h2⟩
              obtain ⟨s0, s1, s2⟩ := hc' j hjt
              obtain ⟨⟨n1, n2⟩, ⟨n3, n4⟩, ⟨n5, n6⟩, _⟩ := HMEN.out j hjt
              obtain ⟨⟨r0, r1⟩, _⟩ := p2.at2
              obtain ⟨⟨k0, k1, k2⟩, _⟩ := q1.at3
              have hz2 := hbe.size
              have z1 := p2.lt
              have z2 := q1.lt
              clear hc' hA
              by_cases hown2 : (stAt l j).dy = o
              · have hd2 : ((stAt l j).dy != o) = false := by simp [hown2]
                have HA := Lib.hid (attB_own (side := side) (ks := ks) hown2)
                clear hown2
                go_wp2_with fail
                go_roundw
                case rel => exact ⟨j + 1, by omega, by go_num, Lib.hid (all_succ hh.out HA.out), p2.alloc _, q1.alloc _, hbe.alloc hz2 _⟩
                case measure => simp [intOf]; omega
              · have hd2 : ((stAt l j).dy != o) = true := by simp [hown2]
                have HA := Lib.hid (fun b => attB_hit (side := side) (ks := ks) (b := b) hown2)
                clear hown2
                go_wp2_with fail
                have hb3 := hbe.alloc hz2 (.cells #[.int .i64 (stAt l j).dx, .int .i64 (stAt l j).dy, .int .i64 (stAt l j).far] 105)
                have p3 := p2.alloc (.cells #[.int .i64 (stAt l j).dx, .int .i64 (stAt l j).dy, .int .i64 (stAt l j).far] 105)
                have q3 := q1.alloc (.cells #[.int .i64 (stAt l j).dx, .int .i64 (stAt l j).dy, .int .i64 (stAt l j).far] 105)
                refine (hits_any _ _ _ _ _ _ _ _ _ _ _ _ ((HR.out.below hb3).more hb3.size) ((hM.below hb3).more hb3.size) HOK.out ⟨n1, n2⟩ ⟨n5, n6⟩ (by omega)).mono ?_
                rintro e w5 ⟨rfl, hb5⟩
                have p4 := p3.below hb5 p3.lt
                have q4 := q3.below hb5 q3.lt
                have hb6 := hb3.trans (hb5.mono hb3.size)
                clear p3 q3 hb5 hb3 p2 q1 hbe
                cases hhit : hitsB side l (kOf ks ⟨(stAt l j).dx, (stAt l j).dy, (stAt l j).far⟩).steps (stAt l j).far (stAt l k).far
                · have HB := Lib.hid (HA.out false (by rw [HKA.out]; exact hhit))
                  clear hhit
                  go_wp2_with fail
                  go_roundw
                  case rel => exact ⟨j + 1, by omega, by go_num, Lib.hid (all_succ hh.out HB.out), p4, q4, hb6⟩
                  case measure => simp [intOf]; omega
                · have HB := Lib.hid (HY.out j hjt (HA.out true (by rw [HKA.out]; exact hhit)))
                  clear hhit
                  go_wp2_with fail
                  go_ret
                  exact ⟨rb HB.out.symm, hb6⟩
            · obtain rfl : j = l.length := by omega
              have HF := Lib.hid (HN.out hh.out)
              go_wp2_with fail
              go_roundw
              case rel => exact ⟨k + 1, by omega, by go_num, Lib.hid (all_succ hg.out (fun _ => HF.out)), p2, hbe⟩
              case measure => simp [intOf]; omega
      · have hd : ((stAt l k).dy != o) = true := by simp [hown]
        have HO := Lib.hid hown
        clear hown kc1
        go_wp2_with fail
        go_roundw
        case rel => exact ⟨k + 1, by omega, by go_num, Lib.hid (all_succ hg.out (fun h => absurd h.1 HO.out)), p1.alloc _, hbe.alloc hz _⟩
        case measure => simp [intOf]; omega
    · obtain rfl : k = l.length := by omega
      go_wp2_with fail
      go_ret
      exact ⟨rb (by obtain ⟨j, hj, h⟩ := HX.out; exact (hg.out j hj h).symm), hbe⟩
end Go.Proofs.YtcgfklljbblhlaaGreatDoor.Ko
