/- The next move of the mover: the walk. -/
import Derived.Test.YtmfcgikfgikbfaaGreatDoorMy
import Derived.Deep.LoopGhost
import Derived.Laws.BitsAllLaws
namespace Go.Proofs.YtmfcgikfgikbfaaGreatDoor.Ko
open Go.ChangeShapes Go.WideShapes Go.ChangeAt Go.RowKit Base Sq
set_option linter.unusedVariables false
set_option maxRecDepth 20000
attribute [local irreducible] wpQuiet

structure MInv (side : Int) (ks : List Kd) (t : Int) (l : List St) (j k L : Nat) : Prop where
  hk : k ≤ l.length
  hL : L < 18446744073709551616
  hbits : ∀ i, L.testBit i = true → i < (side * side).toNat
  h0 : k = 0 → L = 0
  eq : (movesL side ks t l).take j ++ leftL side ks t l (k - 1) L (side * side).toNat = movL side ks t l k
  hj : j ≤ (movesL side ks t l).length
theorem MInv.at {side : Int} {ks : List Kd} {t : Int} {l : List St} {j k L : Nat} (h : MInv side ks t l j k L) {w : World} {b : Nat} {A : Option Addr} {c : Nat} {M : Option Addr} {cm : Nat} (hb : Blk w b (moverC side A ks.length c t M l.length cm ((k : Int) - 1) L) 151) :
    MoverAt w b side A c ks t M cm l j := ⟨k, L, h.hk, h.hL, h.hbits, h.h0, h.eq, h.hj, hb⟩
def NextPost (w w' : World) (b : Nat) (side : Int) (A : Option Addr) (c : Nat) (ks : List Kd) (t : Int) (M : Option Addr) (cm : Nat) (l : List St) (j : Nat) (e : Ending) : Prop :=
  e = .returned (.tuple #[.agg #[.int .i64 (mvAt (movesL side ks t l) j).1, .int .i64 (mvAt (movesL side ks t l) j).2], .bool (decide (j < (movesL side ks t l).length))]) ∧
    MoverAt w' b side A c ks t M cm l (if j < (movesL side ks t l).length then j + 1 else j) ∧ But b w w'
theorem next_no {w w' : World} {b : Nat} {side : Int} {A : Option Addr} {c : Nat} {ks : List Kd} {t : Int} {M : Option Addr} {cm : Nat} {l : List St} {j k : Nat} (h : MInv side ks t l j k 0) (hk : ¬ k < l.length)
    (hb : Blk w' b (moverC side A ks.length c t M l.length cm ((k : Int) - 1) (0 : Nat)) 151) (hu : But b w w') : NextPost w w' b side A c ks t M cm l j (.returned (.tuple #[.agg #[.int .i64 0, .int .i64 0], .bool false])) := by
  have he := mover_end h.eq (by have := h.hk; omega) h.hj
  unfold NextPost
  rw [decide_eq_false (by omega), if_neg (by omega), show mvAt (movesL side ks t l) j = (0, 0) from by unfold mvAt; simp [he]]
  exact ⟨rfl, h.at hb, hu⟩
theorem next_yes {w w' : World} {b : Nat} {side : Int} {A : Option Addr} {c : Nat} {ks : List Kd} {t : Int} {M : Option Addr} {cm : Nat} {l : List St} {j i L q : Nat} (h : MInv side ks t l j (i + 1) L)
    (hq : L.testBit q = true) (hlo : ∀ i, i < q → L.testBit i = false) (hq64 : q < 64) (hm : mayB side ks t l i q = true)
    (hb : Blk w' b (moverC side A ks.length c t M l.length cm (i : Int) (clr L q : Nat)) 151) (hu : But b w w') : NextPost w w' b side A c ks t M cm l j (.returned (.tuple #[.agg #[.int .i64 (stAt l i).far, .int .i64 q], .bool true])) := by
  have hM := fun i => clr_bit (L := L) hq64 h.hL i
  obtain ⟨h1, h2, h3⟩ := mover_hit h.eq h.hk h.hj hq hlo hM (h.hbits q hq) hm
  unfold NextPost
  rw [decide_eq_true h1, if_pos h1, h2]
  refine ⟨rfl, ⟨i + 1, clr L q, h.hk, Nat.lt_of_le_of_lt (clr_le L q) h.hL, fun n hn => h.hbits n (by rw [hM] at hn; simp at hn; exact hn.1), fun h0 => by omega, h3, h1, ?_⟩, hu⟩
  rw [show (((i + 1 : Nat) : Int) - 1) = (i : Int) by omega]
  exact hb
theorem MInv.skip {side : Int} {ks : List Kd} {t : Int} {l : List St} {j i L q : Nat} (h : MInv side ks t l j (i + 1) L) (hq : L.testBit q = true) (hlo : ∀ i, i < q → L.testBit i = false) (hq64 : q < 64) (hm : mayB side ks t l i q = false) : MInv side ks t l j (i + 1) (clr L q) := by
  have hM := fun i => clr_bit (L := L) hq64 h.hL i
  exact ⟨h.hk, Nat.lt_of_le_of_lt (clr_le L q) h.hL, fun n hn => h.hbits n (by rw [hM] at hn; simp at hn; exact hn.1), fun h0 => by omega, mover_skip h.eq hq hlo hM (h.hbits q hq) hm, h.hj⟩
theorem MInv.more {side : Int} {ks : List Kd} {t : Int} {l : List St} {j k : Nat} (hs : side = 2 ∨ side = 3 ∨ side = 4) (hsh : shapeB side ks t l = true) (h : MInv side ks t l j k 0) (hk : k < l.length) : MInv side ks t l j (k + 1) (aimV side ks t l k) := by
  obtain ⟨h1, h2, h3⟩ := mover_next hs hsh h.eq hk
  exact ⟨hk, h2, h3, fun h0 => by omega, h1, h.hj⟩

set_option maxRecDepth 100000 in
set_option maxHeartbeats 4000000 in
theorem next_any (side : Int) (A : Option Addr) (c : Nat) (ks : List Kd) (t : Int) (M : Option Addr) (cm : Nat) (l : List St) (j b n₀ : Nat) (w : World) (hR : IsKinds w n₀ A ks) (hM : IsSteps w n₀ M l) (hT : TabAt w) (hg : 0 < n₀)
    (hb : MoverAt w b side A c ks t M cm l j) (hn : n₀ ≤ b) (hok : rulesOk side ks = true) (hsh : shapeB side ks t l = true) :
    Calls Tryz.prog 76 #[.pointer (some ⟨b, 0, none⟩)] w fun e w' => NextPost w w' b side A c ks t M cm l j e := by
  obtain ⟨hs, hk1, hk4, hkk, _⟩ := rulesOk_facts hok
  obtain ⟨_, hl4, _, _, hmen⟩ := shapeB_facts hsh
  obtain ⟨k0, L0, i1, i2, i3, i4, i5, i6, hblk⟩ := hb
  have HI : Hid (MInv side ks t l j k0 L0) := Lib.hid ⟨i1, i2, i3, i4, i5, i6⟩
  have HOK := Lib.hid hok
  have HSH := Lib.hid hsh
  have HSS := Lib.hid hs
  have HMEN := Lib.hid hmen
  have HR := Lib.hid hR
  have HM := Lib.hid hM
  have HT := Lib.hid hT
  have lb := hblk.lt
  have pb := hblk.alloc (.cells #[.int .i64 0, .int .i64 0] 98)
  have p2 := Blk.new w #[.int .i64 0, .int .i64 0] 98
  have hU : But b w (w.alloc (.cells #[.int .i64 0, .int .i64 0] 98)) := But.ofBelow (below_of w _)
  clear i1 i2 i3 i4 i5 i6 hok hsh hs hmen hkk hR hM hT hblk
  go_enter Tryz.func76, Tryz.ntmps76
  go_wp2_with fail
  generalize hW0 : w.alloc _ = W0 at *
  clear hW0
  go_loopg [4] (l.length - k0) (fun gk s4 wr => ∃ k L : Nat, l.length - k ≤ gk ∧ Hid (MInv side ks t l j k L) ∧ Blk wr b (moverC side A ks.length c t M l.length cm ((k : Int) - 1) L) 151 ∧ Blk wr w.heap.size #[.int .i64 0, .int .i64 0] 98 ∧ But b w wr)
  case atStart => exact ⟨k0, L0, Nat.le_refl _, HI, pb, p2, hU⟩
  case round =>
    clear HI pb p2 hU
    obtain ⟨k, L, hgk, hI, pb, p2, hU⟩ := hrel
    go_wp2_with fail
    go_loopg [4] L (fun gk2 s4 wr2 => ∃ L2 : Nat, L2 ≤ gk2 ∧ Hid (MInv side ks t l j k L2) ∧ Blk wr2 b (moverC side A ks.length c t M l.length cm ((k : Int) - 1) L2) 151 ∧ Blk wr2 w.heap.size #[.int .i64 0, .int .i64 0] 98 ∧ But b w wr2)
    case atStart => exact ⟨L, Nat.le_refl _, hI, pb, p2, hU⟩
    case round =>
      clear hI pb p2 hU
      obtain ⟨L2, hgk2, hI, pb, p2, hU⟩ := hrel
      have z1 := pb.lt
      have z2 := p2.lt
      by_cases hz : L2 = 0
      · subst hz
        have hd : (((0 : Nat) : Int) != 0) = false := by simp
        obtain ⟨⟨b0, b1, b2, b3, b4, b5⟩, f4, f5⟩ := pb.atV
        go_wp2_with fail
        have hkl4 : k ≤ 4 := by have := hI.out.hk; omega
        have hwk : IntKind.i64.wrap (k : Int) = (k : Int) := IntWalk.i64_in _ (by omega)
        by_cases hkl : k < l.length
        · have hd2 : decide (l.length ≤ k) = false := decide_eq_false (by omega)
          have HK := Lib.hid hkl
          clear hkl
          refine wp_region_below (W := wr) (by kernel_rfl) (by kernel_rfl) (Below.refl _ _) ?_
          repeat (first
            | (refine qs_skip (by rfl) ?_; simp only [Act.put, List.setIfInBounds_toArray, List.set_cons_zero, List.set_cons_succ])
            | (apply qs_take
               focus rfl
               focus (
                 intro wq hwq
                 obtain ⟨hcq, hfq⟩ := bcell hwq
                 go_simp
                 all_goals first
                   | exact rfl
                   | (exact ⟨trivial, rfl⟩))
               simp only [Act.put, List.setIfInBounds_toArray, List.set_cons_zero, List.set_cons_succ]))
          refine wpQuiet_nil ?_
          intro wq hwq
          have pbq := pb.below hwq z1
          have p2q := p2.below hwq z2
          have hUq := hU.more hwq (by have := hU.size; omega)
          have z1q := pbq.lt
          have z2q := p2q.lt
          clear hwq pb p2 hU b0 b1 b2 b3 b4 b5 f4 f5
          obtain ⟨⟨b0, b1, b2, b3, b4, b5⟩, f4, f5⟩ := pbq.atV
          go_wp2_with fail
          have hHK := HK.out
          have hBN := (hUq.setCell 4 (.int .i64 (k : Int))).toBelow hn (by omega)
          have pb5 : Blk (wq.setCell ⟨b, 4, none⟩ (.int .i64 (k : Int))) b (moverC side A ks.length c t M l.length cm k (0 : Nat)) 151 := pbq.set 4 _
          have p25 := p2q.other ⟨b, 4, none⟩ (.int .i64 (k : Int)) (show w.heap.size ≠ b by omega)
          have hU5 := hUq.setCell 4 (.int .i64 (k : Int))
          refine (aim_any side A c ks t M cm l k b n₀ _ (HR.out.below hBN) (HM.out.below hBN) pb5 hn HOK.out HSH.out hHK).mono ?_
          rintro e w6 ⟨rfl, pb6, hU6⟩
          have z25 := p25.lt
          have hI6 := Lib.hid (MInv.more HSS.out HSH.out hI.out hHK)
          have e6 : (k : Int) = (((k + 1 : Nat) : Int) - 1) := by omega
          have pb7 : Blk w6 b (moverC side A ks.length c t M l.length cm (((k + 1 : Nat) : Int) - 1) (aimV side ks t l k)) 151 := by rw [← e6]; exact pb6
          have p27 := hU6.blk p25 (by omega)
          have hU7 := hU5.trans hU6
          clear pbq p2q hUq b0 b1 b2 b3 b4 b5 f4 f5 hBN pb5 p25 hU5 pb6 hU6 e6
          go_wp2_with fail
          go_roundg (l.length - (k + 1))
          case measure => omega
          case rel => exact ⟨k + 1, aimV side ks t l k, Nat.le_refl _, hI6, pb7, p27, hU7⟩
        · have hd2 : decide (l.length ≤ k) = true := decide_eq_true (by omega)
          have HK := Lib.hid hkl
          clear hkl
          refine wp_region_below (W := wr) (by kernel_rfl) (by kernel_rfl) (Below.refl _ _) ?_
          repeat (first
            | (refine qs_skip (by rfl) ?_; simp only [Act.put, List.setIfInBounds_toArray, List.set_cons_zero, List.set_cons_succ])
            | (apply qs_take
               focus rfl
               focus (
                 intro wq hwq
                 obtain ⟨hcq, hfq⟩ := bcell hwq
                 go_simp
                 all_goals first
                   | exact rfl
                   | (exact ⟨trivial, rfl⟩))
               simp only [Act.put, List.setIfInBounds_toArray, List.set_cons_zero, List.set_cons_succ]))
          refine wpQuiet_nil ?_
          intro wq hwq
          have pbq := pb.below hwq z1
          have p2q := p2.below hwq z2
          have hUq := hU.more hwq (by have := hU.size; omega)
          have z2q := p2q.lt
          have hne : w.heap.size ≠ b := by omega
          clear hwq pb p2 hU b0 b1 b2 b3 b4 b5 f4 f5
          obtain ⟨⟨d0, d1⟩, f6, f7⟩ := p2q.at2
          go_wp2_with fail
          refine bodyPost_ret (v := .tuple #[.agg #[.int .i64 0, .int .i64 0], .bool false]) ?_ rfl (next_no hI.out HK.out ((pbq.other ⟨w.heap.size, 0, none⟩ _ (by show b ≠ w.heap.size; omega)).other ⟨w.heap.size, 1, none⟩ _ (by show b ≠ w.heap.size; omega)) ?_)
          · obtain ⟨⟨d0, d1⟩, _⟩ := (p2q.set2 (.int .i64 0) (.int .i64 0)).at2
            simp [results, Tryz.results76, go_sem, d0, d1]
          · exact hUq.more (B := w.heap.size) (((Below.refl _ _).setCell (p := ⟨w.heap.size, 0, none⟩) (Nat.le_refl _) _).setCell (p := ⟨w.heap.size, 1, none⟩) (Nat.le_refl _) _) (Nat.le_refl _)
      · have hd : (((L2 : Nat) : Int) != 0) = true := by simp [hz]
        obtain ⟨i, rfl⟩ : ∃ i, k = i + 1 := ⟨k - 1, by
          have := hI.out.h0
          omega⟩
        have e1 : (((i + 1 : Nat) : Int) - 1) = (i : Int) := by omega
        rw [e1] at pb
        have hil : i < l.length := hI.out.hk
        have hil4 : i < 4 := by omega
        obtain ⟨hq1, hq2, hq3⟩ := ctz_bits hz hI.out.hL
        have hq4 := hI.out.hbits _ hq1
        have hTz := HT.out.below (hU.toBelow hn (by omega)) hg
        have hL2 := hI.out.hL
        obtain ⟨⟨b0, b1, b2, b3, b4, b5⟩, f4, f5⟩ := pb.atV
        go_wp2_with fail
        refine (tz_any L2 hz hL2 _ hTz).mono ?_
        rintro e w3 ⟨rfl, rfl⟩
        generalize hqq : Go.Lib.ctz 64 L2 = q at *
        have hq0 : (0 : Int) ≤ (q : Int) := by omega
        have hpw : 2 ^ q < 18446744073709551616 := Nat.lt_of_lt_of_le (Nat.pow_lt_pow_right (by decide) (show q < 64 by omega)) (Nat.le_refl _)
        have hsh : IntKind.u64.wrap ((2 : Int) ^ q) = ((2 ^ q : Nat) : Int) := by
          rw [show ((2 : Int) ^ q) = ((2 ^ q : Nat) : Int) from by simp, IntKind.wrap_u64]
          generalize 2 ^ q = P at hpw ⊢
          omega
        have HAN : Hid (bits .andNot .u64 (L2 : Int) (IntKind.u64.wrap ((2 : Int) ^ q)) = ((clr L2 q : Nat) : Int)) := Lib.hid (by rw [hsh]; exact u64_andNot_nat L2 (2 ^ q) hL2 hpw)
        clear hpw hsh hqq hTz
        go_wp2_with fail
        go_still_tail 7, (by kernel_rfl)
        change wpList _ _ _ _ _ wr.drew
        have pbd := pb.drew
        have p2d := p2.drew
        have hUd := hU.drew
        clear b0 b1 b2 b3 b4 b5 f4 f5 pb p2 hU
        generalize wr.drew = wd at *
        have z1d := pbd.lt
        have z2d := p2d.lt
        obtain ⟨⟨b0, b1, b2, b3, b4, b5⟩, f4, f5⟩ := pbd.atV
        go_wp2_with fail
        rw [HAN.out]
        have pb4 : Blk (wd.setCell ⟨b, 5, none⟩ (.int .u64 (clr L2 q : Nat))) b (moverC side A ks.length c t M l.length cm i (clr L2 q : Nat)) 151 := pbd.set 5 _
        have p24 := p2d.other ⟨b, 5, none⟩ (.int .u64 (clr L2 q : Nat)) (show w.heap.size ≠ b by omega)
        have hU4 := hUd.setCell 5 (.int .u64 (clr L2 q : Nat))
        clear b0 b1 b2 b3 b4 b5 f4 f5 pbd p2d hUd HAN
        generalize hW4 : wd.setCell _ _ = W4 at *
        clear hW4
        have z14 := pb4.lt
        have z24 := p24.lt
        have hBN := hU4.toBelow hn (by omega)
        have hR4 := (HR.out.below hBN).more (by omega : n₀ ≤ W4.heap.size)
        have hM4 := (HM.out.below hBN).more (by omega : n₀ ≤ W4.heap.size)
        have hqs : 0 ≤ (q : Int) ∧ (q : Int) < side * side := ⟨by omega, by omega⟩
        have HQS := Lib.hid hqs
        have HQB := Lib.hid (And.intro hq1 (And.intro hq2 hq3))
        have HLT := Lib.hid (clr_lt hq3 hL2 hq1)
        clear hBN hqs hq1 hq2 hq4 hz hd hL2
        obtain ⟨⟨b0, b1, b2, b3, b4, b5⟩, f4, f5⟩ := pb4.atV
        cases hmb : mayB side ks t l i (q : Int)
        · have HMB := Lib.hid hmb
          clear hmb
          refine wp_region_below (W := W4) (by kernel_rfl) (by kernel_rfl) (Below.refl _ _) ?_
          repeat (first
            | (refine qs_skip (by rfl) ?_; simp only [Act.put, List.setIfInBounds_toArray, List.set_cons_zero, List.set_cons_succ])
            | (apply qs_take
               focus rfl
               focus (
                 intro wq hwq
                 obtain ⟨hcq, hfq⟩ := bcell hwq
                 go_simp
                 all_goals first
                   | exact rfl
                   | (go_at_call 115; refine (mayGo_any _ _ _ _ _ _ _ _ _ _ _ ((hR4.below hwq).more hwq.size) ((hM4.below hwq).more hwq.size) HOK.out HSH.out hil HQS.out).mono ?_; rw [HMB.out]; exact fun e w2 h => ⟨h.1, hwq.trans (h.2.mono hwq.size)⟩)
                   | (exact ⟨trivial, rfl⟩))
               simp only [Act.put, List.setIfInBounds_toArray, List.set_cons_zero, List.set_cons_succ]))
          refine wpQuiet_nil ?_
          intro wq hwq
          have pbq := pb4.below hwq z14
          have p2q := p24.below hwq z24
          have hUq := hU4.more hwq (by omega)
          rw [← e1] at pbq
          have hIs := Lib.hid (MInv.skip hI.out HQB.out.1 HQB.out.2.1 HQB.out.2.2 HMB.out)
          clear b0 b1 b2 b3 b4 b5 f4 f5 pb4 p24 hU4 hwq hR4 hM4
          go_wp2_with fail
          go_roundg (clr L2 q)
          case measure => have := HLT.out; omega
          case rel => exact ⟨clr L2 q, Nat.le_refl _, hIs, pbq, p2q, hUq⟩
        · have HMB := Lib.hid hmb
          clear hmb
          refine wp_region_below (W := W4) (by kernel_rfl) (by kernel_rfl) (Below.refl _ _) ?_
          repeat (first
            | (refine qs_skip (by rfl) ?_; simp only [Act.put, List.setIfInBounds_toArray, List.set_cons_zero, List.set_cons_succ])
            | (apply qs_take
               focus rfl
               focus (
                 intro wq hwq
                 obtain ⟨hcq, hfq⟩ := bcell hwq
                 go_simp
                 all_goals first
                   | exact rfl
                   | (go_at_call 115; refine (mayGo_any _ _ _ _ _ _ _ _ _ _ _ ((hR4.below hwq).more hwq.size) ((hM4.below hwq).more hwq.size) HOK.out HSH.out hil HQS.out).mono ?_; rw [HMB.out]; exact fun e w2 h => ⟨h.1, hwq.trans (h.2.mono hwq.size)⟩)
                   | (exact ⟨trivial, rfl⟩))
               simp only [Act.put, List.setIfInBounds_toArray, List.set_cons_zero, List.set_cons_succ]))
          refine wpQuiet_nil ?_
          intro wq hwq
          have pbq := pb4.below hwq z14
          have p2q := p24.below hwq z24
          have hUq := hU4.more hwq (by omega)
          have hMq := hM4.below hwq
          clear b0 b1 b2 b3 b4 b5 f4 f5 pb4 p24 hU4 hwq hR4 hM4
          have z1q := pbq.lt
          have z2q := p2q.lt
          obtain ⟨⟨b0, b1, b2, b3, b4, b5⟩, f4, f5⟩ := pbq.atV
          obtain ⟨⟨d0, d1⟩, f6, f7⟩ := p2q.at2
          obtain ⟨b', off, rfl, hB, hc⟩ := hMq (by omega)
          obtain ⟨s0, s1, s2⟩ := hc i hil
          clear hc
          go_wp2_with fail
          go_still_tail 14, (by kernel_rfl)
          change wpList _ _ _ _ _ wq.drew
          have pbd := pbq.drew
          have p2d := p2q.drew
          have hUd := hUq.drew
          clear b0 b1 b2 b3 b4 b5 f4 f5 d0 d1 f6 f7 s0 s1 s2 pbq p2q hUq
          generalize wq.drew = we at *
          obtain ⟨⟨d0, d1⟩, f6, f7⟩ := p2d.at2
          go_wp2_with fail
          refine bodyPost_ret (v := .tuple #[.agg #[.int .i64 (stAt l i).far, .int .i64 q], .bool true]) ?_ rfl (next_yes hI.out HQB.out.1 HQB.out.2.1 HQB.out.2.2 HMB.out ((pbd.other ⟨w.heap.size, 0, none⟩ _ (by show b ≠ w.heap.size; omega)).other ⟨w.heap.size, 1, none⟩ _ (by show b ≠ w.heap.size; omega)) ?_)
          · obtain ⟨⟨d0, d1⟩, _⟩ := (p2d.set2 (.int .i64 (stAt l i).far) (.int .i64 q)).at2
            simp [results, Tryz.results76, go_sem, d0, d1]
          · exact hUd.more (B := w.heap.size) (((Below.refl _ _).setCell (p := ⟨w.heap.size, 0, none⟩) (Nat.le_refl _) _).setCell (p := ⟨w.heap.size, 1, none⟩) (Nat.le_refl _) _) (Nat.le_refl _)
end Go.Proofs.YtmfcgikfgikbfaaGreatDoor.Ko
