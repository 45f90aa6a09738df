/- What the mover collects of a man: aim. -/
import Derived.Test.YtmfcgikfgikbfaaGreatDoorMw
import Derived.Laws.Bits64b
import Derived.StillTailTactics
import Derived.Shelf.RegionOpen
namespace Go.Proofs.YtmfcgikfgikbfaaGreatDoor.Ko
open Go.ChangeShapes Go.WideShapes Go.ChangeAt Go.RowKit Base Sq Rf
set_option linter.unusedVariables false
set_option maxRecDepth 20000
attribute [local go_sem] Oper.semAt_some
attribute [local irreducible] wpQuiet

/-- the bits behind aim -/
def aimV (side : Int) (ks : List Kd) (t : Int) (l : List St) (i : Nat) : Nat := if (stAt l i).dy = t then orB 0 (attL side l (kOf ks (stAt l i)).steps (stAt l i).far (kOf ks (stAt l i)).steps.length) else 0

set_option maxRecDepth 100000 in
set_option maxHeartbeats 4000000 in
theorem aim_any (side : Int) (A : Option Addr) (c : Nat) (ks : List Kd) (t : Int) (M : Option Addr) (cm : Nat) (l : List St) (i b n₀ : Nat) (w : World) (hR : IsKinds w n₀ A ks) (hM : IsSteps w n₀ M l)
    (hb : Blk w b (moverC side A ks.length c t M l.length cm i 0) 151) (hn : n₀ ≤ b) (hok : rulesOk side ks = true) (hsh : shapeB side ks t l = true) (hi : i < l.length) :
    Calls Tryz.prog 116 #[.pointer (some ⟨b, 0, none⟩)] w fun e w' => e = .returned (.tuple #[]) ∧ Blk w' b (moverC side A ks.length c t M l.length cm i (aimV side ks t l i)) 151 ∧ But b w w' := by
  obtain ⟨hs, hk1, hk4, hkk, _⟩ := rulesOk_facts hok
  obtain ⟨⟨ht0, ht1⟩, hl4, _, _, hmen⟩ := shapeB_facts hsh
  obtain ⟨⟨m1, m2⟩, ⟨m3, m4⟩, ⟨m5, m6⟩, _⟩ := hmen i hi
  obtain ⟨b', off, rfl, hB, hc⟩ := hM (by omega)
  obtain ⟨s0, s1, s2⟩ := hc i hi
  clear hc hmen
  have lb := hb.lt
  have zb : b' < w.heap.size := by omega
  refine (callsIn_wide (n := 6)).1 ?_
  refine callsIn_of_wp_marks Tryz.func116 rfl trivial ?_ rfl
  simp only [Tryz.ntmps116, List.size_toArray, List.length_cons, List.length_nil, Nat.reduceAdd, Nat.reduceSub, Array.replicate_succ, Array.replicate_zero, List.push_toArray, List.append_toArray, List.nil_append, List.cons_append]
  gi_wp2
  have h1 := Blk.new w #[.pointer (some ⟨b, 0, none⟩)] 119
  obtain ⟨⟨b0, b1, b2, b3, b4, b5⟩, _⟩ := (hb.alloc (.cells #[.pointer (some ⟨b, 0, none⟩)] 119)).atV
  obtain ⟨q0, _⟩ := h1.at1
  refine wpIn_wide.2 ?_
  go_region
  gi_wp2
  have hB2 : Below w.heap.size w (((w.alloc (.cells #[.pointer (some ⟨b, 0, none⟩)] 119)).alloc (.cells #[.int .i64 (stAt l i).dx, .int .i64 (stAt l i).dy, .int .i64 (stAt l i).far] 115)).drew) := (by repeat (first | exact Below.refl _ _ | assumption | (refine Below.alloc ?_ (by first | omega | (simp; done) | (simp; omega)) _) | (refine Below.setCell ?_ (by first | omega | (simp; done) | (simp; omega)) _) | refine Below.drew ?_))
  have p1 := (h1.alloc (.cells #[.int .i64 (stAt l i).dx, .int .i64 (stAt l i).dy, .int .i64 (stAt l i).far] 115)).drew
  have p2 := (Blk.new (w.alloc (.cells #[.pointer (some ⟨b, 0, none⟩)] 119)) #[.int .i64 (stAt l i).dx, .int .i64 (stAt l i).dy, .int .i64 (stAt l i).far] 115).drew
  simp only [World.size_alloc] at p2
  clear h1 b0 b1 b2 b3 b4 b5 q0 s0 s1 s2
  generalize hW2 : World.drew _ = W2 at *
  clear hW2
  have pb := hb.below hB2 lb
  have hM2 := hM.below (hB2.mono (by omega : n₀ ≤ w.heap.size))
  have hR2 := hR.below (hB2.mono (by omega : n₀ ≤ w.heap.size))
  have hU2 : But b w W2 := But.ofBelow hB2
  have z1 := p1.lt
  have z2 := p2.lt
  have zb2 := pb.lt
  obtain ⟨⟨b0, b1, b2, b3, b4, b5⟩, _⟩ := pb.atV
  obtain ⟨q0, _⟩ := p1.at1
  obtain ⟨⟨m0, m1', m2'⟩, _⟩ := p2.at3
  by_cases ho : (stAt l i).dy = t
  · have hd : ((stAt l i).dy != t) = false := by simp [ho]
    have HO := Lib.hid ho
    clear ho
    refine wpIn_wide.2 ?_
    refine wp_region_below (W := W2) (by kernel_rfl) (by kernel_rfl) (Below.refl _ _) ?_
    repeat (first
      | (refine qs_skip (by rfl) ?_; simp only [Act.put, List.setIfInBounds_toArray, List.set_cons_zero, List.set_cons_succ])
      | (apply qs_take
         focus rfl
         focus (
           intro wq hwq
           obtain ⟨hcq, hfq⟩ := bcell hwq
           go_simp
           all_goals first
             | exact rfl
             | (exact ⟨trivial, rfl⟩))
         simp only [Act.put, List.setIfInBounds_toArray, List.set_cons_zero, List.set_cons_succ]))
    refine wpQuiet_nil ?_
    intro wq hwq
    have p1q := p1.below hwq p1.lt
    have p2q := p2.below hwq p2.lt
    have pbq := pb.below hwq pb.lt
    have hMq := hM2.below (hwq.mono (by omega : n₀ ≤ W2.heap.size))
    have hRq := hR2.below (hwq.mono (by omega : n₀ ≤ W2.heap.size))
    have hUq := hU2.more hwq (by omega)
    have zq := hwq.size
    have z1q := p1q.lt
    have z2q := p2q.lt
    have zbq := pbq.lt
    clear p1 p2 pb hM2 hR2 hU2 hwq hB2 b0 b1 b2 b3 b4 b5 q0 m0 m1' m2'
    obtain ⟨⟨b0, b1, b2, b3, b4, b5⟩, _⟩ := pbq.atV
    obtain ⟨q0, _⟩ := p1q.at1
    obtain ⟨⟨m0, m1', m2'⟩, _⟩ := p2q.at3
    gi_wp2
    refine wpIn_wide.2 ?_
    go_still_tail 10, (by kernel_rfl)
    change wpList _ _ _ _ _ wq.drew
    have p1d := p1q.drew
    have p2d := p2q.drew
    have pbd := pbq.drew
    have hMd : IsSteps wq.drew n₀ _ l := hMq
    have hRd : IsKinds wq.drew n₀ A ks := hRq
    have hUd := hUq.drew
    clear b0 b1 b2 b3 b4 b5 q0 m0 m1' m2' p1q p2q pbq hMq hRq hUq
    generalize wq.drew = wd at *
    have z1d := p1d.lt
    have z2d := p2d.lt
    have zbd := pbd.lt
    go_wp2_with fail
    refine (attacks_any _ _ _ _ _ _ _ _ _ _ _ wd.heap.size rfl).mono ?_
    rintro e w' ⟨rfl, a1, a2, a3, hsz', hbA⟩
    have p1 := p1d.below hbA z1d
    have p2 := p2d.below hbA z2d
    have pb := pbd.below hbA zbd
    have hUA := hUd.more hbA (by omega)
    have hA : AttAt w' n₀ (wd.heap.size + 1) wd.heap.size (wd.heap.size + 2) side A c ks (some ⟨b', off, none⟩) cm l (stAt l i) := ⟨a2, a1, a3, hRd.below (hbA.mono (by omega)), hMd.below (hbA.mono (by omega)), by omega⟩
    clear hbA p1d p2d pbd hMd hRd hUd a1 a2 a3
    go_wp2_with fail
    gi_wp2
    generalize wd.heap.size = zd at *
    refine wp_over rfl (by omega) (gf := 161) (lb := #[.pointer (some ⟨zd + 1, 0, none⟩), .pointer (some ⟨zd, 0, none⟩), .pointer (some ⟨zd + 2, 0, none⟩)]) rfl trivial (enters_of Tryz.func161 (by kernel_rfl) rfl)
      (att_over (6 - 1) (by omega) n₀ (zd + 1) zd (zd + 2) side A c ks (some ⟨b', off, none⟩) cm l (stAt l i) hok ⟨m1, m2⟩ ⟨m5, m6⟩ (by omega) w' hA) (fun b hb => by unfold AttK at hb; omega) (Below.refl _ _) (fun _ => rfl)
      (fun pre W => Blk W b (moverC side A ks.length c t (some ⟨b', off, none⟩) l.length cm i (orB 0 pre)) 151 ∧ Blk W w.heap.size #[.pointer (some ⟨b, 0, none⟩)] 119 ∧ But b w W)
      (fun c pre W => False)
      (fun s X Y h hb => ⟨h.1.below hb (by omega), h.2.1.below hb (by omega), h.2.2.more hb (by omega)⟩)
      (fun c s X Y h hb => h)
      ⟨pb, p1, hUA⟩
      (fun x => { tmps := #[.pointer (some ⟨b, 0, none⟩), .pointer (some ⟨w.heap.size, 0, none⟩), .pointer (some ⟨w.heap.size + 1, 0, none⟩), .int .i64 x,
        .pointer (some ⟨b, 0, none⟩), .pointer (some ⟨b, 0, none⟩), .pointer (some ⟨b, 2, none⟩), .pointer (some ⟨b, 3, none⟩), .slice (some ⟨b', off, none⟩) l.length cm, .pointer (some ⟨b, 0, none⟩), .pointer (some ⟨b, 0, none⟩), .pointer (some ⟨b, 4, none⟩), .int .i64 i, .pointer (some ⟨b', off + i * 3, none⟩),
        .agg #[.int .i64 (stAt l i).dx, .int .i64 (stAt l i).dy, .int .i64 (stAt l i).far], .pointer (some ⟨w.heap.size + 1, 1, none⟩), .int .i64 (stAt l i).dy, .pointer (some ⟨b, 0, none⟩), .pointer (some ⟨b, 0, none⟩), .pointer (some ⟨b, 2, none⟩), .pointer (some ⟨b, 2, none⟩), .int .i64 t, .bool false,
        .agg #[.int .i64 (stAt l i).dx, .int .i64 (stAt l i).dy, .int .i64 (stAt l i).far], .pointer (some ⟨b, 0, none⟩), .pointer (some ⟨b, 0, none⟩), .pointer (some ⟨b, 0, none⟩), .agg #[.int .i64 side, .slice A ks.length c], .pointer (some ⟨b, 0, none⟩), .pointer (some ⟨b, 0, none⟩), .pointer (some ⟨b, 2, none⟩), .pointer (some ⟨b, 3, none⟩), .slice (some ⟨b', off, none⟩) l.length cm,
        .func (.func 161) #[] #[.pointer (some ⟨zd + 1, 0, none⟩), .pointer (some ⟨zd, 0, none⟩), .pointer (some ⟨zd + 2, 0, none⟩)], .int .i64 x, undef, undef, undef, undef, undef, undef, undef, undef, undef], defers := [] }) ?assign ?body ?done ?stop
    case assign => as_aux_lemma =>
      intro l x W K hK
      gi_wp2
      exact hK
    case body => as_aux_lemma =>
      rintro L pre x W ⟨g1, g2, g3⟩ _ hz hsp
      have hx := hitsB_in hs ⟨m5, m6⟩ (decide_eq_true (hsp.subset (by simp : x ∈ pre ++ [x])))
      obtain ⟨y, rfl⟩ : ∃ y : Nat, x = (y : Int) := ⟨x.toNat, by omega⟩
      have hy16 : y < 16 := by rcases hs with rfl | rfl | rfl <;> omega
      have hy0 : (0 : Int) ≤ (y : Int) := by omega
      have hlt : orB 0 pre < 18446744073709551616 := orB_lt (n := 64) (fun q hq => by
        have := hitsB_in hs ⟨m5, m6⟩ (decide_eq_true (hsp.subset (by simp [hq] : q ∈ pre ++ [(y : Int)])))
        rcases hs with rfl | rfl | rfl <;> omega) 0 (by decide)
      have hpw : 2 ^ y < 18446744073709551616 := Nat.lt_of_lt_of_le (Nat.pow_lt_pow_right (by decide) (show y < 64 by omega)) (Nat.le_refl _)
      have hsh : IntKind.u64.wrap ((2 : Int) ^ y) = ((2 ^ y : Nat) : Int) := by
        rw [show ((2 : Int) ^ y) = ((2 ^ y : Nat) : Int) from by simp, IntKind.wrap_u64]
        generalize 2 ^ y = P at hpw ⊢
        omega
      have hor := bits_or_u64_nat (orB 0 pre) (2 ^ y) hlt hpw
      have lg1 := g1.lt
      have lg2 := g2.lt
      have lg3 := g3.size
      clear hx hsp
      obtain ⟨⟨b0, b1, b2, b3, b4, b5⟩, f4, f5⟩ := g1.atV
      obtain ⟨q0, _⟩ := g2.at1
      have hmix : Tryz.prog.follows .mixedOrders = true := by kernel_rfl
      have hget : Blk (W.setCell ⟨b, 5, none⟩ (.int .u64 (orB 0 (pre ++ [(y : Int)]) : Nat))) b (moverC side A ks.length c t (some ⟨b', off, none⟩) l.length cm i (orB 0 (pre ++ [(y : Int)]))) 151 := g1.set 5 _
      have hget2 := g2.other ⟨b, 5, none⟩ (.int .u64 (orB 0 (pre ++ [(y : Int)]) : Nat)) (show w.heap.size ≠ b by omega)
      have hkp := Kept.setCell (K := AttK n₀ (zd + 1) zd (zd + 2)) (B := w'.heap.size) W ⟨b, 5, none⟩ (.int .u64 (orB 0 (pre ++ [(y : Int)]) : Nat)) (by unfold AttK; dsimp only; omega) (by dsimp only; omega)
      have hbt := g3.setCell 5 (.int .u64 (orB 0 (pre ++ [(y : Int)]) : Nat))
      have HE : Hid (∀ W2 : World, W2 = W.setCell ⟨b, 5, none⟩ (.int .u64 (orB 0 (pre ++ [(y : Int)]) : Nat)) → (Kept (AttK n₀ (zd + 1) zd (zd + 2)) w'.heap.size W W2.drew ∧ Blk W2.drew b (moverC side A ks.length c t (some ⟨b', off, none⟩) l.length cm i (orB 0 (pre ++ [(y : Int)]))) 151 ∧ Blk W2.drew w.heap.size #[.pointer (some ⟨b, 0, none⟩)] 119 ∧ But b w W2.drew)) := Lib.hid (fun W2 e => by
        subst e
        exact ⟨⟨hkp.os, hkp.tape, hkp.output, hkp.size, hkp.same⟩, hget.drew, hget2.drew, hbt.drew⟩)
      have HV : Hid (bits BinOp.or IntKind.u64 ((orB 0 pre : Nat) : Int) (IntKind.u64.wrap ((2 : Int) ^ y)) = ((orB 0 (pre ++ [(y : Int)]) : Nat) : Int)) := Lib.hid (by rw [hsh, hor, orB_snoc, Int.toNat_natCast])
      clear hget hget2 hkp hbt hsh hor
      gi_wp2
      gi_region_with_o (fail)
      all_goals
        refine HE.out _ ?_
        rw [HV.out]
    case done => as_aux_lemma =>
      rintro D ys W hD rfl ⟨g1, g2, g3⟩ hK
      gi_wp2
      have hlt := (Array.getElem?_eq_some_iff.1 hK).1
      refine ⟨by simp, .inl ⟨_, _, rfl, run_takeDeferred hK, ?_⟩⟩
      refine ⟨.tuple #[], by simp [results, Tryz.f116, go_sem], rfl, ?_, ?_⟩
      · unfold aimV
        rw [if_pos HO.out]
        exact g1.below (put_below (B := w'.heap.size) (.deferred none) hD hlt) (by omega)
      · exact g3.more (put_below (B := w'.heap.size) (.deferred none) hD hlt) (by omega)
    case stop => as_aux_lemma =>
      rintro D c pre W hD hpre h hK
      exact h.elim
  · as_aux_lemma =>
    have hd : ((stAt l i).dy != t) = true := by simp [ho]
    have HO := Lib.hid ho
    clear ho
    refine wpIn_wide.2 ?_
    refine wp_region_below (W := W2) (by kernel_rfl) (by kernel_rfl) (Below.refl _ _) ?_
    repeat (first
      | (refine qs_skip (by rfl) ?_; simp only [Act.put, List.setIfInBounds_toArray, List.set_cons_zero, List.set_cons_succ])
      | (apply qs_take
         focus rfl
         focus (
           intro wq hwq
           obtain ⟨hcq, hfq⟩ := bcell hwq
           go_simp
           all_goals first
             | exact rfl
             | (exact ⟨trivial, rfl⟩))
         simp only [Act.put, List.setIfInBounds_toArray, List.set_cons_zero, List.set_cons_succ]))
    refine wpQuiet_nil ?_
    intro wq hwq
    have pbq := pb.below hwq pb.lt
    have hUq := hU2.more hwq (by omega)
    gi_wp2
    refine ⟨.tuple #[], by simp [results, Tryz.f116, go_sem], rfl, ?_, ?_⟩
    · unfold aimV
      rw [if_neg HO.out]
      exact pbq
    · exact hUq
end Go.Proofs.YtmfcgikfgikbfaaGreatDoor.Ko
