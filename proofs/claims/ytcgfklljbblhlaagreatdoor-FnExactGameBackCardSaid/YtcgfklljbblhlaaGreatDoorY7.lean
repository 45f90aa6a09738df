/- What the mover collects of a man: aim. math/bits.TrailingZeros64: the library's own text, walked; the table that it reads. The next move of the mover. The next move of the mover: the walk. The model's position behind a move: l4Do. Whether a move is legal: the model. -/
import Derived.Test.YtcgfklljbblhlaaGreatDoorMw
import Derived.Laws.Bits64b
import Derived.StillTailTactics
import Derived.Shelf.RegionOpen
import Derived.Test.YtcgfklljbblhlaaGreatDoorBase
import Derived.Lib.TrailingZeros
import Derived.Test.YtcgfklljbblhlaaGreatDoorMg
import Derived.Deep.LoopGhost
import Derived.Laws.BitsAllLaws
import Derived.Test.YtcgfklljbblhlaaGreatDoorMp
import Derived.Test.YtcgfklljbblhlaaGreatDoorCs
import Derived.Test.YtcgfklljbblhlaaGreatDoorCb
namespace Go.Proofs.YtcgfklljbblhlaaGreatDoor.Ko
open Go.ChangeShapes Go.WideShapes Go.ChangeAt Go.RowKit Base Sq Rf
set_option linter.unusedVariables false
set_option maxRecDepth 20000
attribute [local go_sem] Oper.semAt_some
attribute [local irreducible] wpQuiet

/-- the bits behind aim -/
def aimV (side : Int) (ks : List Kd) (t : Int) (l : List St) (i : Nat) : Nat := if (stAt l i).dy = t then orB 0 (attL side l (kOf ks (stAt l i)).steps (stAt l i).far (kOf ks (stAt l i)).steps.length) else 0

set_option maxRecDepth 100000 in
set_option maxHeartbeats 4000000 in
theorem aim_any (side : Int) (A : Option Addr) (c : Nat) (ks : List Kd) (t : Int) (M : Option Addr) (cm : Nat) (l : List St) (i b n₀ : Nat) (w : World) (hR : IsKinds w n₀ A ks) (hM : IsSteps w n₀ M l)
    (hb : Blk w b (moverC side A ks.length c t M l.length cm i 0) 167) (hn : n₀ ≤ b) (hok : rulesOk side ks = true) (hsh : shapeB side ks t l = true) (hi : i < l.length) :
    Calls Tryz.prog 121 #[.pointer (some ⟨b, 0, none⟩)] w fun e w' => e = .returned (.tuple #[]) ∧ Blk w' b (moverC side A ks.length c t M l.length cm i (aimV side ks t l i)) 167 ∧ But b w w' := by
  obtain ⟨hs, hk1, hk4, hkk, _⟩ := rulesOk_facts hok
  obtain ⟨⟨ht0, ht1⟩, hl4, _, _, hmen⟩ := shapeB_facts hsh
  obtain ⟨⟨m1, m2⟩, ⟨m3, m4⟩, ⟨m5, m6⟩, _⟩ := hmen i hi
  obtain ⟨b', off, rfl, hB, hc⟩ := hM (by omega)
  obtain ⟨s0, s1, s2⟩ := hc i hi
  clear hc hmen
  have lb := hb.lt
  have zb : b' < w.heap.size := by omega
  refine (callsIn_wide (n := 6)).1 ?_
  refine callsIn_of_wp_marks Tryz.func121 rfl trivial ?_ rfl
  simp only [Tryz.ntmps121, List.size_toArray, List.length_cons, List.length_nil, Nat.reduceAdd, Nat.reduceSub, Array.replicate_succ, Array.replicate_zero, List.push_toArray, List.append_toArray, List.nil_append, List.cons_append]
  gi_wp2
  have h1 := Blk.new w #[.pointer (some ⟨b, 0, none⟩)] 152
  obtain ⟨⟨b0, b1, b2, b3, b4, b5⟩, _⟩ := (hb.alloc (.cells #[.pointer (some ⟨b, 0, none⟩)] 152)).atV
  obtain ⟨q0, _⟩ := h1.at1
  refine wpIn_wide.2 ?_
  go_region
  gi_wp2
  have hB2 : Below w.heap.size w (((w.alloc (.cells #[.pointer (some ⟨b, 0, none⟩)] 152)).alloc (.cells #[.int .i64 (stAt l i).dx, .int .i64 (stAt l i).dy, .int .i64 (stAt l i).far] 105)).drew) := (by repeat (first | exact Below.refl _ _ | assumption | (refine Below.alloc ?_ (by first | omega | (simp; done) | (simp; omega)) _) | (refine Below.setCell ?_ (by first | omega | (simp; done) | (simp; omega)) _) | refine Below.drew ?_))
  have p1 := (h1.alloc (.cells #[.int .i64 (stAt l i).dx, .int .i64 (stAt l i).dy, .int .i64 (stAt l i).far] 105)).drew
  have p2 := (Blk.new (w.alloc (.cells #[.pointer (some ⟨b, 0, none⟩)] 152)) #[.int .i64 (stAt l i).dx, .int .i64 (stAt l i).dy, .int .i64 (stAt l i).far] 105).drew
  simp only [World.size_alloc] at p2
  clear h1 b0 b1 b2 b3 b4 b5 q0 s0 s1 s2
  generalize hW2 : World.drew _ = W2 at *
  clear hW2
  have pb := hb.below hB2 lb
  have hM2 := hM.below (hB2.mono (by omega : n₀ ≤ w.heap.size))
  have hR2 := hR.below (hB2.mono (by omega : n₀ ≤ w.heap.size))
  have hU2 : But b w W2 := But.ofBelow hB2
  have z1 := p1.lt
  have z2 := p2.lt
  have zb2 := pb.lt
  obtain ⟨⟨b0, b1, b2, b3, b4, b5⟩, _⟩ := pb.atV
  obtain ⟨q0, _⟩ := p1.at1
  obtain ⟨⟨m0, m1', m2'⟩, _⟩ := p2.at3
  by_cases ho : (stAt l i).dy = t
  · have hd : ((stAt l i).dy != t) = false := by simp [ho]
    have HO := Lib.hid ho
    clear ho
    refine wpIn_wide.2 ?_
    refine wp_region_below (W := W2) (by kernel_rfl) (by kernel_rfl) (Below.refl _ _) ?_
    repeat (first
      | (refine qs_skip (by rfl) ?_; simp only [Act.put, List.setIfInBounds_toArray, List.set_cons_zero, List.set_cons_succ])
      | (apply qs_take
         focus rfl
         focus (
           intro wq hwq
           obtain ⟨hcq, hfq⟩ := bcell hwq
           go_simp
           all_goals first
             | exact rfl
             | (exact ⟨trivial, rfl⟩))
         simp only [Act.put, List.setIfInBounds_toArray, List.set_cons_zero, List.set_cons_succ]))
    refine wpQuiet_nil ?_
    intro wq hwq
    have p1q := p1.below hwq p1.lt
    have p2q := p2.below hwq p2.lt
    have pbq := pb.below hwq pb.lt
    have hMq := hM2.below (hwq.mono (by omega : n₀ ≤ W2.heap.size))
    have hRq := hR2.below (hwq.mono (by omega : n₀ ≤ W2.heap.size))
    have hUq := hU2.more hwq (by omega)
    have zq := hwq.size
    have z1q := p1q.lt
    have z2q := p2q.lt
    have zbq := pbq.lt
    clear p1 p2 pb hM2 hR2 hU2 hwq hB2 b0 b1 b2 b3 b4 b5 q0 m0 m1' m2'
    obtain ⟨⟨b0, b1, b2, b3, b4, b5⟩, _⟩ := pbq.atV
    obtain ⟨q0, _⟩ := p1q.at1
    obtain ⟨⟨m0, m1', m2'⟩, _⟩ := p2q.at3
    gi_wp2
    refine wpIn_wide.2 ?_
    go_still_tail 10, (by kernel_rfl)
    change wpList _ _ _ _ _ wq.drew
    have p1d := p1q.drew
    have p2d := p2q.drew
    have pbd := pbq.drew
    have hMd : IsSteps wq.drew n₀ _ l := hMq
    have hRd : IsKinds wq.drew n₀ A ks := hRq
    have hUd := hUq.drew
    clear b0 b1 b2 b3 b4 b5 q0 m0 m1' m2' p1q p2q pbq hMq hRq hUq
    generalize wq.drew = wd at *
    have z1d := p1d.lt
    have z2d := p2d.lt
    have zbd := pbd.lt
    go_wp2_with fail
    refine (attacks_any _ _ _ _ _ _ _ _ _ _ _ wd.heap.size rfl).mono ?_
    rintro e w' ⟨rfl, a1, a2, a3, hsz', hbA⟩
    have p1 := p1d.below hbA z1d
    have p2 := p2d.below hbA z2d
    have pb := pbd.below hbA zbd
    have hUA := hUd.more hbA (by omega)
    have hA : AttAt w' n₀ (wd.heap.size + 1) wd.heap.size (wd.heap.size + 2) side A c ks (some ⟨b', off, none⟩) cm l (stAt l i) := ⟨a2, a1, a3, hRd.below (hbA.mono (by omega)), hMd.below (hbA.mono (by omega)), by omega⟩
    clear hbA p1d p2d pbd hMd hRd hUd a1 a2 a3
    go_wp2_with fail
    gi_wp2
    generalize wd.heap.size = zd at *
    refine wp_over rfl (by omega) (gf := 122) (lb := #[.pointer (some ⟨zd + 1, 0, none⟩), .pointer (some ⟨zd, 0, none⟩), .pointer (some ⟨zd + 2, 0, none⟩)]) rfl trivial (enters_of Tryz.func122 (by kernel_rfl) rfl)
      (att_over (6 - 1) (by omega) n₀ (zd + 1) zd (zd + 2) side A c ks (some ⟨b', off, none⟩) cm l (stAt l i) hok ⟨m1, m2⟩ ⟨m5, m6⟩ (by omega) w' hA) (fun b hb => by unfold AttK at hb; omega) (Below.refl _ _) (fun _ => rfl)
      (fun pre W => Blk W b (moverC side A ks.length c t (some ⟨b', off, none⟩) l.length cm i (orB 0 pre)) 167 ∧ Blk W w.heap.size #[.pointer (some ⟨b, 0, none⟩)] 152 ∧ But b w W)
      (fun c pre W => False)
      (fun s X Y h hb => ⟨h.1.below hb (by omega), h.2.1.below hb (by omega), h.2.2.more hb (by omega)⟩)
      (fun c s X Y h hb => h)
      ⟨pb, p1, hUA⟩
      (fun x => { tmps := #[.pointer (some ⟨b, 0, none⟩), .pointer (some ⟨w.heap.size, 0, none⟩), .pointer (some ⟨w.heap.size + 1, 0, none⟩), .int .i64 x,
        .pointer (some ⟨b, 0, none⟩), .pointer (some ⟨b, 0, none⟩), .pointer (some ⟨b, 2, none⟩), .pointer (some ⟨b, 3, none⟩), .slice (some ⟨b', off, none⟩) l.length cm, .pointer (some ⟨b, 0, none⟩), .pointer (some ⟨b, 0, none⟩), .pointer (some ⟨b, 4, none⟩), .int .i64 i, .pointer (some ⟨b', off + i * 3, none⟩),
        .agg #[.int .i64 (stAt l i).dx, .int .i64 (stAt l i).dy, .int .i64 (stAt l i).far], .pointer (some ⟨w.heap.size + 1, 1, none⟩), .int .i64 (stAt l i).dy, .pointer (some ⟨b, 0, none⟩), .pointer (some ⟨b, 0, none⟩), .pointer (some ⟨b, 2, none⟩), .pointer (some ⟨b, 2, none⟩), .int .i64 t, .bool false,
        .agg #[.int .i64 (stAt l i).dx, .int .i64 (stAt l i).dy, .int .i64 (stAt l i).far], .pointer (some ⟨b, 0, none⟩), .pointer (some ⟨b, 0, none⟩), .pointer (some ⟨b, 0, none⟩), .agg #[.int .i64 side, .slice A ks.length c], .pointer (some ⟨b, 0, none⟩), .pointer (some ⟨b, 0, none⟩), .pointer (some ⟨b, 2, none⟩), .pointer (some ⟨b, 3, none⟩), .slice (some ⟨b', off, none⟩) l.length cm,
        .func (.func 122) #[] #[.pointer (some ⟨zd + 1, 0, none⟩), .pointer (some ⟨zd, 0, none⟩), .pointer (some ⟨zd + 2, 0, none⟩)], .int .i64 x, undef, undef, undef, undef, undef, undef, undef, undef, undef], defers := [] }) ?assign ?body ?done ?stop
    case assign => as_aux_lemma =>
      intro l x W K hK
      gi_wp2
      exact hK
    case body => as_aux_lemma =>
      rintro L pre x W ⟨g1, g2, g3⟩ _ hz hsp
      have hx := hitsB_in hs ⟨m5, m6⟩ (decide_eq_true (hsp.subset (by simp : x ∈ pre ++ [x])))
      obtain ⟨y, rfl⟩ : ∃ y : Nat, x = (y : Int) := ⟨x.toNat, by omega⟩
      have hy16 : y < 16 := by rcases hs with rfl | rfl | rfl <;> omega
      have hy0 : (0 : Int) ≤ (y : Int) := by omega
      have hlt : orB 0 pre < 18446744073709551616 := orB_lt (n := 64) (fun q hq => by
        have := hitsB_in hs ⟨m5, m6⟩ (decide_eq_true (hsp.subset (by simp [hq] : q ∈ pre ++ [(y : Int)])))
        rcases hs with rfl | rfl | rfl <;> omega) 0 (by decide)
      have hpw : 2 ^ y < 18446744073709551616 := Nat.lt_of_lt_of_le (Nat.pow_lt_pow_right (by decide) (show y < 64 by omega)) (Nat.le_refl _)
      have hsh : IntKind.u64.wrap ((2 : Int) ^ y) = ((2 ^ y : Nat) : Int) := by
        rw [show ((2 : Int) ^ y) = ((2 ^ y : Nat) : Int) from by simp, IntKind.wrap_u64]
        generalize 2 ^ y = P at hpw ⊢
        omega
      have hor := bits_or_u64_nat (orB 0 pre) (2 ^ y) hlt hpw
      have lg1 := g1.lt
      have lg2 := g2.lt
      have lg3 := g3.size
      clear hx hsp
      obtain ⟨⟨b0, b1, b2, b3, b4, b5⟩, f4, f5⟩ := g1.atV
      obtain ⟨q0, _⟩ := g2.at1
      have hmix : Tryz.prog.follows .mixedOrders = true := by kernel_rfl
      have hget : Blk (W.setCell ⟨b, 5, none⟩ (.int .u64 (orB 0 (pre ++ [(y : Int)]) : Nat))) b (moverC side A ks.length c t (some ⟨b', off, none⟩) l.length cm i (orB 0 (pre ++ [(y : Int)]))) 167 := g1.set 5 _
      have hget2 := g2.other ⟨b, 5, none⟩ (.int .u64 (orB 0 (pre ++ [(y : Int)]) : Nat)) (show w.heap.size ≠ b by omega)
      have hkp := Kept.setCell (K := AttK n₀ (zd + 1) zd (zd + 2)) (B := w'.heap.size) W ⟨b, 5, none⟩ (.int .u64 (orB 0 (pre ++ [(y : Int)]) : Nat)) (by unfold AttK; dsimp only; omega) (by dsimp only; omega)
      have hbt := g3.setCell 5 (.int .u64 (orB 0 (pre ++ [(y : Int)]) : Nat))
      have HE : Hid (∀ W2 : World, W2 = W.setCell ⟨b, 5, none⟩ (.int .u64 (orB 0 (pre ++ [(y : Int)]) : Nat)) → (Kept (AttK n₀ (zd + 1) zd (zd + 2)) w'.heap.size W W2.drew ∧ Blk W2.drew b (moverC side A ks.length c t (some ⟨b', off, none⟩) l.length cm i (orB 0 (pre ++ [(y : Int)]))) 167 ∧ Blk W2.drew w.heap.size #[.pointer (some ⟨b, 0, none⟩)] 152 ∧ But b w W2.drew)) := Lib.hid (fun W2 e => by
        subst e
        exact ⟨⟨hkp.os, hkp.tape, hkp.output, hkp.size, hkp.same⟩, hget.drew, hget2.drew, hbt.drew⟩)
      have HV : Hid (bits BinOp.or IntKind.u64 ((orB 0 pre : Nat) : Int) (IntKind.u64.wrap ((2 : Int) ^ y)) = ((orB 0 (pre ++ [(y : Int)]) : Nat) : Int)) := Lib.hid (by rw [hsh, hor, orB_snoc, Int.toNat_natCast])
      clear hget hget2 hkp hbt hsh hor
      gi_wp2
      gi_region_with_o (fail)
      all_goals
        refine HE.out _ ?_
        rw [HV.out]
    case done => as_aux_lemma =>
      rintro D ys W hD rfl ⟨g1, g2, g3⟩ hK
      gi_wp2
      have hlt := (Array.getElem?_eq_some_iff.1 hK).1
      refine ⟨by simp, .inl ⟨_, _, rfl, run_takeDeferred hK, ?_⟩⟩
      refine ⟨.tuple #[], by simp [results, Tryz.f121, go_sem], rfl, ?_, ?_⟩
      · unfold aimV
        rw [if_pos HO.out]
        exact g1.below (put_below (B := w'.heap.size) (.deferred none) hD hlt) (by omega)
      · exact g3.more (put_below (B := w'.heap.size) (.deferred none) hD hlt) (by omega)
    case stop => as_aux_lemma =>
      rintro D c pre W hD hpre h hK
      exact h.elim
  · as_aux_lemma =>
    have hd : ((stAt l i).dy != t) = true := by simp [ho]
    have HO := Lib.hid ho
    clear ho
    refine wpIn_wide.2 ?_
    refine wp_region_below (W := W2) (by kernel_rfl) (by kernel_rfl) (Below.refl _ _) ?_
    repeat (first
      | (refine qs_skip (by rfl) ?_; simp only [Act.put, List.setIfInBounds_toArray, List.set_cons_zero, List.set_cons_succ])
      | (apply qs_take
         focus rfl
         focus (
           intro wq hwq
           obtain ⟨hcq, hfq⟩ := bcell hwq
           go_simp
           all_goals first
             | exact rfl
             | (exact ⟨trivial, rfl⟩))
         simp only [Act.put, List.setIfInBounds_toArray, List.set_cons_zero, List.set_cons_succ]))
    refine wpQuiet_nil ?_
    intro wq hwq
    have pbq := pb.below hwq pb.lt
    have hUq := hU2.more hwq (by omega)
    gi_wp2
    refine ⟨.tuple #[], by simp [results, Tryz.f121, go_sem], rfl, ?_, ?_⟩
    · unfold aimV
      rw [if_neg HO.out]
      exact pbq
    · exact hUq
end Go.Proofs.YtcgfklljbblhlaaGreatDoor.Ko

namespace Go.Proofs.YtcgfklljbblhlaaGreatDoor.Ko
open Go.ChangeShapes Go.WideShapes Go.ChangeAt Go.RowKit Base
set_option linter.unusedVariables false
set_option maxRecDepth 20000

/-- the library's table lies in its variable -/
def TabAt (w : World) : Prop := ∀ j, j < 64 → w.cell? ⟨0, j, none⟩ = some (.int .u8 (Go.Lib.deBruijn64tab.getD j 0))
theorem TabAt.below {B : Nat} {w w' : World} (h : TabAt w) (hb : Below B w w') (hB : 0 < B) : TabAt w' := fun j hj => (hb.cell (p := ⟨0, j, none⟩) hB).trans (h j hj)
theorem TabAt.lt {w : World} (h : TabAt w) : 0 < w.heap.size := by
  have h0 := h 0 (by omega)
  refine Nat.lt_of_not_le (fun hn => ?_)
  unfold World.cell? at h0
  rw [Array.getElem?_eq_none hn] at h0
  cases h0
theorem TabAt.keep {w w' : World} (h : TabAt w) (hb : Below w.heap.size w w') : TabAt w' := h.below hb h.lt

theorem tz_core (x k idx : Nat) (w : World) (hx0 : ((x : Int) == 0) = false)
    (key : IntKind.u64.wrap (bits BinOp.and IntKind.u64 (x : Int) (IntKind.u64.wrap (-(x : Int))) * 285870213051353865) / 288230376151711744 = (idx : Int))
    (hi : idx < 64) (hk : k < 64) (hcell : w.cell? ⟨0, idx, none⟩ = some (.int .u8 k)) :
    Calls Tryz.prog 120 #[.int .u64 x] w fun e w' => e = .returned (.int .i64 k) ∧ w = w' := by
  go_enter Tryz.func120, Tryz.ntmps120
  go_wp2_with (simp only [key])
  go_ret
  exact ⟨rfl, rfl⟩
theorem tz_key (x a : Nat) (hx : x < 18446744073709551616) (hx0 : x ≠ 0) (hlow : x &&& (18446744073709551616 - x) = a) :
    IntKind.u64.wrap (bits BinOp.and IntKind.u64 (x : Int) (IntKind.u64.wrap (-(x : Int))) * 285870213051353865) / 288230376151711744 = ((a * 285870213051353865 % 18446744073709551616 / 288230376151711744 : Nat) : Int) := by
  have e1 : IntKind.u64.wrap (-(x : Int)) = ((18446744073709551616 - x : Nat) : Int) := by rw [IntKind.wrap_u64]; omega
  rw [e1, bits_and_u64_nat x _ hx (by omega), hlow, IntKind.wrap_u64]
  omega
/-- how many low bits are 0, of a number that is not 0 -/
theorem tz_any (x : Nat) (hx0 : x ≠ 0) (hx : x < 18446744073709551616) (w : World) (hT : TabAt w) :
    Calls Tryz.prog 120 #[.int .u64 x] w fun e w' => e = .returned (.int .i64 (Go.Lib.ctz 64 x)) ∧ w = w' := by
  obtain ⟨hlow, hk⟩ := Go.Lib.lowest_bit 64 x hx0 hx
  obtain ⟨hi, htab⟩ := Go.Lib.deBruijn64_at _ hk
  have hcell := hT _ hi
  rw [htab] at hcell
  exact tz_core x _ _ w (by simp; omega) (tz_key x _ hx hx0 hlow) hi hk hcell
end Go.Proofs.YtcgfklljbblhlaaGreatDoor.Ko

namespace Go.Proofs.YtcgfklljbblhlaaGreatDoor.Ko
open Go.ChangeShapes Go.WideShapes Go.ChangeAt Go.RowKit Base Sq
set_option linter.unusedVariables false
set_option maxRecDepth 20000
attribute [local irreducible] wpQuiet

/-- j moves have been given; what is left in the mover is the rest -/
def MoverAt (w : World) (b : Nat) (side : Int) (A : Option Addr) (c : Nat) (ks : List Kd) (t : Int) (M : Option Addr) (cm : Nat) (l : List St) (j : Nat) : Prop :=
  ∃ k L : Nat, k ≤ l.length ∧ L < 18446744073709551616 ∧ (∀ i, L.testBit i = true → i < (side * side).toNat) ∧ (k = 0 → L = 0) ∧ (movesL side ks t l).take j ++ leftL side ks t l (k - 1) L (side * side).toNat = movL side ks t l k ∧
    j ≤ (movesL side ks t l).length ∧ Blk w b (moverC side A ks.length c t M l.length cm ((k : Int) - 1) L) 167
theorem MoverAt.new {w : World} {b : Nat} {side : Int} {A : Option Addr} {c : Nat} {ks : List Kd} {t : Int} {M : Option Addr} {cm : Nat} {l : List St} (h : Blk w b (moverC side A ks.length c t M l.length cm (-1) 0) 167) : MoverAt w b side A c ks t M cm l 0 :=
  ⟨0, 0, by omega, by decide, fun i hi => by simp at hi, fun _ => rfl, by simp [leftL_zero, movL], by omega, h⟩
theorem MoverAt.lt {w : World} {b : Nat} {side : Int} {A : Option Addr} {c : Nat} {ks : List Kd} {t : Int} {M : Option Addr} {cm : Nat} {l : List St} {j : Nat} (h : MoverAt w b side A c ks t M cm l j) : b < w.heap.size := by
  obtain ⟨_, _, _, _, _, _, _, _, h⟩ := h; exact h.lt
theorem MoverAt.below {w w' : World} {b B : Nat} {side : Int} {A : Option Addr} {c : Nat} {ks : List Kd} {t : Int} {M : Option Addr} {cm : Nat} {l : List St} {j : Nat} (h : MoverAt w b side A c ks t M cm l j) (hb : Below B w w') (hB : b < B) : MoverAt w' b side A c ks t M cm l j := by
  obtain ⟨k, L, h1, h2, h3, h4, h5, h6, h⟩ := h; exact ⟨k, L, h1, h2, h3, h4, h5, h6, h.below hb hB⟩

/-- behind the last square of the last man -/
theorem mover_end {side : Int} {ks : List Kd} {t : Int} {l : List St} {j k : Nat} (h : (movesL side ks t l).take j ++ leftL side ks t l (k - 1) 0 (side * side).toNat = movL side ks t l k) (hk : k = l.length) (hj : j ≤ (movesL side ks t l).length) : j = (movesL side ks t l).length := by
  subst hk
  rw [leftL_zero, List.append_nil] at h
  have := congrArg List.length h
  rw [List.length_take] at this
  unfold movesL at *
  omega
/-- a square that the man may not go to -/
theorem mover_skip {side : Int} {ks : List Kd} {t : Int} {l : List St} {j k L q : Nat} (h : (movesL side ks t l).take j ++ leftL side ks t l (k - 1) L (side * side).toNat = movL side ks t l k)
    (hq : L.testBit q = true) (hlo : ∀ i, i < q → L.testBit i = false) (hM : ∀ i, (clr L q).testBit i = (L.testBit i && decide (i ≠ q))) (hqs : q < (side * side).toNat) (hm : mayB side ks t l (k - 1) q = false) :
    (movesL side ks t l).take j ++ leftL side ks t l (k - 1) (clr L q) (side * side).toNat = movL side ks t l k := by
  rw [leftL_low hq hlo hM _ hqs, hm] at h
  simpa using h
/-- a square that the man may go to: the next move -/
theorem mover_hit {side : Int} {ks : List Kd} {t : Int} {l : List St} {j k L q : Nat} (h : (movesL side ks t l).take j ++ leftL side ks t l (k - 1) L (side * side).toNat = movL side ks t l k) (hk : k ≤ l.length) (hj : j ≤ (movesL side ks t l).length)
    (hq : L.testBit q = true) (hlo : ∀ i, i < q → L.testBit i = false) (hM : ∀ i, (clr L q).testBit i = (L.testBit i && decide (i ≠ q))) (hqs : q < (side * side).toNat) (hm : mayB side ks t l (k - 1) q = true) :
    j < (movesL side ks t l).length ∧ mvAt (movesL side ks t l) j = ((stAt l (k - 1)).far, (q : Int)) ∧ (movesL side ks t l).take (j + 1) ++ leftL side ks t l (k - 1) (clr L q) (side * side).toNat = movL side ks t l k := by
  rw [leftL_low hq hlo hM _ hqs, hm, if_pos rfl] at h
  have hp : (movesL side ks t l).take j ++ [((stAt l (k - 1)).far, (q : Int))] <+: movesL side ks t l := by
    refine List.IsPrefix.trans ?_ (movL_pre hk)
    rw [← h]
    exact ⟨leftL side ks t l (k - 1) (clr L q) (side * side).toNat, by simp⟩
  have hlen := hp.length_le
  simp only [List.length_append, List.length_take, List.length_cons, List.length_nil] at hlen
  have hj' : j < (movesL side ks t l).length := by omega
  obtain ⟨tl, htl⟩ := hp
  have hat : (movesL side ks t l)[j]? = some ((stAt l (k - 1)).far, (q : Int)) := by
    rw [← htl, List.append_assoc, List.getElem?_append_right (by simp; omega)]
    simp [Nat.min_eq_left (Nat.le_of_lt hj')]
  have hget : (movesL side ks t l)[j] = ((stAt l (k - 1)).far, (q : Int)) := by rw [List.getElem?_eq_getElem hj'] at hat; exact Option.some.inj hat
  refine ⟨hj', by rw [mvAt_lt hj', hget], ?_⟩
  rw [List.take_succ_eq_append_getElem hj', hget, List.append_assoc]
  exact h
/-- the next man -/
theorem mover_next {side : Int} {ks : List Kd} {t : Int} {l : List St} {j k : Nat} (hs : side = 2 ∨ side = 3 ∨ side = 4) (hsh : shapeB side ks t l = true) (h : (movesL side ks t l).take j ++ leftL side ks t l (k - 1) 0 (side * side).toNat = movL side ks t l k) (hk : k < l.length) :
    (movesL side ks t l).take j ++ leftL side ks t l k (aimV side ks t l k) (side * side).toNat = movL side ks t l (k + 1) ∧ aimV side ks t l k < 18446744073709551616 ∧ ∀ i, (aimV side ks t l k).testBit i = true → i < (side * side).toNat := by
  rw [leftL_zero, List.append_nil] at h
  obtain ⟨_, _, _, _, hmen⟩ := shapeB_facts hsh
  obtain ⟨_, _, hf, _⟩ := hmen k hk
  have hin : ∀ q, q ∈ attL side l (kOf ks (stAt l k)).steps (stAt l k).far (kOf ks (stAt l k)).steps.length → 0 ≤ q ∧ q < side * side := fun q hq => hitsB_in hs hf (decide_eq_true hq)
  unfold aimV
  by_cases ho : (stAt l k).dy = t
  · rw [if_pos ho]
    have hbit : ∀ i, (orB 0 (attL side l (kOf ks (stAt l k)).steps (stAt l k).far (kOf ks (stAt l k)).steps.length)).testBit i = hitsB side l (kOf ks (stAt l k)).steps (stAt l k).far (i : Int) := fun i => by
      rw [orB_bit (fun q hq => (hin q hq).1)]; simp [hitsB]
    refine ⟨?_, orB_lt (n := 64) (fun q hq => by have := hin q hq; rcases hs with rfl | rfl | rfl <;> omega) 0 (by decide), fun i hi => ?_⟩
    · rw [leftL_hits (fun i _ => hbit i), h, movL, if_pos ho]
    · rw [hbit] at hi
      have := hitsB_in hs hf hi
      omega
  · rw [if_neg ho]
    exact ⟨by rw [leftL_zero, List.append_nil, h, movL, if_neg ho, List.append_nil], by decide, fun i hi => by simp at hi⟩
end Go.Proofs.YtcgfklljbblhlaaGreatDoor.Ko

namespace Go.Proofs.YtcgfklljbblhlaaGreatDoor.Ko
open Go.ChangeShapes Go.WideShapes Go.ChangeAt Go.RowKit Base Sq
set_option linter.unusedVariables false
set_option maxRecDepth 20000
attribute [local irreducible] wpQuiet

structure MInv (side : Int) (ks : List Kd) (t : Int) (l : List St) (j k L : Nat) : Prop where
  hk : k ≤ l.length
  hL : L < 18446744073709551616
  hbits : ∀ i, L.testBit i = true → i < (side * side).toNat
  h0 : k = 0 → L = 0
  eq : (movesL side ks t l).take j ++ leftL side ks t l (k - 1) L (side * side).toNat = movL side ks t l k
  hj : j ≤ (movesL side ks t l).length
theorem MInv.at {side : Int} {ks : List Kd} {t : Int} {l : List St} {j k L : Nat} (h : MInv side ks t l j k L) {w : World} {b : Nat} {A : Option Addr} {c : Nat} {M : Option Addr} {cm : Nat} (hb : Blk w b (moverC side A ks.length c t M l.length cm ((k : Int) - 1) L) 167) :
    MoverAt w b side A c ks t M cm l j := ⟨k, L, h.hk, h.hL, h.hbits, h.h0, h.eq, h.hj, hb⟩
def NextPost (w w' : World) (b : Nat) (side : Int) (A : Option Addr) (c : Nat) (ks : List Kd) (t : Int) (M : Option Addr) (cm : Nat) (l : List St) (j : Nat) (e : Ending) : Prop :=
  e = .returned (.tuple #[.agg #[.int .i64 (mvAt (movesL side ks t l) j).1, .int .i64 (mvAt (movesL side ks t l) j).2], .bool (decide (j < (movesL side ks t l).length))]) ∧
    MoverAt w' b side A c ks t M cm l (if j < (movesL side ks t l).length then j + 1 else j) ∧ But b w w'
theorem next_no {w w' : World} {b : Nat} {side : Int} {A : Option Addr} {c : Nat} {ks : List Kd} {t : Int} {M : Option Addr} {cm : Nat} {l : List St} {j k : Nat} (h : MInv side ks t l j k 0) (hk : ¬ k < l.length)
    (hb : Blk w' b (moverC side A ks.length c t M l.length cm ((k : Int) - 1) (0 : Nat)) 167) (hu : But b w w') : NextPost w w' b side A c ks t M cm l j (.returned (.tuple #[.agg #[.int .i64 0, .int .i64 0], .bool false])) := by
  have he := mover_end h.eq (by have := h.hk; omega) h.hj
  unfold NextPost
  rw [decide_eq_false (by omega), if_neg (by omega), show mvAt (movesL side ks t l) j = (0, 0) from by unfold mvAt; simp [he]]
  exact ⟨rfl, h.at hb, hu⟩
theorem next_yes {w w' : World} {b : Nat} {side : Int} {A : Option Addr} {c : Nat} {ks : List Kd} {t : Int} {M : Option Addr} {cm : Nat} {l : List St} {j i L q : Nat} (h : MInv side ks t l j (i + 1) L)
    (hq : L.testBit q = true) (hlo : ∀ i, i < q → L.testBit i = false) (hq64 : q < 64) (hm : mayB side ks t l i q = true)
    (hb : Blk w' b (moverC side A ks.length c t M l.length cm (i : Int) (clr L q : Nat)) 167) (hu : But b w w') : NextPost w w' b side A c ks t M cm l j (.returned (.tuple #[.agg #[.int .i64 (stAt l i).far, .int .i64 q], .bool true])) := by
  have hM := fun i => clr_bit (L := L) hq64 h.hL i
  obtain ⟨h1, h2, h3⟩ := mover_hit h.eq h.hk h.hj hq hlo hM (h.hbits q hq) hm
  unfold NextPost
  rw [decide_eq_true h1, if_pos h1, h2]
  refine ⟨rfl, ⟨i + 1, clr L q, h.hk, Nat.lt_of_le_of_lt (clr_le L q) h.hL, fun n hn => h.hbits n (by rw [hM] at hn; simp at hn; exact hn.1), fun h0 => by omega, h3, h1, ?_⟩, hu⟩
  rw [show (((i + 1 : Nat) : Int) - 1) = (i : Int) by omega]
  exact hb
theorem MInv.skip {side : Int} {ks : List Kd} {t : Int} {l : List St} {j i L q : Nat} (h : MInv side ks t l j (i + 1) L) (hq : L.testBit q = true) (hlo : ∀ i, i < q → L.testBit i = false) (hq64 : q < 64) (hm : mayB side ks t l i q = false) : MInv side ks t l j (i + 1) (clr L q) := by
  have hM := fun i => clr_bit (L := L) hq64 h.hL i
  exact ⟨h.hk, Nat.lt_of_le_of_lt (clr_le L q) h.hL, fun n hn => h.hbits n (by rw [hM] at hn; simp at hn; exact hn.1), fun h0 => by omega, mover_skip h.eq hq hlo hM (h.hbits q hq) hm, h.hj⟩
theorem MInv.more {side : Int} {ks : List Kd} {t : Int} {l : List St} {j k : Nat} (hs : side = 2 ∨ side = 3 ∨ side = 4) (hsh : shapeB side ks t l = true) (h : MInv side ks t l j k 0) (hk : k < l.length) : MInv side ks t l j (k + 1) (aimV side ks t l k) := by
  obtain ⟨h1, h2, h3⟩ := mover_next hs hsh h.eq hk
  exact ⟨hk, h2, h3, fun h0 => by omega, h1, h.hj⟩

set_option maxRecDepth 100000 in
set_option maxHeartbeats 4000000 in
theorem next_any (side : Int) (A : Option Addr) (c : Nat) (ks : List Kd) (t : Int) (M : Option Addr) (cm : Nat) (l : List St) (j b n₀ : Nat) (w : World) (hR : IsKinds w n₀ A ks) (hM : IsSteps w n₀ M l) (hT : TabAt w) (hg : 0 < n₀)
    (hb : MoverAt w b side A c ks t M cm l j) (hn : n₀ ≤ b) (hok : rulesOk side ks = true) (hsh : shapeB side ks t l = true) :
    Calls Tryz.prog 108 #[.pointer (some ⟨b, 0, none⟩)] w fun e w' => NextPost w w' b side A c ks t M cm l j e := by
  obtain ⟨hs, hk1, hk4, hkk, _⟩ := rulesOk_facts hok
  obtain ⟨_, hl4, _, _, hmen⟩ := shapeB_facts hsh
  obtain ⟨k0, L0, i1, i2, i3, i4, i5, i6, hblk⟩ := hb
  have HI : Hid (MInv side ks t l j k0 L0) := Lib.hid ⟨i1, i2, i3, i4, i5, i6⟩
  have HOK := Lib.hid hok
  have HSH := Lib.hid hsh
  have HSS := Lib.hid hs
  have HMEN := Lib.hid hmen
  have HR := Lib.hid hR
  have HM := Lib.hid hM
  have HT := Lib.hid hT
  have lb := hblk.lt
  have pb := hblk.alloc (.cells #[.int .i64 0, .int .i64 0] 58)
  have p2 := Blk.new w #[.int .i64 0, .int .i64 0] 58
  have hU : But b w (w.alloc (.cells #[.int .i64 0, .int .i64 0] 58)) := But.ofBelow (below_of w _)
  clear i1 i2 i3 i4 i5 i6 hok hsh hs hmen hkk hR hM hT hblk
  go_enter Tryz.func108, Tryz.ntmps108
  go_wp2_with fail
  generalize hW0 : w.alloc _ = W0 at *
  clear hW0
  go_loopg [4] (l.length - k0) (fun gk s4 wr => ∃ k L : Nat, l.length - k ≤ gk ∧ Hid (MInv side ks t l j k L) ∧ Blk wr b (moverC side A ks.length c t M l.length cm ((k : Int) - 1) L) 167 ∧ Blk wr w.heap.size #[.int .i64 0, .int .i64 0] 58 ∧ But b w wr)
  case atStart => exact ⟨k0, L0, Nat.le_refl _, HI, pb, p2, hU⟩
  case round =>
    clear HI pb p2 hU
    obtain ⟨k, L, hgk, hI, pb, p2, hU⟩ := hrel
    go_wp2_with fail
    go_loopg [4] L (fun gk2 s4 wr2 => ∃ L2 : Nat, L2 ≤ gk2 ∧ Hid (MInv side ks t l j k L2) ∧ Blk wr2 b (moverC side A ks.length c t M l.length cm ((k : Int) - 1) L2) 167 ∧ Blk wr2 w.heap.size #[.int .i64 0, .int .i64 0] 58 ∧ But b w wr2)
    case atStart => exact ⟨L, Nat.le_refl _, hI, pb, p2, hU⟩
    case round =>
      clear hI pb p2 hU
      obtain ⟨L2, hgk2, hI, pb, p2, hU⟩ := hrel
      have z1 := pb.lt
      have z2 := p2.lt
      by_cases hz : L2 = 0
      · subst hz
        have hd : (((0 : Nat) : Int) != 0) = false := by simp
        obtain ⟨⟨b0, b1, b2, b3, b4, b5⟩, f4, f5⟩ := pb.atV
        go_wp2_with fail
        have hkl4 : k ≤ 4 := by have := hI.out.hk; omega
        have hwk : IntKind.i64.wrap (k : Int) = (k : Int) := IntWalk.i64_in _ (by omega)
        by_cases hkl : k < l.length
        · have hd2 : decide (l.length ≤ k) = false := decide_eq_false (by omega)
          have HK := Lib.hid hkl
          clear hkl
          refine wp_region_below (W := wr) (by kernel_rfl) (by kernel_rfl) (Below.refl _ _) ?_
          repeat (first
            | (refine qs_skip (by rfl) ?_; simp only [Act.put, List.setIfInBounds_toArray, List.set_cons_zero, List.set_cons_succ])
            | (apply qs_take
               focus rfl
               focus (
                 intro wq hwq
                 obtain ⟨hcq, hfq⟩ := bcell hwq
                 go_simp
                 all_goals first
                   | exact rfl
                   | (exact ⟨trivial, rfl⟩))
               simp only [Act.put, List.setIfInBounds_toArray, List.set_cons_zero, List.set_cons_succ]))
          refine wpQuiet_nil ?_
          intro wq hwq
          have pbq := pb.below hwq z1
          have p2q := p2.below hwq z2
          have hUq := hU.more hwq (by have := hU.size; omega)
          have z1q := pbq.lt
          have z2q := p2q.lt
          clear hwq pb p2 hU b0 b1 b2 b3 b4 b5 f4 f5
          obtain ⟨⟨b0, b1, b2, b3, b4, b5⟩, f4, f5⟩ := pbq.atV
          go_wp2_with fail
          have hHK := HK.out
          have hBN := (hUq.setCell 4 (.int .i64 (k : Int))).toBelow hn (by omega)
          have pb5 : Blk (wq.setCell ⟨b, 4, none⟩ (.int .i64 (k : Int))) b (moverC side A ks.length c t M l.length cm k (0 : Nat)) 167 := pbq.set 4 _
          have p25 := p2q.other ⟨b, 4, none⟩ (.int .i64 (k : Int)) (show w.heap.size ≠ b by omega)
          have hU5 := hUq.setCell 4 (.int .i64 (k : Int))
          refine (aim_any side A c ks t M cm l k b n₀ _ (HR.out.below hBN) (HM.out.below hBN) pb5 hn HOK.out HSH.out hHK).mono ?_
          rintro e w6 ⟨rfl, pb6, hU6⟩
          have z25 := p25.lt
          have hI6 := Lib.hid (MInv.more HSS.out HSH.out hI.out hHK)
          have e6 : (k : Int) = (((k + 1 : Nat) : Int) - 1) := by omega
          have pb7 : Blk w6 b (moverC side A ks.length c t M l.length cm (((k + 1 : Nat) : Int) - 1) (aimV side ks t l k)) 167 := by rw [← e6]; exact pb6
          have p27 := hU6.blk p25 (by omega)
          have hU7 := hU5.trans hU6
          clear pbq p2q hUq b0 b1 b2 b3 b4 b5 f4 f5 hBN pb5 p25 hU5 pb6 hU6 e6
          go_wp2_with fail
          go_roundg (l.length - (k + 1))
          case measure => omega
          case rel => exact ⟨k + 1, aimV side ks t l k, Nat.le_refl _, hI6, pb7, p27, hU7⟩
        · have hd2 : decide (l.length ≤ k) = true := decide_eq_true (by omega)
          have HK := Lib.hid hkl
          clear hkl
          refine wp_region_below (W := wr) (by kernel_rfl) (by kernel_rfl) (Below.refl _ _) ?_
          repeat (first
            | (refine qs_skip (by rfl) ?_; simp only [Act.put, List.setIfInBounds_toArray, List.set_cons_zero, List.set_cons_succ])
            | (apply qs_take
               focus rfl
               focus (
                 intro wq hwq
                 obtain ⟨hcq, hfq⟩ := bcell hwq
                 go_simp
                 all_goals first
                   | exact rfl
                   | (exact ⟨trivial, rfl⟩))
               simp only [Act.put, List.setIfInBounds_toArray, List.set_cons_zero, List.set_cons_succ]))
          refine wpQuiet_nil ?_
          intro wq hwq
          have pbq := pb.below hwq z1
          have p2q := p2.below hwq z2
          have hUq := hU.more hwq (by have := hU.size; omega)
          have z2q := p2q.lt
          have hne : w.heap.size ≠ b := by omega
          clear hwq pb p2 hU b0 b1 b2 b3 b4 b5 f4 f5
          obtain ⟨⟨d0, d1⟩, f6, f7⟩ := p2q.at2
          go_wp2_with fail
          refine bodyPost_ret (v := .tuple #[.agg #[.int .i64 0, .int .i64 0], .bool false]) ?_ rfl (next_no hI.out HK.out ((pbq.other ⟨w.heap.size, 0, none⟩ _ (by show b ≠ w.heap.size; omega)).other ⟨w.heap.size, 1, none⟩ _ (by show b ≠ w.heap.size; omega)) ?_)
          · obtain ⟨⟨d0, d1⟩, _⟩ := (p2q.set2 (.int .i64 0) (.int .i64 0)).at2
            simp [results, Tryz.results108, go_sem, d0, d1]
          · exact hUq.more (B := w.heap.size) (((Below.refl _ _).setCell (p := ⟨w.heap.size, 0, none⟩) (Nat.le_refl _) _).setCell (p := ⟨w.heap.size, 1, none⟩) (Nat.le_refl _) _) (Nat.le_refl _)
      · have hd : (((L2 : Nat) : Int) != 0) = true := by simp [hz]
        obtain ⟨i, rfl⟩ : ∃ i, k = i + 1 := ⟨k - 1, by
          have := hI.out.h0
          omega⟩
        have e1 : (((i + 1 : Nat) : Int) - 1) = (i : Int) := by omega
        rw [e1] at pb
        have hil : i < l.length := hI.out.hk
        have hil4 : i < 4 := by omega
        obtain ⟨hq1, hq2, hq3⟩ := ctz_bits hz hI.out.hL
        have hq4 := hI.out.hbits _ hq1
        have hTz := HT.out.below (hU.toBelow hn (by omega)) hg
        have hL2 := hI.out.hL
        obtain ⟨⟨b0, b1, b2, b3, b4, b5⟩, f4, f5⟩ := pb.atV
        go_wp2_with fail
        refine (tz_any L2 hz hL2 _ hTz).mono ?_
        rintro e w3 ⟨rfl, rfl⟩
        generalize hqq : Go.Lib.ctz 64 L2 = q at *
        have hq0 : (0 : Int) ≤ (q : Int) := by omega
        have hpw : 2 ^ q < 18446744073709551616 := Nat.lt_of_lt_of_le (Nat.pow_lt_pow_right (by decide) (show q < 64 by omega)) (Nat.le_refl _)
        have hsh : IntKind.u64.wrap ((2 : Int) ^ q) = ((2 ^ q : Nat) : Int) := by
          rw [show ((2 : Int) ^ q) = ((2 ^ q : Nat) : Int) from by simp, IntKind.wrap_u64]
          generalize 2 ^ q = P at hpw ⊢
          omega
        have HAN : Hid (bits .andNot .u64 (L2 : Int) (IntKind.u64.wrap ((2 : Int) ^ q)) = ((clr L2 q : Nat) : Int)) := Lib.hid (by rw [hsh]; exact u64_andNot_nat L2 (2 ^ q) hL2 hpw)
        clear hpw hsh hqq hTz
        go_wp2_with fail
        go_still_tail 7, (by kernel_rfl)
        change wpList _ _ _ _ _ wr.drew
        have pbd := pb.drew
        have p2d := p2.drew
        have hUd := hU.drew
        clear b0 b1 b2 b3 b4 b5 f4 f5 pb p2 hU
        generalize wr.drew = wd at *
        have z1d := pbd.lt
        have z2d := p2d.lt
        obtain ⟨⟨b0, b1, b2, b3, b4, b5⟩, f4, f5⟩ := pbd.atV
        go_wp2_with fail
        rw [HAN.out]
        have pb4 : Blk (wd.setCell ⟨b, 5, none⟩ (.int .u64 (clr L2 q : Nat))) b (moverC side A ks.length c t M l.length cm i (clr L2 q : Nat)) 167 := pbd.set 5 _
        have p24 := p2d.other ⟨b, 5, none⟩ (.int .u64 (clr L2 q : Nat)) (show w.heap.size ≠ b by omega)
        have hU4 := hUd.setCell 5 (.int .u64 (clr L2 q : Nat))
        clear b0 b1 b2 b3 b4 b5 f4 f5 pbd p2d hUd HAN
        generalize hW4 : wd.setCell _ _ = W4 at *
        clear hW4
        have z14 := pb4.lt
        have z24 := p24.lt
        have hBN := hU4.toBelow hn (by omega)
        have hR4 := (HR.out.below hBN).more (by omega : n₀ ≤ W4.heap.size)
        have hM4 := (HM.out.below hBN).more (by omega : n₀ ≤ W4.heap.size)
        have hqs : 0 ≤ (q : Int) ∧ (q : Int) < side * side := ⟨by omega, by omega⟩
        have HQS := Lib.hid hqs
        have HQB := Lib.hid (And.intro hq1 (And.intro hq2 hq3))
        have HLT := Lib.hid (clr_lt hq3 hL2 hq1)
        clear hBN hqs hq1 hq2 hq4 hz hd hL2
        obtain ⟨⟨b0, b1, b2, b3, b4, b5⟩, f4, f5⟩ := pb4.atV
        cases hmb : mayB side ks t l i (q : Int)
        · have HMB := Lib.hid hmb
          clear hmb
          refine wp_region_below (W := W4) (by kernel_rfl) (by kernel_rfl) (Below.refl _ _) ?_
          repeat (first
            | (refine qs_skip (by rfl) ?_; simp only [Act.put, List.setIfInBounds_toArray, List.set_cons_zero, List.set_cons_succ])
            | (apply qs_take
               focus rfl
               focus (
                 intro wq hwq
                 obtain ⟨hcq, hfq⟩ := bcell hwq
                 go_simp
                 all_goals first
                   | exact rfl
                   | (go_at_call 90; refine (mayGo_any _ _ _ _ _ _ _ _ _ _ _ ((hR4.below hwq).more hwq.size) ((hM4.below hwq).more hwq.size) HOK.out HSH.out hil HQS.out).mono ?_; rw [HMB.out]; exact fun e w2 h => ⟨h.1, hwq.trans (h.2.mono hwq.size)⟩)
                   | (exact ⟨trivial, rfl⟩))
               simp only [Act.put, List.setIfInBounds_toArray, List.set_cons_zero, List.set_cons_succ]))
          refine wpQuiet_nil ?_
          intro wq hwq
          have pbq := pb4.below hwq z14
          have p2q := p24.below hwq z24
          have hUq := hU4.more hwq (by omega)
          rw [← e1] at pbq
          have hIs := Lib.hid (MInv.skip hI.out HQB.out.1 HQB.out.2.1 HQB.out.2.2 HMB.out)
          clear b0 b1 b2 b3 b4 b5 f4 f5 pb4 p24 hU4 hwq hR4 hM4
          go_wp2_with fail
          go_roundg (clr L2 q)
          case measure => have := HLT.out; omega
          case rel => exact ⟨clr L2 q, Nat.le_refl _, hIs, pbq, p2q, hUq⟩
        · have HMB := Lib.hid hmb
          clear hmb
          refine wp_region_below (W := W4) (by kernel_rfl) (by kernel_rfl) (Below.refl _ _) ?_
          repeat (first
            | (refine qs_skip (by rfl) ?_; simp only [Act.put, List.setIfInBounds_toArray, List.set_cons_zero, List.set_cons_succ])
            | (apply qs_take
               focus rfl
               focus (
                 intro wq hwq
                 obtain ⟨hcq, hfq⟩ := bcell hwq
                 go_simp
                 all_goals first
                   | exact rfl
                   | (go_at_call 90; refine (mayGo_any _ _ _ _ _ _ _ _ _ _ _ ((hR4.below hwq).more hwq.size) ((hM4.below hwq).more hwq.size) HOK.out HSH.out hil HQS.out).mono ?_; rw [HMB.out]; exact fun e w2 h => ⟨h.1, hwq.trans (h.2.mono hwq.size)⟩)
                   | (exact ⟨trivial, rfl⟩))
               simp only [Act.put, List.setIfInBounds_toArray, List.set_cons_zero, List.set_cons_succ]))
          refine wpQuiet_nil ?_
          intro wq hwq
          have pbq := pb4.below hwq z14
          have p2q := p24.below hwq z24
          have hUq := hU4.more hwq (by omega)
          have hMq := hM4.below hwq
          clear b0 b1 b2 b3 b4 b5 f4 f5 pb4 p24 hU4 hwq hR4 hM4
          have z1q := pbq.lt
          have z2q := p2q.lt
          obtain ⟨⟨b0, b1, b2, b3, b4, b5⟩, f4, f5⟩ := pbq.atV
          obtain ⟨⟨d0, d1⟩, f6, f7⟩ := p2q.at2
          obtain ⟨b', off, rfl, hB, hc⟩ := hMq (by omega)
          obtain ⟨s0, s1, s2⟩ := hc i hil
          clear hc
          go_wp2_with fail
          go_still_tail 14, (by kernel_rfl)
          change wpList _ _ _ _ _ wq.drew
          have pbd := pbq.drew
          have p2d := p2q.drew
          have hUd := hUq.drew
          clear b0 b1 b2 b3 b4 b5 f4 f5 d0 d1 f6 f7 s0 s1 s2 pbq p2q hUq
          generalize wq.drew = we at *
          obtain ⟨⟨d0, d1⟩, f6, f7⟩ := p2d.at2
          go_wp2_with fail
          refine bodyPost_ret (v := .tuple #[.agg #[.int .i64 (stAt l i).far, .int .i64 q], .bool true]) ?_ rfl (next_yes hI.out HQB.out.1 HQB.out.2.1 HQB.out.2.2 HMB.out ((pbd.other ⟨w.heap.size, 0, none⟩ _ (by show b ≠ w.heap.size; omega)).other ⟨w.heap.size, 1, none⟩ _ (by show b ≠ w.heap.size; omega)) ?_)
          · obtain ⟨⟨d0, d1⟩, _⟩ := (p2d.set2 (.int .i64 (stAt l i).far) (.int .i64 q)).at2
            simp [results, Tryz.results108, go_sem, d0, d1]
          · exact hUd.more (B := w.heap.size) (((Below.refl _ _).setCell (p := ⟨w.heap.size, 0, none⟩) (Nat.le_refl _) _).setCell (p := ⟨w.heap.size, 1, none⟩) (Nat.le_refl _) _) (Nat.le_refl _)
end Go.Proofs.YtcgfklljbblhlaaGreatDoor.Ko

namespace Go.Proofs.YtcgfklljbblhlaaGreatDoor.Ko
open Go.ChangeShapes Go.WideShapes Go.ChangeAt Go.RowKit Base Sq
set_option linter.unusedVariables false
set_option maxRecDepth 20000
attribute [local irreducible] wpQuiet

theorem OwnM.nonnil {w : World} {base n : Nat} {v : Value} {l : List St} (h : OwnM w base v n l) (hv : v ≠ .slice none 0 0) : ∃ g c, v = .slice (some ⟨g, 0, none⟩) n c ∧ n ≤ c ∧ c ≤ maxLen ∧ base ≤ g ∧ g < w.heap.size := by
  rcases h.2 with ⟨h', _⟩ | ⟨g, cap, cur, rfl, hb, hg, hn, hm, _⟩
  · exact absurd h' hv
  · exact ⟨g, cap, rfl, hn, hm, hb, lt_of_block hg⟩
theorem blk_grown {w w' : World} {b : Nat} {vs : Array Value} {T : TypeId} {row : Option Nat} (h : Blk w b vs T) (hg : w.grownBy w' row) (hne : row ≠ some b) : Blk w' b vs T := by
  unfold Blk at *; rw [hg.block b (lt_of_block h) (fun e => hne e.symm)]; exact h
def xsK (l : List St) (n k : Nat) : St := if n < k then stAt l n else ⟨0, 0, 0⟩
theorem xsK_hit (l : List St) (n : Nat) : xsK l n (n + 1) = stAt l n := if_pos (by omega)
theorem xsK_skip {l : List St} {n k : Nat} (h : k ≠ n) : xsK l n (k + 1) = xsK l n k := by
  unfold xsK
  by_cases hn : n < k
  · rw [if_pos hn, if_pos (by omega)]
  · rw [if_neg hn, if_neg (by omega)]
theorem xsK_zero (l : List St) (n : Nat) : xsK l n 0 = ⟨0, 0, 0⟩ := if_neg (by omega)
theorem xsK_end {l : List St} {n : Nat} (h : n < l.length) : xsK l n l.length = stAt l n := if_pos h
theorem resL_hit (l : List St) (n : Nat) (q : Int) : resL l n q (n + 1) = resL l n q n := by simp [resL]
theorem resL_skip {l : List St} {n k : Nat} {q : Int} (hq : (stAt l k).far = q) : resL l n q (k + 1) = resL l n q k := by simp [resL, hq]
theorem resL_keep {l : List St} {n k : Nat} {q : Int} (h : k ≠ n) (hq : (stAt l k).far ≠ q) : resL l n q (k + 1) = resL l n q k ++ [⟨(stAt l k).dx, (stAt l k).dy, (stAt l k).far⟩] := by simp [resL, h, hq]
theorem resL_len (l : List St) (n : Nat) (q : Int) : ∀ k, (resL l n q k).length ≤ k := by
  intro k
  induction k with
  | zero => exact Nat.le_refl _
  | succ k ih =>
    simp only [resL, List.length_append]
    split
    · simp; omega
    · simp; omega
/-- some man stays: a king -/
theorem resL_pos {side t : Int} {ks : List Kd} {l : List St} {n : Nat} {q : Int} (hsh : shapeB side ks t l = true) (hk : ∀ j, j < l.length → j ≠ n → (stAt l j).far = q → (stAt l j).dx ≠ kingV ks) : 1 ≤ (resL l n q l.length).length := by
  obtain ⟨_, _, h0, h1, _⟩ := shapeB_facts hsh
  obtain ⟨a, ha, ha1, ha2⟩ := kingAt_some h0
  obtain ⟨b, hb, hb1, hb2⟩ := kingAt_some h1
  have hab : a ≠ b := fun he => by subst he; omega
  have : ∃ j, j < l.length ∧ j ≠ n ∧ (stAt l j).dx = kingV ks := by
    by_cases h : a = n
    · exact ⟨b, hb, fun he => hab (h.trans he.symm), hb2⟩
    · exact ⟨a, ha, h, ha2⟩
  obtain ⟨j, hj, hjn, hjk⟩ := this
  have hm : stAt l j ∈ resL l n q l.length := mem_resL.2 ⟨j, hj, hjn, fun he => hk j hj hjn he hjk, rfl⟩
  exact List.length_pos_of_mem hm

theorem OwnM.apart5 {w : World} {base n c n' : Nat} {g g' : Nat} {l : List St} (h : OwnM w base (.slice (some ⟨g, 0, none⟩) n c) n' l) (o : Nat) (u : Value) (ha : g ≠ g') : OwnM (w.setCell ⟨g', o, none⟩ u) base (.slice (some ⟨g, 0, none⟩) n c) n' l := by
  refine ⟨h.1, ?_⟩
  rcases h.2 with h0 | ⟨g'', cap, cur, hv, hB, hg, rest⟩
  · exact .inl h0
  · have hgg : g = g'' := by simp only [Value.slice.injEq, Option.some.injEq, Addr.mk.injEq, and_true] at hv; exact hv.1
    exact .inr ⟨g'', cap, cur, hv, hB, Blk.other (w := w) (b := g'') (vs := cur) (T := 105) hg ⟨g', o, none⟩ u (by show g'' ≠ g'; omega), rest⟩

set_option maxHeartbeats 8000000 in
theorem l4Do_any (t : Int) (M : Option Addr) (cm : Nat) (l : List St) (n : Nat) (f q : Int) (w : World) (hM : IsSteps w w.heap.size M l) (ht : 0 ≤ t ∧ t ≤ 1) (hl : l.length ≤ 4) (hi : n < l.length) (hf : (stAt l n).far = f) (hu : Up l) (hrest : 1 ≤ (resL l n q l.length).length) :
    Calls Tryz.prog 53 #[.agg #[.int .i64 t, .slice M l.length cm], .agg #[.int .i64 f, .int .i64 q]] w fun e w' => DoPost w w' t l n q e := by
  have HU := Lib.hid hu
  have HFAR := Lib.hid hf
  have HREST := Lib.hid hrest
  obtain ⟨ht0, ht1⟩ := ht
  obtain ⟨i0, hi0, hz0, hz1, hz2⟩ := info_parts manInfo
  clear hu hf hrest
  go_enter Tryz.func53, Tryz.ntmps53
  go_wp2_with fail
  have hb0 : Below w.heap.size w (((((w.alloc (.cells #[.int .i64 t, .slice M l.length cm] 35)).alloc (.cells #[.int .i64 f, .int .i64 q] 58)).alloc (.cells #[.int .i64 0, .slice none 0 0] 35)).alloc (.cells #[] 105)).alloc (.cells #[.int .i64 0, .int .i64 0, .int .i64 0] 105)) := (by repeat (first | exact Below.refl _ _ | assumption | (refine Below.alloc ?_ (by first | omega | (simp; done) | (simp; omega)) _) | (refine Below.setCell ?_ (by first | omega | (simp; done) | (simp; omega)) _) | refine Below.drew ?_))
  have p1 := ((((Blk.new w #[.int .i64 t, .slice M l.length cm] 35).alloc (.cells #[.int .i64 f, .int .i64 q] 58)).alloc (.cells #[.int .i64 0, .slice none 0 0] 35)).alloc (.cells #[] 105)).alloc (.cells #[.int .i64 0, .int .i64 0, .int .i64 0] 105)
  have p2 := (((Blk.new (w.alloc (.cells #[.int .i64 t, .slice M l.length cm] 35)) #[.int .i64 f, .int .i64 q] 58).alloc (.cells #[.int .i64 0, .slice none 0 0] 35)).alloc (.cells #[] 105)).alloc (.cells #[.int .i64 0, .int .i64 0, .int .i64 0] 105)
  have p3 := ((Blk.new ((w.alloc (.cells #[.int .i64 t, .slice M l.length cm] 35)).alloc (.cells #[.int .i64 f, .int .i64 q] 58)) #[.int .i64 0, .slice none 0 0] 35).alloc (.cells #[] 105)).alloc (.cells #[.int .i64 0, .int .i64 0, .int .i64 0] 105)
  have p4 := (Blk.new (((w.alloc (.cells #[.int .i64 t, .slice M l.length cm] 35)).alloc (.cells #[.int .i64 f, .int .i64 q] 58)).alloc (.cells #[.int .i64 0, .slice none 0 0] 35)) #[] 105).alloc (.cells #[.int .i64 0, .int .i64 0, .int .i64 0] 105)
  have p5 := Blk.new ((((w.alloc (.cells #[.int .i64 t, .slice M l.length cm] 35)).alloc (.cells #[.int .i64 f, .int .i64 q] 58)).alloc (.cells #[.int .i64 0, .slice none 0 0] 35)).alloc (.cells #[] 105)) #[.int .i64 0, .int .i64 0, .int .i64 0] 105
  simp only [World.size_alloc] at p2 p3 p4 p5
  generalize hW0 : (((((w.alloc _).alloc _).alloc _).alloc _).alloc _) = W0 at *
  clear hW0
  have hO0 : OwnM W0 (w.heap.size + 1 + 1 + 1) (.slice (some ⟨w.heap.size + 1 + 1 + 1, 0, none⟩) 0 0) 0 [] := ⟨rfl, .inr ⟨w.heap.size + 1 + 1 + 1, 0, #[], rfl, Nat.le_refl _, p4, Nat.le_refl _, Nat.zero_le _, rfl, rfl⟩⟩
  go_loopw [5, 7] (fun x iv wr => ∃ (k g cc : Nat), k ≤ l.length ∧ iv = .int .i64 k ∧ x = .slice (some ⟨g, 0, none⟩) (resL l n q k).length cc ∧ (resL l n q k).length ≤ cc ∧ cc ≤ maxLen ∧ OwnM wr (w.heap.size + 1 + 1 + 1) (.slice (some ⟨g, 0, none⟩) (resL l n q k).length cc) (resL l n q k).length (resL l n q k) ∧ g ≠ w.heap.size + 1 + 1 + 1 + 1 ∧ w.heap.size + 1 + 1 + 1 ≤ g ∧
    Blk wr w.heap.size #[.int .i64 t, .slice M l.length cm] 35 ∧ Blk wr (w.heap.size + 1) #[.int .i64 f, .int .i64 q] 58 ∧ Blk wr (w.heap.size + 1 + 1) #[.int .i64 0, .slice none 0 0] 35 ∧ Blk wr (w.heap.size + 1 + 1 + 1 + 1) #[.int .i64 (xsK l n k).dx, .int .i64 (xsK l n k).dy, .int .i64 (xsK l n k).far] 105 ∧ Below w.heap.size w wr) (fun _ iv _ => l.length - (intOf iv).toNat)
  case atStart => exact ⟨0, w.heap.size + 1 + 1 + 1, 0, by omega, rfl, rfl, Nat.le_refl _, Nat.zero_le _, hO0, by omega, by omega, p1, p2, p3, by rw [xsK_zero]; exact p5, hb0⟩
  case round =>
    clear hO0 p1 p2 p3 p4 p5 hb0
    obtain ⟨k, g, cc, hk, rfl, rfl, hcc, hcm, hO, hg5, hg3, p1, p2, p3, p5, hbe⟩ := hrel
    have hlen := resL_len l n q k
    have hz := hbe.size
    have z1 := p1.lt
    have z2 := p2.lt
    have z3 := p3.lt
    have z5 := p5.lt
    obtain ⟨⟨o0, o1⟩, _⟩ := p1.at2
    obtain ⟨⟨m0, m1⟩, _⟩ := p2.at2
    obtain ⟨⟨x0, x1, x2⟩, ⟨f0, f1, f2⟩⟩ := p5.at3
    by_cases hlt : k < l.length
    · obtain ⟨b, off, rfl, hB, hc⟩ := hM.below hbe (by omega)
      obtain ⟨s0, s1, s2⟩ := hc k hlt
      have zb : b < wr.heap.size := by omega
      have HO := Lib.hid hO
      have HP1 := Lib.hid p1
      have HP2 := Lib.hid p2
      have HP3 := Lib.hid p3
      have HP5 := Lib.hid p5
      have HBE := Lib.hid hbe
      clear hc hO p1 p2 p3 p5 hbe
      by_cases hkn : k = n
      · subst hkn
        have hd : ((stAt l k).far == f) = true := by simpa using HFAR.out
        have HL := Lib.hid (resL_hit l k q)
        have HX := Lib.hid (xsK_hit l k)
        go_wp2_with fail
        go_roundw
        case rel => exact ⟨k + 1, g, cc, by omega, by go_num, by rw [HL.out], by rw [HL.out]; exact hcc, hcm, by rw [HL.out]; exact ((HO.out.apart5 _ _ hg5).apart5 _ _ hg5).apart5 _ _ hg5, hg5, hg3, ((HP1.out.other _ _ (by show w.heap.size ≠ w.heap.size + 1 + 1 + 1 + 1; omega)).other _ _ (by show w.heap.size ≠ w.heap.size + 1 + 1 + 1 + 1; omega)).other _ _ (by show w.heap.size ≠ w.heap.size + 1 + 1 + 1 + 1; omega), ((HP2.out.other _ _ (by show w.heap.size + 1 ≠ w.heap.size + 1 + 1 + 1 + 1; omega)).other _ _ (by show w.heap.size + 1 ≠ w.heap.size + 1 + 1 + 1 + 1; omega)).other _ _ (by show w.heap.size + 1 ≠ w.heap.size + 1 + 1 + 1 + 1; omega), ((HP3.out.other _ _ (by show w.heap.size + 1 + 1 ≠ w.heap.size + 1 + 1 + 1 + 1; omega)).other _ _ (by show w.heap.size + 1 + 1 ≠ w.heap.size + 1 + 1 + 1 + 1; omega)).other _ _ (by show w.heap.size + 1 + 1 ≠ w.heap.size + 1 + 1 + 1 + 1; omega), by rw [HX.out]; exact HP5.out.set3 _ _ _, ((HBE.out.setCell (by show w.heap.size ≤ w.heap.size + 1 + 1 + 1 + 1; omega) _).setCell (by show w.heap.size ≤ w.heap.size + 1 + 1 + 1 + 1; omega) _).setCell (by show w.heap.size ≤ w.heap.size + 1 + 1 + 1 + 1; omega) _⟩
        case measure => simp [intOf]; omega
      · have hd : ((stAt l k).far == f) = false := by
          simp only [beq_eq_false_iff_ne, ne_eq]
          exact fun he => hkn (HU.out.inj hlt hi (he.trans HFAR.out.symm))
        have HX := Lib.hid (xsK_skip (l := l) hkn)
        by_cases hq : (stAt l k).far = q
        · have hd2 : ((stAt l k).far == q) = true := by simpa using hq
          have HL := Lib.hid (resL_skip (n := n) hq)
          clear hq hkn
          go_wp2_with fail
          go_roundw
          case rel => exact ⟨k + 1, g, cc, by omega, by go_num, by rw [HL.out], by rw [HL.out]; exact hcc, hcm, by rw [HL.out]; exact HO.out, hg5, hg3, HP1.out, HP2.out, HP3.out, by rw [HX.out]; exact HP5.out, HBE.out⟩
          case measure => simp [intOf]; omega
        · have hd2 : ((stAt l k).far == q) = false := by simpa using hq
          have HL := Lib.hid (resL_keep hkn hq)
          clear hq hkn
          have hmx : (resL l n q k).length + 1 ≤ maxLen := by unfold maxLen; omega
          have HNEW := Lib.hid (Blk.new wr #[.int .i64 (stAt l k).dx, .int .i64 (stAt l k).dy, .int .i64 (stAt l k).far] 105)
          have HOA := Lib.hid (HO.out.alloc (.cells #[.int .i64 (stAt l k).dx, .int .i64 (stAt l k).dy, .int .i64 (stAt l k).far] 105))
          have HP5A := Lib.hid (HP5.out.alloc (.cells #[.int .i64 (stAt l k).dx, .int .i64 (stAt l k).dy, .int .i64 (stAt l k).far] 105))
          have HWA := Lib.hid ((Below.refl (w.heap.size + 1 + 1 + 1) wr).alloc (by omega) (.cells #[.int .i64 (stAt l k).dx, .int .i64 (stAt l k).dy, .int .i64 (stAt l k).far] 105))
          generalize hL : resL l n q k = L at *
          go_wp2_with (at_builtin; refine wpList_append_own_at _ rfl _ _ 33 rfl (w.heap.size + 1 + 1 + 1) 105 i0 (.agg #[.int .i64 0, .int .i64 0, .int .i64 0]) 3 24 Tryz.underlying33 hi0 hz0 hz1 hz2 rfl (by decide) (.slice (some ⟨g, 0, none⟩) L.length cc) _ _ rfl HOA.out ⟨wr.heap.size, 0, none⟩ 1 1 [.int .i64 (stAt l k).dx, .int .i64 (stAt l k).dy, .int .i64 (stAt l k).far] rfl rfl (news3 HNEW.out) (fun u hu => by simp at hu; rcases hu with rfl | rfl | rfl <;> rfl) hmx (by omega) (by simp; omega) ?_; intro v7 w7 hown7 hgrow7 hnil7 hblk7; have hO7 := OwnM.snoc (s := ⟨(stAt l k).dx, (stAt l k).dy, (stAt l k).far⟩) hown7; obtain ⟨g7, c7, rfl, hc7, hm7, hg7, _⟩ := hO7.nonnil (fun he => by have := (hnil7.1 he).2; omega); have hb7 := HOA.out.base hgrow7 HWA.out (Nat.le_refl _) (by simp; omega); have hP7 := blk_grown HP5A.out hgrow7 (by simp only [Value.ownBlock]; intro he; injection he with he; exact hg5 he); have hne7 : g7 ≠ w.heap.size + 1 + 1 + 1 + 1 := (by simp [Value.ownBlock] at hblk7; omega); clear hown7 hgrow7 hnil7 hblk7)
          go_roundw
          case rel => exact ⟨k + 1, g7, c7, by omega, by go_num, by rw [HL.out]; simp, by rw [HL.out]; simpa using hc7, hm7, by rw [HL.out]; simpa using hO7, hne7, hg7, HP1.out.below hb7 (by omega), HP2.out.below hb7 (by omega), HP3.out.below hb7 (by omega), by rw [HX.out]; exact hP7, HBE.out.trans (hb7.mono (by omega))⟩
          case measure => simp [intOf]; omega
    · obtain rfl : k = l.length := by omega
      rw [xsK_end hi] at p5 x0 x1 x2
      obtain ⟨cs, hb, hcs, hin, _⟩ := hO.blk rfl
      have z4 := hb.lt
      have p1s := p1.other ⟨w.heap.size + 1 + 1 + 1 + 1, 2, none⟩ (.int .i64 q) (by show w.heap.size ≠ w.heap.size + 1 + 1 + 1 + 1; omega)
      have p3s := p3.other ⟨w.heap.size + 1 + 1 + 1 + 1, 2, none⟩ (.int .i64 q) (by show w.heap.size + 1 + 1 ≠ w.heap.size + 1 + 1 + 1 + 1; omega)
      have p5s : Blk (wr.setCell ⟨w.heap.size + 1 + 1 + 1 + 1, 2, none⟩ (.int .i64 q)) (w.heap.size + 1 + 1 + 1 + 1) #[.int .i64 (stAt l n).dx, .int .i64 (stAt l n).dy, .int .i64 q] 105 := p5.set 2 (.int .i64 q)
      have hbs := hb.other ⟨w.heap.size + 1 + 1 + 1 + 1, 2, none⟩ (.int .i64 q) hg5
      have hbes := hbe.setCell (p := ⟨w.heap.size + 1 + 1 + 1 + 1, 2, none⟩) (by show w.heap.size ≤ w.heap.size + 1 + 1 + 1 + 1; omega) (.int .i64 q)
      have HLL : Hid ((resL l n q l.length).length ≤ 4) := Lib.hid (by have := resL_len l n q l.length; omega)
      have HREST2 := HREST
      clear hO p1 p2 p3 p5 hbe hb
      have HB := Lib.hid hbs
      have HP1 := Lib.hid p1s
      have HP3 := Lib.hid p3s
      have HP5 := Lib.hid p5s
      have HBE := Lib.hid hbes
      have HIN := Lib.hid hin
      clear hbs p1s p3s p5s hbes hin hcs
      go_wp2_with fail
      generalize hL : resL l n q l.length = L at *
      generalize hW3 : wr.setCell _ _ = W3 at *
      clear hW3 o0 o1 m0 m1 x0 x1 x2 f0 f1 f2 z1 z2 z3 z4 z5 hz
      have z1 := HP1.out.lt
      have z3 := HP3.out.lt
      have z5 := HP5.out.lt
      have z4 := HB.out.lt
      have hz := HBE.out.size
      have HS : Hid (∀ w', Blk w' w.heap.size #[.int .i64 t, .slice M l.length cm] 35 → Blk w' (w.heap.size + 1 + 1 + 1 + 1) #[.int .i64 (stAt l n).dx, .int .i64 (stAt l n).dy, .int .i64 q] 105 → (w'.cell? ⟨w.heap.size, 0, none⟩ = some (.int .i64 t) ∧ w'.cell? ⟨w.heap.size + 1 + 1 + 1 + 1, 0, none⟩ = some (.int .i64 (stAt l n).dx) ∧ w'.cell? ⟨w.heap.size + 1 + 1 + 1 + 1, 1, none⟩ = some (.int .i64 (stAt l n).dy) ∧ w'.cell? ⟨w.heap.size + 1 + 1 + 1 + 1, 2, none⟩ = some (.int .i64 q))) := Lib.hid (fun w' h1 h5 => by
        obtain ⟨⟨a0, a1⟩, _⟩ := h1.at2
        obtain ⟨⟨b0, b1, b2⟩, _⟩ := h5.at3
        exact ⟨a0, b0, b1, b2⟩)
      have hw : Below W3.heap.size W3 W3.drew := (Below.refl _ _).drew
      obtain ⟨⟨c0, c1⟩, ⟨c2, c3⟩⟩ := (HP3.out.below hw z3).at2
      have hwr : IntKind.i64.wrap (1 - t) = 1 - t := IntWalk.i64_in _ (by omega)
      go_region_held3 (fun w' => w'.cell? ⟨w.heap.size, 0, none⟩ = some (.int .i64 t) ∧ w'.cell? ⟨w.heap.size + 1 + 1 + 1 + 1, 0, none⟩ = some (.int .i64 (stAt l n).dx) ∧ w'.cell? ⟨w.heap.size + 1 + 1 + 1 + 1, 1, none⟩ = some (.int .i64 (stAt l n).dy) ∧ w'.cell? ⟨w.heap.size + 1 + 1 + 1 + 1, 2, none⟩ = some (.int .i64 q))
        (first
          | exact HS.out _ (HP1.out.below hw z1) (HP5.out.below hw z5)
          | exact HS.out _ (((HP1.out.below hw z1).other _ _ (by show w.heap.size ≠ w.heap.size + 1 + 1; omega)).other _ _ (by show w.heap.size ≠ w.heap.size + 1 + 1; omega)) (((HP5.out.below hw z5).other _ _ (by show w.heap.size + 1 + 1 + 1 + 1 ≠ w.heap.size + 1 + 1; omega)).other _ _ (by show w.heap.size + 1 + 1 + 1 + 1 ≠ w.heap.size + 1 + 1; omega)))
        (first | (go_at_call 78; refine (l4Put_any _ _ _ _ _ _ _ _ (((HIN.out.is HB.out).below hw).more hw.size) HLL.out HREST.out hcc hcm).mono ?_; rintro e wa ⟨Aa, ca, rfl, hna, hba, _, _⟩; have hzx := hw.size; have hw := hw.trans (hba.mono hw.size); obtain ⟨⟨c0, c1⟩, ⟨c2, c3⟩⟩ := (HP3.out.below hw z3).at2))
      all_goals
        go_wp2_with fail
        have p3q := HP3.out.below hw z3
        have hbq := HBE.out.trans (hw.mono hz)
        refine bodyPost_ret (v := .agg #[.int .i64 (1 - t), .slice Aa (putL L ⟨(stAt l n).dx, (stAt l n).dy, q⟩).length ca]) ?_ rfl ⟨Aa, ca, ?_, ?_, ?_⟩
        · obtain ⟨⟨d0, d1⟩, _⟩ := (p3q.set2 (.int .i64 (1 - t)) (.slice Aa (putL L ⟨(stAt l n).dx, (stAt l n).dy, q⟩).length ca)).at2
          simp [results, Tryz.results53, go_sem, d0, d1]
        · unfold doL; rw [hL]
        · unfold doL; rw [hL]
          have hl1 := HP1.out
          exact fun hn => by
            obtain ⟨gg, cc', rfl, g1, g2, g3, g4, g5⟩ := hna hn
            exact ⟨gg, cc', rfl, by omega, by simpa [size_set] using g2, (g3.other _ _ (by show gg ≠ w.heap.size + 1 + 1; omega)).other _ _ (by show gg ≠ w.heap.size + 1 + 1; omega), g4, g5⟩
        · exact (hbq.setCell (by show w.heap.size ≤ w.heap.size + 1 + 1; omega) _).setCell (by show w.heap.size ≤ w.heap.size + 1 + 1; omega) _
end Go.Proofs.YtcgfklljbblhlaaGreatDoor.Ko

namespace Go.Proofs.YtcgfklljbblhlaaGreatDoor.Ko
open Go.ChangeShapes Go.WideShapes Go.ChangeAt Go.RowKit Base Sq
set_option linter.unusedVariables false
set_option maxRecDepth 20000
attribute [local irreducible] wpQuiet

theorem canB_blocked {side : Int} {ks : List Kd} {t : Int} {l : List St} {f q : Int} {n m : Nat} (h : manV l f = (n : Int)) (h2 : manV l q = (m : Int)) (hb : (stAt l m).dy = t ∨ (stAt l m).dx = kingV ks) : canB side ks t l f q = false := by
  rw [canB_some h, mayB_no (by rw [freeB_some h2]; rcases hb with hb | hb <;> simp [hb])]; simp
theorem canB_may {side : Int} {ks : List Kd} {t : Int} {l : List St} {f q : Int} {n : Nat} (h : manV l f = (n : Int)) (ho : (stAt l n).dy = t) (hh : hitsB side l (kOf ks (stAt l n)).steps (stAt l n).far q = true) (hf : freeB ks t l q = true) : canB side ks t l f q = !checkB side ks (doL l n q) t := by
  rw [canB_hit h ho hh, mayB_yes hf]

set_option maxHeartbeats 8000000 in
theorem l4Can_any (side : Int) (A : Option Addr) (c : Nat) (ks : List Kd) (t : Int) (M : Option Addr) (cm : Nat) (l : List St) (f q : Int) (w : World) (hR : IsKinds w w.heap.size A ks) (hM : IsSteps w w.heap.size M l)
    (hok : rulesOk side ks = true) (hsh : shapeB side ks t l = true) (hq0 : 0 ≤ q ∧ q < side * side) :
    Calls Tryz.prog 51 #[.agg #[.int .i64 side, .slice A ks.length c], .agg #[.int .i64 t, .slice M l.length cm], .agg #[.int .i64 f, .int .i64 q]] w fun e w' => e = .returned (.bool (canB side ks t l f q)) ∧ Below w.heap.size w w' := by
  obtain ⟨hs, hk1, hk4, hkk, _⟩ := rulesOk_facts hok
  obtain ⟨⟨ht0, ht1⟩, hl4, _, _, hmen⟩ := shapeB_facts hsh
  have HMEN := Lib.hid hmen
  have HOK := Lib.hid hok
  have HSH := Lib.hid hsh
  have HU := Lib.hid (shapeB_up hsh)
  have HQ := Lib.hid hq0
  have HT : Hid (0 ≤ t ∧ t ≤ 1) := Lib.hid ⟨ht0, ht1⟩
  clear hs hkk hmen hok hsh
  obtain ⟨hq0, hq1⟩ := hq0
  go_enter Tryz.func51, Tryz.ntmps51
  go_wp2_with fail
  have hb0 : Below w.heap.size w (((w.alloc (.cells #[.int .i64 side, .slice A ks.length c] 40)).alloc (.cells #[.int .i64 t, .slice M l.length cm] 35)).alloc (.cells #[.int .i64 f, .int .i64 q] 58)) := (by repeat (first | exact Below.refl _ _ | assumption | (refine Below.alloc ?_ (by first | omega | (simp; done) | (simp; omega)) _) | (refine Below.setCell ?_ (by first | omega | (simp; done) | (simp; omega)) _) | refine Below.drew ?_))
  have p1 := ((Blk.new w #[.int .i64 side, .slice A ks.length c] 40).alloc (.cells #[.int .i64 t, .slice M l.length cm] 35)).alloc (.cells #[.int .i64 f, .int .i64 q] 58)
  have p2 := (Blk.new (w.alloc (.cells #[.int .i64 side, .slice A ks.length c] 40)) #[.int .i64 t, .slice M l.length cm] 35).alloc (.cells #[.int .i64 f, .int .i64 q] 58)
  have p3 := Blk.new ((w.alloc (.cells #[.int .i64 side, .slice A ks.length c] 40)).alloc (.cells #[.int .i64 t, .slice M l.length cm] 35)) #[.int .i64 f, .int .i64 q] 58
  simp only [World.size_alloc] at p2 p3
  generalize hW0 : ((w.alloc _).alloc _).alloc _ = W0 at *
  clear hW0
  refine (l3Man_any _ _ _ _ _ _ ((hM.below hb0).more hb0.size) (by omega)).mono ?_
  rintro e w1 ⟨rfl, hb1⟩
  have p1' := p1.below hb1 p1.lt
  have p2' := p2.below hb1 p2.lt
  have p3' := p3.below hb1 p3.lt
  have hb0' := hb0.trans (hb1.mono hb0.size)
  obtain ⟨⟨o0, o1⟩, _⟩ := p2'.at2
  obtain ⟨⟨m0, m1⟩, _⟩ := p3'.at2
  clear p1 p2 p3 hb0 hb1
  go_wp2_with fail
  refine (l3Man_any _ _ _ _ _ _ ((hM.below hb0').more hb0'.size) (by omega)).mono ?_
  rintro e w2 ⟨rfl, hb2⟩
  have p1 := p1'.below hb2 p1'.lt
  have p2 := p2'.below hb2 p2'.lt
  have p3 := p3'.below hb2 p3'.lt
  have hbe := hb0'.trans (hb2.mono hb0'.size)
  have hR2 := (hR.below hbe).more hbe.size
  have hM2 := (hM.below hbe).more hbe.size
  clear p1' p2' p3' hb0' hb2 o0 o1 m0 m1
  obtain ⟨⟨r0, r1⟩, _⟩ := p1.at2
  obtain ⟨⟨o0, o1⟩, _⟩ := p2.at2
  obtain ⟨⟨m0, m1⟩, _⟩ := p3.at2
  have z1 := p1.lt
  have z2 := p2.lt
  have z3 := p3.lt
  have hz := hbe.size
  have HP1 := Lib.hid p1
  have HP2 := Lib.hid p2
  have HP3 := Lib.hid p3
  have HBE := Lib.hid hbe
  clear p1 p2 p3 hbe hR hM
  by_cases hm : manV l f = -1
  · have HN := Lib.hid (canB_none (side := side) (ks := ks) (t := t) (q := q) hm)
    rw [hm]
    clear hm
    go_wp2_with fail
    refine wp_region_below (W := w2) (by kernel_rfl) (by kernel_rfl) (Below.refl _ _) ?_
    repeat (first
      | (refine qs_skip (by rfl) ?_; simp only [Act.put, List.setIfInBounds_toArray, List.set_cons_zero, List.set_cons_succ])
      | (apply qs_take
         focus rfl
         focus (
           intro wq hwq
           obtain ⟨hcq, hfq⟩ := bcell hwq
           go_simp
           all_goals first
             | exact rfl
             | (exact ⟨trivial, rfl⟩))
         simp only [Act.put, List.setIfInBounds_toArray, List.set_cons_zero, List.set_cons_succ]))
    refine wpQuiet_nil ?_
    intro wq hwq
    go_wp2_with fail
    go_ret
    exact ⟨rb HN.out.symm, HBE.out.trans (hwq.mono hz)⟩
  obtain ⟨h1, h2, h3⟩ := manV_far hm
  obtain ⟨n, hn⟩ : ∃ n : Nat, manV l f = (n : Int) := ⟨(manV l f).toNat, by omega⟩
  rw [hn] at h1 h2 hm
  simp only [Int.toNat_natCast] at h1 h2
  have HNN := Lib.hid hn
  have HFAR := Lib.hid h2
  rw [hn]
  clear hn hm h2 h3
  obtain ⟨b, off, rfl, hB, hc⟩ := hM2 (by omega)
  obtain ⟨s0, s1, s2⟩ := hc n h1
  obtain ⟨⟨x1, x2⟩, ⟨x3, x4⟩, ⟨x5, x6⟩, _⟩ := HMEN.out n h1
  have HM2 : Hid (IsSteps w2 w2.heap.size (some ⟨b, off, none⟩) l) := Lib.hid hM2
  have HC := Lib.hid hc
  have HR2 := Lib.hid hR2
  clear hc hM2 hR2
  by_cases hown : (stAt l n).dy = t
  case neg =>
    have hd : ((stAt l n).dy != t) = true := by simp [hown]
    have HN := Lib.hid (canB_other (side := side) (ks := ks) (q := q) HNN.out hown)
    clear hown
    go_wp2_with fail
    refine wp_region_below (W := w2) (by kernel_rfl) (by kernel_rfl) (Below.refl _ _) ?_
    repeat (first
      | (refine qs_skip (by rfl) ?_; simp only [Act.put, List.setIfInBounds_toArray, List.set_cons_zero, List.set_cons_succ])
      | (apply qs_take
         focus rfl
         focus (
           intro wq hwq
           obtain ⟨hcq, hfq⟩ := bcell hwq
           go_simp
           all_goals first
             | exact rfl
             | (exact ⟨trivial, rfl⟩))
         simp only [Act.put, List.setIfInBounds_toArray, List.set_cons_zero, List.set_cons_succ]))
    refine wpQuiet_nil ?_
    intro wq hwq
    go_wp2_with fail
    go_ret
    exact ⟨rb HN.out.symm, HBE.out.trans (hwq.mono hz)⟩
  case pos =>
    have hd : ((stAt l n).dy != t) = false := by simp [hown]
    have HOWN := Lib.hid hown
    clear hown
    by_cases hmq : manV l q = -1
    · have HF := Lib.hid (freeB_none (ks := ks) (t := t) hmq)
      rw [hmq]
      clear hmq
      cases hh : hitsB side l (kOf ks ⟨(stAt l n).dx, (stAt l n).dy, (stAt l n).far⟩).steps (stAt l n).far q
      · have HH := Lib.hid hh
        have HN := Lib.hid (canB_miss (t := t) HNN.out hh)
        clear hh
        go_wp2_with fail
        refine wp_region_below (W := w2) (by kernel_rfl) (by kernel_rfl) (Below.refl _ _) ?_
        repeat (first
          | (refine qs_skip (by rfl) ?_; simp only [Act.put, List.setIfInBounds_toArray, List.set_cons_zero, List.set_cons_succ])
          | (apply qs_take
             focus rfl
             focus (
               intro wq hwq
               obtain ⟨hcq, hfq⟩ := bcell hwq
               go_simp
               all_goals first
                 | exact rfl
                 | (go_at_call 73; refine (l3Hits_any _ _ _ _ _ _ _ _ _ _ _ _ _ ((HR2.out.below hwq).more hwq.size) ((HM2.out.below hwq).more hwq.size) HOK.out ⟨x1, x2⟩ ⟨x5, x6⟩ (by omega) hq0).mono ?_; rw [HH.out]; exact fun e w2 h => ⟨h.1, hwq.trans (h.2.mono hwq.size)⟩)
                 | (exact ⟨trivial, rfl⟩))
             simp only [Act.put, List.setIfInBounds_toArray, List.set_cons_zero, List.set_cons_succ]))
        refine wpQuiet_nil ?_
        intro wq hwq
        go_wp2_with fail
        go_ret
        exact ⟨rb HN.out.symm, HBE.out.trans (hwq.mono hz)⟩
      · have HH := Lib.hid hh
        have HN := Lib.hid (canB_may HNN.out HOWN.out hh HF.out)
        clear hh
        go_wp2_with fail
        refine wp_region_below (W := w2) (by kernel_rfl) (by kernel_rfl) (Below.refl _ _) ?_
        repeat (first
          | (refine qs_skip (by rfl) ?_; simp only [Act.put, List.setIfInBounds_toArray, List.set_cons_zero, List.set_cons_succ])
          | (apply qs_take
             focus rfl
             focus (
               intro wq hwq
               obtain ⟨hcq, hfq⟩ := bcell hwq
               go_simp
               all_goals first
                 | exact rfl
                 | (go_at_call 73; refine (l3Hits_any _ _ _ _ _ _ _ _ _ _ _ _ _ ((HR2.out.below hwq).more hwq.size) ((HM2.out.below hwq).more hwq.size) HOK.out ⟨x1, x2⟩ ⟨x5, x6⟩ (by omega) hq0).mono ?_; rw [HH.out]; exact fun e w2 h => ⟨h.1, hwq.trans (h.2.mono hwq.size)⟩)
                 | (exact ⟨trivial, rfl⟩))
             simp only [Act.put, List.setIfInBounds_toArray, List.set_cons_zero, List.set_cons_succ]))
        refine wpQuiet_nil ?_
        intro wq hwq
        have hbq := HBE.out.trans (hwq.mono hz)
        have HBQ := Lib.hid hbq
        have HRQ := Lib.hid ((HR2.out.below hwq).more hwq.size)
        have HMQ := Lib.hid ((HM2.out.below hwq).more hwq.size)
        have HQ1 := Lib.hid (HP1.out.below hwq z1)
        have HQ2 := Lib.hid (HP2.out.below hwq z2)
        have HQ3 := Lib.hid (HP3.out.below hwq z3)
        have HZQ := Lib.hid hbq.size
        clear hbq hwq r0 r1 o0 o1 m0 m1 s0 s1 s2 HC HR2 HM2 HP1 HP2 HP3 HBE z1 z2 z3 hz hB
        generalize hWQ : wq = W3 at *
        clear hWQ
        obtain ⟨⟨r0, r1⟩, _⟩ := HQ1.out.at2
        obtain ⟨⟨o0, o1⟩, _⟩ := HQ2.out.at2
        obtain ⟨⟨m0, m1⟩, _⟩ := HQ3.out.at2
        go_wp2_with fail
        have HS : Hid (∀ w', Below W3.heap.size W3 w' → (w'.cell? ⟨w.heap.size, 0, none⟩ = some (.int .i64 side) ∧ w'.cell? ⟨w.heap.size, 1, none⟩ = some (.slice A ks.length c) ∧ w'.cell? ⟨w.heap.size + 1, 0, none⟩ = some (.int .i64 t) ∧ w'.cell? ⟨w.heap.size + 1, 1, none⟩ = some (.slice (some ⟨b, off, none⟩) l.length cm) ∧ w'.cell? ⟨w.heap.size + 1 + 1, 0, none⟩ = some (.int .i64 f) ∧ w'.cell? ⟨w.heap.size + 1 + 1, 1, none⟩ = some (.int .i64 q))) := Lib.hid (fun w' hb => by
          obtain ⟨⟨a0, a1⟩, _⟩ := (HQ1.out.below hb HQ1.out.lt).at2
          obtain ⟨⟨b0, b1⟩, _⟩ := (HQ2.out.below hb HQ2.out.lt).at2
          obtain ⟨⟨c0, c1⟩, _⟩ := (HQ3.out.below hb HQ3.out.lt).at2
          exact ⟨a0, a1, b0, b1, c0, c1⟩)
        clear r0 r1 o0 o1 m0 m1
        have hw : Below W3.heap.size W3 W3.drew := (Below.refl _ _).drew
        go_region_held3 (fun w' => w'.cell? ⟨w.heap.size, 0, none⟩ = some (.int .i64 side) ∧ w'.cell? ⟨w.heap.size, 1, none⟩ = some (.slice A ks.length c) ∧ w'.cell? ⟨w.heap.size + 1, 0, none⟩ = some (.int .i64 t) ∧ w'.cell? ⟨w.heap.size + 1, 1, none⟩ = some (.slice (some ⟨b, off, none⟩) l.length cm) ∧ w'.cell? ⟨w.heap.size + 1 + 1, 0, none⟩ = some (.int .i64 f) ∧ w'.cell? ⟨w.heap.size + 1 + 1, 1, none⟩ = some (.int .i64 q))
          (exact HS.out _ hw)
          (first
            | (go_at_call 53; refine (l4Do_any _ _ _ _ _ _ _ _ ((HMQ.out.below hw).more hw.size) HT.out hl4 h1 HFAR.out HU.out (resL_pos HSH.out (freeB_king HU.out HF.out))).mono ?_; rintro e wa ⟨Aa, ca, rfl, hna, hba⟩; have hw := hw.trans (hba.mono hw.size))
            | (go_at_call 74; refine (l3Check_any _ _ _ _ _ t _ _ _ _ _ ((HRQ.out.below hw).more hw.size) hna.is HOK.out (doL_shape HSH.out HT.out h1 HQ.out (freeB_king HU.out HF.out)) (by omega)).mono ?_; rintro e wc ⟨rfl, hbc⟩; have hw := hw.trans (hbc.mono hw.size)))
        all_goals
          go_wp2_with fail
          go_ret
          exact ⟨rb (by rw [HN.out]), HBQ.out.trans (hw.mono HZQ.out)⟩
    · obtain ⟨h1q, h2q, h3q⟩ := manV_far hmq
      obtain ⟨m, hmm⟩ : ∃ m : Nat, manV l q = (m : Int) := ⟨(manV l q).toNat, by omega⟩
      rw [hmm] at h1q hmq
      simp only [Int.toNat_natCast] at h1q
      have HMM := Lib.hid hmm
      rw [hmm]
      clear hmm hmq h2q h3q
      obtain ⟨y0, y1, y2⟩ := HC.out m h1q
      by_cases hownq : (stAt l m).dy = t
      · have hd2 : ((stAt l m).dy == t) = true := by simp [hownq]
        have HN := Lib.hid (canB_blocked (side := side) (ks := ks) HNN.out HMM.out (.inl hownq))
        clear hownq
        go_wp2_with fail
        refine wp_region_below (W := w2) (by kernel_rfl) (by kernel_rfl) (Below.refl _ _) ?_
        repeat (first
          | (refine qs_skip (by rfl) ?_; simp only [Act.put, List.setIfInBounds_toArray, List.set_cons_zero, List.set_cons_succ])
          | (apply qs_take
             focus rfl
             focus (
               intro wq hwq
               obtain ⟨hcq, hfq⟩ := bcell hwq
               go_simp
               all_goals first
                 | exact rfl
                 | (exact ⟨trivial, rfl⟩))
             simp only [Act.put, List.setIfInBounds_toArray, List.set_cons_zero, List.set_cons_succ]))
        refine wpQuiet_nil ?_
        intro wq hwq
        go_wp2_with fail
        go_ret
        exact ⟨rb HN.out.symm, HBE.out.trans (hwq.mono hz)⟩
      · have hd2 : ((stAt l m).dy == t) = false := by simp [hownq]
        by_cases hkq : (stAt l m).dx = kingV ks
        · have hd3 : ((stAt l m).dx == kingV ks) = true := by simp [hkq]
          have HN := Lib.hid (canB_blocked (side := side) (t := t) HNN.out HMM.out (.inr hkq))
          clear hownq hkq
          go_wp2_with fail
          refine wp_region_below (W := w2) (by kernel_rfl) (by kernel_rfl) (Below.refl _ _) ?_
          repeat (first
            | (refine qs_skip (by rfl) ?_; simp only [Act.put, List.setIfInBounds_toArray, List.set_cons_zero, List.set_cons_succ])
            | (apply qs_take
               focus rfl
               focus (
                 intro wq hwq
                 obtain ⟨hcq, hfq⟩ := bcell hwq
                 go_simp
                 all_goals first
                   | exact rfl
                   | (go_at_call 72; refine (l2King_any _ _ _ _ _ ((HR2.out.below hwq).more hwq.size) (by omega)).mono ?_; exact fun e w2 h => ⟨h.1, hwq.trans (h.2.mono hwq.size)⟩)
                   | (exact ⟨trivial, rfl⟩))
               simp only [Act.put, List.setIfInBounds_toArray, List.set_cons_zero, List.set_cons_succ]))
          refine wpQuiet_nil ?_
          intro wq hwq
          go_wp2_with fail
          go_ret
          exact ⟨rb HN.out.symm, HBE.out.trans (hwq.mono hz)⟩
        · have hd3 : ((stAt l m).dx == kingV ks) = false := by simp [hkq]
          have HF : Hid (freeB ks t l q = true) := Lib.hid (by rw [freeB_some HMM.out, decide_eq_true hownq, decide_eq_true (p := (stAt l m).dx ≠ kingV ks) hkq]; rfl)
          clear hownq hkq
          cases hh : hitsB side l (kOf ks ⟨(stAt l n).dx, (stAt l n).dy, (stAt l n).far⟩).steps (stAt l n).far q
          · have HH := Lib.hid hh
            have HN := Lib.hid (canB_miss (t := t) HNN.out hh)
            clear hh
            go_wp2_with fail
            refine wp_region_below (W := w2) (by kernel_rfl) (by kernel_rfl) (Below.refl _ _) ?_
            repeat (first
              | (refine qs_skip (by rfl) ?_; simp only [Act.put, List.setIfInBounds_toArray, List.set_cons_zero, List.set_cons_succ])
              | (apply qs_take
                 focus rfl
                 focus (
                   intro wq hwq
                   obtain ⟨hcq, hfq⟩ := bcell hwq
                   go_simp
                   all_goals first
                     | exact rfl
                     | (go_at_call 73; refine (l3Hits_any _ _ _ _ _ _ _ _ _ _ _ _ _ ((HR2.out.below hwq).more hwq.size) ((HM2.out.below hwq).more hwq.size) HOK.out ⟨x1, x2⟩ ⟨x5, x6⟩ (by omega) hq0).mono ?_; rw [HH.out]; exact fun e w2 h => ⟨h.1, hwq.trans (h.2.mono hwq.size)⟩)
                     | (go_at_call 72; refine (l2King_any _ _ _ _ _ ((HR2.out.below hwq).more hwq.size) (by omega)).mono ?_; exact fun e w2 h => ⟨h.1, hwq.trans (h.2.mono hwq.size)⟩)
                     | (exact ⟨trivial, rfl⟩))
                 simp only [Act.put, List.setIfInBounds_toArray, List.set_cons_zero, List.set_cons_succ]))
            refine wpQuiet_nil ?_
            intro wq hwq
            go_wp2_with fail
            go_ret
            exact ⟨rb HN.out.symm, HBE.out.trans (hwq.mono hz)⟩
          · have HH := Lib.hid hh
            have HN := Lib.hid (canB_may HNN.out HOWN.out hh HF.out)
            clear hh
            go_wp2_with fail
            refine wp_region_below (W := w2) (by kernel_rfl) (by kernel_rfl) (Below.refl _ _) ?_
            repeat (first
              | (refine qs_skip (by rfl) ?_; simp only [Act.put, List.setIfInBounds_toArray, List.set_cons_zero, List.set_cons_succ])
              | (apply qs_take
                 focus rfl
                 focus (
                   intro wq hwq
                   obtain ⟨hcq, hfq⟩ := bcell hwq
                   go_simp
                   all_goals first
                     | exact rfl
                     | (go_at_call 73; refine (l3Hits_any _ _ _ _ _ _ _ _ _ _ _ _ _ ((HR2.out.below hwq).more hwq.size) ((HM2.out.below hwq).more hwq.size) HOK.out ⟨x1, x2⟩ ⟨x5, x6⟩ (by omega) hq0).mono ?_; rw [HH.out]; exact fun e w2 h => ⟨h.1, hwq.trans (h.2.mono hwq.size)⟩)
                     | (go_at_call 72; refine (l2King_any _ _ _ _ _ ((HR2.out.below hwq).more hwq.size) (by omega)).mono ?_; exact fun e w2 h => ⟨h.1, hwq.trans (h.2.mono hwq.size)⟩)
                     | (exact ⟨trivial, rfl⟩))
                 simp only [Act.put, List.setIfInBounds_toArray, List.set_cons_zero, List.set_cons_succ]))
            refine wpQuiet_nil ?_
            intro wq hwq
            have hbq := HBE.out.trans (hwq.mono hz)
            have HBQ := Lib.hid hbq
            have HRQ := Lib.hid ((HR2.out.below hwq).more hwq.size)
            have HMQ := Lib.hid ((HM2.out.below hwq).more hwq.size)
            have HQ1 := Lib.hid (HP1.out.below hwq z1)
            have HQ2 := Lib.hid (HP2.out.below hwq z2)
            have HQ3 := Lib.hid (HP3.out.below hwq z3)
            have HZQ := Lib.hid hbq.size
            clear hbq hwq r0 r1 o0 o1 m0 m1 s0 s1 s2 y0 y1 y2 HC HR2 HM2 HP1 HP2 HP3 HBE z1 z2 z3 hz hB
            generalize hWQ : wq = W3 at *
            clear hWQ
            obtain ⟨⟨r0, r1⟩, _⟩ := HQ1.out.at2
            obtain ⟨⟨o0, o1⟩, _⟩ := HQ2.out.at2
            obtain ⟨⟨m0, m1⟩, _⟩ := HQ3.out.at2
            go_wp2_with fail
            have HS : Hid (∀ w', Below W3.heap.size W3 w' → (w'.cell? ⟨w.heap.size, 0, none⟩ = some (.int .i64 side) ∧ w'.cell? ⟨w.heap.size, 1, none⟩ = some (.slice A ks.length c) ∧ w'.cell? ⟨w.heap.size + 1, 0, none⟩ = some (.int .i64 t) ∧ w'.cell? ⟨w.heap.size + 1, 1, none⟩ = some (.slice (some ⟨b, off, none⟩) l.length cm) ∧ w'.cell? ⟨w.heap.size + 1 + 1, 0, none⟩ = some (.int .i64 f) ∧ w'.cell? ⟨w.heap.size + 1 + 1, 1, none⟩ = some (.int .i64 q))) := Lib.hid (fun w' hb => by
              obtain ⟨⟨a0, a1⟩, _⟩ := (HQ1.out.below hb HQ1.out.lt).at2
              obtain ⟨⟨b0, b1⟩, _⟩ := (HQ2.out.below hb HQ2.out.lt).at2
              obtain ⟨⟨c0, c1⟩, _⟩ := (HQ3.out.below hb HQ3.out.lt).at2
              exact ⟨a0, a1, b0, b1, c0, c1⟩)
            clear r0 r1 o0 o1 m0 m1
            have hw : Below W3.heap.size W3 W3.drew := (Below.refl _ _).drew
            go_region_held3 (fun w' => w'.cell? ⟨w.heap.size, 0, none⟩ = some (.int .i64 side) ∧ w'.cell? ⟨w.heap.size, 1, none⟩ = some (.slice A ks.length c) ∧ w'.cell? ⟨w.heap.size + 1, 0, none⟩ = some (.int .i64 t) ∧ w'.cell? ⟨w.heap.size + 1, 1, none⟩ = some (.slice (some ⟨b, off, none⟩) l.length cm) ∧ w'.cell? ⟨w.heap.size + 1 + 1, 0, none⟩ = some (.int .i64 f) ∧ w'.cell? ⟨w.heap.size + 1 + 1, 1, none⟩ = some (.int .i64 q))
              (exact HS.out _ hw)
              (first
                | (go_at_call 53; refine (l4Do_any _ _ _ _ _ _ _ _ ((HMQ.out.below hw).more hw.size) HT.out hl4 h1 HFAR.out HU.out (resL_pos HSH.out (freeB_king HU.out HF.out))).mono ?_; rintro e wa ⟨Aa, ca, rfl, hna, hba⟩; have hw := hw.trans (hba.mono hw.size))
                | (go_at_call 74; refine (l3Check_any _ _ _ _ _ t _ _ _ _ _ ((HRQ.out.below hw).more hw.size) hna.is HOK.out (doL_shape HSH.out HT.out h1 HQ.out (freeB_king HU.out HF.out)) (by omega)).mono ?_; rintro e wc ⟨rfl, hbc⟩; have hw := hw.trans (hbc.mono hw.size)))
            all_goals
              go_wp2_with fail
              go_ret
              exact ⟨rb (by rw [HN.out]), HBQ.out.trans (hw.mono HZQ.out)⟩
end Go.Proofs.YtcgfklljbblhlaaGreatDoor.Ko
