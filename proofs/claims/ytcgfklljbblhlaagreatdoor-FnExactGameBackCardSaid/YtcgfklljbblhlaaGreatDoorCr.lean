/- The conversions of the exact laws: rules. -/
import Derived.Test.YtcgfklljbblhlaaGreatDoorRk
namespace Go.Proofs.YtcgfklljbblhlaaGreatDoor.Ko
open Go.ChangeShapes Go.WideShapes Go.ChangeAt Go.RowKit Base Sq
set_option linter.unusedVariables false
set_option maxRecDepth 20000
attribute [local irreducible] wpQuiet

theorem kindInfo : (Tryz.prog.info? 98).map (fun i => (i.zero, i.size, i.bytes)) = some (some (.agg #[.int .i64 0, .bool false, .slice none 0 0]), 3, 40) := by kernel_rfl

/-- the first k elements of block g are kinds of the list, their steps in new blocks -/
def KindsIn (w : World) (g : Nat) (cs : Array Value) (ks : List Kd) (k : Nat) : Prop := ∀ i, i < k → ∃ gs c, cs[i * 3]? = some (.int .i64 (kAt ks i).name) ∧ cs[i * 3 + 1]? = some (.bool (kAt ks i).king) ∧
  cs[i * 3 + 2]? = some (.slice (some ⟨gs, 0, none⟩) (kAt ks i).steps.length c) ∧ NewSteps (g + 1) w gs (kAt ks i).steps
theorem KindsIn.below {w w' : World} {g : Nat} {cs : Array Value} {ks : List Kd} {k : Nat} (h : KindsIn w g cs ks k) (hb : Below w.heap.size w w') : KindsIn w' g cs ks k := fun i hi => by
  obtain ⟨gs, c, h1, h2, h3, h4⟩ := h i hi; exact ⟨gs, c, h1, h2, h3, h4.below hb⟩
theorem KindsIn.set {w : World} {g : Nat} {cs : Array Value} {ks : List Kd} {k : Nat} (h : KindsIn w g cs ks k) (a : Addr) (u : Value) (ha : a.block ≤ g) : KindsIn (w.setCell a u) g cs ks k := fun i hi => by
  obtain ⟨gs, c, h1, h2, h3, h4⟩ := h i hi; exact ⟨gs, c, h1, h2, h3, h4.other a u (by omega)⟩
theorem KindsIn.next {w : World} {g gs c : Nat} {cs : Array Value} {ks : List Kd} {k : Nat} (h : KindsIn w g cs ks k) (hs : k * 3 + 2 < cs.size) (hn : NewSteps (g + 1) w gs (kAt ks k).steps) :
    KindsIn w g (((cs.setIfInBounds (k * 3) (.int .i64 (kAt ks k).name)).setIfInBounds (k * 3 + 1) (.bool (kAt ks k).king)).setIfInBounds (k * 3 + 2) (.slice (some ⟨gs, 0, none⟩) (kAt ks k).steps.length c)) ks (k + 1) := by
  refine all_succ (fun i hi => ?_) ?_
  · obtain ⟨gs, c, h1, h2, h3, h4⟩ := h i hi
    exact ⟨gs, c, set_get (set_get (set_get h1 (by omega)) (by omega)) (by omega), set_get (set_get (set_get h2 (by omega)) (by omega)) (by omega), set_get (set_get (set_get h3 (by omega)) (by omega)) (by omega), h4⟩
  · exact ⟨gs, c, set_get (set_get (set_same (by omega)) (by omega)) (by omega), set_get (set_same (by simp; omega)) (by omega), set_same (by simp; omega), hn⟩
/-- the slice is a new block, from B on, that holds the kinds -/
def NewKinds (B : Nat) (w : World) (g : Nat) (ks : List Kd) : Prop := ∃ cs, B ≤ g ∧ Blk w g cs 98 ∧ KindsIn w g cs ks ks.length
theorem NewSteps.lt {B : Nat} {w : World} {g : Nat} {l : List St} (h : NewSteps B w g l) : g < w.heap.size := by obtain ⟨cs, _, hb, _⟩ := h; exact hb.lt
theorem NewKinds.is {B : Nat} {w : World} {g : Nat} {ks : List Kd} (h : NewKinds B w g ks) : IsKinds w w.heap.size (some ⟨g, 0, none⟩) ks := fun hn => by
  obtain ⟨cs, _, hb, hi⟩ := h
  refine ⟨g, 0, rfl, hb.lt, fun i hi' => ?_⟩
  obtain ⟨gs, c, h1, h2, h3, h4⟩ := hi i hi'
  simp only [Nat.zero_add, hb.cell]
  exact ⟨_, c, h1, h2, h3, h4.is⟩
theorem NewKinds.below {B : Nat} {w w' : World} {g : Nat} {ks : List Kd} (h : NewKinds B w g ks) (hb : Below w.heap.size w w') : NewKinds B w' g ks := by
  obtain ⟨cs, h1, hk, hi⟩ := h; exact ⟨cs, h1, hk.below hb hk.lt, hi.below hb⟩
theorem NewKinds.other {B : Nat} {w : World} {g : Nat} {ks : List Kd} (h : NewKinds B w g ks) (a : Addr) (u : Value) (ha : a.block < B) : NewKinds B (w.setCell a u) g ks := by
  obtain ⟨cs, h1, hk, hi⟩ := h; exact ⟨cs, h1, hk.other a u (by omega), hi.set a u (by omega)⟩
theorem NewKinds.from_ {B B0 : Nat} {w : World} {g : Nat} {ks : List Kd} (h : NewKinds B w g ks) (hb : B0 ≤ B) : NewKinds B0 w g ks := by
  obtain ⟨cs, h1, hk, hi⟩ := h; exact ⟨cs, by omega, hk, hi⟩
def KindsPost (W w' : World) (ks : List Kd) (e : Ending) : Prop := ∃ g c', e = .returned (.slice (some ⟨g, 0, none⟩) ks.length c') ∧ NewKinds W.heap.size w' g ks ∧ Below W.heap.size W w'

set_option maxHeartbeats 1000000 in
theorem toKindS_any (A : Option Addr) (c : Nat) (ks : List Kd) (w : World) (h : IsKinds w w.heap.size A ks) (hsm : Small ks) :
    Calls Tryz.prog 30 #[.slice A ks.length c] w fun e w' => KindsPost w w' ks e := by
  obtain ⟨i0, hi, hz0, hz1, hz2⟩ := info_parts kindInfo
  have hl := hsm.1
  have HSM := Lib.hid hsm
  clear hsm
  go_enter Tryz.func30, Tryz.ntmps30
  go_wp2_with (at_make; refine wpList_make_full _ rfl _ _ _ rfl w.heap.size 98 i0 (.agg #[.int .i64 0, .bool false, .slice none 0 0]) 3 Tryz.underlying38 hi hz0 hz1 .i64 .i64 _ _ ks.length (by rfl) (by rfl) rfl rfl (by rw [hz2]; omega) (by unfold maxLen; omega) (Nat.le_refl _) ?_; intro w1 hown hgrow)
  obtain ⟨cur, hblk, hsz⟩ := blk_of_own hown
  have hbe := below_of_grown hgrow (Nat.le_refl _)
  clear hown hgrow hi hz0 hz1 hz2
  have HS := Lib.hid hsz
  clear hsz
  go_loopw [4] (fun i wr => ∃ (k : Nat) (cs : Array Value), k ≤ ks.length ∧ i = .int .i64 k ∧ cs.size = ks.length * 3 ∧ KindsIn wr w.heap.size cs ks k ∧ Blk wr w.heap.size cs 98 ∧ Below w.heap.size w wr) (fun i _ => ks.length - (intOf i).toNat)
  case atStart => exact ⟨0, cur, by omega, rfl, HS.out, fun j hj => absurd hj (by omega), hblk, hbe⟩
  case round =>
    clear hblk hbe HS
    obtain ⟨k, cs, hk, rfl, hsz, hin, hb, hbe⟩ := hrel
    have HS := Lib.hid hsz
    by_cases hlt : k < ks.length
    · obtain ⟨b, off, rfl, hB, hc⟩ := h.below hbe (by omega)
      obtain ⟨S, cc, c0, c1, c2, hst⟩ := hc k hlt
      have hlen := HSM.out.2 k hlt
      clear hc
      obtain ⟨o0, x0⟩ := old_cell (cs := cs) (i := k * 3) (by omega)
      obtain ⟨o1, x1⟩ := old_cell (cs := cs) (i := k * 3 + 1) (by omega)
      obtain ⟨o2, x2⟩ := old_cell (cs := cs) (i := k * 3 + 2) (by omega)
      have y0 := (hb.cell (k * 3)).trans x0
      have y1 := (hb.cell (k * 3 + 1)).trans x1
      have y2 := (hb.cell (k * 3 + 2)).trans x2
      have f0 := hb.free (k * 3)
      have f1 := hb.free (k * 3 + 1)
      have f2 := hb.free (k * 3 + 2)
      have z1 := hb.lt
      clear hsz x0 x1 x2
      go_wp2_with fail
      refine (toKind_any _ _ _ _ _ _ (hst.more hbe.size) hlen).mono ?_
      rintro e w2 ⟨gs, c2', rfl, hn2, hb2⟩
      obtain ⟨hc, hf⟩ := bcell hb2
      go_wp2_with fail
      go_roundw
      case rel =>
        refine ⟨k + 1, _, by omega, by go_num, ?_, ((((hin.below hb2).next (gs := gs) (c := c2') (by have := HS.out; omega) (hn2.from_ (by omega))).set _ _ (Nat.le_refl _)).set _ _ (Nat.le_refl _)).set _ _ (Nat.le_refl _), (((hb.below hb2 z1).set _ _).set _ _).set _ _, (((hbe.trans (hb2.mono (by omega))).setCell (by simp) _).setCell (by simp) _).setCell (by simp) _⟩
        simp only [Array.size_setIfInBounds]; exact HS.out
      case measure => simp [intOf]; omega
    · obtain rfl : k = ks.length := by omega
      go_wp2_with fail
      go_ret
      exact ⟨_, _, rfl, ⟨cs, Nat.le_refl _, hb, hin⟩, hbe⟩

def RulesPost (W w' : World) (side : Int) (ks : List Kd) (e : Ending) : Prop :=
  ∃ g c', e = .returned (.agg #[.int .i64 side, .slice (some ⟨g, 0, none⟩) ks.length c']) ∧ NewKinds W.heap.size w' g ks ∧ Below W.heap.size W w'
theorem toRules_any (side : Int) (A : Option Addr) (c : Nat) (ks : List Kd) (w : World) (h : IsKinds w w.heap.size A ks) (hsm : Small ks) :
    Calls Tryz.prog 9 #[.agg #[.int .i64 side, .slice A ks.length c]] w fun e w' => RulesPost w w' side ks e := by
  go_enter Tryz.func9, Tryz.ntmps9
  go_wp2_with fail
  refine (toKindS_any _ _ _ _ ((h.below (by repeat (first | exact Below.refl _ _ | assumption | (refine Below.alloc ?_ (by first | omega | (simp; done) | (simp; omega)) _) | (refine Below.setCell ?_ (by first | omega | (simp; done) | (simp; omega)) _) | refine Below.drew ?_))).more (by first | (simp; done) | (simp; omega) | omega)) hsm).mono ?_
  rintro e w2 ⟨g, c', rfl, hs2, hb2⟩
  obtain ⟨hc, hf⟩ := bcell hb2
  have hz := hb2.size
  simp at hz
  have hR := ((Blk.new (w.alloc (.cells #[.int .i64 side, .slice A ks.length c] 24)) #[.int .i64 0, .slice none 0 0] 40).alloc (.cells #[.int .i64 side, .slice none 0 0] 40)).below hb2 (by first | (simp; done) | (simp; omega) | omega)
  rw [show (w.alloc (.cells #[.int .i64 side, .slice A ks.length c] 24)).heap.size = w.heap.size + 1 from by simp] at hR
  go_wp2_with fail
  refine bodyPost_ret (v := .agg #[.int .i64 side, .slice (some ⟨g, 0, none⟩) ks.length c']) ?_ rfl ⟨g, c', rfl, ?_, ?_⟩
  · have hR' := (hR.other ⟨w.heap.size + 1 + 1, 1, none⟩ (.slice (some ⟨g, 0, none⟩) ks.length c') (by first | (simp; done) | (simp; omega) | omega)).set2 (.int .i64 side) (.slice (some ⟨g, 0, none⟩) ks.length c')
    obtain ⟨⟨d0, d1⟩, _⟩ := hR'.at2
    simp [results, Tryz.results9, go_sem, d0, d1]
  · exact (((hs2.other _ _ (by first | (simp; done) | (simp; omega) | omega)).other _ _ (by first | (simp; done) | (simp; omega) | omega)).other _ _ (by first | (simp; done) | (simp; omega) | omega)).from_ (by first | (simp; done) | (simp; omega) | omega)
  · have hw := hb2.mono (show w.heap.size ≤ _ from (by first | (simp; done) | (simp; omega) | omega))
    exact ((((Below.trans (by repeat (first | exact Below.refl _ _ | assumption | (refine Below.alloc ?_ (by first | omega | (simp; done) | (simp; omega)) _) | (refine Below.setCell ?_ (by first | omega | (simp; done) | (simp; omega)) _) | refine Below.drew ?_)) hw).setCell (by first | (simp; done) | (simp; omega) | omega) _).setCell (by first | (simp; done) | (simp; omega) | omega) _).setCell (by first | (simp; done) | (simp; omega) | omega) _)

def SzPost (W w' : World) (left : Int) (ks : List Kd) (e : Ending) : Prop :=
  ∃ v, e = .returned (.int .i64 v) ∧ v ≤ left ∧ (v = -1 ∨ (0 ≤ v ∧ Small ks)) ∧ Below W.heap.size W w'
/-- some length is what a slice may have -/
def Lens (ks : List Kd) : Prop := ks.length ≤ 9223372036854775807 ∧ ∀ i, i < ks.length → (kAt ks i).steps.length ≤ 9223372036854775807
set_option maxHeartbeats 1000000 in
theorem szKindS_any (A : Option Addr) (c : Nat) (ks : List Kd) (left : Int) (w : World) (h : IsKinds w w.heap.size A ks) (hl : Lens ks) (h1 : 0 ≤ left) (h2 : left ≤ 1048576) :
    Calls Tryz.prog 25 #[.slice A ks.length c, .int .i64 left] w fun e w' => SzPost w w' left ks e := by
  have hl1 := hl.1
  have HL := Lib.hid hl
  clear hl
  by_cases hn : left - (ks.length : Int) < 0
  · go_enter Tryz.func25, Tryz.ntmps25
    go_wp2_with fail
    go_ret
    exact ⟨-1, rfl, by omega, .inl rfl, Below.refl _ _⟩
  · have hk2 : ks.length ≤ 1048576 := by omega
    go_enter Tryz.func25, Tryz.ntmps25
    go_wp2_with fail
    go_loopw [1, 5] (fun x i wr => ∃ (k : Nat) (v : Int), k ≤ ks.length ∧ i = .int .i64 k ∧ x = .int .i64 v ∧ 0 ≤ v ∧ v ≤ left ∧ (∀ j, j < k → (kAt ks j).steps.length ≤ 1048576) ∧ Below w.heap.size w wr) (fun _ i _ => ks.length - (intOf i).toNat)
    case atStart => exact ⟨0, _, by omega, rfl, rfl, by omega, by omega, fun j hj => absurd hj (by omega), Below.refl _ _⟩
    case round =>
      obtain ⟨k, v, hk, rfl, rfl, hv1, hv2, hg, hbe⟩ := hrel
      by_cases hlt : k < ks.length
      · obtain ⟨b, off, rfl, hB, hc⟩ := h.below hbe (by omega)
        obtain ⟨S, cc, c0, c1, c2, hst⟩ := hc k hlt
        have hlen := HL.out.2 k hlt
        clear hc hst
        go_wp2_with fail
        by_cases hbig : v - ((kAt ks k).steps.length : Int) < 0
        · refine (szKind_any _ _ _ _ _ _ _ hlen hv1 (by omega)).mono ?_
          rw [if_pos hbig]
          rintro e w1 ⟨rfl, hb1⟩
          clear hbig
          go_wp2_with fail
          go_ret
          exact ⟨-1, rfl, by omega, .inl rfl, hbe.trans (hb1.mono hbe.size)⟩
        · refine (szKind_any _ _ _ _ _ _ _ hlen hv1 (by omega)).mono ?_
          rw [if_neg hbig]
          rintro e w1 ⟨rfl, hb1⟩
          have hs : (kAt ks k).steps.length ≤ 1048576 := by omega
          go_wp2_with fail
          go_roundw
          case rel => exact ⟨k + 1, _, by omega, by go_num, rfl, by omega, by omega, all_succ hg hs, hbe.trans (hb1.mono hbe.size)⟩
          case measure => simp [intOf]; omega
      · obtain rfl : k = ks.length := by omega
        go_wp2_with fail
        go_ret
        exact ⟨v, rfl, hv2, .inr ⟨hv1, hk2, hg⟩, hbe⟩
theorem szRules_any (side : Int) (A : Option Addr) (c : Nat) (ks : List Kd) (left : Int) (w : World) (h : IsKinds w w.heap.size A ks) (hl : Lens ks) (h1 : 0 ≤ left) (h2 : left ≤ 1048576) :
    Calls Tryz.prog 6 #[.agg #[.int .i64 side, .slice A ks.length c], .int .i64 left] w fun e w' => SzPost w w' left ks e := by
  go_enter Tryz.func6, Tryz.ntmps6
  go_wp2_with fail
  refine (szKindS_any _ _ _ _ _ ((h.below (by repeat (first | exact Below.refl _ _ | assumption | (refine Below.alloc ?_ (by first | omega | (simp; done) | (simp; omega)) _) | (refine Below.setCell ?_ (by first | omega | (simp; done) | (simp; omega)) _) | refine Below.drew ?_))).more (by first | (simp; done) | (simp; omega) | omega)) hl h1 h2).mono ?_
  rintro e w1 ⟨v, rfl, hv, hor, hb⟩
  have hw := Below.trans (B := w.heap.size) (a := w) (by repeat (first | exact Below.refl _ _ | assumption | (refine Below.alloc ?_ (by first | omega | (simp; done) | (simp; omega)) _) | (refine Below.setCell ?_ (by first | omega | (simp; done) | (simp; omega)) _) | refine Below.drew ?_)) (hb.mono (by first | (simp; done) | (simp; omega) | omega))
  clear hb
  rcases hor with rfl | ⟨hv0, hsm⟩
  · go_wp2_with fail
    go_ret
    exact ⟨-1, rfl, by omega, .inl rfl, hw⟩
  · have HS := Lib.hid hsm
    clear hsm
    go_wp2_with fail
    go_ret
    exact ⟨v, rfl, hv, .inr ⟨hv0, HS.out⟩, hw⟩
theorem eqKindS_same (A A' : Option Addr) (c c' : Nat) (ks : List Kd) (w : World) (h : IsKinds w w.heap.size A ks) (h' : IsKinds w w.heap.size A' ks) (hsm : Small ks) :
    Calls Tryz.prog 35 #[.slice A ks.length c, .slice A' ks.length c'] w fun e w' => e = .returned (.bool true) ∧ Below w.heap.size w w' := by
  have hl := hsm.1
  have HSM := Lib.hid hsm
  clear hsm
  go_enter Tryz.func35, Tryz.ntmps35
  go_wp2_with fail
  go_loopw [5] (fun i wr => ∃ k : Nat, k ≤ ks.length ∧ i = .int .i64 k ∧ Below w.heap.size w wr) (fun i _ => ks.length - (intOf i).toNat)
  case atStart => exact ⟨0, by omega, rfl, Below.refl _ _⟩
  case round =>
    obtain ⟨k, hk, rfl, hbe⟩ := hrel
    by_cases hlt : k < ks.length
    · obtain ⟨b, off, rfl, hB, hc⟩ := h.below hbe (by omega)
      obtain ⟨S, cc, c0, c1, c2, hst⟩ := hc k hlt
      obtain ⟨b', off', rfl, hB', hc'⟩ := h'.below hbe (by omega)
      obtain ⟨S', cc', d0, d1, d2, hst'⟩ := hc' k hlt
      have hlen := HSM.out.2 k hlt
      clear hc hc'
      have hz := hbe.size
      have z1 : b < wr.heap.size := by omega
      have z2 : b' < wr.heap.size := by omega
      have hk1 : (k : Int) < (ks.length : Int) := by omega
      have hk2 : (0 : Int) ≤ (k : Int) := by omega
      have t1 := hst.more hz
      have t2 := hst'.more hz
      clear hst hst'
      go_wp2_with fail
      refine wp_region_below (W := wr) (by kernel_rfl) (by kernel_rfl) (Below.refl _ _) ?_
      repeat (first
        | (refine qs_skip (by rfl) ?_; simp only [Act.put, List.setIfInBounds_toArray, List.set_cons_zero, List.set_cons_succ])
        | (apply qs_take
           focus rfl
           focus (
             intro wq hwq
             obtain ⟨hcq, hfq⟩ := bcell hwq
             go_simp
             all_goals first
               | exact rfl
               | (go_at_call 60; refine (eqKind_same _ _ _ _ _ _ _ _ ((t1.below hwq).more hwq.size) ((t2.below hwq).more hwq.size) hlen).mono ?_; exact fun e w2 h => ⟨h.1, hwq.trans (h.2.mono hwq.size)⟩)
               | (exact ⟨trivial, rfl⟩))
           simp only [Act.put, List.setIfInBounds_toArray, List.set_cons_zero, List.set_cons_succ]))
      refine wpQuiet_nil ?_
      intro wq hwq
      go_wp2_with fail
      go_roundw
      case rel => exact ⟨k + 1, by omega, by go_num, hbe.trans (hwq.mono (by omega))⟩
      case measure => simp [intOf]; omega
    · obtain rfl : k = ks.length := by omega
      go_wp2_with fail
      go_ret
      exact ⟨rfl, hbe⟩
theorem eqRules_same (side : Int) (A A' : Option Addr) (c c' : Nat) (ks : List Kd) (w : World) (h : IsKinds w w.heap.size A ks) (h' : IsKinds w w.heap.size A' ks) (hsm : Small ks) :
    Calls Tryz.prog 13 #[.agg #[.int .i64 side, .slice A ks.length c], .agg #[.int .i64 side, .slice A' ks.length c']] w fun e w' => e = .returned (.bool true) ∧ Below w.heap.size w w' := by
  go_enter Tryz.func13, Tryz.ntmps13
  go_wp2_with fail
  refine (eqKindS_same _ _ _ _ _ _ ((h.below (by repeat (first | exact Below.refl _ _ | assumption | (refine Below.alloc ?_ (by first | omega | (simp; done) | (simp; omega)) _) | (refine Below.setCell ?_ (by first | omega | (simp; done) | (simp; omega)) _) | refine Below.drew ?_))).more (by first | (simp; done) | (simp; omega) | omega)) ((h'.below (by repeat (first | exact Below.refl _ _ | assumption | (refine Below.alloc ?_ (by first | omega | (simp; done) | (simp; omega)) _) | (refine Below.setCell ?_ (by first | omega | (simp; done) | (simp; omega)) _) | refine Below.drew ?_))).more (by first | (simp; done) | (simp; omega) | omega)) hsm).mono ?_
  rintro e w2 ⟨rfl, hb2⟩
  go_wp2_with fail
  go_ret
  exact ⟨rfl, Below.trans (by repeat (first | exact Below.refl _ _ | assumption | (refine Below.alloc ?_ (by first | omega | (simp; done) | (simp; omega)) _) | (refine Below.setCell ?_ (by first | omega | (simp; done) | (simp; omega)) _) | refine Below.drew ?_)) (hb2.mono (by first | (simp; done) | (simp; omega) | omega))⟩
end Go.Proofs.YtcgfklljbblhlaaGreatDoor.Ko
