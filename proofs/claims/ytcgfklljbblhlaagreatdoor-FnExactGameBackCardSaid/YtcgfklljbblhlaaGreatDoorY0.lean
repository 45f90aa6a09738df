/- Slices of men that a call has made: marking, holding. slices.Clone at men. Whether a move is legal: the program. Lists of moves that come in, and their conversions; games. Games that come in: their conversions, and what is known of one that was read as data. The counts of a game's positions: a map in memory (no program is named). The course of a game, by the program: its block; reach. The course of a game, by the program: how it stands. The course of a game, by the program: playing a move. A position in memory of its own, by the program. The course of a game, by the program: what it keeps. The course of a game, by the program; GameOk. GameOk, by the program. Games that come in, as one fact; the contracts of GameOk over it. -/
import Derived.Test.YtcgfklljbblhlaaGreatDoorMc
import Derived.Test.YtcgfklljbblhlaaGreatDoorMk
import Derived.Test.YtcgfklljbblhlaaGreatDoorIn
import Derived.Maps.AppendAt
import Derived.WalkSpells
import Derived.Test.YtcgfklljbblhlaaGreatDoorMg
import Derived.Test.YtcgfklljbblhlaaGreatDoorCb
import Derived.Test.YtcgfklljbblhlaaGreatDoorCr
import Derived.Test.YtcgfklljbblhlaaGreatDoorY8
import Derived.Test.YtcgfklljbblhlaaGreatDoorCp
import Derived.Test.YtcgfklljbblhlaaGreatDoorOpp
import Derived.Maps.OwnOps
import Derived.StringKeys
import Derived.Maps.Views
import Derived.Test.YtcgfklljbblhlaaGreatDoorPa
import Derived.Test.YtcgfklljbblhlaaGreatDoorY9
import Derived.Test.YtcgfklljbblhlaaGreatDoorY3
import Derived.Test.YtcgfklljbblhlaaGreatDoorMdv
import Derived.Test.YtcgfklljbblhlaaGreatDoorMa
import Derived.Deep.CutRange
import Derived.Test.YtcgfklljbblhlaaGreatDoorPk
namespace Go.Proofs.YtcgfklljbblhlaaGreatDoor.Ko
open Go.ChangeShapes Go.WideShapes Go.ChangeAt Go.RowKit Base Sq
set_option linter.unusedVariables false
set_option maxRecDepth 20000
attribute [local irreducible] wpQuiet

theorem MenA.span {lo hi lo' hi' : Nat} {w w' : World} {A : Option Addr} {l : List St} (h : MenA lo hi w A l) (hs : Span lo' hi' w w') (ho : hi ≤ lo' ∨ hi' ≤ lo) : MenA lo hi w' A l := fun hn => by
  obtain ⟨b, cs, rfl, h1, h2, h3, h4, h5⟩ := h hn
  exact ⟨b, cs, rfl, h1, h2, hs.blk h3 (by omega), h4, h5⟩
def marksM (k : Int) (n : Nat) : List St := (List.range n).map fun i : Nat => ⟨k + 3 * i, k + 3 * i + 1, k + 3 * i + 2⟩
theorem marksM_len (k : Int) (n : Nat) : (marksM k n).length = n := by simp [marksM]
theorem marksM_at {k : Int} {n i : Nat} (h : i < n) : stAt (marksM k n) i = ⟨k + 3 * i, k + 3 * i + 1, k + 3 * i + 2⟩ := by unfold stAt marksM; simp [List.getD_eq_getElem?_getD, h]

set_option maxHeartbeats 2000000 in
theorem markManA_any (lo hi : Nat) (A : Option Addr) (c : Nat) (l : List St) (k : Int) (w : World) (h : MenA lo hi w A l) (hl : l.length ≤ 1048576) (hk0 : 0 ≤ k) (hk1 : k ≤ 1000000000000000) :
    Calls Tryz.prog 39 #[.slice A l.length c, .int .i64 k] w fun e w' => e = .returned (.int .i64 (k + 3 * l.length)) ∧ MenA lo hi w' A (marksM k l.length) ∧ Span lo hi w w' := by
  rcases Nat.eq_zero_or_pos l.length with h0 | h0
  · rw [h0]
    clear h
    go_enter Tryz.func39, Tryz.ntmps39
    go_wp2_with fail
    go_loopw [1, 5] (fun x i wr => i = .int .i64 0 ∧ x = .int .i64 k ∧ wr = w) (fun _ i _ => 0)
    case atStart => exact ⟨rfl, rfl, rfl⟩
    case round =>
      obtain ⟨rfl, rfl, rfl⟩ := hrel
      go_wp2_with fail
      go_ret
      exact ⟨by simp, fun hn => by simp [marksM] at hn, Span.refl _ _ _⟩
  · obtain ⟨b, cs0, rfl, h1, h2, h3, h4, h5⟩ := h h0
    clear h h5
    go_enter Tryz.func39, Tryz.ntmps39
    go_wp2_with fail
    go_loopw [1, 5] (fun x i wr => ∃ (j : Nat) (cs : Array Value), j ≤ l.length ∧ i = .int .i64 j ∧ x = .int .i64 (k + 3 * j) ∧ Blk wr b cs 105 ∧ l.length * 3 ≤ cs.size ∧ Hid (StepsIn cs (marksM k l.length) j) ∧ Span lo hi w wr) (fun _ i _ => l.length - (intOf i).toNat)
    case atStart => exact ⟨0, cs0, by omega, rfl, by simp, h3, h4, Lib.hid (fun j hj => absurd hj (by omega)), Span.refl _ _ _⟩
    case round =>
      clear h3 h4
      obtain ⟨j, cs, hj, rfl, rfl, hB, hsz, hh, hS⟩ := hrel
      by_cases hlt : j < l.length
      · obtain ⟨o0, x0⟩ := old_cell (cs := cs) (i := j * 3) (by omega)
        obtain ⟨o1, x1⟩ := old_cell (cs := cs) (i := j * 3 + 1) (by omega)
        obtain ⟨o2, x2⟩ := old_cell (cs := cs) (i := j * 3 + 2) (by omega)
        have y0 := (hB.cell (j * 3)).trans x0
        have y1 := (hB.cell (j * 3 + 1)).trans x1
        have y2 := (hB.cell (j * 3 + 2)).trans x2
        have f0 := hB.free (j * 3)
        have f1 := hB.free (j * 3 + 1)
        have f2 := hB.free (j * 3 + 2)
        have HB2 := Lib.hid (((hB.set (j * 3) (.int .i64 (k + 3 * j))).set (j * 3 + 1) (.int .i64 (k + 3 * j + 1))).set (j * 3 + 2) (.int .i64 (k + 3 * j + 2)))
        have hn := hh.out.next (by omega)
        rw [marksM_at hlt] at hn
        have HN := Lib.hid hn
        have HSZ : Hid (l.length * 3 ≤ (((cs.setIfInBounds (j * 3) (.int .i64 (k + 3 * j))).setIfInBounds (j * 3 + 1) (.int .i64 (k + 3 * j + 1))).setIfInBounds (j * 3 + 2) (.int .i64 (k + 3 * j + 2))).size) := Lib.hid (by simpa using hsz)
        have HS2 := Lib.hid (((hS.setCell h1 h2 (j * 3) (.int .i64 (k + 3 * j))).setCell h1 h2 (j * 3 + 1) (.int .i64 (k + 3 * j + 1))).setCell h1 h2 (j * 3 + 2) (.int .i64 (k + 3 * j + 2)))
        clear x0 x1 x2 hn hB hS hh
        go_wp2_with fail
        go_roundw
        case rel =>
          refine ⟨j + 1, _, by omega, by go_num, by first | go_num | (congr 1; omega), ?_, HSZ.out, Lib.hid HN.out, ?_⟩
          · have := HB2.out; simpa [Int.add_assoc] using this
          · have := HS2.out; simpa [Int.add_assoc] using this
        case measure => simp [intOf]; omega
      · obtain rfl : j = l.length := by omega
        go_wp2_with fail
        go_ret
        exact ⟨rfl, fun _ => ⟨b, cs, rfl, h1, h2, hB, by rw [marksM_len]; exact hsz, by rw [marksM_len]; exact hh.out⟩, hS⟩
theorem markPosA_any (lo hi : Nat) (A : Option Addr) (c : Nat) (t : Int) (l : List St) (k : Int) (w : World) (h : MenA lo hi w A l) (hh : hi ≤ w.heap.size) (hl : l.length ≤ 1048576) (hk0 : 0 ≤ k) (hk1 : k ≤ 1000000000000000) :
    Calls Tryz.prog 17 #[.agg #[.int .i64 t, .slice A l.length c], .int .i64 k] w fun e w' => e = .returned (.int .i64 (k + 3 * l.length)) ∧ MenA lo hi w' A (marksM k l.length) ∧ Span lo hi w w' := by
  have hb0 := below_of w (.cells #[.int .i64 t, .slice A l.length c] 35)
  have HB0 := Lib.hid hb0
  have HK := Lib.hid (h.below (hb0.mono hh))
  clear h hb0
  go_enter Tryz.func17, Tryz.ntmps17
  go_wp2_with fail
  refine (markManA_any lo hi _ _ _ _ _ HK.out hl hk0 hk1).mono ?_
  rintro e w2 ⟨rfl, hm, hs⟩
  go_wp2_with fail
  go_ret
  exact ⟨rfl, hm, (Span.ofBelow HB0.out).trans hs⟩
set_option maxHeartbeats 2000000 in
theorem heldManA_any (A : Option Addr) (c n : Nat) (k : Int) (w : World) (h : IsSteps w w.heap.size A (marksM k n)) (hl : n ≤ 1048576) (hk0 : 0 ≤ k) (hk1 : k ≤ 1000000000000000) :
    Calls Tryz.prog 40 #[.slice A n c, .int .i64 k] w fun e w' => e = .returned (.int .i64 (k + 3 * n)) ∧ w = w' := by
  go_enter Tryz.func40, Tryz.ntmps40
  go_wp2_with fail
  go_loopw [1, 5] (fun x i wr => ∃ j : Nat, j ≤ n ∧ i = .int .i64 j ∧ x = .int .i64 (k + 3 * j) ∧ wr = w) (fun _ i _ => n - (intOf i).toNat)
  case atStart => exact ⟨0, by omega, rfl, by simp, rfl⟩
  case round =>
    obtain ⟨j, hj, rfl, rfl, rfl⟩ := hrel
    by_cases hlt : j < n
    · obtain ⟨b, off, rfl, hB, hc⟩ := h (by rw [marksM_len]; omega)
      obtain ⟨c0, c1, c2⟩ := hc j (by rw [marksM_len]; exact hlt)
      rw [marksM_at hlt] at c0 c1 c2
      clear hc
      go_wp2_with fail
      go_roundw
      case rel => exact ⟨j + 1, by omega, by go_num, by first | go_num | (congr 1; omega), by first | rfl | trivial⟩
      case measure => simp [intOf]; omega
    · obtain rfl : j = n := by omega
      go_wp2_with fail
      go_ret
      exact ⟨rfl, rfl⟩
theorem heldPosA_any (A : Option Addr) (c n : Nat) (t k : Int) (w : World) (h : IsSteps w w.heap.size A (marksM k n)) (hl : n ≤ 1048576) (hk0 : 0 ≤ k) (hk1 : k ≤ 1000000000000000) :
    Calls Tryz.prog 18 #[.agg #[.int .i64 t, .slice A n c], .int .i64 k] w fun e w' => e = .returned (.int .i64 (k + 3 * n)) ∧ Below w.heap.size w w' := by
  have hb0 := below_of w (.cells #[.int .i64 t, .slice A n c] 35)
  have HK := Lib.hid ((h.below hb0).more hb0.size)
  have HB0 := Lib.hid hb0
  clear h hb0
  have hd : decide (k + 3 * (n : Int) < 0) = false := decide_eq_false (by omega)
  go_enter Tryz.func18, Tryz.ntmps18
  go_wp2_with fail
  refine (heldManA_any _ _ _ _ _ HK.out hl hk0 hk1).mono ?_
  rintro e w2 ⟨rfl, rfl⟩
  go_wp2_with fail
  go_ret
  exact ⟨rfl, HB0.out⟩
end Go.Proofs.YtcgfklljbblhlaaGreatDoor.Ko

namespace Go.Proofs.YtcgfklljbblhlaaGreatDoor.Ko
open Go.ChangeShapes Go.WideShapes Go.ChangeAt Go.RowKit Base Sq
set_option linter.unusedVariables false
set_option maxRecDepth 20000
attribute [local irreducible] wpQuiet

set_option maxHeartbeats 2000000 in
theorem clone_any (M : Option Addr) (c : Nat) (l : List St) (w : World) (h : IsSteps w w.heap.size M l) (hl : l.length ≤ 1048576) (hp : 0 < l.length) :
    Calls Tryz.prog 86 #[.slice M l.length c] w fun e w' => ∃ A c', e = .returned (.slice A l.length c') ∧ MenA w.heap.size w'.heap.size w' A l ∧ Below w.heap.size w w' := by
  obtain ⟨b, off, rfl, hB, _⟩ := h hp
  obtain ⟨i0, hi, hz0, hz1, hz2⟩ := info_parts manInfo
  have hmax : 0 + l.length ≤ maxLen := by unfold maxLen; omega
  have hN := fun w' (hb : Below w.heap.size w w') => (h.below hb).news
  have HN := Lib.hid hN
  clear h hN
  have heq := fun (w : World) (a : Option Addr) (n c n' c' : Nat) => Lib.run_eql_slice_nil (P := Tryz.prog) w 33 105 a n c n' c' Tryz.underlying33
  go_enter Tryz.func86, Tryz.ntmps86
  go_wp2_with (at_builtin; refine wpList_append_own _ rfl _ _ 33 rfl w.heap.size 105 i0 (.agg #[.int .i64 0, .int .i64 0, .int .i64 0]) 3 24 Tryz.underlying33 hi hz0 hz1 hz2 rfl (by decide) _ 0 [] rfl ⟨rfl, .inr ⟨w.heap.size, 0, #[], rfl, Nat.le_refl _, Blk.new w #[] 105, Nat.le_refl _, Nat.zero_le _, rfl, rfl⟩⟩ ⟨b, off, none⟩ l.length c (cellsM l) rfl (cellsM_len l) (HN.out _ (below_of w _)) (cellsM_one l) hmax (by omega) (by simp) ?_; intro v' w7 hown' hgrow7 hnil7)
  have hbe : Below w.heap.size w w7 := (below_of w (.cells #[] 105)).grown hgrow7 (by simp) (fun k hk => Nat.le_of_eq (Option.some.inj (show some w.heap.size = some k from hk)))
  have hown2 : w7.ownsRow w.heap.size 105 3 v' l.length (cellsM l) := by simpa using hown'
  obtain ⟨A, c', rfl, hm⟩ := MenA.of hown2
  clear hown' hgrow7 hnil7
  go_wp2_with fail
  go_ret
  exact ⟨A, c', rfl, hm, hbe⟩
end Go.Proofs.YtcgfklljbblhlaaGreatDoor.Ko

namespace Go.Proofs.YtcgfklljbblhlaaGreatDoor.Ko
open Go.ChangeShapes Go.WideShapes Go.ChangeAt Go.RowKit Base Sq
set_option linter.unusedVariables false
set_option maxRecDepth 20000
attribute [local irreducible] wpQuiet

set_option maxHeartbeats 4000000 in
theorem isMove_any (side : Int) (A : Option Addr) (c : Nat) (ks : List Kd) (t : Int) (M : Option Addr) (cm : Nat) (l : List St) (f q : Int) (w : World) (hR : IsKinds w w.heap.size A ks) (hM : IsSteps w w.heap.size M l)
    (hok : rulesOk side ks = true) (hsh : shapeB side ks t l = true) :
    Calls Tryz.prog 65 #[.agg #[.int .i64 side, .slice A ks.length c], .agg #[.int .i64 t, .slice M l.length cm], .agg #[.int .i64 f, .int .i64 q]] w fun e w' => e = .returned (.bool (canB side ks t l f q)) ∧ Below w.heap.size w w' := by
  obtain ⟨hs, hk1, hk4, hkk, _⟩ := rulesOk_facts hok
  obtain ⟨⟨ht0, ht1⟩, hl4, _, _, hmen⟩ := shapeB_facts hsh
  have HMEN := Lib.hid hmen
  have HOK := Lib.hid hok
  have HSH := Lib.hid hsh
  have HSS := Lib.hid hs
  clear hs hkk hmen hok hsh
  go_enter Tryz.func65, Tryz.ntmps65
  go_wp2_with fail
  have hb0 : Below w.heap.size w (((w.alloc (.cells #[.int .i64 side, .slice A ks.length c] 40)).alloc (.cells #[.int .i64 t, .slice M l.length cm] 35)).alloc (.cells #[.int .i64 f, .int .i64 q] 58)) := (by repeat (first | exact Below.refl _ _ | assumption | (refine Below.alloc ?_ (by first | omega | (simp; done) | (simp; omega)) _) | (refine Below.setCell ?_ (by first | omega | (simp; done) | (simp; omega)) _) | refine Below.drew ?_))
  have p1 := ((Blk.new w #[.int .i64 side, .slice A ks.length c] 40).alloc (.cells #[.int .i64 t, .slice M l.length cm] 35)).alloc (.cells #[.int .i64 f, .int .i64 q] 58)
  have p2 := (Blk.new (w.alloc (.cells #[.int .i64 side, .slice A ks.length c] 40)) #[.int .i64 t, .slice M l.length cm] 35).alloc (.cells #[.int .i64 f, .int .i64 q] 58)
  have p3 := Blk.new ((w.alloc (.cells #[.int .i64 side, .slice A ks.length c] 40)).alloc (.cells #[.int .i64 t, .slice M l.length cm] 35)) #[.int .i64 f, .int .i64 q] 58
  simp only [World.size_alloc] at p2 p3
  generalize hW0 : ((w.alloc _).alloc _).alloc _ = W0 at *
  clear hW0
  refine (manAt_any _ _ _ _ _ ((hM.below hb0).more hb0.size) (by omega)).mono ?_
  rintro e w2 ⟨rfl, hb2⟩
  have p1' := p1.below hb2 p1.lt
  have p2' := p2.below hb2 p2.lt
  have p3' := p3.below hb2 p3.lt
  have hb0' := hb0.trans (hb2.mono hb0.size)
  have hR2 := (hR.below hb0').more hb0'.size
  have hM2 := (hM.below hb0').more hb0'.size
  obtain ⟨⟨r0, r1⟩, _⟩ := p1'.at2
  obtain ⟨⟨o0, o1⟩, _⟩ := p2'.at2
  obtain ⟨⟨m0, m1⟩, _⟩ := p3'.at2
  have z1 := p1'.lt
  have z2 := p2'.lt
  have z3 := p3'.lt
  have hz := hb0'.size
  clear p1 p2 p3 hb0 hb2
  by_cases hm : manV l f = -1
  · have HN := Lib.hid (canB_none (side := side) (ks := ks) (t := t) (q := q) hm)
    rw [hm]
    clear hm
    go_wp2_with fail
    refine wp_region_below (W := w2) (by kernel_rfl) (by kernel_rfl) (Below.refl _ _) ?_
    repeat (first
      | (refine qs_skip (by rfl) ?_; simp only [Act.put, List.setIfInBounds_toArray, List.set_cons_zero, List.set_cons_succ])
      | (apply qs_take
         focus rfl
         focus (
           intro wq hwq
           obtain ⟨hcq, hfq⟩ := bcell hwq
           go_simp
           all_goals first
             | exact rfl
             | (exact ⟨trivial, rfl⟩))
         simp only [Act.put, List.setIfInBounds_toArray, List.set_cons_zero, List.set_cons_succ]))
    refine wpQuiet_nil ?_
    intro wq hwq
    go_wp2_with fail
    go_ret
    exact ⟨rb HN.out.symm, hb0'.trans (hwq.mono hz)⟩
  · obtain ⟨h1, h2, h3⟩ := manV_far hm
    obtain ⟨n, hn⟩ : ∃ n : Nat, manV l f = (n : Int) := ⟨(manV l f).toNat, by omega⟩
    rw [hn] at h1 h2 hm
    simp only [Int.toNat_natCast] at h1 h2
    have HNN := Lib.hid hn
    rw [hn]
    clear hn hm h2 h3
    obtain ⟨b, off, rfl, hB, hc⟩ := hM2 (by omega)
    obtain ⟨s0, s1, s2⟩ := hc n h1
    obtain ⟨⟨x1, x2⟩, ⟨x3, x4⟩, ⟨x5, x6⟩, _⟩ := HMEN.out n h1
    have hne : ((n : Int) == -1) = false := by simp
    have HS2 : Hid (IsSteps w2 w2.heap.size (some ⟨b, off, none⟩) l) := Lib.hid hM2
    have HR2 := Lib.hid hR2
    clear hc hM2 hR2 hM hR
    by_cases hown : (stAt l n).dy = t
    · have hd : ((stAt l n).dy != t) = false := by simp [hown]
      have HOWN := Lib.hid hown
      clear hown
      go_wp2_with fail
      refine wp_region_below (W := w2) (by kernel_rfl) (by kernel_rfl) (Below.refl _ _) ?_
      repeat (first
        | (refine qs_skip (by rfl) ?_; simp only [Act.put, List.setIfInBounds_toArray, List.set_cons_zero, List.set_cons_succ])
        | (apply qs_take
           focus rfl
           focus (
             intro wq hwq
             obtain ⟨hcq, hfq⟩ := bcell hwq
             go_simp
             all_goals first
               | exact rfl
               | (exact ⟨trivial, rfl⟩))
           simp only [Act.put, List.setIfInBounds_toArray, List.set_cons_zero, List.set_cons_succ]))
      refine wpQuiet_nil ?_
      intro wq hwq
      have hbq := hb0'.trans (hwq.mono hz)
      have p1q := p1'.below hwq z1
      have p2q := p2'.below hwq z2
      have p3q := p3'.below hwq z3
      have hRq := (HR2.out.below hwq).more hwq.size
      have hMq := (HS2.out.below hwq).more hwq.size
      have hzq := hwq.size
      obtain ⟨b', off', hA, hB', hc'⟩ := hMq (by omega)
      obtain ⟨rfl, rfl⟩ : b = b' ∧ off = off' := by injection hA with hA; injection hA with h1 h2; exact ⟨h1, h2⟩
      obtain ⟨s0, s1, s2⟩ := hc' n h1
      obtain ⟨⟨r0, r1⟩, _⟩ := p1q.at2
      obtain ⟨⟨o0, o1⟩, _⟩ := p2q.at2
      obtain ⟨⟨m0, m1⟩, _⟩ := p3q.at2
      have y1 := p1q.lt
      have y2 := p2q.lt
      have y3 := p3q.lt
      have HRQ := Lib.hid hRq
      have HMQ : Hid (IsSteps wq wq.heap.size (some ⟨b, off, none⟩) l) := Lib.hid hMq
      have HBQ := Lib.hid hbq
      have hzz : w.heap.size ≤ wq.heap.size := by omega
      clear hc' hA hwq p1' p2' p3' p1q p2q p3q hRq hMq hbq hb0' z1 z2 z3 hz hzq hB HS2 HR2
      generalize hWQ : wq = W3 at *
      clear hWQ
      cases hh : hitsB side l (kOf ks ⟨(stAt l n).dx, (stAt l n).dy, (stAt l n).far⟩).steps (stAt l n).far q
      · have HH := Lib.hid hh
        have HN := Lib.hid (canB_miss (t := t) HNN.out hh)
        clear hh
        go_wp2_with fail
        refine wp_region_below (W := W3) (by kernel_rfl) (by kernel_rfl) (Below.refl _ _) ?_
        repeat (first
          | (refine qs_skip (by rfl) ?_; simp only [Act.put, List.setIfInBounds_toArray, List.set_cons_zero, List.set_cons_succ])
          | (apply qs_take
             focus rfl
             focus (
               intro wq hwq
               obtain ⟨hcq, hfq⟩ := bcell hwq
               go_simp
               all_goals first
                 | exact rfl
                 | (go_at_call 89; refine (hits_any _ _ _ _ _ _ _ _ _ _ _ _ ((HRQ.out.below hwq).more hwq.size) ((HMQ.out.below hwq).more hwq.size) HOK.out ⟨x1, x2⟩ ⟨x5, x6⟩ (by omega)).mono ?_; rw [HH.out]; exact fun e w2 h => ⟨h.1, hwq.trans (h.2.mono hwq.size)⟩)
                 | (exact ⟨trivial, rfl⟩))
             simp only [Act.put, List.setIfInBounds_toArray, List.set_cons_zero, List.set_cons_succ]))
        refine wpQuiet_nil ?_
        intro wq hwq
        go_wp2_with fail
        go_ret
        exact ⟨rb HN.out.symm, HBQ.out.trans (hwq.mono hzz)⟩
      · have HH := Lib.hid hh
        have HN := Lib.hid (canB_hit HNN.out HOWN.out hh)
        have HQ := Lib.hid (hitsB_in HSS.out ⟨x5, x6⟩ hh)
        clear hh
        go_wp2_with fail
        refine wp_region_below (W := W3) (by kernel_rfl) (by kernel_rfl) (Below.refl _ _) ?_
        repeat (first
          | (refine qs_skip (by rfl) ?_; simp only [Act.put, List.setIfInBounds_toArray, List.set_cons_zero, List.set_cons_succ])
          | (apply qs_take
             focus rfl
             focus (
               intro wq hwq
               obtain ⟨hcq, hfq⟩ := bcell hwq
               go_simp
               all_goals first
                 | exact rfl
                 | (go_at_call 89; refine (hits_any _ _ _ _ _ _ _ _ _ _ _ _ ((HRQ.out.below hwq).more hwq.size) ((HMQ.out.below hwq).more hwq.size) HOK.out ⟨x1, x2⟩ ⟨x5, x6⟩ (by omega)).mono ?_; rw [HH.out]; exact fun e w2 h => ⟨h.1, hwq.trans (h.2.mono hwq.size)⟩)
                 | (go_at_call 90; refine (mayGo_any _ _ _ _ _ _ _ _ _ _ _ ((HRQ.out.below hwq).more hwq.size) ((HMQ.out.below hwq).more hwq.size) HOK.out HSH.out h1 HQ.out).mono ?_; exact fun e w2 h => ⟨h.1, hwq.trans (h.2.mono hwq.size)⟩)
                 | (exact ⟨trivial, rfl⟩))
             simp only [Act.put, List.setIfInBounds_toArray, List.set_cons_zero, List.set_cons_succ]))
        refine wpQuiet_nil ?_
        intro wq hwq
        go_wp2_with fail
        go_ret
        exact ⟨rb HN.out.symm, HBQ.out.trans (hwq.mono hzz)⟩
    · have hd : ((stAt l n).dy != t) = true := by simp [hown]
      have HN := Lib.hid (canB_other (side := side) (ks := ks) (q := q) HNN.out hown)
      clear hown
      go_wp2_with fail
      refine wp_region_below (W := w2) (by kernel_rfl) (by kernel_rfl) (Below.refl _ _) ?_
      repeat (first
        | (refine qs_skip (by rfl) ?_; simp only [Act.put, List.setIfInBounds_toArray, List.set_cons_zero, List.set_cons_succ])
        | (apply qs_take
           focus rfl
           focus (
             intro wq hwq
             obtain ⟨hcq, hfq⟩ := bcell hwq
             go_simp
             all_goals first
               | exact rfl
               | (exact ⟨trivial, rfl⟩))
           simp only [Act.put, List.setIfInBounds_toArray, List.set_cons_zero, List.set_cons_succ]))
      refine wpQuiet_nil ?_
      intro wq hwq
      go_wp2_with fail
      go_ret
      exact ⟨rb HN.out.symm, hb0'.trans (hwq.mono hz)⟩

end Go.Proofs.YtcgfklljbblhlaaGreatDoor.Ko

namespace Go.Proofs.YtcgfklljbblhlaaGreatDoor.Ko
open Go.ChangeShapes Go.WideShapes Go.ChangeAt Go.RowKit Base Sq
set_option linter.unusedVariables false
set_option maxRecDepth 20000
attribute [local irreducible] wpQuiet

/-- the first k elements of a block are moves of the list -/
def GmvIn (cs : Array Value) (l : List Mv) (k : Nat) : Prop := ∀ i, i < k → cs[i * 2]? = some (.int .i64 (mvAt l i).1) ∧ cs[i * 2 + 1]? = some (.int .i64 (mvAt l i).2)
theorem GmvIn.next {cs : Array Value} {l : List Mv} {k : Nat} (h : GmvIn cs l k) (hs : k * 2 + 1 < cs.size) :
    GmvIn ((cs.setIfInBounds (k * 2) (.int .i64 (mvAt l k).1)).setIfInBounds (k * 2 + 1) (.int .i64 (mvAt l k).2)) l (k + 1) := by
  refine all_succ (fun i hi => ?_) ?_
  · obtain ⟨h1, h2⟩ := h i hi
    exact ⟨set_get (set_get h1 (by omega)) (by omega), set_get (set_get h2 (by omega)) (by omega)⟩
  · exact ⟨set_get (set_same (by omega)) (by omega), set_same (by simp; omega)⟩
theorem GmvIn.is {w : World} {g : Nat} {cs : Array Value} {T : TypeId} {l : List Mv} (h : GmvIn cs l l.length) (hb : Blk w g cs T) : InMvs w w.heap.size (some ⟨g, 0, none⟩) l.length l := fun hn =>
  ⟨g, 0, rfl, hb.lt, fun i hi => by
    obtain ⟨h1, h2⟩ := h i hi
    simp only [Nat.zero_add, hb.cell]
    exact ⟨h1, h2⟩⟩

/-- the slice is a new block, from B on, that holds the moves -/
def NewGmv (B : Nat) (w' : World) (g : Nat) (l : List Mv) : Prop := ∃ cs, B ≤ g ∧ Blk w' g cs 58 ∧ GmvIn cs l l.length
theorem NewGmv.is {B : Nat} {w' : World} {g : Nat} {l : List Mv} (h : NewGmv B w' g l) : InMvs w' w'.heap.size (some ⟨g, 0, none⟩) l.length l := by
  obtain ⟨cs, _, hb, hi⟩ := h; exact hi.is hb
theorem NewGmv.lt {B : Nat} {w : World} {g : Nat} {l : List Mv} (h : NewGmv B w g l) : g < w.heap.size := by obtain ⟨cs, _, hb, _⟩ := h; exact hb.lt
theorem NewGmv.other {B : Nat} {w' : World} {g : Nat} {l : List Mv} (h : NewGmv B w' g l) (a : Addr) (u : Value) (ha : a.block < B) : NewGmv B (w'.setCell a u) g l := by
  obtain ⟨cs, h1, hb, hi⟩ := h; exact ⟨cs, h1, hb.other a u (by omega), hi⟩
theorem NewGmv.below {B : Nat} {w' w2 : World} {g : Nat} {l : List Mv} (h : NewGmv B w' g l) (hb : Below w'.heap.size w' w2) : NewGmv B w2 g l := by
  obtain ⟨cs, h1, hk, hi⟩ := h; exact ⟨cs, h1, hk.below hb hk.lt, hi⟩
theorem NewGmv.from_ {B B0 : Nat} {w' : World} {g : Nat} {l : List Mv} (h : NewGmv B w' g l) (hb : B0 ≤ B) : NewGmv B0 w' g l := by
  obtain ⟨cs, h1, hk, hi⟩ := h; exact ⟨cs, by omega, hk, hi⟩
def GmvPost (W w' : World) (l : List Mv) (e : Ending) : Prop := ∃ g, e = .returned (.slice (some ⟨g, 0, none⟩) l.length l.length) ∧ NewGmv W.heap.size w' g l ∧ Below W.heap.size W w'

theorem moveInfoG : (Tryz.prog.info? 58).map (fun i => (i.zero, i.size, i.bytes)) = some (some (.agg #[.int .i64 0, .int .i64 0]), 2, 16) := by kernel_rfl

theorem toMoveG_any (a b : Int) (w : World) :
    Calls Tryz.prog 23 #[.agg #[.int .i64 a, .int .i64 b]] w fun e w' => e = .returned (.agg #[.int .i64 a, .int .i64 b]) ∧ Below w.heap.size w w' := by
  go_enter Tryz.func23, Tryz.ntmps23
  go_wp2
  refine bodyPost_ret (v := .agg #[.int .i64 a, .int .i64 b]) (by simp [results, Tryz.results23, go_sem]) rfl ⟨rfl, ?_⟩
  exact (by repeat (first | exact Below.refl _ _ | assumption | (refine Below.alloc ?_ (by first | omega | (simp; done) | (simp; omega)) _) | (refine Below.setCell ?_ (by first | omega | (simp; done) | (simp; omega)) _) | refine Below.drew ?_))

set_option maxHeartbeats 1000000 in
theorem toMoveSG_any (A : Option Addr) (c : Nat) (l : List Mv) (w : World) (h : InMvs w w.heap.size A l.length l) (hl : l.length ≤ 1048576) :
    Calls Tryz.prog 32 #[.slice A l.length c] w fun e w' => GmvPost w w' l e := by
  obtain ⟨i0, hi, hz0, hz1, hz2⟩ := info_parts moveInfoG
  go_enter Tryz.func32, Tryz.ntmps32
  go_wp2_with (at_make; refine wpList_make_full _ rfl _ _ _ rfl w.heap.size 58 i0 (.agg #[.int .i64 0, .int .i64 0]) 2 Tryz.underlying42 hi hz0 hz1 .i64 .i64 _ _ l.length (by rfl) (by rfl) rfl rfl (by rw [hz2]; omega) (by unfold maxLen; omega) (Nat.le_refl _) ?_; intro w1 hown hgrow)
  obtain ⟨cur, hblk, hsz⟩ := blk_of_own hown
  have hbe := below_of_grown hgrow (Nat.le_refl _)
  clear hown hgrow hi hz0 hz1 hz2
  have HS := Lib.hid hsz
  clear hsz
  go_loopw [4] (fun i wr => ∃ (k : Nat) (cs : Array Value), k ≤ l.length ∧ i = .int .i64 k ∧ cs.size = l.length * 2 ∧ GmvIn cs l k ∧ Blk wr w.heap.size cs 58 ∧ Below w.heap.size w wr) (fun i _ => l.length - (intOf i).toNat)
  case atStart => exact ⟨0, cur, by omega, rfl, HS.out, fun j hj => absurd hj (by omega), hblk, hbe⟩
  case round =>
    clear hblk hbe HS
    obtain ⟨k, cs, hk, rfl, hsz, hin, hb, hbe⟩ := hrel
    have HS := Lib.hid hsz
    by_cases hlt : k < l.length
    · obtain ⟨b, off, rfl, hB, hc⟩ := h.below hbe (by omega)
      obtain ⟨c0, c1⟩ := hc k hlt
      clear hc
      obtain ⟨o0, x0⟩ := old_cell (cs := cs) (i := k * 2) (by omega)
      obtain ⟨o1, x1⟩ := old_cell (cs := cs) (i := k * 2 + 1) (by omega)
      have y0 := (hb.cell (k * 2)).trans x0
      have y1 := (hb.cell (k * 2 + 1)).trans x1
      have f0 := hb.free (k * 2)
      have f1 := hb.free (k * 2 + 1)
      have z1 := hb.lt
      clear hsz x0 x1
      go_wp2_with fail
      refine (toMoveG_any _ _ _).mono ?_
      rintro e w2 ⟨rfl, hb2⟩
      obtain ⟨hc, hf⟩ := bcell hb2
      go_wp2_with fail
      go_roundw
      case rel => exact ⟨k + 1, _, by omega, by go_num, by simp only [Array.size_setIfInBounds]; exact HS.out, hin.next (by have := HS.out; omega), ((hb.below hb2 z1).set _ _).set _ _, ((hbe.trans (hb2.mono (by omega))).setCell (by simp) _).setCell (by simp) _⟩
      case measure => simp [intOf]; omega
    · obtain rfl : k = l.length := by omega
      go_wp2_with fail
      go_ret
      exact ⟨_, rfl, ⟨cs, Nat.le_refl _, hb, hin⟩, hbe⟩

theorem szMoveSG_any (A : Option Addr) (c n : Nat) (left : Int) (w : World) (hn : n ≤ 9223372036854775807) (h1 : 0 ≤ left) (h2 : left ≤ 1048576) :
    Calls Tryz.prog 27 #[.slice A n c, .int .i64 left] w fun e w' => e = .returned (.int .i64 (if left - n < 0 then -1 else left - n)) ∧ w = w' := by
  by_cases h : left - (n : Int) < 0
  · rw [if_pos h]
    go_enter Tryz.func27, Tryz.ntmps27
    go_wp2_with fail
    go_ret
    exact ⟨rfl, rfl⟩
  · rw [if_neg h]
    go_enter Tryz.func27, Tryz.ntmps27
    go_wp2_with fail
    go_ret
    exact ⟨rfl, rfl⟩

theorem eqMoveG_same (a b : Int) (w : World) :
    Calls Tryz.prog 61 #[.agg #[.int .i64 a, .int .i64 b], .agg #[.int .i64 a, .int .i64 b]] w fun e w' => e = .returned (.bool true) ∧ Below w.heap.size w w' := by
  go_enter Tryz.func61, Tryz.ntmps61
  go_wp2
  go_ret
  exact ⟨rfl, (by repeat (first | exact Below.refl _ _ | assumption | (refine Below.alloc ?_ (by first | omega | (simp; done) | (simp; omega)) _) | (refine Below.setCell ?_ (by first | omega | (simp; done) | (simp; omega)) _) | refine Below.drew ?_))⟩
theorem eqMoveSG_same (A A' : Option Addr) (c c' : Nat) (l : List Mv) (w : World) (h : InMvs w w.heap.size A l.length l) (h' : InMvs w w.heap.size A' l.length l) (hl : l.length ≤ 1048576) :
    Calls Tryz.prog 36 #[.slice A l.length c, .slice A' l.length c'] w fun e w' => e = .returned (.bool true) ∧ Below w.heap.size w w' := by
  go_enter Tryz.func36, Tryz.ntmps36
  go_wp2_with fail
  go_loopw [5] (fun i wr => ∃ k : Nat, k ≤ l.length ∧ i = .int .i64 k ∧ Below w.heap.size w wr) (fun i _ => l.length - (intOf i).toNat)
  case atStart => exact ⟨0, by omega, rfl, Below.refl _ _⟩
  case round =>
    obtain ⟨k, hk, rfl, hbe⟩ := hrel
    by_cases hlt : k < l.length
    · obtain ⟨b, off, rfl, hB, hc⟩ := h.below hbe (by omega)
      obtain ⟨c0, c1⟩ := hc k hlt
      obtain ⟨b', off', rfl, hB', hc'⟩ := h'.below hbe (by omega)
      obtain ⟨d0, d1⟩ := hc' k hlt
      clear hc hc'
      have hz := hbe.size
      have z1 : b < wr.heap.size := by omega
      have z2 : b' < wr.heap.size := by omega
      have hk1 : (k : Int) < (l.length : Int) := by omega
      have hk2 : (0 : Int) ≤ (k : Int) := by omega
      go_wp2_with fail
      refine wp_region_below (W := wr) (by kernel_rfl) (by kernel_rfl) (Below.refl _ _) ?_
      repeat (first
        | (refine qs_skip (by rfl) ?_; simp only [Act.put, List.setIfInBounds_toArray, List.set_cons_zero, List.set_cons_succ])
        | (apply qs_take
           focus rfl
           focus (
             intro wq hwq
             obtain ⟨hcq, hfq⟩ := bcell hwq
             go_simp
             all_goals first
               | exact rfl
               | (go_at_call 61; refine (eqMoveG_same _ _ _).mono ?_; exact fun e w2 h => ⟨h.1, hwq.trans (h.2.mono hwq.size)⟩)
               | (exact ⟨trivial, rfl⟩))
           simp only [Act.put, List.setIfInBounds_toArray, List.set_cons_zero, List.set_cons_succ]))
      refine wpQuiet_nil ?_
      intro wq hwq
      go_wp2_with fail
      go_roundw
      case rel => exact ⟨k + 1, by omega, by go_num, hbe.trans (hwq.mono (by omega))⟩
      case measure => simp [intOf]; omega
    · obtain rfl : k = l.length := by omega
      go_wp2_with fail
      go_ret
      exact ⟨rfl, hbe⟩
end Go.Proofs.YtcgfklljbblhlaaGreatDoor.Ko

namespace Go.Proofs.YtcgfklljbblhlaaGreatDoor.Ko
open Go.ChangeShapes Go.WideShapes Go.ChangeAt Go.RowKit Base Sq
set_option linter.unusedVariables false
set_option maxRecDepth 20000
attribute [local irreducible] wpQuiet

def GamePost (W w' : World) (t : Int) (l : List St) (ms : List Mv) (e : Ending) : Prop :=
  ∃ g c' g2, e = .returned (.agg #[.int .i64 t, .slice (some ⟨g, 0, none⟩) l.length c', .slice (some ⟨g2, 0, none⟩) ms.length ms.length]) ∧ NewMen W.heap.size w' g l ∧ NewGmv W.heap.size w' g2 ms ∧ Below W.heap.size W w'
theorem szGame_any (t : Int) (A : Option Addr) (c n : Nat) (M : Option Addr) (cm k : Nat) (left : Int) (w : World) (hn : n ≤ 9223372036854775807) (hk : k ≤ 9223372036854775807) (h1 : 0 ≤ left) (h2 : left ≤ 1048576) :
    Calls Tryz.prog 7 #[.agg #[.int .i64 t, .slice A n c, .slice M k cm], .int .i64 left] w fun e w' => e = .returned (.int .i64 (if left - n < 0 then -1 else if left - n - k < 0 then -1 else left - n - k)) ∧ Below w.heap.size w w' := by
  have hA := below_of w (.cells #[.int .i64 t, .slice A n c, .slice M k cm] 30)
  have p1 := Blk.new w #[.int .i64 t, .slice A n c, .slice M k cm] 30
  by_cases h : left - (n : Int) < 0
  · rw [if_pos h]
    go_enter Tryz.func7, Tryz.ntmps7
    go_wp2_with fail
    refine (szPos_any _ _ _ _ _ _ hn h1 h2).mono ?_
    rw [if_pos h]
    rintro e w2 ⟨rfl, hb2⟩
    have HB := Lib.hid (hA.trans (hb2.mono hA.size))
    clear hb2 hA p1
    go_wp2_with fail
    go_ret
    exact ⟨rfl, HB.out⟩
  · rw [if_neg h]
    have HH := Lib.hid h
    obtain ⟨R, hR⟩ : ∃ R, R = (if left - (n : Int) - (k : Int) < 0 then (-1 : Int) else left - (n : Int) - (k : Int)) := ⟨_, rfl⟩
    rw [← hR]
    have HRR := Lib.hid (show (if left - (n : Int) - (k : Int) < 0 then (-1 : Int) else left - (n : Int) - (k : Int)) = R from hR.symm)
    clear hR
    go_enter Tryz.func7, Tryz.ntmps7
    go_wp2_with fail
    refine (szPos_any _ _ _ _ _ _ hn h1 h2).mono ?_
    rw [if_neg (show ¬ (left - (n : Int) < 0) by have := HH.out; omega)]
    rintro e w2 ⟨rfl, hb2⟩
    have HB := Lib.hid (hA.trans (hb2.mono hA.size))
    obtain ⟨⟨a0, a1, a2⟩, _⟩ := (p1.below hb2 p1.lt).at3
    clear hb2 hA p1
    have hl0 : 0 ≤ left - (n : Int) := by omega
    have hl2 : left - (n : Int) ≤ 1048576 := by omega
    obtain ⟨lf, hlf⟩ : ∃ lf, lf = left - (n : Int) := ⟨_, rfl⟩
    rw [← hlf] at hl0 hl2 ⊢
    have HLF := Lib.hid hlf
    clear hlf
    by_cases h3 : lf - (k : Int) < 0
    · have HX := Lib.hid (show (if left - (n : Int) - (k : Int) < 0 then (-1 : Int) else left - (n : Int) - (k : Int)) = -1 by rw [← HLF.out]; exact if_pos h3)
      have HSZ := Lib.hid (show ∀ w', Calls Tryz.prog 27 #[.slice M k cm, .int .i64 lf] w' fun e w2 => e = .returned (.int .i64 (-1)) ∧ w' = w2 from fun w' => by
        have := szMoveSG_any M cm k lf w' hk hl0 hl2
        rwa [if_pos h3] at this)
      clear h3
      go_wp2_with fail
      refine (HSZ.out _).mono ?_
      rintro e w' ⟨rfl, rfl⟩
      go_wp2_with fail
      go_ret
      exact ⟨ri (by rw [← HRR.out, HX.out]), HB.out⟩
    · obtain ⟨v, hv⟩ : ∃ v, v = lf - (k : Int) := ⟨_, rfl⟩
      have HX := Lib.hid (show (if left - (n : Int) - (k : Int) < 0 then (-1 : Int) else left - (n : Int) - (k : Int)) = v by rw [← HLF.out, hv]; exact if_neg h3)
      have HSZ := Lib.hid (show ∀ w', Calls Tryz.prog 27 #[.slice M k cm, .int .i64 lf] w' fun e w2 => e = .returned (.int .i64 v) ∧ w' = w2 from fun w' => by
        have := szMoveSG_any M cm k lf w' hk hl0 hl2
        rwa [if_neg h3, ← hv] at this)
      have hv0 : 0 ≤ v := by omega
      have hd : decide (v < 0) = false := decide_eq_false (by omega)
      clear h3 hv
      go_wp2_with fail
      refine (HSZ.out _).mono ?_
      rintro e w' ⟨rfl, rfl⟩
      go_wp2_with fail
      go_ret
      exact ⟨ri (by rw [← HRR.out, HX.out]), HB.out⟩
theorem eqGame_same (t : Int) (A A' : Option Addr) (c c' : Nat) (l : List St) (M M' : Option Addr) (cm cm' : Nat) (ms : List Mv) (w : World) (h : IsSteps w w.heap.size A l) (h' : IsSteps w w.heap.size A' l) (hm : InMvs w w.heap.size M ms.length ms) (hm' : InMvs w w.heap.size M' ms.length ms) (hl : l.length ≤ 1048576) (hlm : ms.length ≤ 1048576) :
    Calls Tryz.prog 14 #[.agg #[.int .i64 t, .slice A l.length c, .slice M ms.length cm], .agg #[.int .i64 t, .slice A' l.length c', .slice M' ms.length cm']] w fun e w' => e = .returned (.bool true) ∧ Below w.heap.size w w' := by
  have hA : Below w.heap.size w ((w.alloc (.cells #[.int .i64 t, .slice A l.length c, .slice M ms.length cm] 44)).alloc (.cells #[.int .i64 t, .slice A' l.length c', .slice M' ms.length cm'] 44)) := (by repeat (first | exact Below.refl _ _ | assumption | (refine Below.alloc ?_ (by first | omega | (simp; done) | (simp; omega)) _) | (refine Below.setCell ?_ (by first | omega | (simp; done) | (simp; omega)) _) | refine Below.drew ?_))
  have p1 := (Blk.new w #[.int .i64 t, .slice A l.length c, .slice M ms.length cm] 44).alloc (.cells #[.int .i64 t, .slice A' l.length c', .slice M' ms.length cm'] 44)
  have p2 := Blk.new (w.alloc (.cells #[.int .i64 t, .slice A l.length c, .slice M ms.length cm] 44)) #[.int .i64 t, .slice A' l.length c', .slice M' ms.length cm'] 44
  simp only [World.size_alloc] at p2
  go_enter Tryz.func14, Tryz.ntmps14
  go_wp2_with fail
  generalize hW0 : (w.alloc _).alloc _ = W0 at *
  clear hW0
  refine (eqPos_same _ _ _ _ _ _ _ ((h.below hA).more hA.size) ((h'.below hA).more hA.size) hl).mono ?_
  rintro e w2 ⟨rfl, hb2⟩
  have hB := hA.trans (hb2.mono hA.size)
  obtain ⟨⟨a0, a1, a2⟩, _⟩ := (p1.below hb2 p1.lt).at3
  obtain ⟨⟨c0, c1, c2⟩, _⟩ := (p2.below hb2 p2.lt).at3
  clear p1 p2 hA hb2
  go_wp2_with fail
  refine (eqMoveSG_same _ _ _ _ _ _ ((hm.below hB).more hB.size) ((hm'.below hB).more hB.size) hlm).mono ?_
  rintro e w3 ⟨rfl, hb3⟩
  have HB := Lib.hid (hB.trans (hb3.mono hB.size))
  clear hb3 hB
  go_wp2_with fail
  go_ret
  exact ⟨rfl, HB.out⟩
set_option maxHeartbeats 4000000 in
theorem toGame_any (t : Int) (A : Option Addr) (c : Nat) (l : List St) (M : Option Addr) (cm : Nat) (ms : List Mv) (w : World) (h : IsSteps w w.heap.size A l) (hm : InMvs w w.heap.size M ms.length ms) (hl : l.length ≤ 1048576) (hlm : ms.length ≤ 1048576) :
    Calls Tryz.prog 10 #[.agg #[.int .i64 t, .slice A l.length c, .slice M ms.length cm]] w fun e w' => GamePost w w' t l ms e := by
  have hb0 : Below w.heap.size w (((w.alloc (.cells #[.int .i64 t, .slice A l.length c, .slice M ms.length cm] 30)).alloc (.cells #[.int .i64 0, .slice none 0 0, .slice none 0 0] 44)).alloc (.cells #[.int .i64 0, .slice none 0 0, .slice none 0 0] 44)) := (by repeat (first | exact Below.refl _ _ | assumption | (refine Below.alloc ?_ (by first | omega | (simp; done) | (simp; omega)) _) | (refine Below.setCell ?_ (by first | omega | (simp; done) | (simp; omega)) _) | refine Below.drew ?_))
  have p1 := ((Blk.new w #[.int .i64 t, .slice A l.length c, .slice M ms.length cm] 30).alloc (.cells #[.int .i64 0, .slice none 0 0, .slice none 0 0] 44)).alloc (.cells #[.int .i64 0, .slice none 0 0, .slice none 0 0] 44)
  have p2 := (Blk.new (w.alloc (.cells #[.int .i64 t, .slice A l.length c, .slice M ms.length cm] 30)) #[.int .i64 0, .slice none 0 0, .slice none 0 0] 44).alloc (.cells #[.int .i64 0, .slice none 0 0, .slice none 0 0] 44)
  have p3 := Blk.new ((w.alloc (.cells #[.int .i64 t, .slice A l.length c, .slice M ms.length cm] 30)).alloc (.cells #[.int .i64 0, .slice none 0 0, .slice none 0 0] 44)) #[.int .i64 0, .slice none 0 0, .slice none 0 0] 44
  simp only [World.size_alloc] at p2 p3
  have hz0 : (((w.alloc (.cells #[.int .i64 t, .slice A l.length c, .slice M ms.length cm] 30)).alloc (.cells #[.int .i64 0, .slice none 0 0, .slice none 0 0] 44)).alloc (.cells #[.int .i64 0, .slice none 0 0, .slice none 0 0] 44)).heap.size = w.heap.size + 1 + 1 + 1 := by simp only [World.size_alloc]
  go_enter Tryz.func10, Tryz.ntmps10
  go_wp2_with fail
  generalize hW0 : ((w.alloc _).alloc _).alloc _ = W0 at *
  clear hW0
  refine (toPos_any t A c l W0 ((h.below hb0).more hb0.size) hl).mono ?_
  rintro e w2 ⟨g, c', rfl, hm2, hb2⟩
  have q1 := p1.below hb2 p1.lt
  have q2 := p2.below hb2 p2.lt
  have q3 := p3.below hb2 p3.lt
  have hz2 := hb2.size
  have hgz := hm2.lt
  have hbe := hb0.trans (hb2.mono hb0.size)
  obtain ⟨⟨a0, a1, a2⟩, _⟩ := q1.at3
  obtain ⟨⟨o0, o1, o2⟩, ⟨o3, o4, o5⟩⟩ := q3.at3
  have n1 := (q1.other ⟨w.heap.size + 1 + 1, 0, none⟩ (.int .i64 t) (by show w.heap.size ≠ w.heap.size + 1 + 1; omega)).other ⟨w.heap.size + 1 + 1, 1, none⟩ (.slice (some ⟨g, 0, none⟩) l.length c') (by show w.heap.size ≠ w.heap.size + 1 + 1; omega)
  have n2 := (q2.other ⟨w.heap.size + 1 + 1, 0, none⟩ (.int .i64 t) (by show w.heap.size + 1 ≠ w.heap.size + 1 + 1; omega)).other ⟨w.heap.size + 1 + 1, 1, none⟩ (.slice (some ⟨g, 0, none⟩) l.length c') (by show w.heap.size + 1 ≠ w.heap.size + 1 + 1; omega)
  have n3 := (q3.set 0 (.int .i64 t)).set 1 (.slice (some ⟨g, 0, none⟩) l.length c')
  have m3 := (hm2.other ⟨w.heap.size + 1 + 1, 0, none⟩ (.int .i64 t) (by show w.heap.size + 1 + 1 < W0.heap.size; omega)).other ⟨w.heap.size + 1 + 1, 1, none⟩ (.slice (some ⟨g, 0, none⟩) l.length c') (by show w.heap.size + 1 + 1 < W0.heap.size; omega)
  have b3 := (hbe.setCell (p := ⟨w.heap.size + 1 + 1, 0, none⟩) (by show w.heap.size ≤ w.heap.size + 1 + 1; omega) (.int .i64 t)).setCell (p := ⟨w.heap.size + 1 + 1, 1, none⟩) (by show w.heap.size ≤ w.heap.size + 1 + 1; omega) (.slice (some ⟨g, 0, none⟩) l.length c')
  have hz3 : ((w2.setCell ⟨w.heap.size + 1 + 1, 0, none⟩ (.int .i64 t)).setCell ⟨w.heap.size + 1 + 1, 1, none⟩ (.slice (some ⟨g, 0, none⟩) l.length c')).heap.size = w2.heap.size := by rw [size_set, size_set]
  clear q1 q2 q3 p1 p2 p3 hm2 hb2 hb0
  go_wp2_with fail
  generalize hW3 : World.setCell _ _ _ = w3 at *
  clear hW3 hbe
  refine (toMoveSG_any M cm ms w3 ((hm.below b3).more b3.size) hlm).mono ?_
  rintro e w4 ⟨g2, rfl, hm4, hb4⟩
  have r2 := n2.below hb4 n2.lt
  have r3 := n3.below hb4 n3.lt
  have r3 : Blk w4 (w.heap.size + 1 + 1) #[.int .i64 t, .slice (some ⟨g, 0, none⟩) l.length c', .slice none 0 0] 44 := r3
  have m4 := m3.below hb4
  have hz4 := hb4.size
  have b4 := b3.trans (hb4.mono b3.size)
  clear a0 a1 a2 o0 o1 o2 o3 o4 o5
  obtain ⟨⟨o0, o1, o2⟩, ⟨o3, o4, o5⟩⟩ := r3.at3
  obtain ⟨⟨u0, u1, u2⟩, ⟨u3, u4, u5⟩⟩ := r2.at3
  go_wp2_with fail
  refine bodyPost_ret (v := .agg #[.int .i64 t, .slice (some ⟨g, 0, none⟩) l.length c', .slice (some ⟨g2, 0, none⟩) ms.length ms.length]) ?_ rfl ⟨g, c', g2, rfl, ?_, ?_, ?_⟩
  · obtain ⟨⟨d0, d1, d2⟩, _⟩ := ((r2.other ⟨w.heap.size + 1 + 1, 2, none⟩ (.slice (some ⟨g2, 0, none⟩) ms.length ms.length) (by show w.heap.size + 1 ≠ w.heap.size + 1 + 1; omega)).set3 (.int .i64 t) (.slice (some ⟨g, 0, none⟩) l.length c') (.slice (some ⟨g2, 0, none⟩) ms.length ms.length)).at3
    simp [results, Tryz.results10, go_sem, d0, d1, d2]
  · exact ((((m4.other _ _ (by show w.heap.size + 1 + 1 < W0.heap.size; omega)).other _ _ (by show w.heap.size + 1 < W0.heap.size; omega)).other _ _ (by show w.heap.size + 1 < W0.heap.size; omega)).other _ _ (by show w.heap.size + 1 < W0.heap.size; omega)).from_ (by omega)
  · exact ((((hm4.other _ _ (by show w.heap.size + 1 + 1 < w3.heap.size; omega)).other _ _ (by show w.heap.size + 1 < w3.heap.size; omega)).other _ _ (by show w.heap.size + 1 < w3.heap.size; omega)).other _ _ (by show w.heap.size + 1 < w3.heap.size; omega)).from_ (by omega)
  · exact (((b4.setCell (by show w.heap.size ≤ w.heap.size + 1 + 1; omega) _).setCell (by show w.heap.size ≤ w.heap.size + 1; omega) _).setCell (by show w.heap.size ≤ w.heap.size + 1; omega) _).setCell (by show w.heap.size ≤ w.heap.size + 1; omega) _
end Go.Proofs.YtcgfklljbblhlaaGreatDoor.Ko
namespace Go.Proofs.YtcgfklljbblhlaaGreatDoor.Opn
open Go.ChangeShapes Go.WideShapes Go.ChangeAt Go.RowKit Base Ko Go.Deep
set_option linter.unusedVariables false
section
variable {H : Type} {enc : TypeId × Value → H} {w : World}
theorem cMove : Tryz.prog.cellsOf 56 = 2 := by kernel_rfl
theorem cMoves : Tryz.prog.cellsOf 28 = 1 := by kernel_rfl
theorem cGame : Tryz.prog.cellsOf 30 = 3 := by kernel_rfl
theorem rd_move {fuel : Nat} {cs : List Value} {x : DataW H × List MemPlace} (h : DataW.trod enc Tryz.prog w 0 (fun _ => true) true fuel 56 cs = some x) :
    ∃ s : Mv, cs = [.int .i64 s.1, .int .i64 s.2] := by
  obtain ⟨c0, c1, y0, y1, m, rfl, h0, h1⟩ := rd2 Tryz.underlying56 (by kernel_rfl) cMove h
  obtain ⟨a, rfl, _⟩ := rd_int Tryz.underlying3 h0
  obtain ⟨b, rfl, _⟩ := rd_int Tryz.underlying3 h1
  exact ⟨(a, b), rfl⟩
theorem rd_moves {fuel : Nat} {c : Value} {x : DataW H × List MemPlace} (h : DataW.trod enc Tryz.prog w 0 (fun _ => true) true fuel 28 [c] = some x) :
    ∃ A cap, ∃ l : List Mv, c = .slice A l.length cap ∧ l.length ≤ maxLen ∧ InMvs w w.heap.size A l.length l := by
  obtain ⟨A, len, cap, hcs, hl, hm, hi⟩ := rd_slice Tryz.underlying28 cMove (by omega) h
  simp at hcs
  subst hcs
  rcases Nat.eq_zero_or_pos len with rfl | h0
  · exact ⟨A, cap, [], rfl, Nat.zero_le _, fun h => absurd h (by simp)⟩
  · obtain ⟨b, off, rfl, hb, he⟩ := hi h0
    obtain ⟨f, hf⟩ := choose_lt (p := fun i (s : Mv) => w.cell? ⟨b, off + i * 2, none⟩ = some (.int .i64 s.1) ∧ w.cell? ⟨b, off + i * 2 + 1, none⟩ = some (.int .i64 s.2)) (n := len) (fun i hi' => by
      obtain ⟨cs', m, y, _, hat, ht⟩ := he i hi'
      obtain ⟨s, rfl⟩ := rd_move ht
      exact ⟨s, hat 0 (by omega), hat 1 (by omega)⟩)
    refine ⟨_, cap, (List.range len).map f, by simp, by simp; omega, fun _ => ⟨b, off, rfl, hb, fun i hi' => ?_⟩⟩
    have hi2 : i < len := by simpa using hi'
    unfold mvAt
    rw [map_range_getD f len i _ hi2]
    exact hf i hi2
set_option maxRecDepth 100000 in
theorem rd_game {fuel : Nat} {cs : List Value} {x : DataW H × List MemPlace} (h : DataW.trod enc Tryz.prog w 0 (fun _ => true) true fuel 30 cs = some x) :
    ∃ t A cap, ∃ l : List St, ∃ M cm, ∃ ms : List Mv, cs = [.int .i64 t, .slice A l.length cap, .slice M ms.length cm] ∧ l.length ≤ maxLen ∧ ms.length ≤ maxLen ∧ IsSteps w w.heap.size A l ∧ InMvs w w.heap.size M ms.length ms := by
  obtain ⟨ys, m, _, _, hl, hlen, hf⟩ := DataW.trod_struct Tryz.underlying30 h
  rw [cGame] at hl
  match ys, hlen with
  | [y0, y1], _ =>
    match cs, hl with
    | [c0, c1, c2], _ =>
      have h0 : DataW.trod enc Tryz.prog w 0 (fun _ => true) true m 27 (([c0, c1, c2].drop 0).take (Tryz.prog.cellsOf 27)) = some y0 := hf 0 _ rfl
      have h1 : DataW.trod enc Tryz.prog w 0 (fun _ => true) true m 28 (([c0, c1, c2].drop 2).take (Tryz.prog.cellsOf 28)) = some y1 := hf 1 _ rfl
      rw [cPos] at h0
      rw [cMoves] at h1
      obtain ⟨t, A, cap, l, e0, hl0, _, hs0⟩ := rd_pos (cs := [c0, c1]) h0
      obtain ⟨M, cm, ms, e1, hl1, hs1⟩ := rd_moves (c := c2) h1
      simp only [List.cons.injEq, and_true] at e0
      obtain ⟨rfl, rfl⟩ := e0
      subst e1
      exact ⟨t, A, cap, l, M, cm, ms, rfl, hl0, hl1, hs0, hs1⟩
set_option maxRecDepth 100000 in
/-- an argument of the type laws.Game -/
theorem open_game {v : Value} {d : DataW H} {p : List MemPlace} {b0 : Nat} (hv : Value.okWide Tryz.prog w .any b0 30 v) (h : DataW.Trod enc Tryz.prog w 0 (fun _ => true) true 30 v d p) :
    ∃ t A cap, ∃ l : List St, ∃ M cm, ∃ ms : List Mv, v = .agg #[.int .i64 t, .slice A l.length cap, .slice M ms.length cm] ∧ l.length ≤ maxLen ∧ ms.length ≤ maxLen ∧ IsSteps w w.heap.size A l ∧ InMvs w w.heap.size M ms.length ms := by
  obtain ⟨cs, rfl, hsz⟩ := okWide_struct Tryz.underlying30 hv
  obtain ⟨fuel, hf⟩ := h
  obtain ⟨t, A, cap, l, M, cm, ms, hcs, hl, hlm, hs, hsm⟩ := rd_game (cs := cs.toList) (by simpa [Value.cells] using hf)
  exact ⟨t, A, cap, l, M, cm, ms, by rw [← Array.toArray_toList (xs := cs), hcs], hl, hlm, hs, hsm⟩
end
end Go.Proofs.YtcgfklljbblhlaaGreatDoor.Opn

namespace Go.Proofs.YtcgfklljbblhlaaGreatDoor.Ko
open Go.ChangeShapes Go.WideShapes Go.ChangeAt Go.RowKit Base Sq
set_option linter.unusedVariables false
set_option maxRecDepth 20000

theorem uStr : Tryz.prog.underlying 9 = some .string := by kernel_rfl
theorem uInt : Tryz.prog.underlying 3 = some (.int .i64) := by kernel_rfl
theorem uCnt : Tryz.prog.underlying 74 = some (.map 9 3) := by kernel_rfl
/-- a map of at most n texts, in which a text has the number F of it -/
def IsCnt (w : World) (m n : Nat) (F : List UInt8 → Int) : Prop :=
  ∃ D : DataW Unit, w.ownsMap Tryz.prog 9 (plainElem Tryz.prog 3) m n D ∧ ∀ u, D.atKey (.string u) (.lit (.int .i64 0)) = .lit (.int .i64 (F u))
theorem IsCnt.lt {w : World} {m n : Nat} {F : List UInt8 → Int} (h : IsCnt w m n F) : m < w.heap.size := by
  obtain ⟨D, ho, _⟩ := h
  exact ho.lt
theorem IsCnt.made (w : World) : IsCnt (w.alloc (.map #[] 0)) w.heap.size 0 (fun _ => 0) :=
  ⟨.map [], World.ownsMap_made w Tryz.prog 9 (plainElem Tryz.prog 3), fun _ => rfl⟩
theorem IsCnt.block {w w' : World} {m n : Nat} {F : List UInt8 → Int} (h : IsCnt w m n F) (hb : w'.heap[m]? = w.heap[m]?) : IsCnt w' m n F := by
  obtain ⟨D, ⟨es, clock, hm, hf, hs, hD⟩, hF⟩ := h
  exact ⟨D, ⟨es, clock, hb.trans hm, hf, hs, hD⟩, hF⟩
theorem IsCnt.below {w w' : World} {m n B : Nat} {F : List UInt8 → Int} (h : IsCnt w m n F) (hb : Below B w w') (hm : m < B) : IsCnt w' m n F := h.block (hb.block m hm)
theorem IsCnt.set {w : World} {m n : Nat} {F : List UInt8 → Int} (h : IsCnt w m n F) (a : Addr) (u : Value) (hm : m ≠ a.block) : IsCnt (w.setCell a u) m n F := h.block (Below.heap_setCell _ _ _ _ hm)
theorem IsCnt.alloc {w : World} {m n : Nat} {F : List UInt8 → Int} (h : IsCnt w m n F) (o : Obj) : IsCnt (w.alloc o) m n F := h.below (below_of w o) h.lt
theorem key_txt {u : List UInt8} (hu : u.length ≤ 1000000) : keyOf Tryz.prog 9 (.string (txt u)) = some (.string u) := by
  have h := WideMaps.keyOf_string_mk uStr (s := txt u) (by rw [txt_size]; unfold maxLen; omega)
  rw [h]
  simp [txt]
theorem IsCnt.look {w : World} {m n : Nat} {F : List UInt8 → Int} (h : IsCnt w m n F) {u : List UInt8} (hu : u.length ≤ 1000000) :
    (Instr.lookup 74 (.map (some m)) (.string (txt u)) false).run Tryz.prog w = .ok (.int .i64 (F u)) w := by
  obtain ⟨D, ho, hF⟩ := h
  obtain ⟨c, hrun, hat, _⟩ := ho.lookup_int (Maps.string_keyed uStr) uCnt uInt (by first | rfl | kernel_rfl) (key_txt hu)
  have h1 := hF u
  rw [hat] at h1
  have h2 : c = F u := by injection h1 with h1; injection h1
  rw [← h2]
  exact hrun
theorem IsCnt.update {w : World} {m n : Nat} {F : List UInt8 → Int} (h : IsCnt w m n F) (hn : n ≤ 1000000) {u : List UInt8} (hu : u.length ≤ 1000000) {c : Int} (hc : 0 ≤ c ∧ c ≤ 1000000) :
    ∃ w', (Instr.mapUpdate 74 (.map (some m)) (.string (txt u)) (.int .i64 c)).run Tryz.prog w = .ok () w' ∧ IsCnt w' m (n + 1) (fun v => if v = u then c else F v) ∧ w.grownBy w' (some m) := by
  obtain ⟨D, ho, hF⟩ := h
  obtain ⟨w', hrun, ho', hg⟩ := ho.update (Maps.string_keyed uStr) uCnt (by unfold maxLen; omega) (key_txt hu) (plainElem_int (H := Unit) uInt (WalkArith.wf_i64 (n := c) (by omega)))
  refine ⟨w', hrun, ⟨_, ho', fun v => ?_⟩, hg⟩
  show _ = DataW.lit (Lit.int .i64 (if v = u then c else F v))
  by_cases hv : v = u
  · subst hv
    rw [if_pos rfl]
    exact Maps.atKey_put_same ho.isMap (by simp [WideAt.IsKeyLit]) _ _
  · rw [if_neg hv, Maps.atKey_put_other (fun h => hv (by injection h))]
    exact hF v
end Go.Proofs.YtcgfklljbblhlaaGreatDoor.Ko

namespace Go.Proofs.YtcgfklljbblhlaaGreatDoor.Ko
open Go.ChangeShapes Go.WideShapes Go.ChangeAt Go.RowKit Base Sq
set_option linter.unusedVariables false
set_option maxRecDepth 20000
attribute [local irreducible] wpQuiet

theorem blk_at7 {w : World} {b : Nat} {x0 x1 x2 x3 x4 x5 x6 : Value} {T : TypeId} (h : Blk w b #[x0, x1, x2, x3, x4, x5, x6] T) :
    (w.cell? ⟨b, 0, none⟩ = some x0 ∧ w.cell? ⟨b, 1, none⟩ = some x1 ∧ w.cell? ⟨b, 2, none⟩ = some x2 ∧ w.cell? ⟨b, 3, none⟩ = some x3 ∧ w.cell? ⟨b, 4, none⟩ = some x4 ∧ w.cell? ⟨b, 5, none⟩ = some x5 ∧ w.cell? ⟨b, 6, none⟩ = some x6) ∧
    (w.frozen? ⟨b, 0, none⟩ = false ∧ w.frozen? ⟨b, 1, none⟩ = false ∧ w.frozen? ⟨b, 2, none⟩ = false ∧ w.frozen? ⟨b, 3, none⟩ = false ∧ w.frozen? ⟨b, 4, none⟩ = false ∧ w.frozen? ⟨b, 5, none⟩ = false ∧ w.frozen? ⟨b, 6, none⟩ = false) :=
  ⟨⟨h.cell 0, h.cell 1, h.cell 2, h.cell 3, h.cell 4, h.cell 5, h.cell 6⟩, h.free 0, h.free 1, h.free 2, h.free 3, h.free 4, h.free 5, h.free 6⟩
/-- the block of a course -/
abbrev CrB (w : World) (g m : Nat) (side : Int) (A : Option Addr) (kn c : Nat) (t : Int) (N : Option Addr) (n cn : Nat) (md qt : Int) : Prop :=
  Blk w g #[.int .i64 side, .slice A kn c, .int .i64 t, .slice N n cn, .map (some m), .int .i64 md, .int .i64 qt] 76
theorem menA_grown {lo hi m : Nat} {w w' : World} {A : Option Addr} {l : List St} (h : MenA lo hi w A l) (hg : w.grownBy w' (some m)) (hm : m < lo) : MenA lo hi w' A l := fun hn => by
  obtain ⟨b, cs, rfl, h1, h2, h3, h4, h5⟩ := h hn
  exact ⟨b, cs, rfl, h1, h2, blk_grown h3 hg (fun e => by injection e with e; omega), h4, h5⟩
theorem below_grown {B m : Nat} {a w w' : World} (h : Below B a w) (hg : w.grownBy w' (some m)) (hm : B ≤ m) (hB : B ≤ w.heap.size) : Below B a w' :=
  h.grown hg hB (fun k hk => by injection hk with hk; omega)
def ReachPost (w w' : World) (g m lo n : Nat) (side : Int) (A : Option Addr) (c : Nat) (ks : List Kd) (t : Int) (N : Option Addr) (cn : Nat) (l : List St) (F : List UInt8 → Int) (md qt : Int) (e : Ending) : Prop :=
  e = .returned (.tuple #[]) ∧ CrB w' g m side A ks.length c t N l.length cn md qt ∧ MenA lo w'.heap.size w' N l ∧ IsCnt w' m (n + 1) (fun v => if v = posT side ks t l then F (posT side ks t l) + 1 else F v) ∧ Below m w w'
set_option maxHeartbeats 4000000 in
theorem reach_any (side : Int) (A : Option Addr) (c : Nat) (ks : List Kd) (t : Int) (N : Option Addr) (cn : Nat) (l : List St) (t0 : Int) (N0 : Option Addr) (n0 cn0 : Nat) (g m lo n : Nat) (F : List UInt8 → Int) (md qt : Int) (w : World)
    (hp : CrB w g m side A ks.length c t0 N0 n0 cn0 md qt) (hR : IsKinds w m A ks) (hN : MenA lo w.heap.size w N l) (hC : IsCnt w m n F) (hmg : m < g) (hgl : g < lo) (hn : n ≤ 1000) (hsm : Small ks) (hl : l.length ≤ 1048576)
    (hT : (posT side ks t l).length ≤ 1000000) (hF : ∀ u, 0 ≤ F u ∧ F u ≤ 1000) :
    Calls Tryz.prog 57 #[.pointer (some ⟨g, 0, none⟩), .agg #[.int .i64 t, .slice N l.length cn]] w fun e w' => ReachPost w w' g m lo n side A c ks t N cn l F md qt e := by
  have hz := hp.lt
  have hmz : m < w.heap.size := by omega
  obtain ⟨⟨a0, a1, a2, a3, a4, a5, a6⟩, ⟨b0, b1, b2, b3, b4, b5, b6⟩⟩ := blk_at7 hp
  have p2 := (((hp.set 2 (.int .i64 t)).set 3 (.slice N l.length cn))).alloc (.cells #[.int .i64 t, .slice N l.length cn] 35)
  have q2 := Blk.new ((w.setCell ⟨g, 2, none⟩ (.int .i64 t)).setCell ⟨g, 3, none⟩ (.slice N l.length cn)) #[.int .i64 t, .slice N l.length cn] 35
  have C2 := ((hC.set ⟨g, 2, none⟩ (.int .i64 t) (by show m ≠ g; omega)).set ⟨g, 3, none⟩ (.slice N l.length cn) (by show m ≠ g; omega)).alloc (.cells #[.int .i64 t, .slice N l.length cn] 35)
  have B2 := (((Below.refl m w).setCell (p := ⟨g, 2, none⟩) (by show m ≤ g; omega) (.int .i64 t)).setCell (p := ⟨g, 3, none⟩) (by show m ≤ g; omega) (.slice N l.length cn)).alloc (by rw [size_set, size_set]; omega) (.cells #[.int .i64 t, .slice N l.length cn] 35)
  have M2 := ((hN.off ⟨g, 2, none⟩ (.int .i64 t) hgl).off ⟨g, 3, none⟩ (.slice N l.length cn) hgl).below ((below_of ((w.setCell ⟨g, 2, none⟩ (.int .i64 t)).setCell ⟨g, 3, none⟩ (.slice N l.length cn)) (.cells #[.int .i64 t, .slice N l.length cn] 35)).mono (by rw [size_set, size_set]; exact Nat.le_refl _))
  rw [size_set, size_set] at q2
  have hs2 : (((w.setCell ⟨g, 2, none⟩ (.int .i64 t)).setCell ⟨g, 3, none⟩ (.slice N l.length cn)).alloc (.cells #[.int .i64 t, .slice N l.length cn] 35)).heap.size = w.heap.size + 1 := by rw [World.size_alloc, size_set, size_set]
  go_enter Tryz.func57, Tryz.ntmps57
  go_wp2_with fail
  generalize hW : World.alloc _ _ = W2 at *
  clear hW a0 a1 a2 a3 a4 a5 a6 b0 b1 b2 b3 b4 b5 b6 hp hC hN
  have P2 : CrB W2 g m side A ks.length c t N l.length cn md qt := p2
  have HP := Lib.hid P2
  obtain ⟨⟨a0, a1, a2, a3, a4, a5, a6⟩, _⟩ := blk_at7 P2
  obtain ⟨⟨c0, c1⟩, _⟩ := q2.at2
  have hgz : g < W2.heap.size := by omega
  have HKR := Lib.hid ((hR.below B2).more (show m ≤ W2.heap.size by omega))
  have HMR := Lib.hid (M2.is.more (show w.heap.size ≤ W2.heap.size by omega))
  have HC := Lib.hid C2
  have HM := Lib.hid (M2.more (Nat.le_refl _) (show w.heap.size ≤ W2.heap.size by omega))
  have HB := Lib.hid B2
  have HF := Lib.hid hF
  have HT := Lib.hid hT
  obtain ⟨T, hTe⟩ : ∃ T, T = posT side ks t l := ⟨_, rfl⟩
  obtain ⟨f, hfe⟩ : ∃ f, f = F T := ⟨_, rfl⟩
  have HPP := Lib.hid (show ∀ w', IsKinds w' w'.heap.size A ks → IsSteps w' w'.heap.size N l → Calls Tryz.prog 85 #[.agg #[.int .i64 side, .slice A ks.length c], .agg #[.int .i64 t, .slice N l.length cn]] w' fun e w'' => e = .returned (.string (txt T)) ∧ Below w'.heap.size w' w'' from fun w' h1 h2 => by
    rw [hTe]; exact posPut_any side A c ks t N cn l w' h1 h2 hsm hl)
  have HU := Lib.hid (show ∀ w', IsCnt w' m n F → (Instr.lookup 74 (.map (some m)) (.string (txt T)) false).run Tryz.prog w' = .ok (.int .i64 f) w' ∧ ∃ w4, (Instr.mapUpdate 74 (.map (some m)) (.string (txt T)) (.int .i64 (f + 1))).run Tryz.prog w' = .ok () w4 ∧ IsCnt w4 m (n + 1) (fun v => if v = T then F T + 1 else F v) ∧ w'.grownBy w4 (some m) from fun w' h => by
    rw [hfe]
    have hf := hF T
    rw [hTe] at hf ⊢
    exact ⟨h.look hT, h.update (by omega) hT (by omega)⟩)
  have hwr : IntKind.i64.wrap (f + 1) = f + 1 := IntWalk.i64_in _ (by have := hF T; omega)
  have HTE := Lib.hid hTe
  clear p2 q2 P2 C2 B2 M2 hR hF hT hs2 hTe hfe
  go_region_with (go_at_call 85; refine (HPP.out W2.drew (show IsKinds W2.drew W2.drew.heap.size A ks from HKR.out) (show IsSteps W2.drew W2.drew.heap.size N l from HMR.out)).mono ?_; rintro e w3 ⟨rfl, hb3⟩; have HB3 := Lib.hid (show Below W2.heap.size W2 w3 from ((Below.refl W2.heap.size W2).drew).trans hb3); obtain ⟨hlk, w4, hu, hC4, hg4⟩ := HU.out w3 (HC.out.below HB3.out HC.out.lt); have HC4 := Lib.hid hC4; have HG4 := Lib.hid hg4; obtain ⟨⟨d0, d1, d2, d3, d4, d5, d6⟩, _⟩ := blk_at7 (HP.out.below HB3.out hgz); clear hb3 hC4 hg4)
  all_goals
    go_wp2_with fail
    refine bodyPost_end (results_none (by rfl) _ _ _) rfl ?_
    unfold ReachPost
    rw [← HTE.out]
    have hz4 := HG4.out.size
    have hz3 := HB3.out.size
    exact ⟨rfl, blk_grown (HP.out.below HB3.out hgz) HG4.out (fun h => by injection h with h; omega), (menA_grown (HM.out.below HB3.out) HG4.out (by omega)).more (Nat.le_refl _) (by omega), HC4.out, below_grown (HB.out.trans (HB3.out.mono (by omega))) HG4.out (Nat.le_refl _) (by omega)⟩
end Go.Proofs.YtcgfklljbblhlaaGreatDoor.Ko

namespace Go.Proofs.YtcgfklljbblhlaaGreatDoor.Ko
open Go.ChangeShapes Go.WideShapes Go.ChangeAt Go.RowKit Base Sq
set_option linter.unusedVariables false
set_option maxRecDepth 20000
attribute [local irreducible] wpQuiet

def crS (sv f qt : Int) : Int := if sv ≠ 1 then sv else if 3 ≤ f then 4 else if 12 ≤ qt then 5 else 1
set_option maxHeartbeats 8000000 in
theorem state_any (side : Int) (A : Option Addr) (c : Nat) (ks : List Kd) (t : Int) (N : Option Addr) (cn : Nat) (l : List St) (g m n : Nat) (F : List UInt8 → Int) (md qt : Int) (w : World)
    (hp : CrB w g m side A ks.length c t N l.length cn md qt) (hR : IsKinds w w.heap.size A ks) (hN : IsSteps w w.heap.size N l) (hC : IsCnt w m n F) (hTA : TabAt w) (hsm : Small ks) (hok : rulesOk side ks = true) (hsh : shapeB side ks t l = true) (hl : l.length ≤ 1048576)
    (hT : (posT side ks t l).length ≤ 1000000) :
    Calls Tryz.prog 64 #[.pointer (some ⟨g, 0, none⟩)] w fun e w' => e = .returned (.int .i64 (crS (stateV side ks t l) (F (posT side ks t l)) qt)) ∧ Below w.heap.size w w' := by
  have hz := hp.lt
  have hzm := hC.lt
  obtain ⟨⟨a0, a1, a2, a3, a4, a5, a6⟩, _⟩ := blk_at7 hp
  have HP := Lib.hid hp
  have HR := Lib.hid hR
  have HN := Lib.hid hN
  have HC := Lib.hid hC
  obtain ⟨T, hTe⟩ : ∃ T, T = posT side ks t l := ⟨_, rfl⟩
  obtain ⟨f, hfe⟩ : ∃ f, f = F T := ⟨_, rfl⟩
  obtain ⟨sv, hsv⟩ : ∃ sv, sv = stateV side ks t l := ⟨_, rfl⟩
  have HPP := Lib.hid (show ∀ w', IsKinds w' w'.heap.size A ks → IsSteps w' w'.heap.size N l → Calls Tryz.prog 85 #[.agg #[.int .i64 side, .slice A ks.length c], .agg #[.int .i64 t, .slice N l.length cn]] w' fun e w'' => e = .returned (.string (txt T)) ∧ Below w'.heap.size w' w'' from fun w' h1 h2 => by
    rw [hTe]; exact posPut_any side A c ks t N cn l w' h1 h2 hsm hl)
  have HST := Lib.hid (show Calls Tryz.prog 88 #[.agg #[.int .i64 side, .slice A ks.length c], .agg #[.int .i64 t, .slice N l.length cn]] w.drew fun e w' => e = .returned (.int .i64 sv) ∧ Below w.heap.size w w' from by
    rw [hsv]
    refine (stateOf_any side A c ks t N cn l w.drew hR hN hTA hok hsh).mono ?_
    rintro e w' ⟨rfl, hb⟩
    exact ⟨rfl, ((Below.refl w.heap.size w).drew).trans hb⟩)
  have HU := Lib.hid (show ∀ w', IsCnt w' m n F → (Instr.lookup 74 (.map (some m)) (.string (txt T)) false).run Tryz.prog w' = .ok (.int .i64 f) w' from fun w' h => by
    rw [hfe, hTe]
    exact h.look hT)
  rw [← hTe, ← hfe, ← hsv]
  clear hTe hfe hsv hsh hok hT hl hsm hR hN hC hTA hp
  by_cases h1 : sv = 1
  · subst h1
    have HV := Lib.hid (show crS 1 f qt = if 3 ≤ f then 4 else if 12 ≤ qt then 5 else 1 from rfl)
    go_enter Tryz.func64, Tryz.ntmps64
    go_wp2_with fail
    go_region_with (go_at_call 88; refine HST.out.mono ?_; rintro e w2 ⟨rfl, hb2⟩; have HB2 := Lib.hid hb2; clear hb2)
    all_goals
      clear a0 a1 a2 a3 a4 a5 a6
      obtain ⟨⟨a0, a1, a2, a3, a4, a5, a6⟩, _⟩ := blk_at7 (HP.out.below HB2.out hz)
      have hz2 := HB2.out.size
      go_wp2_with fail
      go_region_with (go_at_call 85; refine (HPP.out w2.drew (show IsKinds w2.drew w2.drew.heap.size A ks from (HR.out.below HB2.out).more hz2) (show IsSteps w2.drew w2.drew.heap.size N l from (HN.out.below HB2.out).more hz2)).mono ?_; rintro e w3 ⟨rfl, hb3⟩; have HB3 := Lib.hid (show Below w2.heap.size w2 w3 from ((Below.refl w2.heap.size w2).drew).trans hb3); have hlk := HU.out w3 ((HC.out.below HB2.out hzm).below HB3.out (by omega)); obtain ⟨⟨d0, d1, d2, d3, d4, d5, d6⟩, _⟩ := blk_at7 ((HP.out.below HB2.out hz).below HB3.out (by omega)); clear hb3)
      all_goals
        have HBE := Lib.hid (HB2.out.trans (HB3.out.mono hz2))
        clear a0 a1 a2 a3 a4 a5 a6 hlk
        by_cases h3 : 3 ≤ f
        · have hd3 : decide (3 ≤ f) = true := decide_eq_true h3
          have HX := Lib.hid (show crS 1 f qt = 4 by rw [HV.out, if_pos h3])
          go_wp2_with fail
          go_ret
          exact ⟨ri (by rw [HX.out]), HBE.out⟩
        · have hd3 : decide (3 ≤ f) = false := decide_eq_false h3
          by_cases h12 : 12 ≤ qt
          · have hd4 : decide (12 ≤ qt) = true := decide_eq_true h12
            have HX := Lib.hid (show crS 1 f qt = 5 by rw [HV.out, if_neg h3, if_pos h12])
            go_wp2_with fail
            go_ret
            exact ⟨ri (by rw [HX.out]), HBE.out⟩
          · have hd4 : decide (12 ≤ qt) = false := decide_eq_false h12
            have HX := Lib.hid (show crS 1 f qt = 1 by rw [HV.out, if_neg h3, if_neg h12])
            go_wp2_with fail
            go_ret
            exact ⟨ri (by rw [HX.out]), HBE.out⟩
  · have hne : (sv != 1) = true := by rw [bne_iff_ne]; exact h1
    have HX := Lib.hid (show crS sv f qt = sv from if_pos h1)
    clear h1
    go_enter Tryz.func64, Tryz.ntmps64
    go_wp2_with fail
    go_region_with (go_at_call 88; refine HST.out.mono ?_; rintro e w2 ⟨rfl, hb2⟩; have HB2 := Lib.hid hb2; clear hb2)
    all_goals
      go_wp2_with fail
      go_ret
      exact ⟨ri (by rw [HX.out]), HB2.out⟩
end Go.Proofs.YtcgfklljbblhlaaGreatDoor.Ko

namespace Go.Proofs.YtcgfklljbblhlaaGreatDoor.Ko
open Go.ChangeShapes Go.WideShapes Go.ChangeAt Go.RowKit Base Sq
set_option linter.unusedVariables false
set_option maxRecDepth 20000
attribute [local irreducible] wpQuiet

theorem posT_len {side : Int} {ks : List Kd} {t : Int} {l : List St} (hl : l.length ≤ 1000) : (posT side ks t l).length ≤ 1000000 := by
  unfold posT
  split
  · unfold posU; rw [posUK_len]; omega
  · exact Nat.zero_le _
def goV (side : Int) (ks : List Kd) (t : Int) (l : List St) (f q md sg : Int) : Bool := !(decide (md = 30) || (decide (sg ≠ 1) || !canB side ks t l f q))
def PlayPost (w w' : World) (g m n : Nat) (side : Int) (A : Option Addr) (c : Nat) (ks : List Kd) (t : Int) (l : List St) (f q : Int) (F : List UInt8 → Int) (md qt : Int) (e : Ending) : Prop :=
  ∃ (N' : Option Addr) (cn' : Nat), e = .returned (.bool true) ∧ CrB w' g m side A ks.length c (1 - t) N' (nextL l (f, q)).length cn' (md + 1) (if manV l q = -1 then qt + 1 else 0) ∧ MenA (g + 1) w'.heap.size w' N' (nextL l (f, q)) ∧
    IsCnt w' m (n + 1) (fun v => if v = posT side ks (1 - t) (nextL l (f, q)) then F (posT side ks (1 - t) (nextL l (f, q))) + 1 else F v) ∧ Below m w w'
set_option maxHeartbeats 16000000 in
theorem play_any (side : Int) (A : Option Addr) (c : Nat) (ks : List Kd) (t : Int) (N : Option Addr) (cn : Nat) (l : List St) (f q : Int) (g m n : Nat) (F : List UInt8 → Int) (md qt : Int) (w : World)
    (hp : CrB w g m side A ks.length c t N l.length cn md qt) (hR : IsKinds w m A ks) (hN : MenA (g + 1) w.heap.size w N l) (hC : IsCnt w m n F) (hTA : TabAt w) (hmg : m < g) (hn : n ≤ 1000) (hsm : Small ks) (hok : rulesOk side ks = true) (hsh : shapeB side ks t l = true)
    (hF : ∀ u, 0 ≤ F u ∧ F u ≤ 1000) (hmd : 0 ≤ md ∧ md ≤ 1000) (hqt : 0 ≤ qt ∧ qt ≤ 1000) :
    Calls Tryz.prog 46 #[.pointer (some ⟨g, 0, none⟩), .agg #[.int .i64 f, .int .i64 q]] w fun e w' =>
      (goV side ks t l f q md (crS (stateV side ks t l) (F (posT side ks t l)) qt) = false → e = .returned (.bool false) ∧ Below m w w') ∧
      (goV side ks t l f q md (crS (stateV side ks t l) (F (posT side ks t l)) qt) = true → PlayPost w w' g m n side A c ks t l f q F md qt e) := by
  obtain ⟨ht, hl4, _, _, _⟩ := shapeB_facts hsh
  obtain ⟨hs, _⟩ := rulesOk_facts hok
  have hz := hp.lt
  have hb1 := below_of w (.cells #[.int .i64 f, .int .i64 q] 58)
  have hz1 : (w.alloc (.cells #[.int .i64 f, .int .i64 q] 58)).heap.size = w.heap.size + 1 := World.size_alloc _ _
  have p1 := hp.alloc (.cells #[.int .i64 f, .int .i64 q] 58)
  have q1 := Blk.new w #[.int .i64 f, .int .i64 q] 58
  have R1 := hR.below (hb1.mono (show m ≤ w.heap.size by omega))
  have N1 := (hN.below hb1).more (Nat.le_refl _) (show w.heap.size ≤ (w.alloc (.cells #[.int .i64 f, .int .i64 q] 58)).heap.size by omega)
  have C1 := hC.alloc (.cells #[.int .i64 f, .int .i64 q] 58)
  have T1 := hTA.keep hb1
  have B1 := Lib.hid (hb1.mono (show m ≤ w.heap.size by omega))
  go_enter Tryz.func46, Tryz.ntmps46
  go_wp2_with fail
  generalize hW : World.alloc _ _ = w1 at *
  clear hW hp hN hC hTA hR hb1
  obtain ⟨⟨a0, a1, a2, a3, a4, a5, a6⟩, _⟩ := blk_at7 p1
  obtain ⟨⟨c0, c1⟩, _⟩ := q1.at2
  have HP := Lib.hid p1
  have HQ := Lib.hid q1
  have HR := Lib.hid R1
  have HN := Lib.hid N1
  have HC := Lib.hid C1
  obtain ⟨sg, hsg⟩ : ∃ sg, sg = crS (stateV side ks t l) (F (posT side ks t l)) qt := ⟨_, rfl⟩
  obtain ⟨cb, hcb⟩ : ∃ cb, cb = canB side ks t l f q := ⟨_, rfl⟩
  have HST := Lib.hid (show ∀ w', Below w1.heap.size w1 w' → Calls Tryz.prog 64 #[.pointer (some ⟨g, 0, none⟩)] w' fun e w'' => e = .returned (.int .i64 sg) ∧ Below w'.heap.size w' w'' from by
    intro w' hb
    rw [hsg]
    exact state_any side A c ks t N cn l g m n F md qt w' (p1.below hb p1.lt) ((R1.below (hb.mono (show m ≤ w1.heap.size by omega))).more (by have := hb.size; omega)) ((N1.is.below hb).more hb.size) (C1.below hb C1.lt) (T1.keep hb) hsm hok hsh (by omega) (posT_len (by omega)))
  have HIM := Lib.hid (show ∀ w', Below w1.heap.size w1 w' → Calls Tryz.prog 65 #[.agg #[.int .i64 side, .slice A ks.length c], .agg #[.int .i64 t, .slice N l.length cn], .agg #[.int .i64 f, .int .i64 q]] w' fun e w'' => e = .returned (.bool cb) ∧ Below w'.heap.size w' w'' from by
    intro w' hb
    rw [hcb]
    exact isMove_any side A c ks t N cn l f q w' ((R1.below (hb.mono (show m ≤ w1.heap.size by omega))).more (by have := hb.size; omega)) ((N1.is.below hb).more hb.size) hok hsh)
  have HGV := Lib.hid (show goV side ks t l f q md (crS (stateV side ks t l) (F (posT side ks t l)) qt) = !(decide (md = 30) || (decide (sg ≠ 1) || !cb)) by rw [hsg, hcb]; rfl)
  have HCB := Lib.hid hcb
  have HOK := Lib.hid hok
  have HSH := Lib.hid hsh
  have HF := Lib.hid hF
  have HTE := Lib.hid ht
  clear p1 q1 R1 N1 C1 T1 hsg hcb hok hsh hF
  have hgz : g < w1.heap.size := HP.out.lt
  have hm1 : m ≤ w1.heap.size := by omega
  have hgw : g ≠ w.heap.size := by omega
  have hwg : w.heap.size ≠ g := by omega
  have hqz : w.heap.size < w1.heap.size := HQ.out.lt
  have HZ1 := Lib.hid hz1
  clear hz1
  by_cases h30 : md = 30
  · have HV := Lib.hid (show goV side ks t l f q md (crS (stateV side ks t l) (F (posT side ks t l)) qt) = false by rw [HGV.out, decide_eq_true h30]; rfl)
    subst h30
    refine wp_region_below (W := w1) (by kernel_rfl) (by kernel_rfl) (Below.refl _ _) ?_
    repeat (first
      | (refine qs_skip (by rfl) ?_; simp only [Act.put, List.setIfInBounds_toArray, List.set_cons_zero, List.set_cons_succ])
      | (apply qs_take
         focus rfl
         focus (
           intro wq hwq
           obtain ⟨hcq, hfq⟩ := bcell hwq
           go_simp
           all_goals first
             | exact rfl
             | (exact ⟨trivial, rfl⟩))
         simp only [Act.put, List.setIfInBounds_toArray, List.set_cons_zero, List.set_cons_succ]))
    refine wpQuiet_nil ?_
    intro wq hwq
    have HW := Lib.hid (B1.out.trans (hwq.mono (show m ≤ w1.heap.size by omega)))
    clear hwq a0 a1 a2 a3 a4 a5 a6 c0 c1
    go_wp2_with fail
    go_ret
    exact ⟨fun _ => ⟨rfl, HW.out⟩, fun h => by rw [HV.out] at h; cases h⟩
  have hd30 : (md == 30) = false := by rw [beq_eq_false_iff_ne]; exact h30
  have hd31 : decide (md = 30) = false := decide_eq_false h30
  by_cases h1 : sg = 1
  case neg =>
    have hd1 : (sg != 1) = true := by rw [bne_iff_ne]; exact h1
    have HV := Lib.hid (show goV side ks t l f q md (crS (stateV side ks t l) (F (posT side ks t l)) qt) = false by rw [HGV.out, hd31, decide_eq_true (show sg ≠ 1 from h1)]; rfl)
    refine wp_region_below (W := w1) (by kernel_rfl) (by kernel_rfl) (Below.refl _ _) ?_
    repeat (first
      | (refine qs_skip (by rfl) ?_; simp only [Act.put, List.setIfInBounds_toArray, List.set_cons_zero, List.set_cons_succ])
      | (apply qs_take
         focus rfl
         focus (
           intro wq hwq
           obtain ⟨hcq, hfq⟩ := bcell hwq
           go_simp
           all_goals first
             | exact rfl
             | (go_at_call 64; refine (HST.out wq hwq).mono ?_; exact fun e w2 h => ⟨h.1, hwq.trans (h.2.mono hwq.size)⟩)
             | (exact ⟨trivial, rfl⟩))
         simp only [Act.put, List.setIfInBounds_toArray, List.set_cons_zero, List.set_cons_succ]))
    refine wpQuiet_nil ?_
    intro wq hwq
    have HW := Lib.hid (B1.out.trans (hwq.mono (show m ≤ w1.heap.size by omega)))
    clear hwq a0 a1 a2 a3 a4 a5 a6 c0 c1
    go_wp2_with fail
    go_ret
    exact ⟨fun _ => ⟨rfl, HW.out⟩, fun h => by rw [HV.out] at h; cases h⟩
  subst h1
  cases cb
  · have HV := Lib.hid (show goV side ks t l f q md (crS (stateV side ks t l) (F (posT side ks t l)) qt) = false by rw [HGV.out, hd31]; rfl)
    refine wp_region_below (W := w1) (by kernel_rfl) (by kernel_rfl) (Below.refl _ _) ?_
    repeat (first
      | (refine qs_skip (by rfl) ?_; simp only [Act.put, List.setIfInBounds_toArray, List.set_cons_zero, List.set_cons_succ])
      | (apply qs_take
         focus rfl
         focus (
           intro wq hwq
           obtain ⟨hcq, hfq⟩ := bcell hwq
           go_simp
           all_goals first
             | exact rfl
             | (go_at_call 64; refine (HST.out wq hwq).mono ?_; exact fun e w2 h => ⟨h.1, hwq.trans (h.2.mono hwq.size)⟩)
             | (go_at_call 65; refine (HIM.out wq hwq).mono ?_; exact fun e w2 h => ⟨h.1, hwq.trans (h.2.mono hwq.size)⟩)
             | (exact ⟨trivial, rfl⟩))
         simp only [Act.put, List.setIfInBounds_toArray, List.set_cons_zero, List.set_cons_succ]))
    refine wpQuiet_nil ?_
    intro wq hwq
    have HW := Lib.hid (B1.out.trans (hwq.mono (show m ≤ w1.heap.size by omega)))
    clear hwq a0 a1 a2 a3 a4 a5 a6 c0 c1
    go_wp2_with fail
    go_ret
    exact ⟨fun _ => ⟨rfl, HW.out⟩, fun h => by rw [HV.out] at h; cases h⟩
  have HV := Lib.hid (show goV side ks t l f q md (crS (stateV side ks t l) (F (posT side ks t l)) qt) = true by rw [HGV.out, hd31]; rfl)
  refine wp_region_below (W := w1) (by kernel_rfl) (by kernel_rfl) (Below.refl _ _) ?_
  repeat (first
    | (refine qs_skip (by rfl) ?_; simp only [Act.put, List.setIfInBounds_toArray, List.set_cons_zero, List.set_cons_succ])
    | (apply qs_take
       focus rfl
       focus (
         intro wq hwq
         obtain ⟨hcq, hfq⟩ := bcell hwq
         go_simp
         all_goals first
           | exact rfl
           | (go_at_call 64; refine (HST.out wq hwq).mono ?_; exact fun e w2 h => ⟨h.1, hwq.trans (h.2.mono hwq.size)⟩)
           | (go_at_call 65; refine (HIM.out wq hwq).mono ?_; exact fun e w2 h => ⟨h.1, hwq.trans (h.2.mono hwq.size)⟩)
           | (exact ⟨trivial, rfl⟩))
       simp only [Act.put, List.setIfInBounds_toArray, List.set_cons_zero, List.set_cons_succ]))
  refine wpQuiet_nil ?_
  intro wq hwq
  have HWQ := Lib.hid hwq
  have pq := HP.out.below hwq hgz
  have qq := HQ.out.below hwq HQ.out.lt
  have hzq := hwq.size
  clear hwq a0 a1 a2 a3 a4 a5 a6 c0 c1
  obtain ⟨⟨a0, a1, a2, a3, a4, a5, a6⟩, ⟨b0, b1, b2, b3, b4, b5, b6⟩⟩ := blk_at7 pq
  obtain ⟨⟨c0, c1⟩, _⟩ := qq.at2
  have hwm : IntKind.i64.wrap (md + 1) = md + 1 := IntWalk.i64_in _ (by omega)
  have hwt : IntKind.i64.wrap (qt + 1) = qt + 1 := IntWalk.i64_in _ (by omega)
  go_wp2_with fail
  have p3 := (pq.set 5 (.int .i64 (md + 1))).set 6 (.int .i64 (qt + 1))
  have q3 := (qq.other ⟨g, 5, none⟩ (.int .i64 (md + 1)) (by show w.heap.size ≠ g; omega)).other ⟨g, 6, none⟩ (.int .i64 (qt + 1)) (by show w.heap.size ≠ g; omega)
  have N3 := ((HN.out.below HWQ.out).off ⟨g, 5, none⟩ (.int .i64 (md + 1)) (Nat.lt_succ_self g)).off ⟨g, 6, none⟩ (.int .i64 (qt + 1)) (Nat.lt_succ_self g)
  have C3 := ((HC.out.below HWQ.out HC.out.lt).set ⟨g, 5, none⟩ (.int .i64 (md + 1)) (by show m ≠ g; omega)).set ⟨g, 6, none⟩ (.int .i64 (qt + 1)) (by show m ≠ g; omega)
  have B30 := (((Below.refl m wq).setCell (p := ⟨g, 5, none⟩) (by show m ≤ g; omega) (.int .i64 (md + 1))).setCell (p := ⟨g, 6, none⟩) (by show m ≤ g; omega) (.int .i64 (qt + 1)))
  have R3 := (HR.out.below (HWQ.out.mono hm1)).below B30
  have B3 := (B1.out.trans (HWQ.out.mono hm1)).trans B30
  have hs3 : ((wq.setCell ⟨g, 5, none⟩ (.int .i64 (md + 1))).setCell ⟨g, 6, none⟩ (.int .i64 (qt + 1))).heap.size = wq.heap.size := by rw [size_set, size_set]
  generalize hW : World.setCell _ _ _ = W3 at *
  clear hW B30 pq qq a0 a1 a2 a3 a4 a5 a6 b0 b1 b2 b3 b4 b5 b6 c0 c1
  have p3 : CrB W3 g m side A ks.length c t N l.length cn (md + 1) (qt + 1) := p3
  obtain ⟨⟨a0, a1, a2, a3, a4, a5, a6⟩, _⟩ := blk_at7 p3
  obtain ⟨⟨c0, c1⟩, _⟩ := q3.at2
  have hz3 : w1.heap.size ≤ W3.heap.size := by omega
  have hg3 : g < W3.heap.size := by omega
  have hq3 : w.heap.size < W3.heap.size := by omega
  have HN3 := Lib.hid N3
  have HHS3 := Lib.hid hs3
  have hl9 : l.length ≤ 1048576 := by omega
  clear hs3 hzq
  generalize wq = wq0 at *
  refine wp_region_below (W := W3) (by kernel_rfl) (by kernel_rfl) (Below.refl _ _) ?_
  repeat (first
    | (refine qs_skip (by rfl) ?_; simp only [Act.put, List.setIfInBounds_toArray, List.set_cons_zero, List.set_cons_succ])
    | (apply qs_take
       focus rfl
       focus (
         intro wq hwq
         obtain ⟨hcq, hfq⟩ := bcell hwq
         go_simp
         all_goals first
           | exact rfl
           | (go_at_call 66; refine (manAt_any N cn l q _ ((HN3.out.is.more hz3).below hwq |>.more hwq.size) hl9).mono ?_; exact fun e w2 h => ⟨h.1, hwq.trans (h.2.mono hwq.size)⟩)
           | (exact ⟨trivial, rfl⟩))
       simp only [Act.put, List.setIfInBounds_toArray, List.set_cons_zero, List.set_cons_succ]))
  refine wpQuiet_nil ?_
  intro wq hwq
  generalize wq = WQ at *
  have hz4 := hwq.size
  have p4 := p3.below hwq hg3
  have q4 := q3.below hwq hq3
  have N4 := N3.below (hwq.mono hz3)
  have C4 := C3.below hwq C3.lt
  have hm3 : m ≤ W3.heap.size := by omega
  have R4 := R3.below (hwq.mono hm3)
  have B4 := B3.trans (hwq.mono hm3)
  clear p3 q3 N3 C3 R3 B3 a0 a1 a2 a3 a4 a5 a6 c0 c1 HWQ hwm hwt
  by_cases hmv : manV l q = -1
  · have hd : (manV l q != -1) = false := by rw [bne_eq_false_iff_eq]; exact hmv
    go_wp2_with fail
    have p5 := p4
    have q5 := q4
    have N5 := N4
    have C5 := C4
    have R5 := R4
    have B5 := B4
    generalize hW : WQ = W5 at *
    clear hW p4 q4 N4 C4 R4 B4 hwq
    have hz5 : w1.heap.size ≤ W5.heap.size := by omega
    have hg5 : g < W5.heap.size := by omega
    have hm5 : m ≤ W5.heap.size := by omega
    have HQX := Lib.hid (show (if manV l q = -1 then qt + 1 else 0) = (qt + 1) from if_pos hmv)
    obtain ⟨L, hL⟩ : ∃ L, L = nextL l (f, q) := ⟨_, rfl⟩
    obtain ⟨hpo2, nn, hnn, hnl, _, _, hnx, _⟩ := can_posOk hs HSH.out HCB.out.symm
    have hlen2 : L.length ≤ 1000 := by have := (shapeB_facts (posOk_shape hpo2)).2.1; rw [hL]; omega
    have HMV := Lib.hid (show Calls Tryz.prog 67 #[.agg #[.int .i64 t, .slice N l.length cn], .agg #[.int .i64 f, .int .i64 q]] W5.drew fun e w' => ∃ A6 c6, e = .returned (.agg #[.int .i64 (1 - t), .slice A6 L.length c6]) ∧ MenA (g + 1) w'.heap.size w' A6 L ∧ Below W5.heap.size W5 w' from by
      refine (moved_any t N cn l f q nn W5.drew (show IsSteps W5.drew W5.drew.heap.size N l from N5.is.more hz5) HTE.out hl4 hnn hnl (shapeB_up HSH.out)).mono ?_
      rintro e w6 ⟨A6, c6, rfl, hm6, hb6⟩
      rw [← hnx, ← hL] at hm6
      refine ⟨A6, c6, by rw [hL, hnx], hm6.more (show g + 1 ≤ W5.heap.size from hg5) (Nat.le_refl _), ((Below.refl W5.heap.size W5).drew).trans hb6⟩)
    have HRE := Lib.hid (fun A6 c6 w6 (hm6 : MenA (g + 1) w6.heap.size w6 A6 L) (hb6 : Below W5.heap.size W5 w6) => reach_any side A c ks (1 - t) A6 c6 L t N l.length cn g m (g + 1) n F (md + 1) (qt + 1) w6 (p5.below hb6 hg5) (R5.below (hb6.mono hm5)) hm6 (C5.below hb6 C5.lt) hmg (Nat.lt_succ_self g) hn hsm (by omega) (posT_len hlen2) HF.out)
    obtain ⟨⟨a0, a1, a2, a3, a4, a5, a6⟩, _⟩ := blk_at7 p5
    obtain ⟨⟨c0, c1⟩, _⟩ := q5.at2
    have HP5 := Lib.hid p5
    have HB5 := Lib.hid B5
    have HLL := Lib.hid hL
    clear p5 q5 N5 C5 R5 B5 hL hpo2 hnn hnl hnx hlen2 hl4
    go_region_with (first
      | (go_at_call 67; refine HMV.out.mono ?_; rintro e w6 ⟨A6, c6, rfl, hm6, hb6⟩)
      | (go_at_call 57; refine (HRE.out A6 c6 w6 hm6 hb6).mono ?_; rintro e w7 ⟨rfl, p7, m7, c7, b7⟩))
    all_goals
      have HX7 := Lib.hid (And.intro p7 (And.intro m7 (And.intro c7 (HB5.out.trans ((hb6.mono hm5).trans b7)))))
      clear p7 m7 c7 b7 hb6 hm6 a0 a1 a2 a3 a4 a5 a6 c0 c1
      go_wp2_with fail
      go_ret
      refine ⟨fun h => absurd h (by rw [HV.out]; decide), fun _ => ?_⟩
      unfold PlayPost
      rw [← HLL.out, HQX.out]
      exact ⟨A6, c6, rfl, HX7.out.1, HX7.out.2.1, HX7.out.2.2.1, HX7.out.2.2.2⟩
  · have hd : (manV l q != -1) = true := by rw [bne_iff_ne]; exact hmv
    obtain ⟨⟨a0, a1, a2, a3, a4, a5, a6⟩, ⟨b0, b1, b2, b3, b4, b5, b6⟩⟩ := blk_at7 p4
    go_wp2_with fail
    have p5 := p4.set 6 (.int .i64 0)
    have q5 := q4.other ⟨g, 6, none⟩ (.int .i64 0) (by show w.heap.size ≠ g; omega)
    have N5 := N4.off ⟨g, 6, none⟩ (.int .i64 0) (Nat.lt_succ_self g)
    have C5 := C4.set ⟨g, 6, none⟩ (.int .i64 0) (by show m ≠ g; omega)
    have B50 := (Below.refl m WQ).setCell (p := ⟨g, 6, none⟩) (by show m ≤ g; omega) (.int .i64 0)
    have R5 := R4.below B50
    have B5 := B4.trans B50
    have hs5 : (WQ.setCell ⟨g, 6, none⟩ (.int .i64 0)).heap.size = WQ.heap.size := size_set _ _ _
    generalize hW : World.setCell _ _ _ = W5 at *
    clear hW B50 p4 q4 N4 C4 R4 B4 a0 a1 a2 a3 a4 a5 a6 b0 b1 b2 b3 b4 b5 b6
    have p5 : CrB W5 g m side A ks.length c t N l.length cn (md + 1) 0 := p5
    have hz5 : w1.heap.size ≤ W5.heap.size := by omega
    have hg5 : g < W5.heap.size := by omega
    have hm5 : m ≤ W5.heap.size := by omega
    have HQX := Lib.hid (show (if manV l q = -1 then qt + 1 else 0) = 0 from if_neg hmv)
    obtain ⟨L, hL⟩ : ∃ L, L = nextL l (f, q) := ⟨_, rfl⟩
    obtain ⟨hpo2, nn, hnn, hnl, _, _, hnx, _⟩ := can_posOk hs HSH.out HCB.out.symm
    have hlen2 : L.length ≤ 1000 := by have := (shapeB_facts (posOk_shape hpo2)).2.1; rw [hL]; omega
    have HMV := Lib.hid (show Calls Tryz.prog 67 #[.agg #[.int .i64 t, .slice N l.length cn], .agg #[.int .i64 f, .int .i64 q]] W5.drew fun e w' => ∃ A6 c6, e = .returned (.agg #[.int .i64 (1 - t), .slice A6 L.length c6]) ∧ MenA (g + 1) w'.heap.size w' A6 L ∧ Below W5.heap.size W5 w' from by
      refine (moved_any t N cn l f q nn W5.drew (show IsSteps W5.drew W5.drew.heap.size N l from N5.is.more hz5) HTE.out hl4 hnn hnl (shapeB_up HSH.out)).mono ?_
      rintro e w6 ⟨A6, c6, rfl, hm6, hb6⟩
      rw [← hnx, ← hL] at hm6
      refine ⟨A6, c6, by rw [hL, hnx], hm6.more (show g + 1 ≤ W5.heap.size from hg5) (Nat.le_refl _), ((Below.refl W5.heap.size W5).drew).trans hb6⟩)
    have HRE := Lib.hid (fun A6 c6 w6 (hm6 : MenA (g + 1) w6.heap.size w6 A6 L) (hb6 : Below W5.heap.size W5 w6) => reach_any side A c ks (1 - t) A6 c6 L t N l.length cn g m (g + 1) n F (md + 1) 0 w6 (p5.below hb6 hg5) (R5.below (hb6.mono hm5)) hm6 (C5.below hb6 C5.lt) hmg (Nat.lt_succ_self g) hn hsm (by omega) (posT_len hlen2) HF.out)
    obtain ⟨⟨a0, a1, a2, a3, a4, a5, a6⟩, _⟩ := blk_at7 p5
    obtain ⟨⟨c0, c1⟩, _⟩ := q5.at2
    have HP5 := Lib.hid p5
    have HB5 := Lib.hid B5
    have HLL := Lib.hid hL
    clear p5 q5 N5 C5 R5 B5 hL hpo2 hnn hnl hnx hlen2 hl4
    go_region_with (first
      | (go_at_call 67; refine HMV.out.mono ?_; rintro e w6 ⟨A6, c6, rfl, hm6, hb6⟩)
      | (go_at_call 57; refine (HRE.out A6 c6 w6 hm6 hb6).mono ?_; rintro e w7 ⟨rfl, p7, m7, c7, b7⟩))
    all_goals
      have HX7 := Lib.hid (And.intro p7 (And.intro m7 (And.intro c7 (HB5.out.trans ((hb6.mono hm5).trans b7)))))
      clear p7 m7 c7 b7 hb6 hm6 a0 a1 a2 a3 a4 a5 a6 c0 c1
      go_wp2_with fail
      go_ret
      refine ⟨fun h => absurd h (by rw [HV.out]; decide), fun _ => ?_⟩
      unfold PlayPost
      rw [← HLL.out, HQX.out]
      exact ⟨A6, c6, rfl, HX7.out.1, HX7.out.2.1, HX7.out.2.2.1, HX7.out.2.2.2⟩
end Go.Proofs.YtcgfklljbblhlaaGreatDoor.Ko

namespace Go.Proofs.YtcgfklljbblhlaaGreatDoor.Ko
open Go.ChangeShapes Go.WideShapes Go.ChangeAt Go.RowKit Base Sq
set_option linter.unusedVariables false
set_option maxRecDepth 20000
attribute [local irreducible] wpQuiet

set_option maxHeartbeats 4000000 in
theorem copied_any (t : Int) (M : Option Addr) (c : Nat) (l : List St) (w : World) (h : IsSteps w w.heap.size M l) (hl : l.length ≤ 1048576) (hp : 0 < l.length) :
    Calls Tryz.prog 58 #[.agg #[.int .i64 t, .slice M l.length c]] w fun e w' => ∃ A c', e = .returned (.agg #[.int .i64 t, .slice A l.length c']) ∧ MenA w.heap.size w'.heap.size w' A l ∧ Below w.heap.size w w' := by
  have hb0 : Below w.heap.size w ((w.alloc (.cells #[.int .i64 t, .slice M l.length c] 35)).alloc (.cells #[.int .i64 0, .slice none 0 0] 35)) := (by repeat (first | exact Below.refl _ _ | assumption | (refine Below.alloc ?_ (by first | omega | (simp; done) | (simp; omega)) _) | (refine Below.setCell ?_ (by first | omega | (simp; done) | (simp; omega)) _) | refine Below.drew ?_))
  have p1 := (Blk.new w #[.int .i64 t, .slice M l.length c] 35).alloc (.cells #[.int .i64 0, .slice none 0 0] 35)
  have p2 := Blk.new (w.alloc (.cells #[.int .i64 t, .slice M l.length c] 35)) #[.int .i64 0, .slice none 0 0] 35
  simp only [World.size_alloc] at p2
  have hz0 : ((w.alloc (.cells #[.int .i64 t, .slice M l.length c] 35)).alloc (.cells #[.int .i64 0, .slice none 0 0] 35)).heap.size = w.heap.size + 1 + 1 := by simp only [World.size_alloc]
  go_enter Tryz.func58, Tryz.ntmps58
  go_wp2_with fail
  generalize hW0 : (w.alloc _).alloc _ = W0 at *
  clear hW0
  obtain ⟨⟨a0, a1⟩, _⟩ := p1.at2
  have HC := Lib.hid (show Calls Tryz.prog 86 #[.slice M l.length c] W0.drew fun e w' => ∃ A c', e = .returned (.slice A l.length c') ∧ MenA W0.heap.size w'.heap.size w' A l ∧ Below W0.heap.size W0 w' from by
    refine (clone_any M c l W0.drew (show IsSteps W0.drew W0.drew.heap.size M l from (h.below hb0).more hb0.size) hl hp).mono ?_
    rintro e w' ⟨A, c', rfl, hm, hb⟩
    exact ⟨A, c', rfl, hm, ((Below.refl W0.heap.size W0).drew).trans hb⟩)
  have HP1 := Lib.hid p1
  have HP2 := Lib.hid p2
  have HB0 := Lib.hid hb0
  have HZ0 := Lib.hid hz0
  clear p1 p2 hb0 hz0 h
  go_region_with (go_at_call 86; refine HC.out.mono ?_; rintro e w2 ⟨A6, c6, rfl, hm6, hb6⟩; have p1' := HP1.out.below hb6 HP1.out.lt; have p2' := HP2.out.below hb6 HP2.out.lt; obtain ⟨⟨d0, d1⟩, _⟩ := p1'.at2; obtain ⟨⟨r0, r1⟩, ⟨r2, r3⟩⟩ := p2'.at2)
  all_goals
    go_wp2_with fail
    refine bodyPost_ret (v := .agg #[.int .i64 t, .slice A6 l.length c6]) ?_ rfl ⟨A6, c6, rfl, ?_, ?_⟩
    · obtain ⟨⟨e0, e1⟩, _⟩ := (p2'.set2 (.int .i64 t) (.slice A6 l.length c6)).at2
      simp [results, Tryz.results58, go_sem, e0, e1]
    · have hz := HZ0.out
      exact ((hm6.off _ _ (by show w.heap.size + 1 < W0.heap.size; omega)).off _ _ (by show w.heap.size + 1 < W0.heap.size; omega)).more (by omega) (by rw [size_set, size_set]; exact Nat.le_refl _)
    · exact ((HB0.out.trans (hb6.mono (by have := HZ0.out; omega))).setCell (by show w.heap.size ≤ w.heap.size + 1; omega) _).setCell (by show w.heap.size ≤ w.heap.size + 1; omega) _
end Go.Proofs.YtcgfklljbblhlaaGreatDoor.Ko

namespace Go.Proofs.YtcgfklljbblhlaaGreatDoor.Ko
open Go.ChangeShapes Go.WideShapes Go.ChangeAt Go.RowKit Base Sq
set_option linter.unusedVariables false
set_option maxRecDepth 20000

def CntOk (side : Int) (ks : List Kd) (t : Int) (l : List St) (ms : List Mv) (k : Nat) (F : List UInt8 → Int) : Prop :=
  (∀ p : PV, posOk side ks p.1 p.2 = true → F (posU side ks p.1 p.2) = (occK t l ms p k : Int)) ∧ ∀ u, 0 ≤ F u ∧ F u ≤ k
theorem posT_ok {side t : Int} {ks : List Kd} {l : List St} (hok : rulesOk side ks = true) (h : posOk side ks t l = true) : posT side ks t l = posU side ks t l := by
  unfold posT posB
  rw [hok, h]
  rfl
theorem CntOk.zero (side : Int) (ks : List Kd) (t : Int) (l : List St) (ms : List Mv) : CntOk side ks t l ms 0 (fun _ => 0) := ⟨fun _ _ => rfl, fun _ => ⟨Int.le_refl _, Int.le_refl _⟩⟩
theorem CntOk.next {side : Int} {ks : List Kd} {t : Int} {l : List St} {ms : List Mv} {k : Nat} {F : List UInt8 → Int} (hok : rulesOk side ks = true) (h : CntOk side ks t l ms k F) (hk : posOk side ks (gP t l ms k).1 (gP t l ms k).2 = true) :
    CntOk side ks t l ms (k + 1) (fun v => if v = posT side ks (gP t l ms k).1 (gP t l ms k).2 then F (posT side ks (gP t l ms k).1 (gP t l ms k).2) + 1 else F v) := by
  rw [posT_ok hok hk]
  refine ⟨fun p hp => ?_, fun u => ?_⟩
  · show (if posU side ks p.1 p.2 = _ then _ else _) = (((occK t l ms p k + eqN (gP t l ms k) p : Nat)) : Int)
    by_cases he : gP t l ms k = p
    · subst he
      rw [if_pos rfl, h.1 _ hk]
      unfold eqN
      rw [if_pos rfl]
      omega
    · rw [if_neg (fun hu => he (by
        have := posU_inj hok (posOk_shape hp) (posOk_shape hk) hu
        exact this.symm)), h.1 _ hp]
      unfold eqN
      rw [if_neg he]
      omega
  · show 0 ≤ (if u = _ then _ else _) ∧ (if u = _ then _ else _) ≤ (((k + 1 : Nat)) : Int)
    have h1 := h.2 u
    have h2 := h.2 (posU side ks (gP t l ms k).1 (gP t l ms k).2)
    split <;> omega
theorem crS_stG (side : Int) (ks : List Kd) (t : Int) (l : List St) (ms : List Mv) (i : Nat) :
    crS (stateV side ks (gP t l ms i).1 (gP t l ms i).2) (occK t l ms (gP t l ms i) (i + 1) : Int) (quietK t l ms i : Int) = stG side ks t l ms i := by
  unfold crS stG
  by_cases h1 : stateV side ks (gP t l ms i).1 (gP t l ms i).2 ≠ 1
  · rw [if_pos h1, if_pos h1]
  · rw [if_neg h1, if_neg h1]
    by_cases h2 : 3 ≤ occK t l ms (gP t l ms i) (i + 1)
    · rw [if_pos h2, if_pos (by omega)]
    · rw [if_neg h2, if_neg (by omega)]
      by_cases h3 : 12 ≤ quietK t l ms i
      · rw [if_pos h3, if_pos (by omega)]
      · rw [if_neg h3, if_neg (by omega)]
/-- a course behind i moves -/
def CrI (w : World) (g m : Nat) (side : Int) (A : Option Addr) (c : Nat) (ks : List Kd) (t : Int) (l : List St) (ms : List Mv) (i : Nat) : Prop :=
  ∃ (N : Option Addr) (cn : Nat) (F : List UInt8 → Int), CrB w g m side A ks.length c (gP t l ms i).1 N (gP t l ms i).2.length cn (i : Int) (quietK t l ms i : Int) ∧ MenA (g + 1) w.heap.size w N (gP t l ms i).2 ∧ IsCnt w m (i + 1) F ∧ CntOk side ks t l ms (i + 1) F
theorem CrI.below {w w' : World} {g m : Nat} {side : Int} {A : Option Addr} {c : Nat} {ks : List Kd} {t : Int} {l : List St} {ms : List Mv} {i : Nat} (h : CrI w g m side A c ks t l ms i) (hb : Below w.heap.size w w') : CrI w' g m side A c ks t l ms i := by
  obtain ⟨N, cn, F, h1, h2, h3, h4⟩ := h
  exact ⟨N, cn, F, h1.below hb h1.lt, (h2.below hb).more (Nat.le_refl _) hb.size, h3.below hb h3.lt, h4⟩
theorem CrI.lt {w : World} {g m : Nat} {side : Int} {A : Option Addr} {c : Nat} {ks : List Kd} {t : Int} {l : List St} {ms : List Mv} {i : Nat} (h : CrI w g m side A c ks t l ms i) : g < w.heap.size := by
  obtain ⟨N, cn, F, h1, _⟩ := h
  exact h1.lt
theorem play_next {side : Int} {A : Option Addr} {c : Nat} {ks : List Kd} {t : Int} {l : List St} {ms : List Mv} {i g m : Nat} {w : World} (hI : CrI w g m side A c ks t l ms i) (hR : IsKinds w m A ks) (hTA : TabAt w) (hmg : m < g) (hsm : Small ks)
    (hok : rulesOk side ks = true) (hpo : posOk side ks t l = true) (hpl : playB side ks t l ms i = true) (hi : i ≤ 30) :
    Calls Tryz.prog 46 #[.pointer (some ⟨g, 0, none⟩), .agg #[.int .i64 (mvAt ms i).1, .int .i64 (mvAt ms i).2]] w fun e w' =>
      Below m w w' ∧ ((i < 30 ∧ goB side ks t l ms i = true) → e = .returned (.bool true) ∧ CrI w' g m side A c ks t l ms (i + 1)) ∧ (¬ (i < 30 ∧ goB side ks t l ms i = true) → e = .returned (.bool false)) := by
  obtain ⟨N, cn, F, h1, h2, h3, h4⟩ := hI
  have hs := (rulesOk_facts hok).1
  have hpi := gP_ok hs hpo i hpl
  have hq := quietK_le t l ms i
  have hFT : F (posT side ks (gP t l ms i).1 (gP t l ms i).2) = (occK t l ms (gP t l ms i) (i + 1) : Int) := by
    rw [posT_ok hok hpi]; exact h4.1 _ hpi
  have hg : goV side ks (gP t l ms i).1 (gP t l ms i).2 (mvAt ms i).1 (mvAt ms i).2 (i : Int) (crS (stateV side ks (gP t l ms i).1 (gP t l ms i).2) (F (posT side ks (gP t l ms i).1 (gP t l ms i).2)) (quietK t l ms i : Int)) = (decide (i < 30) && goB side ks t l ms i) := by
    rw [hFT, crS_stG]
    unfold goV goB
    have e1 : decide (((i : Nat) : Int) = 30) = !decide (i < 30) := by
      by_cases h : i < 30
      · rw [decide_eq_true h, decide_eq_false (by omega)]; rfl
      · rw [decide_eq_false h, decide_eq_true (by omega)]; rfl
    rw [e1]
    by_cases h : stG side ks t l ms i = 1
    · rw [decide_eq_true h, decide_eq_false (show ¬ (stG side ks t l ms i ≠ 1) from fun hn => hn h)]
      cases decide (i < 30) <;> cases canB side ks (gP t l ms i).1 (gP t l ms i).2 (mvAt ms i).1 (mvAt ms i).2 <;> rfl
    · rw [decide_eq_false h, decide_eq_true h]
      cases decide (i < 30) <;> cases canB side ks (gP t l ms i).1 (gP t l ms i).2 (mvAt ms i).1 (mvAt ms i).2 <;> rfl
  refine (play_any side A c ks (gP t l ms i).1 N cn (gP t l ms i).2 (mvAt ms i).1 (mvAt ms i).2 g m (i + 1) F (i : Int) (quietK t l ms i : Int) w h1 hR h2 h3 hTA hmg (by omega) hsm hok (posOk_shape hpi) (fun u => by have := h4.2 u; omega) (by omega) (by omega)).mono ?_
  rintro e w' ⟨k0, k1⟩
  rw [hg] at k0 k1
  by_cases hc : i < 30 ∧ goB side ks t l ms i = true
  · have hgt : (decide (i < 30) && goB side ks t l ms i) = true := by rw [decide_eq_true hc.1, hc.2]; rfl
    obtain ⟨N', cn', rfl, p1, p2, p3, p4⟩ := k1 hgt
    refine ⟨p4, fun _ => ⟨rfl, N', cn', _, ?_, p2, p3, ?_⟩, fun h => absurd hc h⟩
    · have e1 : (quietK t l ms (i + 1) : Int) = if manV (gP t l ms i).2 (mvAt ms i).2 = -1 then (quietK t l ms i : Int) + 1 else 0 := by
        show (((if manV (gP t l ms i).2 (mvAt ms i).2 = -1 then quietK t l ms i + 1 else 0 : Nat)) : Int) = _
        split <;> simp
      rw [e1]
      exact p1
    · have hpl2 : playB side ks t l ms (i + 1) = true := by simp only [playB, hpl, hc.2, Bool.and_self]
      exact h4.next hok (gP_ok hs hpo (i + 1) hpl2)
  · have hgf : (decide (i < 30) && goB side ks t l ms i) = false := by
      rw [Bool.eq_false_iff]
      intro h
      simp only [Bool.and_eq_true, decide_eq_true_eq] at h
      exact hc h
    obtain ⟨rfl, hb⟩ := k0 hgf
    exact ⟨hb, fun h => absurd h hc, fun _ => rfl⟩
end Go.Proofs.YtcgfklljbblhlaaGreatDoor.Ko

namespace Go.Proofs.YtcgfklljbblhlaaGreatDoor.Ko
open Go.ChangeShapes Go.WideShapes Go.ChangeAt Go.RowKit Base Sq
set_option linter.unusedVariables false
set_option maxRecDepth 20000
attribute [local irreducible] wpQuiet

theorem men_pos {side t : Int} {ks : List Kd} {l : List St} (h : posOk side ks t l = true) : 0 < l.length := by
  obtain ⟨_, _, h1, _, _⟩ := shapeB_facts (posOk_shape h)
  refine Nat.pos_of_ne_zero fun h0 => ?_
  rw [h0] at h1
  simp [cntK] at h1
theorem gameB_no {side t : Int} {ks : List Kd} {l : List St} {ms : List Mv} {k : Nat} (hk : k < ms.length) (h : ¬ (k < 30 ∧ goB side ks t l ms k = true)) : gameB side ks t l ms = false := by
  unfold gameB
  by_cases hg : goB side ks t l ms k = true
  · rw [decide_eq_false (show ¬ ms.length ≤ 30 from fun hc => h ⟨by omega, hg⟩)]
    exact Bool.and_false _
  · rw [playB_no hk (by simpa using hg)]
    simp
def CourseE (w w' : World) (side : Int) (A : Option Addr) (c : Nat) (ks : List Kd) (t : Int) (l : List St) (ms : List Mv) (e : Ending) : Prop :=
  (gameB side ks t l ms = false → e = .returned (.tuple #[.pointer none, .bool false])) ∧ (gameB side ks t l ms = true → ∃ g m : Nat, e = .returned (.tuple #[.pointer (some ⟨g, 0, none⟩), .bool true]) ∧ w.heap.size ≤ m ∧ m < g ∧ CrI w' g m side A c ks t l ms ms.length) ∧ Below w.heap.size w w'
set_option maxHeartbeats 8000000 in
theorem courseOf_any (side : Int) (A : Option Addr) (c : Nat) (ks : List Kd) (t : Int) (N : Option Addr) (cn : Nat) (l : List St) (M : Option Addr) (cm : Nat) (ms : List Mv) (w : World) (hR : IsKinds w w.heap.size A ks) (hN : IsSteps w w.heap.size N l) (hM : InMvs w w.heap.size M ms.length ms)
    (hTA : TabAt w) (hsm : Small ks) (hl : l.length ≤ 1048576) (hm : ms.length ≤ 1048576) :
    Calls Tryz.prog 33 #[.agg #[.int .i64 side, .slice A ks.length c], .agg #[.int .i64 t, .slice N l.length cn, .slice M ms.length cm]] w fun e w' => CourseE w w' side A c ks t l ms e := by
  have hb0 : Below w.heap.size w ((w.alloc (.cells #[.int .i64 side, .slice A ks.length c] 40)).alloc (.cells #[.int .i64 t, .slice N l.length cn, .slice M ms.length cm] 44)) := (by repeat (first | exact Below.refl _ _ | assumption | (refine Below.alloc ?_ (by first | omega | (simp; done) | (simp; omega)) _) | (refine Below.setCell ?_ (by first | omega | (simp; done) | (simp; omega)) _) | refine Below.drew ?_))
  have p1 := (Blk.new w #[.int .i64 side, .slice A ks.length c] 40).alloc (.cells #[.int .i64 t, .slice N l.length cn, .slice M ms.length cm] 44)
  have p2 := Blk.new (w.alloc (.cells #[.int .i64 side, .slice A ks.length c] 40)) #[.int .i64 t, .slice N l.length cn, .slice M ms.length cm] 44
  simp only [World.size_alloc] at p2
  have HU := Lib.hid (show gameB side ks t l ms = (posB side ks t l && playB side ks t l ms ms.length && decide (ms.length ≤ 30)) from rfl)
  have hmm := @run_makeMap Tryz.prog
  go_enter Tryz.func33, Tryz.ntmps33
  go_wp2_with fail
  generalize hW0 : (w.alloc _).alloc _ = W0 at *
  clear hW0
  refine (posOk_any _ _ _ _ _ _ _ _ _ ((hR.below hb0).more hb0.size) ((hN.below hb0).more hb0.size) hsm hl).mono ?_
  rintro e w2 ⟨rfl, hb2⟩
  have q1 := p1.below hb2 p1.lt
  have q2 := p2.below hb2 p2.lt
  have hbe := hb0.trans (hb2.mono hb0.size)
  obtain ⟨⟨r0, r1⟩, _⟩ := q1.at2
  obtain ⟨⟨g0, g1, g2⟩, _⟩ := q2.at3
  clear p1 p2 hb0 hb2
  cases hp : posB side ks t l
  · have HV := Lib.hid (show gameB side ks t l ms = false by rw [HU.out, hp]; rfl)
    clear hp HU q1 q2
    go_wp2_with fail
    refine bodyPost_ret (v := .tuple #[.pointer none, .bool false]) (by simp [results, Tryz.results33, go_sem]) rfl ⟨fun _ => rfl, fun h => absurd h (by rw [HV.out]; decide), hbe⟩
  · have HV := Lib.hid (show gameB side ks t l ms = (playB side ks t l ms ms.length && decide (ms.length ≤ 30)) by rw [HU.out, hp]; rfl)
    have HF := Lib.hid (show rulesOk side ks = true ∧ posOk side ks t l = true by unfold posB at hp; simpa using hp)
    clear hp HU
    have hb3 := (below_of w2 (.map #[] 0)).trans ((below_of (w2.alloc (.map #[] 0)) (.cells #[.int .i64 side, .slice A ks.length c, .int .i64 0, .slice none 0 0, .map (some w2.heap.size), .int .i64 0, .int .i64 0] 76)).mono (by rw [World.size_alloc]; omega))
    have p3 := Blk.new (w2.alloc (.map #[] 0)) #[.int .i64 side, .slice A ks.length c, .int .i64 0, .slice none 0 0, .map (some w2.heap.size), .int .i64 0, .int .i64 0] 76
    rw [World.size_alloc] at p3
    have C3 := (IsCnt.made w2).alloc (.cells #[.int .i64 side, .slice A ks.length c, .int .i64 0, .slice none 0 0, .map (some w2.heap.size), .int .i64 0, .int .i64 0] 76)
    have q13 := q1.below hb3 q1.lt
    have q23 := q2.below hb3 q2.lt
    have hs3 : ((w2.alloc (.map #[] 0)).alloc (.cells #[.int .i64 side, .slice A ks.length c, .int .i64 0, .slice none 0 0, .map (some w2.heap.size), .int .i64 0, .int .i64 0] 76)).heap.size = w2.heap.size + 1 + 1 := by simp only [World.size_alloc]
    obtain ⟨⟨s0, s1, s2⟩, _⟩ := q23.at3
    go_wp2_with fail
    generalize hW3 : (w2.alloc _).alloc _ = w3 at *
    clear hW3
    have hle2 := hbe.size
    have hq2l := q2.lt
    have HBM := Lib.hid (show w.heap.size ≤ w2.heap.size from hle2)
    have hg3 : w2.heap.size + 1 < w3.heap.size := by omega
    have hb3e := hbe.trans (hb3.mono hle2)
    refine (copied_any t N cn l w3 ((hN.below hb3e).more hb3e.size) hl (men_pos HF.out.2)).mono ?_
    rintro e w4 ⟨N4, cn4, rfl, hm4, hb4⟩
    have hT4 := (hTA.keep hb3e).keep hb4
    have hz4 := hb4.size
    have p4 := p3.below hb4 hg3
    have C4 := C3.below hb4 C3.lt
    have hb4e := hb3e.trans (hb4.mono hb3e.size)
    have q24 := q23.below hb4 q23.lt
    have HRE := Lib.hid (reach_any side A c ks t N4 cn4 l 0 none 0 0 (w2.heap.size + 1) w2.heap.size (w2.heap.size + 2) 0 (fun _ => 0) 0 0 w4 p4 ((hR.below hb4e).more hle2) (hm4.more (by omega) (Nat.le_refl _)) C4 (Nat.lt_succ_self _) (Nat.lt_succ_self _) (by omega) hsm hl (posT_len (by have := (shapeB_facts (posOk_shape HF.out.2)).2.1; omega)) (fun _ => ⟨Int.le_refl _, by decide⟩))
    clear r0 r1 g0 g1 g2 s0 s1 s2 p3 C3 q1 q2 hs3
    go_wp2_with fail
    refine HRE.out.mono ?_
    rintro e w5 ⟨rfl, p5, m5, c5, b5⟩
    have HI5 := Lib.hid (show CrI w5 (w2.heap.size + 1) w2.heap.size side A c ks t l ms 0 from ⟨N4, cn4, _, p5, m5, c5, (CntOk.zero side ks t l ms).next HF.out.1 HF.out.2⟩)
    have hb5e := Lib.hid (hb4e.trans (b5.mono hle2))
    have q25 := q24.below b5 (by omega)
    obtain ⟨⟨s0, s1, s2⟩, _⟩ := q25.at3
    have hb45 := hb4e.size
    have hb55 := hb5e.out.size
    have HT5 := Lib.hid (hTA.keep hb5e.out)
    have HR5 := Lib.hid ((hR.below hb5e.out).more hle2)
    have HM5 := Lib.hid (hM.below hb5e.out)
    clear HRE p5 m5 c5 b5 q24 p4 C4 hm4 hT4 hb3e hb3 q13 q23 hb4 hb4e
    clear q25
    go_wp2_with fail
    generalize hmE : w2.heap.size = m at *
    clear hmE
    go_loopw [26] (fun i wr => ∃ k : Nat, k ≤ ms.length ∧ k ≤ 30 ∧ i = .int .i64 k ∧ Hid (playB side ks t l ms k = true) ∧ Hid (CrI wr (m + 1) m side A c ks t l ms k) ∧ Hid (Below m w5 wr)) (fun i _ => ms.length - (intOf i).toNat)
    case atStart => exact ⟨0, by omega, by omega, rfl, Lib.hid rfl, HI5, Lib.hid (Below.refl _ _)⟩
    case round =>
      clear s0 s1 s2
      obtain ⟨k, hk, hk30, rfl, hpl, hI, hb⟩ := hrel
      have hbr := Lib.hid (hb5e.out.trans (hb.out.mono HBM.out))
      have hzr := hbr.out.size
      have hzr2 := hI.out.lt
      by_cases hlt : k < ms.length
      · obtain ⟨b, off, rfl, hB, hc⟩ := (hM.below hbr.out) (by omega)
        obtain ⟨m0, m1⟩ := hc k hlt
        have hk0 : (0 : Int) ≤ (k : Int) := by omega
        have hk3 : (k : Int) < (ms.length : Int) := by omega
        obtain ⟨fr, hfr⟩ : ∃ fr, fr = (mvAt ms k).1 := ⟨_, rfl⟩
        obtain ⟨tq, htq⟩ : ∃ tq, tq = (mvAt ms k).2 := ⟨_, rfl⟩
        have hA := Lib.hid (below_of wr (.cells #[.int .i64 (mvAt ms k).1, .int .i64 (mvAt ms k).2] 58))
        have HPN := Lib.hid (play_next (hI.out.below hA.out) ((hR.below (hbr.out.trans (hA.out.mono hzr))).more HBM.out) (hTA.keep (hbr.out.trans (hA.out.mono hzr))) (Nat.lt_succ_self m) hsm HF.out.1 HF.out.2 hpl.out hk30)
        have hbA := Lib.hid (hb.out.trans (hA.out.mono (show m ≤ wr.heap.size by omega)))
        rw [← hfr, ← htq] at HPN hbA hA
        rw [← hfr] at m0
        rw [← htq] at m1
        clear hc hfr htq
        go_wp2_with fail
        generalize hWm : wr.alloc _ = Wm at *
        clear hWm
        refine HPN.out.mono ?_
        rintro e w7 ⟨hb7, hy, hn⟩
        by_cases hg : k < 30 ∧ goB side ks t l ms k = true
        · obtain ⟨rfl, hI7⟩ := hy hg
          have HI7 := Lib.hid hI7
          have HB7 := Lib.hid (hbA.out.trans hb7)
          have hk31 : k + 1 ≤ 30 := by omega
          have HPL7 := Lib.hid (show playB side ks t l ms (k + 1) = true by simp only [playB, hpl.out, hg.2, Bool.and_self])
          clear hy hn hb7 hI7 hg m0 m1
          go_wp2_with fail
          go_roundw
          case rel => exact ⟨k + 1, by omega, hk31, by first | rfl | simp, HPL7, HI7, HB7⟩
          case measure => simp [intOf]; omega
        · obtain rfl := hn hg
          have HV2 := Lib.hid (gameB_no (side := side) (t := t) (ks := ks) (l := l) hlt hg)
          have HB7 := Lib.hid (hb5e.out.trans ((hbA.out.trans hb7).mono HBM.out))
          clear hy hn hb7 hg m0 m1
          go_wp2_with fail
          refine bodyPost_ret (v := .tuple #[.pointer none, .bool false]) (by simp [results, Tryz.results33, go_sem]) rfl ⟨fun _ => rfl, fun h => absurd h (by rw [HV2.out]; decide), HB7.out⟩
      · have hke : k = ms.length := by omega
        subst hke
        have hlt2 : ¬ ((ms.length : Int) < (ms.length : Int)) := by omega
        have HV2 := Lib.hid (show gameB side ks t l ms = true by rw [HV.out, hpl.out, decide_eq_true hk30]; rfl)
        go_wp2_with fail
        refine bodyPost_ret (v := .tuple #[.pointer (some ⟨m + 1, 0, none⟩), .bool true]) (by simp [results, Tryz.results33, go_sem]) rfl ⟨fun h => absurd h (by rw [HV2.out]; decide), fun _ => ⟨m + 1, m, rfl, HBM.out, Nat.lt_succ_self m, hI.out⟩, hbr.out⟩
end Go.Proofs.YtcgfklljbblhlaaGreatDoor.Ko

namespace Go.Proofs.YtcgfklljbblhlaaGreatDoor.Ko
open Go.ChangeShapes Go.WideShapes Go.ChangeAt Go.RowKit Base Sq
set_option linter.unusedVariables false
set_option maxRecDepth 20000
attribute [local irreducible] wpQuiet

set_option maxHeartbeats 4000000 in
theorem gameOk_any (side : Int) (A : Option Addr) (c : Nat) (ks : List Kd) (t : Int) (N : Option Addr) (cn : Nat) (l : List St) (M : Option Addr) (cm : Nat) (ms : List Mv) (w : World) (hR : IsKinds w w.heap.size A ks) (hN : IsSteps w w.heap.size N l) (hM : InMvs w w.heap.size M ms.length ms)
    (hTA : TabAt w) (hsm : Small ks) (hl : l.length ≤ 1048576) (hm : ms.length ≤ 1048576) :
    Calls Tryz.prog 42 #[.agg #[.int .i64 side, .slice A ks.length c], .agg #[.int .i64 t, .slice N l.length cn, .slice M ms.length cm]] w fun e w' => e = .returned (.bool (gameB side ks t l ms)) ∧ Below w.heap.size w w' := by
  have hb0 : Below w.heap.size w ((w.alloc (.cells #[.int .i64 side, .slice A ks.length c] 40)).alloc (.cells #[.int .i64 t, .slice N l.length cn, .slice M ms.length cm] 44)) := (by repeat (first | exact Below.refl _ _ | assumption | (refine Below.alloc ?_ (by first | omega | (simp; done) | (simp; omega)) _) | (refine Below.setCell ?_ (by first | omega | (simp; done) | (simp; omega)) _) | refine Below.drew ?_))
  go_enter Tryz.func42, Tryz.ntmps42
  go_wp2_with fail
  generalize hW0 : (w.alloc _).alloc _ = W0 at *
  clear hW0
  refine (courseOf_any side A c ks t N cn l M cm ms W0 ((hR.below hb0).more hb0.size) ((hN.below hb0).more hb0.size) ((hM.below hb0).more hb0.size) (hTA.keep hb0) hsm hl hm).mono ?_
  rintro e w2 ⟨h0, h1, hb2⟩
  have HBE := Lib.hid (hb0.trans (hb2.mono hb0.size))
  cases hg : gameB side ks t l ms
  · obtain rfl := h0 hg
    have HG := Lib.hid hg
    clear h0 h1 hg hb2
    go_wp2_with fail
    go_ret
    exact ⟨rb (by rw [HG.out]), HBE.out⟩
  · obtain ⟨g, m, rfl, _, _, _⟩ := h1 hg
    have HG := Lib.hid hg
    clear h0 h1 hg hb2
    go_wp2_with fail
    go_ret
    exact ⟨rb (by rw [HG.out]), HBE.out⟩
end Go.Proofs.YtcgfklljbblhlaaGreatDoor.Ko

namespace Go.Proofs.YtcgfklljbblhlaaGreatDoor.Ko
open Go.ChangeShapes Go.WideShapes Go.ChangeAt Go.RowKit Base Sq
set_option linter.unusedVariables false
set_option maxRecDepth 20000

def InG (w : World) (B : Nat) (A : Option Addr) (l : List St) (M : Option Addr) (ms : List Mv) : Prop := IsSteps w B A l ∧ InMvs w B M ms.length ms
theorem InG.below {w w' : World} {B : Nat} {A : Option Addr} {l : List St} {M : Option Addr} {ms : List Mv} (h : InG w B A l M ms) (hb : Below B w w') : InG w' B A l M ms := ⟨h.1.below hb, h.2.below hb⟩
theorem InG.more {w : World} {B B' : Nat} {A : Option Addr} {l : List St} {M : Option Addr} {ms : List Mv} (h : InG w B A l M ms) (hB : B ≤ B') : InG w B' A l M ms := ⟨h.1.more hB, h.2.more hB⟩
def NewG (B : Nat) (w' : World) (g : Nat) (l : List St) (g2 : Nat) (ms : List Mv) : Prop := NewMen B w' g l ∧ NewGmv B w' g2 ms
theorem NewG.is {B : Nat} {w' : World} {g : Nat} {l : List St} {g2 : Nat} {ms : List Mv} (h : NewG B w' g l g2 ms) : InG w' w'.heap.size (some ⟨g, 0, none⟩) l (some ⟨g2, 0, none⟩) ms := ⟨h.1.is, h.2.is⟩
theorem NewG.below {B : Nat} {w' w2 : World} {g : Nat} {l : List St} {g2 : Nat} {ms : List Mv} (h : NewG B w' g l g2 ms) (hb : Below w'.heap.size w' w2) : NewG B w2 g l g2 ms := ⟨h.1.below hb, h.2.below hb⟩
theorem toGameK_any (t : Int) (A : Option Addr) (c : Nat) (l : List St) (M : Option Addr) (cm : Nat) (ms : List Mv) (w : World) (h : InG w w.heap.size A l M ms) (hl : l.length ≤ 1048576 ∧ ms.length ≤ 1048576) :
    Calls Tryz.prog 10 #[.agg #[.int .i64 t, .slice A l.length c, .slice M ms.length cm]] w fun e w' => ∃ g g2 c', e = .returned (.agg #[.int .i64 t, .slice (some ⟨g, 0, none⟩) l.length c', .slice (some ⟨g2, 0, none⟩) ms.length ms.length]) ∧ NewG w.heap.size w' g l g2 ms ∧ Below w.heap.size w w' := by
  refine (toGame_any t A c l M cm ms w h.1 h.2 hl.1 hl.2).mono ?_
  rintro e w' ⟨g, c', g2, rfl, h1, h2, hb⟩
  exact ⟨g, g2, c', rfl, ⟨h1, h2⟩, hb⟩
theorem eqGameK_same (t : Int) (A A' : Option Addr) (c c' : Nat) (l : List St) (M M' : Option Addr) (cm cm' : Nat) (ms : List Mv) (w : World) (h : InG w w.heap.size A l M ms) (h' : InG w w.heap.size A' l M' ms) (hl : l.length ≤ 1048576 ∧ ms.length ≤ 1048576) :
    Calls Tryz.prog 14 #[.agg #[.int .i64 t, .slice A l.length c, .slice M ms.length cm], .agg #[.int .i64 t, .slice A' l.length c', .slice M' ms.length cm']] w fun e w' => e = .returned (.bool true) ∧ Below w.heap.size w w' :=
  eqGame_same t A A' c c' l M M' cm cm' ms w h.1 h'.1 h.2 h'.2 hl.1 hl.2
theorem szGameK_any (t : Int) (A : Option Addr) (c n : Nat) (M : Option Addr) (cm k : Nat) (left : Int) (w : World) (hn : n ≤ 9223372036854775807 ∧ k ≤ 9223372036854775807) (h1 : 0 ≤ left) (h2 : left ≤ 1048576) :
    Calls Tryz.prog 7 #[.agg #[.int .i64 t, .slice A n c, .slice M k cm], .int .i64 left] w fun e w' => e = .returned (.int .i64 (if left - ((n + k : Nat) : Int) < 0 then -1 else left - ((n + k : Nat) : Int))) ∧ Below w.heap.size w w' := by
  refine (szGame_any t A c n M cm k left w hn.1 hn.2 h1 h2).mono ?_
  rintro e w' ⟨rfl, hb⟩
  refine ⟨?_, hb⟩
  have : (if left - (n : Int) < 0 then (-1 : Int) else if left - (n : Int) - (k : Int) < 0 then -1 else left - (n : Int) - (k : Int)) = (if left - ((n + k : Nat) : Int) < 0 then -1 else left - ((n + k : Nat) : Int)) := by
    by_cases ha : left - (n : Int) < 0
    · rw [if_pos ha, if_pos (by omega)]
    · rw [if_neg ha]
      by_cases hb : left - (n : Int) - (k : Int) < 0
      · rw [if_pos hb, if_pos (by omega)]
      · rw [if_neg hb, if_neg (by omega)]; omega
  rw [this]
theorem specGameOkK_any (side : Int) (A : Option Addr) (c : Nat) (ks : List Kd) (t : Int) (N : Option Addr) (cn : Nat) (l : List St) (M : Option Addr) (ms : List Mv) (w : World) (hR : IsKinds w w.heap.size A ks) (hG : InG w w.heap.size N l M ms) (hsm : Small ks) (hl : l.length ≤ 1048576 ∧ ms.length ≤ 1048576) :
    Calls Tryz.prog 28 #[.agg #[.int .i64 side, .slice A ks.length c], .agg #[.int .i64 t, .slice N l.length cn, .slice M ms.length ms.length]] w fun e w' => e = .returned (.bool (gameB side ks t l ms)) ∧ Below w.heap.size w w' :=
  specGameOk_any side A c ks t N cn l M ms.length ms w hR hG.1 hG.2 hsm hl.1 hl.2 (Nat.le_refl _)
theorem gameOkK_any (side : Int) (A : Option Addr) (c : Nat) (ks : List Kd) (t : Int) (N : Option Addr) (cn : Nat) (l : List St) (M : Option Addr) (ms : List Mv) (w : World) (hR : IsKinds w w.heap.size A ks) (hG : InG w w.heap.size N l M ms) (hTA : TabAt w) (hsm : Small ks) (hl : l.length ≤ 1048576 ∧ ms.length ≤ 1048576) :
    Calls Tryz.prog 42 #[.agg #[.int .i64 side, .slice A ks.length c], .agg #[.int .i64 t, .slice N l.length cn, .slice M ms.length ms.length]] w fun e w' => e = .returned (.bool (gameB side ks t l ms)) ∧ Below w.heap.size w w' :=
  gameOk_any side A c ks t N cn l M ms.length ms w hR hG.1 hG.2 hTA hsm hl.1 hl.2
end Go.Proofs.YtcgfklljbblhlaaGreatDoor.Ko
