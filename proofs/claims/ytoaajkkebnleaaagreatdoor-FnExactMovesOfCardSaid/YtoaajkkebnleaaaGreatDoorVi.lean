/- Slices of moves in the exact laws: compared, marked, held; MovesOf of the program and of the model. -/
import Derived.Test.YtoaajkkebnleaaaGreatDoorVf
import Derived.Test.YtoaajkkebnleaaaGreatDoorVm
import Derived.Test.YtoaajkkebnleaaaGreatDoorMk
import Derived.Test.YtoaajkkebnleaaaGreatDoorPk
namespace Go.Proofs.YtoaajkkebnleaaaGreatDoor.Ko
open Go.ChangeShapes Go.WideShapes Go.ChangeAt Go.RowKit Base Sq
set_option linter.unusedVariables false
set_option maxRecDepth 20000
attribute [local irreducible] wpQuiet

def IsMvs (w : World) (B : Nat) (A : Option Addr) (l : List Mv) : Prop := MvA 0 B w A l
theorem MvA.is {lo hi : Nat} {w : World} {A : Option Addr} {l : List Mv} (h : MvA lo hi w A l) : IsMvs w hi A l := MvA.more h (Nat.zero_le _) (Nat.le_refl _)
theorem IsMvs.more {w : World} {B B' : Nat} {A : Option Addr} {l : List Mv} (h : IsMvs w B A l) (hB : B ≤ B') : IsMvs w B' A l := MvA.more h (Nat.le_refl _) hB
theorem IsMvs.below {w w' : World} {B : Nat} {A : Option Addr} {l : List Mv} (h : IsMvs w B A l) (hb : Below B w w') : IsMvs w' B A l := MvA.below h hb
theorem IsMvs.at {w : World} {B : Nat} {A : Option Addr} {l : List Mv} (h : IsMvs w B A l) {i : Nat} (hi : i < l.length) : ∃ b, A = some ⟨b, 0, none⟩ ∧ b < B ∧ w.cell? ⟨b, i * 2, none⟩ = some (.int .i64 (mvAt l i).1) ∧ w.cell? ⟨b, i * 2 + 1, none⟩ = some (.int .i64 (mvAt l i).2) := MvA.at h hi
theorem MvA.span {lo hi lo' hi' : Nat} {w w' : World} {A : Option Addr} {l : List Mv} (h : MvA lo hi w A l) (hs : Span lo' hi' w w') (ho : hi ≤ lo' ∨ hi' ≤ lo) : MvA lo hi w' A l := fun hn => by
  obtain ⟨b, cs, rfl, h1, h2, h3, h4, h5⟩ := h hn
  exact ⟨b, cs, rfl, h1, h2, hs.blk h3 (by omega), h4, h5⟩
theorem eqMove_same (f q : Int) (w : World) :
    Calls Tryz.prog 34 #[.agg #[.int .i64 f, .int .i64 q], .agg #[.int .i64 f, .int .i64 q]] w fun e w' => e = .returned (.bool true) ∧ Below w.heap.size w w' := by
  go_enter Tryz.func34, Tryz.ntmps34
  go_wp2_with fail
  go_ret
  exact ⟨rfl, (by repeat (first | exact Below.refl _ _ | assumption | (refine Below.alloc ?_ (by first | omega | (simp; done) | (simp; omega)) _) | (refine Below.setCell ?_ (by first | omega | (simp; done) | (simp; omega)) _) | refine Below.drew ?_))⟩
theorem eqMoveS_same (A A' : Option Addr) (c c' : Nat) (l : List Mv) (w : World) (h : IsMvs w w.heap.size A l) (h' : IsMvs w w.heap.size A' l) (hl : l.length ≤ 1048576) :
    Calls Tryz.prog 13 #[.slice A l.length c, .slice A' l.length c'] w fun e w' => e = .returned (.bool true) ∧ Below w.heap.size w w' := by
  go_enter Tryz.func13, Tryz.ntmps13
  go_wp2_with fail
  go_loopw [5] (fun i wr => ∃ k : Nat, k ≤ l.length ∧ i = .int .i64 k ∧ Below w.heap.size w wr) (fun i _ => l.length - (intOf i).toNat)
  case atStart => exact ⟨0, by omega, rfl, Below.refl _ _⟩
  case round =>
    obtain ⟨k, hk, rfl, hbe⟩ := hrel
    by_cases hlt : k < l.length
    · obtain ⟨b, rfl, hB, c0, c1⟩ := (h.below hbe).at hlt
      obtain ⟨b', rfl, hB', d0, d1⟩ := (h'.below hbe).at hlt
      have hz := hbe.size
      have z1 : b < wr.heap.size := by omega
      have z2 : b' < wr.heap.size := by omega
      have hk1 : (k : Int) < (l.length : Int) := by omega
      have hk2 : (0 : Int) ≤ (k : Int) := by omega
      go_wp2_with fail
      refine wp_region_below (W := wr) (by kernel_rfl) (by kernel_rfl) (Below.refl _ _) ?_
      repeat (first
        | (refine qs_skip (by rfl) ?_; simp only [Act.put, List.setIfInBounds_toArray, List.set_cons_zero, List.set_cons_succ])
        | (apply qs_take
           focus rfl
           focus (
             intro wq hwq
             obtain ⟨hcq, hfq⟩ := bcell hwq
             go_simp
             all_goals first
               | exact rfl
               | (go_at_call 34; refine (eqMove_same _ _ _).mono ?_; exact fun e w2 h => ⟨h.1, hwq.trans (h.2.mono hwq.size)⟩)
               | (exact ⟨trivial, rfl⟩))
           simp only [Act.put, List.setIfInBounds_toArray, List.set_cons_zero, List.set_cons_succ]))
      refine wpQuiet_nil ?_
      intro wq hwq
      go_wp2_with fail
      go_roundw
      case rel => exact ⟨k + 1, by omega, by go_num, hbe.trans (hwq.mono (by omega))⟩
      case measure => simp [intOf]; omega
    · obtain rfl : k = l.length := by omega
      go_wp2_with fail
      go_ret
      exact ⟨rfl, hbe⟩
def marksV (k : Int) (n : Nat) : List Mv := (List.range n).map fun i : Nat => (k + 2 * i, k + 2 * i + 1)
theorem marksV_len (k : Int) (n : Nat) : (marksV k n).length = n := by simp [marksV]
theorem marksV_at {k : Int} {n i : Nat} (h : i < n) : mvAt (marksV k n) i = (k + 2 * i, k + 2 * i + 1) := by unfold mvAt marksV; simp [List.getD_eq_getElem?_getD, h]
set_option maxHeartbeats 1000000 in
theorem markMoveS_any (lo hi : Nat) (A : Option Addr) (c : Nat) (l : List Mv) (k : Int) (w : World) (h : MvA lo hi w A l) (hl : l.length ≤ 1048576) (hk0 : 0 ≤ k) (hk1 : k ≤ 1000000000000000) :
    Calls Tryz.prog 18 #[.slice A l.length c, .int .i64 k] w fun e w' => e = .returned (.int .i64 (k + 2 * l.length)) ∧ MvA lo hi w' A (marksV k l.length) ∧ Span lo hi w w' := by
  rcases Nat.eq_zero_or_pos l.length with h0 | h0
  · have hd : decide (0 < l.length) = false := decide_eq_false (by omega)
    rw [h0]
    clear h
    go_enter Tryz.func18, Tryz.ntmps18
    go_wp2_with fail
    go_loopw [1, 5] (fun x i wr => i = .int .i64 0 ∧ x = .int .i64 k ∧ wr = w) (fun _ i _ => 0)
    case atStart => exact ⟨rfl, rfl, rfl⟩
    case round =>
      obtain ⟨rfl, rfl, rfl⟩ := hrel
      go_wp2_with fail
      go_ret
      exact ⟨by simp, fun hn => by simp [marksV] at hn, Span.refl _ _ _⟩
  · obtain ⟨b, cs0, rfl, h1, h2, h3, h4, h5⟩ := h h0
    clear h h5
    go_enter Tryz.func18, Tryz.ntmps18
    go_wp2_with fail
    go_loopw [1, 5] (fun x i wr => ∃ (j : Nat) (cs : Array Value), j ≤ l.length ∧ i = .int .i64 j ∧ x = .int .i64 (k + 2 * j) ∧ Blk wr b cs 60 ∧ l.length * 2 ≤ cs.size ∧ Hid (∀ i, i < j → cs[i * 2]? = some (.int .i64 (k + 2 * i)) ∧ cs[i * 2 + 1]? = some (.int .i64 (k + 2 * i + 1))) ∧ Span lo hi w wr) (fun _ i _ => l.length - (intOf i).toNat)
    case atStart => exact ⟨0, cs0, by omega, rfl, by simp, h3, h4, Lib.hid (fun j hj => absurd hj (by omega)), Span.refl _ _ _⟩
    case round =>
      clear h3 h4
      obtain ⟨j, cs, hj, rfl, rfl, hB, hsz, hh, hS⟩ := hrel
      by_cases hlt : j < l.length
      · obtain ⟨o0, x0⟩ := old_cell (cs := cs) (i := j * 2) (by omega)
        obtain ⟨o1, x1⟩ := old_cell (cs := cs) (i := j * 2 + 1) (by omega)
        have y0 := (hB.cell (j * 2)).trans x0
        have y1 := (hB.cell (j * 2 + 1)).trans x1
        have f0 := hB.free (j * 2)
        have f1 := hB.free (j * 2 + 1)
        have HB2 := Lib.hid ((hB.set (j * 2) (.int .i64 (k + 2 * j))).set (j * 2 + 1) (.int .i64 (k + 2 * j + 1)))
        have HN : Hid (∀ i, i < j + 1 → ((cs.setIfInBounds (j * 2) (.int .i64 (k + 2 * j))).setIfInBounds (j * 2 + 1) (.int .i64 (k + 2 * j + 1)))[i * 2]? = some (.int .i64 (k + 2 * i)) ∧ ((cs.setIfInBounds (j * 2) (.int .i64 (k + 2 * j))).setIfInBounds (j * 2 + 1) (.int .i64 (k + 2 * j + 1)))[i * 2 + 1]? = some (.int .i64 (k + 2 * i + 1))) := Lib.hid (all_succ
          (fun i hi => ⟨set_get (set_get (hh.out i hi).1 (by omega)) (by omega), set_get (set_get (hh.out i hi).2 (by omega)) (by omega)⟩)
          ⟨set_get (set_same (by omega)) (by omega), set_same (by simp; omega)⟩)
        have HSZ : Hid (l.length * 2 ≤ ((cs.setIfInBounds (j * 2) (.int .i64 (k + 2 * j))).setIfInBounds (j * 2 + 1) (.int .i64 (k + 2 * j + 1))).size) := Lib.hid (by simpa using hsz)
        have HS2 := Lib.hid ((hS.setCell h1 h2 (j * 2) (.int .i64 (k + 2 * j))).setCell h1 h2 (j * 2 + 1) (.int .i64 (k + 2 * j + 1)))
        clear x0 x1 hB hS hh
        go_wp2_with fail
        go_roundw
        case rel =>
          refine ⟨j + 1, _, by omega, by go_num, by first | go_num | (congr 1; omega), ?_, HSZ.out, Lib.hid HN.out, ?_⟩
          · have := HB2.out; simpa [Int.add_assoc] using this
          · have := HS2.out; simpa [Int.add_assoc] using this
        case measure => simp [intOf]; omega
      · obtain rfl : j = l.length := by omega
        go_wp2_with fail
        go_ret
        exact ⟨rfl, fun _ => ⟨b, cs, rfl, h1, h2, hB, by rw [marksV_len]; exact hsz, fun i hi => by rw [marksV_len] at hi; rw [marksV_at hi]; exact hh.out i hi⟩, hS⟩
set_option maxHeartbeats 1000000 in
theorem heldMoveS_any (A : Option Addr) (c n B : Nat) (k : Int) (w : World) (h : IsMvs w B A (marksV k n)) (hl : n ≤ 1048576) (hk0 : 0 ≤ k) (hk1 : k ≤ 1000000000000000) :
    Calls Tryz.prog 19 #[.slice A n c, .int .i64 k] w fun e w' => e = .returned (.int .i64 (k + 2 * n)) ∧ w = w' := by
  go_enter Tryz.func19, Tryz.ntmps19
  go_wp2_with fail
  go_loopw [1, 5] (fun x i wr => ∃ j : Nat, j ≤ n ∧ i = .int .i64 j ∧ x = .int .i64 (k + 2 * j) ∧ wr = w) (fun _ i _ => n - (intOf i).toNat)
  case atStart => exact ⟨0, by omega, rfl, by simp, rfl⟩
  case round =>
    obtain ⟨j, hj, rfl, rfl, rfl⟩ := hrel
    by_cases hlt : j < n
    · obtain ⟨b, rfl, hB, c0, c1⟩ := h.at (i := j) (by rw [marksV_len]; omega)
      rw [marksV_at hlt] at c0 c1
      go_wp2_with fail
      go_roundw
      case rel => exact ⟨j + 1, by omega, by go_num, by first | go_num | (congr 1; omega), by first | rfl | trivial⟩
      case measure => simp [intOf]; omega
    · obtain rfl : j = n := by omega
      go_wp2_with fail
      go_ret
      exact ⟨rfl, rfl⟩

def movesP (side : Int) (ks : List Kd) (t : Int) (l : List St) : List Mv := if posB side ks t l = true then movesL side ks t l else []
theorem movesP_len (side : Int) (ks : List Kd) (t : Int) (l : List St) : (movesP side ks t l).length ≤ 1048576 := by
  unfold movesP
  split
  · rename_i h
    obtain ⟨hok, hsh, _⟩ := posB_facts h
    have := movesL_len (ks := ks) (t := t) (rulesOk_facts hok).1 (shapeB_facts hsh).2.1
    omega
  · simp
set_option maxHeartbeats 4000000 in
theorem movesOf_any (side : Int) (A : Option Addr) (c : Nat) (ks : List Kd) (t : Int) (M : Option Addr) (cm : Nat) (l : List St) (w : World) (hR : IsKinds w w.heap.size A ks) (hM : IsSteps w w.heap.size M l) (hT : TabAt w)
    (hsm : Small ks) (hl : l.length ≤ 1048576) :
    Calls Tryz.prog 12 #[.agg #[.int .i64 side, .slice A ks.length c], .agg #[.int .i64 t, .slice M l.length cm]] w fun e w' => MovesPost w w' (movesP side ks t l) e := by
  have hb0 := (below_of w (.cells #[.int .i64 side, .slice A ks.length c] 34)).alloc (by first | (simp; done) | (simp; omega) | omega) (.cells #[.int .i64 t, .slice M l.length cm] 38)
  have p1 := (Blk.new w #[.int .i64 side, .slice A ks.length c] 34).alloc (.cells #[.int .i64 t, .slice M l.length cm] 38)
  have p2 := Blk.new (w.alloc (.cells #[.int .i64 side, .slice A ks.length c] 34)) #[.int .i64 t, .slice M l.length cm] 38
  simp only [World.size_alloc] at p2
  have hR1 := (hR.below hb0).more hb0.size
  have hM1 := (hM.below hb0).more hb0.size
  have hT1 := hT.below hb0 hT.lt
  clear hR hM hT
  go_enter Tryz.func12, Tryz.ntmps12
  go_wp2_with fail
  generalize hW0 : (w.alloc _).alloc _ = W0 at *
  clear hW0
  refine (posOk_any _ _ _ _ _ _ _ _ _ hR1 hM1 hsm hl).mono ?_
  rintro e w2 ⟨rfl, hb2⟩
  have p1' := p1.below hb2 p1.lt
  have p2' := p2.below hb2 p2.lt
  have hR2 := (hR1.below hb2).more hb2.size
  have hM2 := (hM1.below hb2).more hb2.size
  have hT2 := hT1.keep hb2
  have hbe := hb0.trans (hb2.mono hb0.size)
  obtain ⟨⟨r0, r1⟩, _⟩ := p1'.at2
  obtain ⟨⟨o0, o1⟩, _⟩ := p2'.at2
  have hz2 := hbe.size
  clear p1 p2 hb0 hb2 hR1 hM1 hT1
  cases hp : posB side ks t l
  · have HN := Lib.hid (show movesP side ks t l = [] by unfold movesP; rw [hp]; rfl)
    clear hp
    go_wp2_with fail
    go_ret
    exact ⟨none, 0, by rw [HN.out]; rfl, by rw [HN.out]; exact MvA.nil _ _ _ _, hbe⟩
  · obtain ⟨hok, hsh, _⟩ := posB_facts hp
    have HO := Lib.hid hok
    have HS := Lib.hid hsh
    have HN := Lib.hid (show movesP side ks t l = movesL side ks t l by unfold movesP; rw [hp]; rfl)
    clear hp hok hsh
    go_wp2_with fail
    refine (movesFrom_any side A c ks t M cm l _ hR2 hM2 hT2 HO.out HS.out).mono ?_
    rintro e w3 ⟨A3, c3, rfl, hmv, hb3⟩
    go_wp2_with fail
    go_ret
    exact ⟨A3, c3, by rw [HN.out]; rfl, by rw [HN.out]; exact hmv.more hz2 (Nat.le_refl _), hbe.trans (hb3.mono hz2)⟩
set_option maxHeartbeats 4000000 in
theorem specMovesOf_any (side : Int) (A : Option Addr) (c : Nat) (ks : List Kd) (t : Int) (M : Option Addr) (cm : Nat) (l : List St) (w : World) (hR : IsKinds w w.heap.size A ks) (hM : IsSteps w w.heap.size M l)
    (hsm : Small ks) (hl : l.length ≤ 1048576) :
    Calls Tryz.prog 9 #[.agg #[.int .i64 side, .slice A ks.length c], .agg #[.int .i64 t, .slice M l.length cm]] w fun e w' => MovesPost w w' (movesP side ks t l) e := by
  have hb0 := (below_of w (.cells #[.int .i64 side, .slice A ks.length c] 34)).alloc (by first | (simp; done) | (simp; omega) | omega) (.cells #[.int .i64 t, .slice M l.length cm] 38)
  have p1 := (Blk.new w #[.int .i64 side, .slice A ks.length c] 34).alloc (.cells #[.int .i64 t, .slice M l.length cm] 38)
  have p2 := Blk.new (w.alloc (.cells #[.int .i64 side, .slice A ks.length c] 34)) #[.int .i64 t, .slice M l.length cm] 38
  simp only [World.size_alloc] at p2
  have hR1 := (hR.below hb0).more hb0.size
  have hM1 := (hM.below hb0).more hb0.size
  clear hR hM
  go_enter Tryz.func9, Tryz.ntmps9
  go_wp2_with fail
  generalize hW0 : (w.alloc _).alloc _ = W0 at *
  clear hW0
  refine (specPosOk_any _ _ _ _ _ _ _ _ _ hR1 hM1 hsm hl).mono ?_
  rintro e w2 ⟨rfl, hb2⟩
  have p1' := p1.below hb2 p1.lt
  have p2' := p2.below hb2 p2.lt
  have hR2 := (hR1.below hb2).more hb2.size
  have hM2 := (hM1.below hb2).more hb2.size
  have hbe := hb0.trans (hb2.mono hb0.size)
  obtain ⟨⟨r0, r1⟩, _⟩ := p1'.at2
  obtain ⟨⟨o0, o1⟩, _⟩ := p2'.at2
  have hz2 := hbe.size
  clear p1 p2 hb0 hb2 hR1 hM1
  cases hp : posB side ks t l
  · have HN := Lib.hid (show movesP side ks t l = [] by unfold movesP; rw [hp]; rfl)
    clear hp
    go_wp2_with fail
    go_ret
    exact ⟨none, 0, by rw [HN.out]; rfl, by rw [HN.out]; exact MvA.nil _ _ _ _, hbe⟩
  · obtain ⟨hok, hsh, _⟩ := posB_facts hp
    have HO := Lib.hid hok
    have HS := Lib.hid hsh
    have HN := Lib.hid (show movesP side ks t l = movesL side ks t l by unfold movesP; rw [hp]; rfl)
    clear hp hok hsh
    go_wp2_with fail
    refine (l4All_any side A c ks t M cm l _ hR2 hM2 HO.out HS.out).mono ?_
    rintro e w3 ⟨A3, c3, rfl, hmv, hb3⟩
    go_wp2_with fail
    go_ret
    exact ⟨A3, c3, by rw [HN.out]; rfl, by rw [HN.out]; exact hmv.more hz2 (Nat.le_refl _), hbe.trans (hb3.mono hz2)⟩
end Go.Proofs.YtoaajkkebnleaaaGreatDoor.Ko
