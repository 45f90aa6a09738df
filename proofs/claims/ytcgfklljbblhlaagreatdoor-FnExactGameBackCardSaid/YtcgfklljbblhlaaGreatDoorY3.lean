/- All legal moves of a valid position: the model's l4All. How a valid position stands: the program's stateOf. PosOk of the model. PosState of the program and of the model. -/
import Derived.Test.YtcgfklljbblhlaaGreatDoorVs
import Derived.Test.YtcgfklljbblhlaaGreatDoorY7
import Derived.Deep.LoopGhost
import Derived.Test.YtcgfklljbblhlaaGreatDoorCk
import Derived.Test.YtcgfklljbblhlaaGreatDoorPk
namespace Go.Proofs.YtcgfklljbblhlaaGreatDoor.Ko
open Go.ChangeShapes Go.WideShapes Go.ChangeAt Go.RowKit Base Sq
set_option linter.unusedVariables false
set_option maxRecDepth 20000
attribute [local irreducible] wpQuiet

def MovesPost' (w w' : World) (l : List Mv) (e : Ending) : Prop := ∃ A c, e = .returned (.slice A l.length c) ∧ MvA w.heap.size w'.heap.size w' A l ∧ Below w.heap.size w w'
theorem manL_yes {side : Int} {ks : List Kd} {t : Int} {l : List St} (hu : Up l) {k n : Nat} (hk : k < l.length) (ho : (stAt l k).dy = t) (h : canB side ks t l (stAt l k).far (n : Int) = true) : manL side ks t l k (n + 1) = manL side ks t l k n ++ [((stAt l k).far, (n : Int))] := by
  rw [canB_at hu hk ho] at h
  rw [manL, if_pos h]
theorem manL_no {side : Int} {ks : List Kd} {t : Int} {l : List St} (hu : Up l) {k n : Nat} (hk : k < l.length) (ho : (stAt l k).dy = t) (h : canB side ks t l (stAt l k).far (n : Int) = false) : manL side ks t l k (n + 1) = manL side ks t l k n := by
  rw [canB_at hu hk ho] at h
  rw [manL, if_neg (by rw [h]; simp), List.append_nil]
/-- what holds at each round's head -/
def AllInv (w wr : World) (side : Int) (A : Option Addr) (c n : Nat) (t : Int) (M : Option Addr) (cm m : Nat) (v : Value) (L : List Mv) : Prop :=
  OwnV wr (w.heap.size + 1 + 1) v L ∧ Blk wr w.heap.size #[.int .i64 side, .slice A n c] 40 ∧ Blk wr (w.heap.size + 1) #[.int .i64 t, .slice M m cm] 35 ∧ Below w.heap.size w wr
theorem AllInv.keep {w wr w' : World} {side : Int} {A : Option Addr} {c n : Nat} {t : Int} {M : Option Addr} {cm m : Nat} {v : Value} {L : List Mv} (h : AllInv w wr side A c n t M cm m v L) (hb : Below wr.heap.size wr w') : AllInv w w' side A c n t M cm m v L :=
  ⟨h.1.below hb, h.2.1.below hb h.2.1.lt, h.2.2.1.below hb h.2.2.1.lt, h.2.2.2.trans (hb.mono h.2.2.2.size)⟩

set_option maxRecDepth 100000 in
set_option maxHeartbeats 4000000 in
theorem l4All_any (side : Int) (A : Option Addr) (c : Nat) (ks : List Kd) (t : Int) (M : Option Addr) (cm : Nat) (l : List St) (w : World) (hR : IsKinds w w.heap.size A ks) (hM : IsSteps w w.heap.size M l)
    (hok : rulesOk side ks = true) (hsh : shapeB side ks t l = true) :
    Calls Tryz.prog 97 #[.agg #[.int .i64 side, .slice A ks.length c], .agg #[.int .i64 t, .slice M l.length cm]] w fun e w' => MovesPost' w w' (movesL side ks t l) e := by
  obtain ⟨i0, hi0, hz0, hz1, hz2⟩ := info_parts mvInfo
  have hs := (rulesOk_facts hok).1
  have hl4 := (shapeB_facts hsh).2.1
  have HU := Lib.hid (shapeB_up hsh)
  have HL := Lib.hid (fun k (hk : k ≤ l.length) => Nat.le_trans (movL_pre (side := side) (ks := ks) (t := t) (l := l) hk).length_le (movesL_len (ks := ks) (t := t) hs hl4))
  have HOK := Lib.hid hok
  have HSH := Lib.hid hsh
  have HSS := Lib.hid hs
  have HR := Lib.hid hR
  have HM := Lib.hid hM
  obtain ⟨S, hS, hS16⟩ : ∃ S : Nat, side * side = (S : Int) ∧ S ≤ 16 := ⟨(side * side).toNat, by rcases hs with rfl | rfl | rfl <;> decide, by rcases hs with rfl | rfl | rfl <;> decide⟩
  have hST : (side * side).toNat = S := by omega
  have hwS : IntKind.i64.wrap (side * side) = (S : Int) := by rw [hS]; exact IntWalk.i64_in _ (by omega)
  have HST := Lib.hid hST
  have HSI := Lib.hid hS
  have hb0 : Below w.heap.size w (((w.alloc (.cells #[.int .i64 side, .slice A ks.length c] 40)).alloc (.cells #[.int .i64 t, .slice M l.length cm] 35)).alloc (.cells #[] 58)) := (by repeat (first | exact Below.refl _ _ | assumption | (refine Below.alloc ?_ (by first | omega | (simp; done) | (simp; omega)) _) | (refine Below.setCell ?_ (by first | omega | (simp; done) | (simp; omega)) _) | refine Below.drew ?_))
  have p1 := ((Blk.new w #[.int .i64 side, .slice A ks.length c] 40).alloc (.cells #[.int .i64 t, .slice M l.length cm] 35)).alloc (.cells #[] 58)
  have p2 := (Blk.new (w.alloc (.cells #[.int .i64 side, .slice A ks.length c] 40)) #[.int .i64 t, .slice M l.length cm] 35).alloc (.cells #[] 58)
  have p3 := Blk.new ((w.alloc (.cells #[.int .i64 side, .slice A ks.length c] 40)).alloc (.cells #[.int .i64 t, .slice M l.length cm] 35)) #[] 58
  simp only [World.size_alloc] at p2 p3
  clear hok hsh hs hR hM hS hST
  go_enter Tryz.func97, Tryz.ntmps97
  go_wp2_with fail
  generalize hW0 : ((w.alloc _).alloc _).alloc _ = W0 at *
  clear hW0
  have hI0 : Hid (AllInv w W0 side A c ks.length t M cm l.length (.slice (some ⟨w.heap.size + 1 + 1, 0, none⟩) 0 0) (movL side ks t l 0)) := Lib.hid ⟨OwnV.empty (Nat.le_refl _) p3, p1, p2, hb0⟩
  clear p1 p2 p3 hb0
  go_loopg [5, 6, 7, 8] l.length (fun gk s5 s6 s7 s8 wr => ∃ (k : Nat) (B : Option Addr) (d : Nat), k ≤ l.length ∧ l.length - k ≤ gk ∧ s5 = .slice B (movL side ks t l k).length d ∧ s6 = .int .i64 k ∧ Hid (AllInv w wr side A c ks.length t M cm l.length (.slice B (movL side ks t l k).length d) (movL side ks t l k)))
  case atStart => exact ⟨0, _, _, by omega, by omega, rfl, rfl, hI0⟩
  case round =>
    clear hI0
    obtain ⟨k, B, d, hk, hgk, rfl, rfl, hI⟩ := hrel
    have p1 := hI.out.2.1
    have p2 := hI.out.2.2.1
    have hz := hI.out.2.2.2.size
    obtain ⟨⟨o0, o1⟩, _⟩ := p2.at2
    by_cases hlt : k < l.length
    · have hd : decide (k < l.length) = true := decide_eq_true hlt
      go_wp2_with fail
      have hI1 : Hid (AllInv w wr side A c ks.length t M cm l.length (.slice B (movL side ks t l k ++ manL side ks t l k 0).length d) (movL side ks t l k ++ manL side ks t l k 0)) := Lib.hid (by rw [manL, List.append_nil]; exact hI.out)
      have hlen0 : (movL side ks t l k).length = (movL side ks t l k ++ manL side ks t l k 0).length := by simp [manL]
      rw [hlen0]
      clear hlen0 hI p1 p2 o0 o1 hz
      go_loopg [5, 7, 8] S (fun gk2 s5 s7 s8 wr2 => ∃ (n : Nat) (B : Option Addr) (d : Nat), n ≤ S ∧ S - n ≤ gk2 ∧ ((stAt l k).dy = t ∨ n = 0) ∧ s5 = .slice B (movL side ks t l k ++ manL side ks t l k n).length d ∧ s7 = .int .i64 n ∧ Hid (AllInv w wr2 side A c ks.length t M cm l.length (.slice B (movL side ks t l k ++ manL side ks t l k n).length d) (movL side ks t l k ++ manL side ks t l k n)))
      case atStart => exact ⟨0, B, d, by omega, by omega, .inr rfl, rfl, rfl, hI1⟩
      case round =>
        clear hI1
        obtain ⟨n, B, d, hn, hgk2, hon, rfl, rfl, hI⟩ := hrel
        have hLB : (movL side ks t l k ++ manL side ks t l k n).length ≤ 100 := by
          have h1 := manL_len side ks t l k n
          have h2 := HL.out k hk
          simp only [List.length_append]
          omega
        generalize hLn : movL side ks t l k ++ manL side ks t l k n = Ln at *
        have HLn := Lib.hid hLn
        clear hLn
        have p1 := hI.out.2.1
        have p2 := hI.out.2.2.1
        have hbe := hI.out.2.2.2
        have hz := hbe.size
        have z1 := p1.lt
        have z2 := p2.lt
        obtain ⟨⟨r0, r1⟩, _⟩ := p1.at2
        obtain ⟨⟨o0, o1⟩, _⟩ := p2.at2
        obtain ⟨b, off, rfl, hB, hc⟩ := (HM.out.below hbe) (by omega)
        obtain ⟨s0, s1, s2⟩ := hc k hlt
        have zb : b < wr.heap.size := by omega
        clear hc
        by_cases ho : (stAt l k).dy = t
        · have hd2 : ((stAt l k).dy == t) = true := by simpa using ho
          have HO := Lib.hid ho
          clear ho hon
          by_cases hnS : n < S
          · have hd3 : decide (n < S) = true := decide_eq_true hnS
            go_wp2_with fail
            refine wp_region_below (W := wr) (by kernel_rfl) (by kernel_rfl) (Below.refl _ _) ?_
            repeat (first
              | (refine qs_skip (by rfl) ?_; simp only [Act.put, List.setIfInBounds_toArray, List.set_cons_zero, List.set_cons_succ])
              | (apply qs_take
                 focus rfl
                 focus (
                   intro wq hwq
                   obtain ⟨hcq, hfq⟩ := bcell hwq
                   go_simp
                   all_goals first
                     | exact rfl
                     | (exact ⟨trivial, rfl⟩))
                 simp only [Act.put, List.setIfInBounds_toArray, List.set_cons_zero, List.set_cons_succ]))
            refine wpQuiet_nil ?_
            intro wq hwq
            have hIq := Lib.hid (hI.out.keep hwq)
            clear hI p1 p2 hbe hz r0 r1 o0 o1 s0 s1 s2 hwq hB z1 z2 zb
            have p1 := hIq.out.2.1
            have p2 := hIq.out.2.2.1
            have hbe := hIq.out.2.2.2
            have hz := hbe.size
            have z1 := p1.lt
            have z2 := p2.lt
            obtain ⟨⟨r0, r1⟩, _⟩ := p1.at2
            obtain ⟨⟨o0, o1⟩, _⟩ := p2.at2
            obtain ⟨b', off', he, hB, hc⟩ := (HM.out.below hbe) (by omega)
            injection he with he
            injection he with he1 he2
            subst he1 he2
            obtain ⟨s0, s1, s2⟩ := hc k hlt
            have zb : b < wq.heap.size := by omega
            clear hc
            have hnq : 0 ≤ (n : Int) ∧ (n : Int) < side * side := by have := HSI.out; omega
            have HNQ := Lib.hid hnq
            clear hnq
            go_wp2_with fail
            have hI8 := Lib.hid (hIq.out.keep (below_of wq (.cells #[.int .i64 (stAt l k).far, .int .i64 n] 58)))
            have p8 := Blk.new wq #[.int .i64 (stAt l k).far, .int .i64 n] 58
            have hlow8 : wq.heap.size = wq.heap.size := rfl
            clear hIq p1 p2 hbe hz r0 r1 o0 o1 s0 s1 s2 hB z1 z2 zb hlow8
            generalize wq.heap.size = g8 at *
            generalize hW8 : wq.alloc _ = W8 at *
            clear hW8
            have hbe8 := hI8.out.2.2.2
            refine (l4Can_any side A c ks t _ cm l (stAt l k).far n _ ((HR.out.below hbe8).more hbe8.size) ((HM.out.below hbe8).more hbe8.size) HOK.out HSH.out HNQ.out).mono ?_
            rintro e w9 ⟨rfl, hb9⟩
            have hI9 := Lib.hid (hI8.out.keep hb9)
            have p9 := p8.below hb9 p8.lt
            have z9 := p9.lt
            have hz9 := hI9.out.2.2.2.size
            clear hI8 p8 hbe8 hb9
            obtain ⟨⟨c0, c1⟩, _⟩ := p9.at2
            cases hcb : canB side ks t l (stAt l k).far (n : Int)
            · have HE := Lib.hid (show movL side ks t l k ++ manL side ks t l k (n + 1) = Ln by rw [manL_no HU.out hlt HO.out hcb, HLn.out])
              clear hcb
              go_wp2_with fail
              go_roundg (S - (n + 1))
              case measure => omega
              case rel =>
                refine ⟨n + 1, B, d, by omega, by omega, .inl HO.out, by rw [HE.out], by go_num, Lib.hid ?_⟩
                rw [HE.out]
                exact hI9.out
            · have HE := Lib.hid (show movL side ks t l k ++ manL side ks t l k (n + 1) = Ln ++ [((stAt l k).far, (n : Int))] by rw [manL_yes HU.out hlt HO.out hcb, ← List.append_assoc, HLn.out])
              have hmx : Ln.length + 1 ≤ maxLen := by unfold maxLen; omega
              clear hcb
              go_wp2_with (at_builtin; refine wpList_append_own _ rfl _ _ 42 rfl (w.heap.size + 1 + 1) 58 i0 (.agg #[.int .i64 0, .int .i64 0]) 2 16 Tryz.underlying42 hi0 hz0 hz1 hz2 rfl (by decide) _ _ _ rfl (hI9.out.1.alloc _) ⟨w9.heap.size, 0, none⟩ 1 1 [.int .i64 (stAt l k).far, .int .i64 n] rfl rfl (news2 (Blk.new w9 #[.int .i64 (stAt l k).far, .int .i64 n] 58)) one2 hmx (by omega) (by have := hI9.out.2.2.1.lt; simp; omega) ?_; intro v' w7 hown' hgrow7 hnil7; have hOn := OwnV.snoc (m := ((stAt l k).far, (n : Int))) hown'; have hbG : Below (w.heap.size + 1 + 1) (w9.alloc (.cells #[.int .i64 (stAt l k).far, .int .i64 n] 58)) w7 := OwnV.base (hI9.out.1.alloc _) hgrow7 (Below.refl _ _) (Nat.le_refl _) (by have := hI9.out.2.2.1.lt; simp; omega); clear hown' hgrow7 hnil7)
              obtain ⟨B7, d7, hv7⟩ := hOn.slice
              subst hv7
              have hI7 : Hid (AllInv w w7 side A c ks.length t (some ⟨b, off, none⟩) cm l.length (.slice B7 (Ln ++ [((stAt l k).far, (n : Int))]).length d7) (Ln ++ [((stAt l k).far, (n : Int))])) := Lib.hid ⟨hOn, (hI9.out.2.1.alloc _).below hbG (by omega), (hI9.out.2.2.1.alloc _).below hbG (by omega), (hI9.out.2.2.2.alloc hz9 _).trans (hbG.mono (by omega))⟩
              clear hOn hbG hI9
              go_roundg (S - (n + 1))
              case measure => omega
              case rel =>
                refine ⟨n + 1, B7, d7, by omega, by omega, .inl HO.out, by rw [HE.out], by go_num, Lib.hid ?_⟩
                rw [HE.out]
                exact hI7.out
          · have hd3 : decide (n < S) = false := decide_eq_false hnS
            obtain rfl : n = S := by omega
            have HE := Lib.hid (show movL side ks t l (k + 1) = Ln by rw [← HLn.out, movL, if_pos HO.out, HST.out])
            go_wp2_with fail
            refine wp_region_below (W := wr) (by kernel_rfl) (by kernel_rfl) (Below.refl _ _) ?_
            repeat (first
              | (refine qs_skip (by rfl) ?_; simp only [Act.put, List.setIfInBounds_toArray, List.set_cons_zero, List.set_cons_succ])
              | (apply qs_take
                 focus rfl
                 focus (
                   intro wq hwq
                   obtain ⟨hcq, hfq⟩ := bcell hwq
                   go_simp
                   all_goals first
                     | exact rfl
                     | (exact ⟨trivial, rfl⟩))
                 simp only [Act.put, List.setIfInBounds_toArray, List.set_cons_zero, List.set_cons_succ]))
            refine wpQuiet_nil ?_
            intro wq hwq
            have hIq := Lib.hid (hI.out.keep hwq)
            clear hI p1 p2 hbe hz r0 r1 o0 o1 s0 s1 s2 hwq hB
            go_wp2_with fail
            go_roundg (l.length - (k + 1))
            case measure => omega
            case rel =>
              refine ⟨k + 1, B, d, by omega, by omega, by rw [HE.out], by go_num, Lib.hid ?_⟩
              rw [HE.out]
              exact hIq.out
        · have hd2 : ((stAt l k).dy == t) = false := by simpa using ho
          have hn0 : n = 0 := hon.resolve_left ho
          subst hn0
          have HE := Lib.hid (show movL side ks t l (k + 1) = Ln by rw [← HLn.out, movL, if_neg ho, manL])
          have HS4 : 0 < S := by have := HSI.out; rcases HSS.out with h | h | h <;> (rw [h] at this; omega)
          have hd3 : decide (0 < S) = true := decide_eq_true HS4
          clear ho hon
          go_wp2_with fail
          refine wp_region_below (W := wr) (by kernel_rfl) (by kernel_rfl) (Below.refl _ _) ?_
          repeat (first
            | (refine qs_skip (by rfl) ?_; simp only [Act.put, List.setIfInBounds_toArray, List.set_cons_zero, List.set_cons_succ])
            | (apply qs_take
               focus rfl
               focus (
                 intro wq hwq
                 obtain ⟨hcq, hfq⟩ := bcell hwq
                 go_simp
                 all_goals first
                   | exact rfl
                   | (exact ⟨trivial, rfl⟩))
               simp only [Act.put, List.setIfInBounds_toArray, List.set_cons_zero, List.set_cons_succ]))
          refine wpQuiet_nil ?_
          intro wq hwq
          have hIq := Lib.hid (hI.out.keep hwq)
          clear hI p1 p2 hbe hz r0 r1 o0 o1 s0 s1 s2 hwq hB
          go_wp2_with fail
          go_roundg (l.length - (k + 1))
          case measure => omega
          case rel =>
            refine ⟨k + 1, B, d, by omega, by omega, by rw [HE.out], by go_num, Lib.hid ?_⟩
            rw [HE.out]
            exact hIq.out
    · have hd : decide (k < l.length) = false := decide_eq_false hlt
      obtain rfl : k = l.length := by omega
      obtain ⟨A2, c2, hv, hmv⟩ := hI.out.1.of
      injection hv with h1 h2 h3
      have HMV := Lib.hid hmv
      have hbe := hI.out.2.2.2
      clear hI p1 p2 hmv
      go_wp2_with fail
      go_ret
      exact ⟨A2, c2, rfl, HMV.out.more (by omega) (Nat.le_refl _), hbe⟩
end Go.Proofs.YtcgfklljbblhlaaGreatDoor.Ko

namespace Go.Proofs.YtcgfklljbblhlaaGreatDoor.Ko
open Go.ChangeShapes Go.WideShapes Go.ChangeAt Go.RowKit Base Sq
set_option linter.unusedVariables false
set_option maxRecDepth 20000
attribute [local irreducible] wpQuiet

def stateV (side : Int) (ks : List Kd) (t : Int) (l : List St) : Int := if 0 < (movesL side ks t l).length then 1 else if checkB side ks l t = true then 2 else 3

set_option maxRecDepth 100000 in
set_option maxHeartbeats 4000000 in
theorem stateOf_any (side : Int) (A : Option Addr) (c : Nat) (ks : List Kd) (t : Int) (M : Option Addr) (cm : Nat) (l : List St) (w : World) (hR : IsKinds w w.heap.size A ks) (hM : IsSteps w w.heap.size M l) (hT : TabAt w)
    (hok : rulesOk side ks = true) (hsh : shapeB side ks t l = true) :
    Calls Tryz.prog 88 #[.agg #[.int .i64 side, .slice A ks.length c], .agg #[.int .i64 t, .slice M l.length cm]] w fun e w' => e = .returned (.int .i64 (stateV side ks t l)) ∧ Below w.heap.size w w' := by
  have HOK := Lib.hid hok
  have HSH := Lib.hid hsh
  have ht01 := (shapeB_facts hsh).1
  have HR := Lib.hid hR
  have HM := Lib.hid hM
  have HT := Lib.hid hT
  have hg0 := hT.lt
  clear hok hsh hR hM hT
  have hb0 := (below_of w (.cells #[.int .i64 side, .slice A ks.length c] 40)).alloc (by first | (simp; done) | (simp; omega) | omega) (.cells #[.int .i64 t, .slice M l.length cm] 35)
  have p1 := (Blk.new w #[.int .i64 side, .slice A ks.length c] 40).alloc (.cells #[.int .i64 t, .slice M l.length cm] 35)
  have p2 := Blk.new (w.alloc (.cells #[.int .i64 side, .slice A ks.length c] 40)) #[.int .i64 t, .slice M l.length cm] 35
  simp only [World.size_alloc] at p2
  go_enter Tryz.func88, Tryz.ntmps88
  go_wp2_with fail
  generalize hW0 : (w.alloc _).alloc _ = W0 at *
  clear hW0
  refine (moverOf_any _ _ _ _ _ _ _ _ _).mono ?_
  rintro e w2 ⟨rfl, pm, hsz2, hb2⟩
  have p1' := p1.below hb2 p1.lt
  have p2' := p2.below hb2 p2.lt
  have hz0' := hb0.size
  have hbe2 := hb0.trans (hb2.mono hb0.size)
  have hne1 : w.heap.size ≠ W0.heap.size + 2 := by have := p1.lt; omega
  have hne2 : w.heap.size + 1 ≠ W0.heap.size + 2 := by have := p2.lt; omega
  clear hsz2 hb2 hb0 p1 p2
  generalize hbb : W0.heap.size + 2 = b at *
  have hwb : w.heap.size ≤ b := by omega
  clear hbb hz0'
  clear W0
  have z2 := pm.lt
  go_wp2_with fail
  refine (next_any side A c ks t M cm l 0 b w.heap.size _ (HR.out.below hbe2) (HM.out.below hbe2) (HT.out.below hbe2 hg0) hg0 (MoverAt.new pm) hwb HOK.out HSH.out).mono ?_
  rintro e w3 ⟨rfl, hm3, hu3⟩
  have hbe3 := hbe2.trans (hu3.toBelow hwb (by have := hbe2.size; omega))
  have q1 := hu3.blk p1' hne1
  have q2 := hu3.blk p2' hne2
  have zq1 := q1.lt
  have zq2 := q2.lt
  have hz3 := hbe3.size
  obtain ⟨⟨r0, r1⟩, _⟩ := q1.at2
  obtain ⟨⟨o0, o1⟩, _⟩ := q2.at2
  clear hbe2 pm hu3 hm3 p1' p2' hne1 hne2
  by_cases h0 : 0 < (movesL side ks t l).length
  · have hd : decide (0 < (movesL side ks t l).length) = true := decide_eq_true h0
    have HV := Lib.hid (show stateV side ks t l = 1 by unfold stateV; rw [if_pos h0])
    clear h0
    go_wp2_with fail
    go_ret
    exact ⟨ri HV.out.symm, hbe3.alloc hz3 _⟩
  · have hd : decide (0 < (movesL side ks t l).length) = false := decide_eq_false h0
    have hb4 := hbe3.alloc hz3 (.cells #[.int .i64 (mvAt (movesL side ks t l) 0).1, .int .i64 (mvAt (movesL side ks t l) 0).2] 58)
    cases hc : checkB side ks l t
    · have HV := Lib.hid (show stateV side ks t l = 3 by unfold stateV; rw [if_neg h0, hc]; rfl)
      have HC := Lib.hid hc
      clear h0 hc
      go_wp2_with fail
      refine (inCheck_any _ _ _ _ _ _ _ t _ _ ((HR.out.below hb4).more hb4.size) ((HM.out.below hb4).more hb4.size) HOK.out HSH.out (by omega)).mono ?_
      rw [HC.out]
      rintro e w5 ⟨rfl, hb5⟩
      go_wp2_with fail
      go_ret
      exact ⟨ri HV.out.symm, hb4.trans (hb5.mono hb4.size)⟩
    · have HV := Lib.hid (show stateV side ks t l = 2 by unfold stateV; rw [if_neg h0, hc]; rfl)
      have HC := Lib.hid hc
      clear h0 hc
      go_wp2_with fail
      refine (inCheck_any _ _ _ _ _ _ _ t _ _ ((HR.out.below hb4).more hb4.size) ((HM.out.below hb4).more hb4.size) HOK.out HSH.out (by omega)).mono ?_
      rw [HC.out]
      rintro e w5 ⟨rfl, hb5⟩
      go_wp2_with fail
      go_ret
      exact ⟨ri HV.out.symm, hb4.trans (hb5.mono hb4.size)⟩
end Go.Proofs.YtcgfklljbblhlaaGreatDoor.Ko

namespace Go.Proofs.YtcgfklljbblhlaaGreatDoor.Ko
open Go.ChangeShapes Go.WideShapes Go.ChangeAt Go.RowKit Base Sq
set_option linter.unusedVariables false
set_option maxRecDepth 20000
attribute [local irreducible] wpQuiet

set_option maxHeartbeats 2000000 in
theorem specPosOk_any (side : Int) (A : Option Addr) (c : Nat) (ks : List Kd) (t : Int) (M : Option Addr) (cm : Nat) (l : List St) (w : World) (hR : IsKinds w w.heap.size A ks) (hM : IsSteps w w.heap.size M l)
    (hsm : Small ks) (hl : l.length ≤ 1048576) :
    Calls Tryz.prog 49 #[.agg #[.int .i64 side, .slice A ks.length c], .agg #[.int .i64 t, .slice M l.length cm]] w fun e w' => e = .returned (.bool (posB side ks t l)) ∧ Below w.heap.size w w' := by
  go_enter Tryz.func49, Tryz.ntmps49
  go_wp2_with fail
  have hb0 : Below w.heap.size w ((w.alloc (.cells #[.int .i64 side, .slice A ks.length c] 40)).alloc (.cells #[.int .i64 t, .slice M l.length cm] 35)) := (by repeat (first | exact Below.refl _ _ | assumption | (refine Below.alloc ?_ (by first | omega | (simp; done) | (simp; omega)) _) | (refine Below.setCell ?_ (by first | omega | (simp; done) | (simp; omega)) _) | refine Below.drew ?_))
  have p1 := (Blk.new w #[.int .i64 side, .slice A ks.length c] 40).alloc (.cells #[.int .i64 t, .slice M l.length cm] 35)
  have p2 := Blk.new (w.alloc (.cells #[.int .i64 side, .slice A ks.length c] 40)) #[.int .i64 t, .slice M l.length cm] 35
  simp only [World.size_alloc] at p2
  generalize hW0 : (w.alloc _).alloc _ = W0 at *
  clear hW0
  refine (sp_rulesOk _ _ _ _ _ ((hR.below hb0).more hb0.size) hsm).mono ?_
  rintro e w2 ⟨rfl, hb2⟩
  have p1' := p1.below hb2 p1.lt
  have p2' := p2.below hb2 p2.lt
  have hb0' := hb0.trans (hb2.mono hb0.size)
  obtain ⟨⟨r0, r1⟩, _⟩ := p1'.at2
  obtain ⟨⟨o0, o1⟩, _⟩ := p2'.at2
  clear p1 p2 hb0 hb2
  cases hok : rulesOk side ks
  · have HO := Lib.hid hok
    clear hok
    go_wp2_with fail
    go_ret
    exact ⟨rb (by unfold posB; rw [HO.out]; rfl), hb0'⟩
  · have HO := Lib.hid hok
    clear hok
    go_wp2_with fail
    refine (l3Ok_any _ _ _ _ _ _ _ _ _ ((hR.below hb0').more hb0'.size) ((hM.below hb0').more hb0'.size) HO.out hl).mono ?_
    rintro e w4 ⟨rfl, hb4⟩
    go_wp2_with fail
    go_ret
    exact ⟨rb (by unfold posB; rw [HO.out]; simp), hb0'.trans (hb4.mono hb0'.size)⟩

end Go.Proofs.YtcgfklljbblhlaaGreatDoor.Ko

namespace Go.Proofs.YtcgfklljbblhlaaGreatDoor.Ko
open Go.ChangeShapes Go.WideShapes Go.ChangeAt Go.RowKit Base Sq
set_option linter.unusedVariables false
set_option maxRecDepth 20000
attribute [local irreducible] wpQuiet

def stateP (side : Int) (ks : List Kd) (t : Int) (l : List St) : Int := if posB side ks t l = true then stateV side ks t l else 0

set_option maxHeartbeats 4000000 in
theorem l4State_any (side : Int) (A : Option Addr) (c : Nat) (ks : List Kd) (t : Int) (M : Option Addr) (cm : Nat) (l : List St) (w : World) (hR : IsKinds w w.heap.size A ks) (hM : IsSteps w w.heap.size M l)
    (hok : rulesOk side ks = true) (hsh : shapeB side ks t l = true) :
    Calls Tryz.prog 75 #[.agg #[.int .i64 side, .slice A ks.length c], .agg #[.int .i64 t, .slice M l.length cm]] w fun e w' => e = .returned (.int .i64 (stateV side ks t l)) ∧ Below w.heap.size w w' := by
  have HOK := Lib.hid hok
  have HSH := Lib.hid hsh
  have ht01 := (shapeB_facts hsh).1
  have HR := Lib.hid hR
  have HM := Lib.hid hM
  clear hok hsh hR hM
  have hb0 := (below_of w (.cells #[.int .i64 side, .slice A ks.length c] 40)).alloc (by first | (simp; done) | (simp; omega) | omega) (.cells #[.int .i64 t, .slice M l.length cm] 35)
  have p1 := (Blk.new w #[.int .i64 side, .slice A ks.length c] 40).alloc (.cells #[.int .i64 t, .slice M l.length cm] 35)
  have p2 := Blk.new (w.alloc (.cells #[.int .i64 side, .slice A ks.length c] 40)) #[.int .i64 t, .slice M l.length cm] 35
  simp only [World.size_alloc] at p2
  go_enter Tryz.func75, Tryz.ntmps75
  go_wp2_with fail
  generalize hW0 : (w.alloc _).alloc _ = W0 at *
  clear hW0
  refine (l4All_any side A c ks t M cm l _ ((HR.out.below hb0).more hb0.size) ((HM.out.below hb0).more hb0.size) HOK.out HSH.out).mono ?_
  rintro e w2 ⟨A2, c2, rfl, hmv, hb2⟩
  have q1 := p1.below hb2 p1.lt
  have q2 := p2.below hb2 p2.lt
  have hbe := hb0.trans (hb2.mono hb0.size)
  obtain ⟨⟨r0, r1⟩, _⟩ := q1.at2
  obtain ⟨⟨o0, o1⟩, _⟩ := q2.at2
  clear p1 p2 hb2 hb0 hmv
  by_cases h0 : 0 < (movesL side ks t l).length
  · have hd : decide (0 < (movesL side ks t l).length) = true := decide_eq_true h0
    have HV := Lib.hid (show stateV side ks t l = 1 by unfold stateV; rw [if_pos h0])
    clear h0
    go_wp2_with fail
    go_ret
    exact ⟨ri HV.out.symm, hbe⟩
  · have hd : decide (0 < (movesL side ks t l).length) = false := decide_eq_false h0
    cases hc : checkB side ks l t
    · have HV := Lib.hid (show stateV side ks t l = 3 by unfold stateV; rw [if_neg h0, hc]; rfl)
      have HC := Lib.hid hc
      clear h0 hc
      go_wp2_with fail
      refine (l3Check_any _ _ _ _ _ _ _ _ _ t _ ((HR.out.below hbe).more hbe.size) ((HM.out.below hbe).more hbe.size) HOK.out HSH.out (by omega)).mono ?_
      rw [HC.out]
      rintro e w5 ⟨rfl, hb5⟩
      go_wp2_with fail
      go_ret
      exact ⟨ri HV.out.symm, hbe.trans (hb5.mono hbe.size)⟩
    · have HV := Lib.hid (show stateV side ks t l = 2 by unfold stateV; rw [if_neg h0, hc]; rfl)
      have HC := Lib.hid hc
      clear h0 hc
      go_wp2_with fail
      refine (l3Check_any _ _ _ _ _ _ _ _ _ t _ ((HR.out.below hbe).more hbe.size) ((HM.out.below hbe).more hbe.size) HOK.out HSH.out (by omega)).mono ?_
      rw [HC.out]
      rintro e w5 ⟨rfl, hb5⟩
      go_wp2_with fail
      go_ret
      exact ⟨ri HV.out.symm, hbe.trans (hb5.mono hbe.size)⟩

end Go.Proofs.YtcgfklljbblhlaaGreatDoor.Ko
