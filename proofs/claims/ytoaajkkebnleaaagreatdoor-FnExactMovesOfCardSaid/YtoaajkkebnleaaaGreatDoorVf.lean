/- All legal moves of a valid position: the program's movesFrom. -/
import Derived.Test.YtoaajkkebnleaaaGreatDoorVs
import Derived.Test.YtoaajkkebnleaaaGreatDoorNx
namespace Go.Proofs.YtoaajkkebnleaaaGreatDoor.Ko
open Go.ChangeShapes Go.WideShapes Go.ChangeAt Go.RowKit Base Sq
set_option linter.unusedVariables false
set_option maxRecDepth 20000
attribute [local irreducible] wpQuiet

theorem OwnV.own_lt {w : World} {base : Nat} {v : Value} {l : List Mv} (h : OwnV w base v l) {k : Nat} (hk : v.ownBlock = some k) : k < w.heap.size := by
  rcases h.2 with ⟨rfl, _⟩ | ⟨g, cap, cur, rfl, hb, hg, _⟩
  · simp [Value.ownBlock] at hk
  · simp [Value.ownBlock] at hk; subst hk; exact lt_of_block hg
theorem own_none : (Value.slice none 0 0).ownBlock = none := rfl
def MovesPost (w w' : World) (l : List Mv) (e : Ending) : Prop := ∃ A c, e = .returned (.slice A l.length c) ∧ MvA w.heap.size w'.heap.size w' A l ∧ Below w.heap.size w w'
theorem take_snoc {l : List Mv} {j : Nat} (h : j < l.length) : l.take (j + 1) = l.take j ++ [mvAt l j] := by rw [List.take_succ_eq_append_getElem h, mvAt_lt h]
/-- what holds at each round's head -/
def MfInv (w wr : World) (b : Nat) (side : Int) (A : Option Addr) (c : Nat) (ks : List Kd) (t : Int) (M : Option Addr) (cm : Nat) (l : List St) (j : Nat) (v : Value) (g : Nat) : Prop :=
  OwnV wr (b + 1) v ((movesL side ks t l).take j) ∧ (∀ k, v.ownBlock = some k → k < g) ∧ Blk wr g #[.int .i64 (mvAt (movesL side ks t l) j).1, .int .i64 (mvAt (movesL side ks t l) j).2] 60 ∧ b < g ∧
    MoverAt wr b side A c ks t M cm l (if j < (movesL side ks t l).length then j + 1 else j) ∧ Below w.heap.size w wr

set_option maxRecDepth 100000 in
set_option maxHeartbeats 4000000 in
theorem movesFrom_any (side : Int) (A : Option Addr) (c : Nat) (ks : List Kd) (t : Int) (M : Option Addr) (cm : Nat) (l : List St) (w : World) (hR : IsKinds w w.heap.size A ks) (hM : IsSteps w w.heap.size M l) (hT : TabAt w)
    (hok : rulesOk side ks = true) (hsh : shapeB side ks t l = true) :
    Calls Tryz.prog 33 #[.agg #[.int .i64 side, .slice A ks.length c], .agg #[.int .i64 t, .slice M l.length cm]] w fun e w' => MovesPost w w' (movesL side ks t l) e := by
  obtain ⟨i0, hi0, hz0, hz1, hz2⟩ := info_parts mvInfo
  have hlen := movesL_len (ks := ks) (t := t) (rulesOk_facts hok).1 (shapeB_facts hsh).2.1
  have HOK := Lib.hid hok
  have HSH := Lib.hid hsh
  have HR := Lib.hid hR
  have HM := Lib.hid hM
  have HT := Lib.hid hT
  have hg0 := hT.lt
  clear hok hsh hR hM hT
  have hb0 := (below_of w (.cells #[.int .i64 side, .slice A ks.length c] 34)).alloc (by first | (simp; done) | (simp; omega) | omega) (.cells #[.int .i64 t, .slice M l.length cm] 38)
  go_enter Tryz.func33, Tryz.ntmps33
  go_wp2_with fail
  generalize hW0 : (w.alloc _).alloc _ = W0 at *
  clear hW0
  refine (moverOf_any _ _ _ _ _ _ _ _ _).mono ?_
  rintro e w2 ⟨rfl, pm, hsz2, hb2⟩
  have hz0' := hb0.size
  have hbe2 := hb0.trans (hb2.mono hb0.size)
  clear hsz2 hb2 hb0
  generalize hbb : W0.heap.size + 2 = b at *
  have hwb : w.heap.size ≤ b := by omega
  clear hbb hz0'
  clear W0
  have z2 := pm.lt
  go_wp2_with fail
  refine (next_any side A c ks t M cm l 0 b w.heap.size _ (HR.out.below hbe2) (HM.out.below hbe2) (HT.out.below hbe2 hg0) hg0 (MoverAt.new pm) hwb HOK.out HSH.out).mono ?_
  rintro e w3 ⟨rfl, hm3, hu3⟩
  have hbe3 := hbe2.trans (hu3.toBelow hwb (by have := hbe2.size; omega))
  have z3 := hm3.lt
  clear hbe2 pm hu3
  have hI0 : Hid (MfInv w (w3.alloc (.cells #[.int .i64 (mvAt (movesL side ks t l) 0).1, .int .i64 (mvAt (movesL side ks t l) 0).2] 60)) b side A c ks t M cm l 0 (.slice none 0 0) w3.heap.size) := Lib.hid
    ⟨OwnV.nil _ _, fun k hk => by simp [own_none] at hk, Blk.new _ _ _, z3, hm3.below (below_of _ _) z3, hbe3.alloc (by omega) _⟩
  clear hm3 hbe3
  go_wp2_with fail
  generalize hms : movesL side ks t l = ms at *
  generalize w3.alloc _ = W3 at *
  go_loopg [5, 7, 8] ms.length (fun gk s5 s7 s8 wr => ∃ (j : Nat) (B : Option Addr) (d g : Nat), j ≤ ms.length ∧ ms.length - j ≤ gk ∧ s5 = .slice B j d ∧ s7 = .pointer (some ⟨g, 0, none⟩) ∧ s8 = .bool (decide (j < ms.length)) ∧ Hid (MfInv w wr b side A c ks t M cm l j (.slice B j d) g))
  case atStart => exact ⟨0, none, 0, _, by omega, by omega, rfl, rfl, rfl, hI0⟩
  case round =>
    clear hI0
    obtain ⟨j, B, d, g, hj, hgk, rfl, rfl, rfl, hI⟩ := hrel
    obtain ⟨hO, hvg, pg, hbg, hm, hbe⟩ := hI.out
    rw [hms] at hO pg hm
    have zg := pg.lt
    have hz := hbe.size
    obtain ⟨⟨c0, c1⟩, _⟩ := pg.at2
    by_cases hlt : j < ms.length
    · have hd := decide_eq_true hlt
      rw [if_pos hlt] at hm
      have HTK := Lib.hid (take_snoc hlt)
      have htl : (ms.take j).length = j := by simp; omega
      have HO := Lib.hid hO
      have hsb : (Value.slice B j d).ownBlock ≠ some g := fun h => by have := hvg g h; omega
      have HSB := Lib.hid hsb
      have HVG := Lib.hid hvg
      have hmx : (ms.take j).length + 1 ≤ maxLen := by unfold maxLen; omega
      have zm := hm.lt
      clear hO hvg hI hsb
      go_wp2_with (at_builtin; refine wpList_append_own _ rfl _ _ 30 rfl (b + 1) 60 i0 (.agg #[.int .i64 0, .int .i64 0]) 2 16 Tryz.underlying30 hi0 hz0 hz1 hz2 rfl (by decide) _ _ _ rfl (HO.out.alloc _) ⟨wr.heap.size, 0, none⟩ 1 1 [.int .i64 (mvAt ms j).1, .int .i64 (mvAt ms j).2] rfl rfl (news2 (Blk.new wr #[.int .i64 (mvAt ms j).1, .int .i64 (mvAt ms j).2] 60)) one2 hmx (by omega) (by simp; omega) ?_; intro v' w7 hown' hgrow7 hnil7; have hOn := OwnV.snoc (m := mvAt ms j) hown'; rw [← HTK.out] at hOn; have hbG : Below (b + 1) (wr.alloc (.cells #[.int .i64 (mvAt ms j).1, .int .i64 (mvAt ms j).2] 60)) w7 := OwnV.base (HO.out.alloc _) hgrow7 (Below.refl _ _) (Nat.le_refl _) (by simp; omega); have pg7 : Blk w7 g #[.int .i64 (mvAt ms j).1, .int .i64 (mvAt ms j).2] 60 := (hgrow7.block g (by simp; omega) (fun h => HSB.out h.symm)).trans (pg.alloc _); have hm7 := (hm.below (below_of wr _) zm).below hbG (by omega); have hbe7 := (hbe.alloc hz _).trans (hbG.mono (by omega)); have hw7 : ∀ k, v'.ownBlock = some k → k < w7.heap.size := (fun k hk => hOn.own_lt hk); obtain ⟨⟨c0, c1⟩, _⟩ := pg7.at2; have z7 := pg7.lt; clear hown' hgrow7 hnil7 hbG)
      obtain ⟨B7, d7, hv7⟩ := hOn.slice
      rw [show (ms.take (j + 1)).length = j + 1 from by simp; omega] at hv7
      subst hv7
      have hO7 := Lib.hid hOn
      have hW7 := Lib.hid hw7
      clear hOn hw7
      have hz7 := hbe7.size
      have hbe8 := hbe7.alloc hz7 (.cells #[.int .i64 (mvAt ms j).1, .int .i64 (mvAt ms j).2] 60)
      have hm8 := hm7.below (below_of w7 (.cells #[.int .i64 (mvAt ms j).1, .int .i64 (mvAt ms j).2] 60)) (by omega)
      have p8 := Blk.new w7 #[.int .i64 (mvAt ms j).1, .int .i64 (mvAt ms j).2] 60
      have hx8 : But b w7 (w7.alloc (.cells #[.int .i64 (mvAt ms j).1, .int .i64 (mvAt ms j).2] 60)) := But.ofBelow (below_of w7 _)
      clear hbe7 hm7 pg7 c0 c1 hm pg hbe
      generalize hW8 : w7.alloc _ = W8 at *
      clear hW8
      refine (next_any side A c ks t M cm l (j + 1) b w.heap.size _ (HR.out.below hbe8) (HM.out.below hbe8) (HT.out.below hbe8 hg0) hg0 hm8 hwb HOK.out HSH.out).mono ?_
      rintro e w9 hN
      unfold NextPost at hN
      rw [hms] at hN
      obtain ⟨rfl, hm9, hu9⟩ := hN
      have p9 := hu9.blk p8 (by omega)
      have z9 := p9.lt
      have hu79 := hx8.trans hu9
      have hbe9 := hbe8.trans (hu9.toBelow hwb hbe8.size)
      obtain ⟨⟨c0, c1⟩, c2, c3⟩ := p9.at2
      have HF : Hid (∀ x y : Value, Below w7.heap.size w9 ((w9.setCell ⟨w7.heap.size, 0, none⟩ x).setCell ⟨w7.heap.size, 1, none⟩ y)) := Lib.hid (fun x y => ((Below.refl _ _).setCell (p := ⟨w7.heap.size, 0, none⟩) (Nat.le_refl _) _).setCell (p := ⟨w7.heap.size, 1, none⟩) (Nat.le_refl _) _)
      clear hx8 hu9 hbe8 hm8 p8
      go_wp2_with fail
      go_roundg (ms.length - (j + 1))
      case measure => omega
      case rel =>
        refine ⟨j + 1, B7, d7, w7.heap.size, hlt, Nat.le_refl _, rfl, rfl, rfl, Lib.hid ?_⟩
        unfold MfInv
        rw [hms]
        exact ⟨hO7.out.but (hu79.more (HF.out _ _) (Nat.le_refl _)) (by omega), hW7.out, p9.set2 _ _, by omega, hm9.below (HF.out _ _) (by omega), hbe9.trans ((HF.out _ _).mono hz7)⟩
    · obtain rfl : j = ms.length := by omega
      have hd : decide (ms.length < ms.length) = false := decide_eq_false (by omega)
      rw [List.take_length] at hO
      obtain ⟨A2, c2, hv, hmv⟩ := hO.of
      injection hv with h1 h2 h3
      have HMV := Lib.hid hmv
      clear hO hvg hI hm pg c0 c1 hmv
      go_wp2_with fail
      go_ret
      exact ⟨A2, c2, rfl, HMV.out.more (by omega) (Nat.le_refl _), hbe⟩
end Go.Proofs.YtoaajkkebnleaaaGreatDoor.Ko
