/- SearchFull and SearchCut of the program. SearchCut of the program. -/
import Derived.Test.YtoaajkkebnleaaaGreatDoorRn
import Derived.Test.YtoaajkkebnleaaaGreatDoorSo2
namespace Go.Proofs.YtoaajkkebnleaaaGreatDoor.Ko
open Go.ChangeShapes Go.WideShapes Go.ChangeAt Go.RowKit Base Sq
set_option linter.unusedVariables false
set_option maxRecDepth 20000
attribute [local irreducible] wpQuiet

def fullS (side : Int) (ks : List Kd) (t : Int) (l : List St) (n : Int) : Int × Int := if searchB side ks t l n = true then runV side ks false n.toNat 0 (-200) 200 t l else (0, 0)
def bndB (lo hi : Int) : Bool := decide (-200 ≤ lo ∧ lo < hi ∧ hi ≤ 200)
def cutS (side : Int) (ks : List Kd) (t : Int) (l : List St) (n lo hi : Int) : Int × Int := if (searchB side ks t l n && bndB lo hi) = true then runV side ks true n.toNat 0 lo hi t l else (0, 0)

theorem boundsOk_any (lo hi : Int) (w : World) :
    Calls Tryz.prog 46 #[.agg #[.int .i64 lo, .int .i64 hi]] w fun e w' => e = .returned (.bool (bndB lo hi)) ∧ Below w.heap.size w w' := by
  by_cases h1 : -200 ≤ lo
  · by_cases h2 : lo < hi
    · by_cases h3 : hi ≤ 200
      · have d1 := decide_eq_true h1
        have d2 := decide_eq_true h2
        have d3 := decide_eq_true h3
        have HB := Lib.hid (show bndB lo hi = true from decide_eq_true ⟨h1, h2, h3⟩)
        clear h1 h2 h3
        go_enter Tryz.func46, Tryz.ntmps46
        go_wp2_with fail
        go_ret
        exact ⟨rb HB.out.symm, (by repeat (first | exact Below.refl _ _ | assumption | (refine Below.alloc ?_ (by first | omega | (simp; done) | (simp; omega)) _) | (refine Below.setCell ?_ (by first | omega | (simp; done) | (simp; omega)) _) | refine Below.drew ?_))⟩
      · have d1 := decide_eq_true h1
        have d2 := decide_eq_true h2
        have d3 := decide_eq_false h3
        have HB := Lib.hid (show bndB lo hi = false from decide_eq_false (fun h => h3 h.2.2))
        clear h1 h2 h3
        go_enter Tryz.func46, Tryz.ntmps46
        go_wp2_with fail
        go_ret
        exact ⟨rb HB.out.symm, (by repeat (first | exact Below.refl _ _ | assumption | (refine Below.alloc ?_ (by first | omega | (simp; done) | (simp; omega)) _) | (refine Below.setCell ?_ (by first | omega | (simp; done) | (simp; omega)) _) | refine Below.drew ?_))⟩
    · have d1 := decide_eq_true h1
      have d2 := decide_eq_false h2
      have HB := Lib.hid (show bndB lo hi = false from decide_eq_false (fun h => h2 h.2.1))
      clear h1 h2
      go_enter Tryz.func46, Tryz.ntmps46
      go_wp2_with fail
      go_ret
      exact ⟨rb HB.out.symm, (by repeat (first | exact Below.refl _ _ | assumption | (refine Below.alloc ?_ (by first | omega | (simp; done) | (simp; omega)) _) | (refine Below.setCell ?_ (by first | omega | (simp; done) | (simp; omega)) _) | refine Below.drew ?_))⟩
  · have d1 := decide_eq_false h1
    have HB := Lib.hid (show bndB lo hi = false from decide_eq_false (fun h => h1 h.1))
    clear h1
    go_enter Tryz.func46, Tryz.ntmps46
    go_wp2_with fail
    go_ret
    exact ⟨rb HB.out.symm, (by repeat (first | exact Below.refl _ _ | assumption | (refine Below.alloc ?_ (by first | omega | (simp; done) | (simp; omega)) _) | (refine Below.setCell ?_ (by first | omega | (simp; done) | (simp; omega)) _) | refine Below.drew ?_))⟩

set_option maxHeartbeats 4000000 in
theorem searchFull_any (side : Int) (A : Option Addr) (c : Nat) (ks : List Kd) (t : Int) (M : Option Addr) (cm : Nat) (l : List St) (n : Int) (w : World) (hR : IsKinds w w.heap.size A ks) (hM : IsSteps w w.heap.size M l) (hT : TabAt w)
    (hsm : Small ks) (hl : l.length ≤ 1048576) :
    Calls Tryz.prog 23 #[.agg #[.int .i64 side, .slice A ks.length c], .agg #[.int .i64 t, .slice M l.length cm], .int .i64 n] w fun e w' => RunPost w w' (fullS side ks t l n) e := by
  have hb0 := (below_of w (.cells #[.int .i64 side, .slice A ks.length c] 34)).alloc (by first | (simp; done) | (simp; omega) | omega) (.cells #[.int .i64 t, .slice M l.length cm] 38)
  have p1 := (Blk.new w #[.int .i64 side, .slice A ks.length c] 34).alloc (.cells #[.int .i64 t, .slice M l.length cm] 38)
  have p2 := Blk.new (w.alloc (.cells #[.int .i64 side, .slice A ks.length c] 34)) #[.int .i64 t, .slice M l.length cm] 38
  simp only [World.size_alloc] at p2
  have hR1 := (hR.below hb0).more hb0.size
  have hM1 := (hM.below hb0).more hb0.size
  have hT1 := hT.below hb0 hT.lt
  have hz := hb0.size
  clear hR hM hT
  go_enter Tryz.func23, Tryz.ntmps23
  go_wp2_with fail
  generalize hW0 : (w.alloc _).alloc _ = W0 at *
  clear hW0
  refine (searchOk_any _ _ _ _ _ _ _ _ _ _ hR1 hM1 hsm hl).mono ?_
  rintro e w2 ⟨rfl, hb2⟩
  have p1' := p1.below hb2 p1.lt
  have p2' := p2.below hb2 p2.lt
  have hR2 := (hR1.below hb2).more hb2.size
  have hM2 := (hM1.below hb2).more hb2.size
  have hT2 := hT1.keep hb2
  have hbe := hb0.trans (hb2.mono hz)
  obtain ⟨⟨r0, r1⟩, _⟩ := p1'.at2
  obtain ⟨⟨o0, o1⟩, _⟩ := p2'.at2
  have hz2 := hbe.size
  clear p1 p2 hb0 hb2 hR1 hM1 hT1
  cases hb : searchB side ks t l n
  · have HN := Lib.hid (show fullS side ks t l n = (0, 0) by unfold fullS; rw [hb]; rfl)
    clear hb
    go_wp2_with fail
    refine bodyPost_ret (v := .tuple #[.int .i64 0, .int .i64 0]) (by simp [results, Tryz.results23, go_sem]) rfl ⟨by rw [HN.out], hbe⟩
  · have HN := Lib.hid (show fullS side ks t l n = runV side ks false n.toNat 0 (-200) 200 t l by unfold fullS; rw [hb]; rfl)
    have hb' := hb
    unfold searchB at hb'
    obtain ⟨hn, hp⟩ := (Bool.and_eq_true_iff).1 hb'
    have hn := of_decide_eq_true hn
    obtain ⟨m, rfl⟩ : ∃ m : Nat, n = (m : Int) := ⟨n.toNat, by omega⟩
    obtain ⟨hok, hsh, _⟩ := posB_facts hp
    have HO := Lib.hid hok
    have HS := Lib.hid hsh
    have hm3 : m ≤ 3 := by omega
    rw [Int.toNat_natCast] at HN
    have hrun := run_any side A c ks false HO.out m 0 (by omega) (-200) 200 t M cm l w2 (by omega) (by omega) hR2 hM2 hT2 HS.out
    rw [Nat.zero_add, Int.natCast_zero] at hrun
    have HRUN := Lib.hid hrun
    clear hb hb' hp hok hsh hn hrun
    go_wp2_with fail
    refine HRUN.out.mono ?_
    rintro e w3 ⟨rfl, hb3⟩
    go_wp2_with fail
    refine bodyPost_ret (v := .tuple #[.int .i64 (fullS side ks t l m).1, .int .i64 (fullS side ks t l m).2]) (by simp [results, Tryz.results23, go_sem, HN.out]) rfl ⟨rfl, hbe.trans (hb3.mono hz2)⟩
end Go.Proofs.YtoaajkkebnleaaaGreatDoor.Ko

namespace Go.Proofs.YtoaajkkebnleaaaGreatDoor.Ko
open Go.ChangeShapes Go.WideShapes Go.ChangeAt Go.RowKit Base Sq
set_option linter.unusedVariables false
attribute [local irreducible] wpQuiet

set_option maxHeartbeats 4000000 in
theorem searchCut_any (side : Int) (A : Option Addr) (c : Nat) (ks : List Kd) (t : Int) (M : Option Addr) (cm : Nat) (l : List St) (n lo hi : Int) (w : World) (hR : IsKinds w w.heap.size A ks) (hM : IsSteps w w.heap.size M l) (hT : TabAt w)
    (hsm : Small ks) (hl : l.length ≤ 1048576) :
    Calls Tryz.prog 25 #[.agg #[.int .i64 side, .slice A ks.length c], .agg #[.int .i64 t, .slice M l.length cm], .int .i64 n, .int .i64 lo, .int .i64 hi] w fun e w' => RunPost w w' (cutS side ks t l n lo hi) e := by
  have hb0 : Below w.heap.size w (((w.alloc (.cells #[.int .i64 side, .slice A ks.length c] 34)).alloc (.cells #[.int .i64 t, .slice M l.length cm] 38)).alloc (.cells #[.int .i64 lo, .int .i64 hi] 69)) := (by repeat (first | exact Below.refl _ _ | assumption | (refine Below.alloc ?_ (by first | omega | (simp; done) | (simp; omega)) _) | (refine Below.setCell ?_ (by first | omega | (simp; done) | (simp; omega)) _) | refine Below.drew ?_))
  have p1 := ((Blk.new w #[.int .i64 side, .slice A ks.length c] 34).alloc (.cells #[.int .i64 t, .slice M l.length cm] 38)).alloc (.cells #[.int .i64 lo, .int .i64 hi] 69)
  have p2 := (Blk.new (w.alloc (.cells #[.int .i64 side, .slice A ks.length c] 34)) #[.int .i64 t, .slice M l.length cm] 38).alloc (.cells #[.int .i64 lo, .int .i64 hi] 69)
  have p3 := Blk.new ((w.alloc (.cells #[.int .i64 side, .slice A ks.length c] 34)).alloc (.cells #[.int .i64 t, .slice M l.length cm] 38)) #[.int .i64 lo, .int .i64 hi] 69
  simp only [World.size_alloc] at p2 p3
  have hR1 := (hR.below hb0).more hb0.size
  have hM1 := (hM.below hb0).more hb0.size
  have hT1 := hT.below hb0 hT.lt
  have hz := hb0.size
  clear hR hM hT
  go_enter Tryz.func25, Tryz.ntmps25
  go_wp2_with fail
  generalize hW0 : ((w.alloc _).alloc _).alloc _ = W0 at *
  clear hW0
  refine (searchOk_any _ _ _ _ _ _ _ _ _ _ hR1 hM1 hsm hl).mono ?_
  rintro e w2 ⟨rfl, hb2⟩
  have p1' := p1.below hb2 p1.lt
  have p2' := p2.below hb2 p2.lt
  have p3' := p3.below hb2 p3.lt
  have hR2 := (hR1.below hb2).more hb2.size
  have hM2 := (hM1.below hb2).more hb2.size
  have hT2 := hT1.keep hb2
  have hbe := hb0.trans (hb2.mono hz)
  obtain ⟨⟨r0, r1⟩, _⟩ := p1'.at2
  obtain ⟨⟨o0, o1⟩, _⟩ := p2'.at2
  obtain ⟨⟨u0, u1⟩, _⟩ := p3'.at2
  have hz2 := hbe.size
  clear p1 p2 p3 hb0 hb2 hR1 hM1 hT1
  cases hb : searchB side ks t l n
  · have HN := Lib.hid (show cutS side ks t l n lo hi = (0, 0) by unfold cutS; rw [hb]; rfl)
    clear hb
    go_wp2_with fail
    refine bodyPost_ret (v := .tuple #[.int .i64 0, .int .i64 0]) (by simp [results, Tryz.results25, go_sem]) rfl ⟨by rw [HN.out], hbe⟩
  · cases hbn : bndB lo hi
    · have HN := Lib.hid (show cutS side ks t l n lo hi = (0, 0) by unfold cutS; rw [hb, hbn]; rfl)
      have HB := Lib.hid hbn
      clear hb hbn
      go_wp2_with fail
      refine (boundsOk_any lo hi _).mono ?_
      rw [HB.out]
      rintro e w3 ⟨rfl, hb3⟩
      go_wp2_with fail
      refine bodyPost_ret (v := .tuple #[.int .i64 0, .int .i64 0]) (by simp [results, Tryz.results25, go_sem]) rfl ⟨by rw [HN.out], hbe.trans (hb3.mono hz2)⟩
    · have HN := Lib.hid (show cutS side ks t l n lo hi = runV side ks true n.toNat 0 lo hi t l by unfold cutS; rw [hb, hbn]; rfl)
      have HB := Lib.hid hbn
      have hbb := of_decide_eq_true hbn
      have hb' := hb
      unfold searchB at hb'
      obtain ⟨hn, hp⟩ := (Bool.and_eq_true_iff).1 hb'
      have hn := of_decide_eq_true hn
      obtain ⟨m, rfl⟩ : ∃ m : Nat, n = (m : Int) := ⟨n.toNat, by omega⟩
      obtain ⟨hok, hsh, _⟩ := posB_facts hp
      have HO := Lib.hid hok
      have HS := Lib.hid hsh
      have hm3 : m ≤ 3 := by omega
      rw [Int.toNat_natCast] at HN
      have HRUN := Lib.hid (show ∀ wx, Below w2.heap.size w2 wx → Calls Tryz.prog 44 #[.agg (searchC lo hi side A ks.length c (m : Int) true t M l.length cm 0)] wx fun e w' => RunPost wx w' (runV side ks true m 0 lo hi t l) e from fun wx hx => by
        have h := run_any side A c ks true HO.out m 0 (by omega) lo hi t M cm l wx (by omega) (by omega) ((hR2.below hx).more hx.size) ((hM2.below hx).more hx.size) (hT2.keep hx) HS.out
        rw [Nat.zero_add, Int.natCast_zero] at h
        exact h)
      clear hb hb' hp hok hsh hn hbn hbb
      go_wp2_with fail
      refine (boundsOk_any lo hi _).mono ?_
      rw [HB.out]
      rintro e w3 ⟨rfl, hb3⟩
      have q1 := p1'.below hb3 p1'.lt
      have q2 := p2'.below hb3 p2'.lt
      have q3 := p3'.below hb3 p3'.lt
      have hbe3 := hbe.trans (hb3.mono hz2)
      have hz3 := hbe3.size
      clear r0 r1 o0 o1 u0 u1 p1' p2' p3'
      obtain ⟨⟨r0, r1⟩, _⟩ := q1.at2
      obtain ⟨⟨o0, o1⟩, _⟩ := q2.at2
      obtain ⟨⟨u0, u1⟩, _⟩ := q3.at2
      go_wp2_with fail
      refine (HRUN.out _ hb3).mono ?_
      rintro e w4 ⟨rfl, hb4⟩
      go_wp2_with fail
      refine bodyPost_ret (v := .tuple #[.int .i64 (cutS side ks t l m lo hi).1, .int .i64 (cutS side ks t l m lo hi).2]) (by simp [results, Tryz.results25, go_sem, HN.out]) rfl ⟨rfl, hbe3.trans (hb4.mono hz3)⟩
end Go.Proofs.YtoaajkkebnleaaaGreatDoor.Ko
