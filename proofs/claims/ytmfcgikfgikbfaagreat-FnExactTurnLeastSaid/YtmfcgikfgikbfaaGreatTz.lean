/- Turning men: the program. -/
import Derived.Test.YtmfcgikfgikbfaaGreatTy
import Derived.Test.YtmfcgikfgikbfaaGreatCl
import Derived.Test.YtmfcgikfgikbfaaGreatAf
import Derived.Test.YtmfcgikfgikbfaaGreatSa
namespace Go.Proofs.YtmfcgikfgikbfaaGreat.Ko
open Go.ChangeShapes Go.WideShapes Go.ChangeAt Go.RowKit Base Sq
set_option linter.unusedVariables false
set_option maxRecDepth 20000
attribute [local irreducible] wpQuiet

theorem turnAt_num {s k a : Int} (hs : s = 2 ∨ s = 3 ∨ s = 4) (hk : 0 ≤ k ∧ k ≤ 7) (ha : 0 ≤ a ∧ a < s * s) : numV s (turnV s k (a % s) (a / s)).1 (turnV s k (a % s) (a / s)).2 = turnAt s k a := by
  obtain ⟨hx, hy⟩ := div_bd hs ha.1 ha.2
  obtain ⟨⟨b1, b2⟩, b3, b4⟩ := turnV_bd s k _ _ hx hy
  rw [numV_in ⟨b1, b2, b3, b4⟩]
  unfold turnAt
  rw [if_pos ⟨decide_eq_true (by omega), hk⟩]

set_option maxHeartbeats 2000000 in
theorem turnClo_any (side k a : Int) (bs bk : Nat) (w : World) (hbs : Blk w bs #[.int .i64 side] 3) (hbk : Blk w bk #[.int .i64 k] 3) (hs : side = 2 ∨ side = 3 ∨ side = 4) (hk : 0 ≤ k ∧ k ≤ 7) (ha : 0 ≤ a ∧ a < side * side) :
    Calls Tryz.prog 71 #[.int .i64 a, .pointer (some ⟨bs, 0, none⟩), .pointer (some ⟨bk, 0, none⟩)] w fun e w' => e = .returned (.int .i64 (turnAt side k a)) ∧ Below w.heap.size w w' := by
  have HN := Lib.hid (turnAt_num hs hk ha)
  have HSS := Lib.hid hs
  have HK := Lib.hid hk
  obtain ⟨hx, hy⟩ := div_bd hs ha.1 ha.2
  have HX := Lib.hid hx
  have HY := Lib.hid hy
  have ha15 : a ≤ 15 := by rcases hs with rfl | rfl | rfl <;> omega
  obtain ⟨c0, _⟩ := hbs.at1
  obtain ⟨d0, _⟩ := hbk.at1
  have z1 := hbs.lt
  have z2 := hbk.lt
  obtain ⟨ha0, ha1⟩ := ha
  clear hs hk hx hy hbs hbk
  go_enter Tryz.func71, Tryz.ntmps71
  go_wp2_with fail
  refine wp_region_below (W := w) (by kernel_rfl) (by kernel_rfl) (Below.refl _ _) ?_
  repeat (first
    | (refine qs_skip (by rfl) ?_; simp only [Act.put, List.setIfInBounds_toArray, List.set_cons_zero, List.set_cons_succ])
    | (apply qs_take
       focus rfl
       focus (
         intro wq hwq
         obtain ⟨hcq, hfq⟩ := bcell hwq
         go_simp
         all_goals first
           | exact rfl
           | (go_at_call 72; refine (squareAt_any _ _ _ HSS.out ha0 ha15).mono ?_; exact fun e w2 h => ⟨h.1, hwq.trans (h.2.mono hwq.size)⟩)
           | (go_at_call 73; refine (turned_any _ _ _ _ _ HSS.out HX.out HY.out HK.out).mono ?_; exact fun e w2 h => ⟨h.1, hwq.trans (h.2.mono hwq.size)⟩)
           | (go_at_call 74; refine (number_any _ _ _ _ HSS.out).mono ?_; rw [HN.out]; exact fun e w2 h => ⟨h.1, hwq.trans (h.2.mono hwq.size)⟩)
           | (exact ⟨trivial, rfl⟩))
       simp only [Act.put, List.setIfInBounds_toArray, List.set_cons_zero, List.set_cons_succ]))
  refine wpQuiet_nil ?_
  intro wq hwq
  go_wp2_with fail
  go_ret
  exact ⟨rfl, hwq⟩

def cloV (bs bk : Nat) : Value := .func (.func 71) #[] #[.pointer (some ⟨bs, 0, none⟩), .pointer (some ⟨bk, 0, none⟩)]
theorem StepsIn.trn {cs : Array Value} {side k : Int} {l : List St} {n : Nat} (h : StepsIn cs (trnK side k l n) l.length) (hn : n < l.length) :
    StepsIn (cs.setIfInBounds (n * 3 + 2) (.int .i64 (turnAt side k (stAt l n).far))) (trnK side k l (n + 1)) l.length := by
  intro i hi
  obtain ⟨h1, h2, h3⟩ := h i hi
  rw [trnK_at side k l n i hi] at h1 h2 h3
  rw [trnK_at side k l (n + 1) i hi]
  by_cases e : i = n
  · subst e
    rw [if_neg (by omega)] at h1 h2 h3
    rw [if_pos (by omega)]
    exact ⟨set_get h1 (by omega), set_get h2 (by omega), set_same ((Array.getElem?_eq_some_iff.1 h3).1)⟩
  · have e2 : (i < n + 1) ↔ (i < n) := by omega
    simp only [e2]
    exact ⟨set_get h1 (by omega), set_get h2 (by omega), set_get h3 (by omega)⟩

set_option maxHeartbeats 4000000 in
theorem turnMen_any (M : Option Addr) (cm : Nat) (l : List St) (side k t : Int) (ks : List Kd) (bs bk : Nat) (w : World) (hM : IsSteps w w.heap.size M l) (hp : 0 < l.length) (hsh : shapeB side ks t l = true) (hs : side = 2 ∨ side = 3 ∨ side = 4) (hk : 0 ≤ k ∧ k ≤ 7)
    (hbs : Blk w bs #[.int .i64 side] 3) (hbk : Blk w bk #[.int .i64 k] 3) :
    Calls Tryz.prog 46 #[.slice M l.length cm, .func (.func 71) #[] #[.pointer (some ⟨bs, 0, none⟩), .pointer (some ⟨bk, 0, none⟩)]] w fun e w' => ∃ A c, e = .returned (.slice A (tsL side k l).length c) ∧ MenA w.heap.size w'.heap.size w' A (tsL side k l) ∧ Below w.heap.size w w' := by
  obtain ⟨_, hl4, _, _, hmen⟩ := shapeB_facts hsh
  have HMEN := Lib.hid hmen
  have HUQ := Lib.hid (fun l' => tsL_unique (l' := l') hs hk hsh)
  have HSS := Lib.hid hs
  have HK := Lib.hid hk
  have hlm : l.length ≤ 1048576 := by omega
  have zbs := hbs.lt
  have zbk := hbk.lt
  clear hmen hsh hs hk
  go_enter Tryz.func46, Tryz.ntmps46
  go_wp2_with fail
  refine (clone_any _ _ _ _ hM hlm hp).mono ?_
  rintro e w3 ⟨G, cg, rfl, hG, hb3⟩
  obtain ⟨g, cs0, rfl, hg1, hg2, hg3, hg4, hg5⟩ := hG hp
  clear hM
  go_wp2_with fail
  go_loopw [11] (fun iv wr => ∃ (j : Nat) (cs : Array Value), j ≤ l.length ∧ iv = .int .i64 j ∧ Blk wr g cs 84 ∧ l.length * 3 ≤ cs.size ∧ Hid (StepsIn cs (trnK side k l j) l.length) ∧ Below w.heap.size w wr) (fun iv _ => l.length - (intOf iv).toNat)
  case atStart => exact ⟨0, cs0, by omega, rfl, hg3, hg4, Lib.hid (by rw [trnK_zero]; exact hg5), hb3⟩
  case round =>
    clear hg2 hg3 hg4 hg5 hb3
    obtain ⟨j, cs, hj, rfl, hB, hsz, hh, hbe⟩ := hrel
    have zg := hB.lt
    have hz := hbe.size
    by_cases hlt : j < l.length
    · have hst := (hh.out j hlt).2.2
      rw [trnK_at side k l j j hlt, if_neg (by omega)] at hst
      have y1 := (hB.cell (j * 3 + 2)).trans hst
      have f1 := hB.free (j * 3 + 2)
      have HN := Lib.hid (hh.out.trn hlt)
      have HSZ : Hid (l.length * 3 ≤ (cs.setIfInBounds (j * 3 + 2) (.int .i64 (turnAt side k (stAt l j).far))).size) := Lib.hid (by simpa using hsz)
      have HB := Lib.hid hB
      have HBE := Lib.hid hbe
      clear hst hh hB hbe
      go_wp2_with fail
      refine (turnClo_any side k _ bs bk _ (hbs.below HBE.out zbs) (hbk.below HBE.out zbk) HSS.out HK.out (HMEN.out j hlt).2.2.1).mono ?_
      rintro e w5 ⟨rfl, hb5⟩
      have hB5 := HB.out.below hb5 zg
      have y1 : w5.cell? ⟨g, j * 3 + 2, none⟩ = some (.int .i64 (stAt l j).far) := (hb5.cell (p := ⟨g, _, none⟩) zg).trans y1
      have f1 := hB5.free (j * 3 + 2)
      have hbe5 := HBE.out.trans (hb5.mono hz)
      clear hb5
      go_wp2_with fail
      go_roundw
      case rel => exact ⟨j + 1, _, by omega, by go_num, hB5.set _ _, HSZ.out, HN, hbe5.setCell (by show w.heap.size ≤ g; omega) _⟩
      case measure => simp [intOf]; omega
    · obtain rfl : j = l.length := by omega
      have hh' := hh.out
      rw [trnK_all] at hh'
      have hlen := trnL_len side k l
      have hsrt := sortMen_any g cg (trnL side k l) cs wr hB (by omega) (by rw [hlen]; exact hh')
      rw [hlen] at hsrt
      have HSRT := Lib.hid hsrt
      clear hh hh' hsrt
      go_wp2_with fail
      refine HSRT.out.mono ?_
      rintro e w6 ⟨rfl, l', cs', hp', ho', hb', hsz', hin', hbel⟩
      have HE := Lib.hid (HUQ.out l' hp' ho')
      have hl' := hp'.length_eq
      have hb6 := hbel w.heap.size (by omega)
      clear hbel hp' ho'
      go_wp2_with fail
      go_ret
      refine ⟨some ⟨g, 0, none⟩, cg, by rw [tsL_len]; rfl, ?_, hbe.trans hb6⟩
      rw [← HE.out]
      exact fun _ => ⟨g, cs', rfl, hg1, hb'.lt, hb', by rw [hl', hlen, hsz']; exact hsz, by rw [hl', hlen]; exact hin'⟩
end Go.Proofs.YtmfcgikfgikbfaaGreat.Ko
