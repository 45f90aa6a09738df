/- GamePos: model and program. -/
import Derived.Test.YtcgfklljbblhlaaGreatDoorRz
import Derived.Deep.RegionHeld3
import Derived.Deep.AppendLies
namespace Go.Proofs.YtcgfklljbblhlaaGreatDoor.Ko
open Go.ChangeShapes Go.WideShapes Go.ChangeAt Go.RowKit Base Sq
set_option linter.unusedVariables false
set_option maxRecDepth 20000
attribute [local irreducible] wpQuiet

noncomputable def gpT (side : Int) (ks : List Kd) (t : Int) (l : List St) (ms : List Mv) : Int := if gameB side ks t l ms = true then (gP t l ms ms.length).1 else 0
noncomputable def gpL (side : Int) (ks : List Kd) (t : Int) (l : List St) (ms : List Mv) : List St := if gameB side ks t l ms = true then (gP t l ms ms.length).2 else []
theorem gameB_facts2 {side t : Int} {ks : List Kd} {l : List St} {ms : List Mv} (h : gameB side ks t l ms = true) : rulesOk side ks = true ∧ posOk side ks t l = true ∧ playB side ks t l ms ms.length = true ∧ ms.length ≤ 30 := by
  unfold gameB posB at h
  simp only [Bool.and_eq_true, decide_eq_true_eq] at h
  exact ⟨h.1.1.1, h.1.1.2, h.1.2, h.2⟩
theorem gp_ok {side t : Int} {ks : List Kd} {l : List St} {ms : List Mv} (h : gameB side ks t l ms = true) : posOk side ks (gP t l ms ms.length).1 (gP t l ms ms.length).2 = true := by
  obtain ⟨h1, h2, h3, _⟩ := gameB_facts2 h
  exact gP_ok (rulesOk_facts h1).1 h2 _ h3
theorem gp_len {side t : Int} {ks : List Kd} {l : List St} {ms : List Mv} (h : gameB side ks t l ms = true) : (gP t l ms ms.length).2.length ≤ 4 := (shapeB_facts (posOk_shape (gp_ok h))).2.1
theorem gpL_len {side t : Int} {ks : List Kd} {l : List St} {ms : List Mv} : (gpL side ks t l ms).length ≤ 1048576 := by
  unfold gpL
  split
  · rename_i h; have := gp_len h; omega
  · exact Nat.zero_le _
theorem gp_no {side t : Int} {ks : List Kd} {l : List St} {ms : List Mv} (h : gameB side ks t l ms = false) : gpT side ks t l ms = 0 ∧ gpL side ks t l ms = [] ∧ gameB side ks t l ms = false := by unfold gpT gpL; rw [h]; exact ⟨rfl, rfl, rfl⟩
theorem gp_yes {side t : Int} {ks : List Kd} {l : List St} {ms : List Mv} (h : gameB side ks t l ms = true) : gpT side ks t l ms = (gP t l ms ms.length).1 ∧ gpL side ks t l ms = (gP t l ms ms.length).2 ∧ gameB side ks t l ms = true := by unfold gpT gpL; rw [h]; exact ⟨rfl, rfl, rfl⟩

set_option maxHeartbeats 2000000 in
theorem gamePosK_any (side : Int) (A : Option Addr) (c : Nat) (ks : List Kd) (t : Int) (N : Option Addr) (cn : Nat) (l : List St) (M : Option Addr) (ms : List Mv) (w : World) (hR : IsKinds w w.heap.size A ks) (hG : InG w w.heap.size N l M ms) (hTA : TabAt w) (hsm : Small ks) (hl : l.length ≤ 1048576 ∧ ms.length ≤ 1048576) :
    Calls Tryz.prog 11 #[.agg #[.int .i64 side, .slice A ks.length c], .agg #[.int .i64 t, .slice N l.length cn, .slice M ms.length ms.length]] w fun e w' => ResQ w w' (gpT side ks t l ms) (gpL side ks t l ms) (gameB side ks t l ms) e := by
  have hb0 : Below w.heap.size w (((w.alloc (.cells #[.int .i64 side, .slice A ks.length c] 40)).alloc (.cells #[.int .i64 t, .slice N l.length cn, .slice M ms.length ms.length] 44)).alloc (.cells #[.int .i64 0, .slice none 0 0] 35)) := (by repeat (first | exact Below.refl _ _ | assumption | (refine Below.alloc ?_ (by first | omega | (simp; done) | (simp; omega)) _) | (refine Below.setCell ?_ (by first | omega | (simp; done) | (simp; omega)) _) | refine Below.drew ?_))
  have p1 := ((Blk.new w #[.int .i64 side, .slice A ks.length c] 40).alloc (.cells #[.int .i64 t, .slice N l.length cn, .slice M ms.length ms.length] 44)).alloc (.cells #[.int .i64 0, .slice none 0 0] 35)
  have p2 := (Blk.new (w.alloc (.cells #[.int .i64 side, .slice A ks.length c] 40)) #[.int .i64 t, .slice N l.length cn, .slice M ms.length ms.length] 44).alloc (.cells #[.int .i64 0, .slice none 0 0] 35)
  have p3 := Blk.new ((w.alloc (.cells #[.int .i64 side, .slice A ks.length c] 40)).alloc (.cells #[.int .i64 t, .slice N l.length cn, .slice M ms.length ms.length] 44)) #[.int .i64 0, .slice none 0 0] 35
  simp only [World.size_alloc] at p2 p3
  go_enter Tryz.func11, Tryz.ntmps11
  go_wp2_with fail
  generalize hW0 : ((w.alloc _).alloc _).alloc _ = W0 at *
  clear hW0
  refine (courseOf_any side A c ks t N cn l M ms.length ms _ ((hR.below hb0).more hb0.size) ((hG.1.below hb0).more hb0.size) ((hG.2.below hb0).more hb0.size) (hTA.below hb0 hTA.lt) hsm hl.1 hl.2).mono ?_
  rintro e w2 ⟨h1, h2, hb2⟩
  have q3 := p3.below hb2 p3.lt
  have hl3 := p3.lt
  have hbe := hb0.trans (hb2.mono hb0.size)
  have hs2 := hb2.size
  clear p1 p2 p3 hb2
  obtain ⟨⟨d0, d1⟩, ⟨d2, d3⟩⟩ := q3.at2
  cases hg : gameB side ks t l ms
  · obtain rfl := h1 hg
    have HN := Lib.hid (gp_no hg)
    clear hg h1 h2
    go_wp2_with fail
    refine bodyPost_ret (v := .tuple #[.agg #[.int .i64 0, .slice none 0 0], .bool false]) ?_ rfl ?_
    · obtain ⟨⟨e0, e1⟩, _⟩ := (q3.set2 (.int .i64 0) (.slice none 0 0)).at2
      simp [results, Tryz.results11, go_sem, e0, e1]
    · rw [HN.out.1, HN.out.2.1, HN.out.2.2]
      exact ⟨none, 0, rfl, MenA.nil _ _ _ _, (hbe.setCell (by show w.heap.size ≤ w.heap.size + 1 + 1; omega) _).setCell (by show w.heap.size ≤ w.heap.size + 1 + 1; omega) _⟩
  · obtain ⟨g, m, rfl, hm1, hm2, N2, cn2, F, hC, hM2, _, _⟩ := h2 hg
    have HN := Lib.hid (gp_yes hg)
    clear hg h1 h2
    obtain ⟨T, hT⟩ : ∃ T, T = (gP t l ms ms.length).1 := ⟨_, rfl⟩
    obtain ⟨L, hL⟩ : ∃ L, L = (gP t l ms ms.length).2 := ⟨_, rfl⟩
    rw [← hT, ← hL] at hC HN
    rw [← hL] at hM2
    clear hT hL
    obtain ⟨⟨a0, a1, a2, a3, a4, a5, a6⟩, _⟩ := blk_at7 hC
    go_wp2_with fail
    refine bodyPost_ret (v := .tuple #[.agg #[.int .i64 T, .slice N2 L.length cn2], .bool true]) ?_ rfl ?_
    · obtain ⟨⟨e0, e1⟩, _⟩ := (q3.set2 (.int .i64 T) (.slice N2 L.length cn2)).at2
      simp [results, Tryz.results11, go_sem, e0, e1]
    · rw [HN.out.1, HN.out.2.1, HN.out.2.2]
      have hlo : w.heap.size + 1 + 1 < g + 1 := by omega
      refine ⟨N2, cn2, rfl, ?_, (hbe.setCell (by show w.heap.size ≤ w.heap.size + 1 + 1; omega) _).setCell (by show w.heap.size ≤ w.heap.size + 1 + 1; omega) _⟩
      exact ((hM2.off _ _ hlo).off _ _ hlo).more (by omega) (by rw [size_set, size_set]; exact Nat.le_refl _)

set_option maxHeartbeats 4000000 in
theorem specGamePosK_any (side : Int) (A : Option Addr) (c : Nat) (ks : List Kd) (t : Int) (N : Option Addr) (cn : Nat) (l : List St) (M : Option Addr) (ms : List Mv) (w : World) (hR : IsKinds w w.heap.size A ks) (hG : InG w w.heap.size N l M ms) (hsm : Small ks) (hl : l.length ≤ 1048576 ∧ ms.length ≤ 1048576) :
    Calls Tryz.prog 8 #[.agg #[.int .i64 side, .slice A ks.length c], .agg #[.int .i64 t, .slice N l.length cn, .slice M ms.length ms.length]] w fun e w' => ResQ w w' (gpT side ks t l ms) (gpL side ks t l ms) (gameB side ks t l ms) e := by
  have hb0 : Below w.heap.size w (((w.alloc (.cells #[.int .i64 side, .slice A ks.length c] 40)).alloc (.cells #[.int .i64 t, .slice N l.length cn, .slice M ms.length ms.length] 44)).alloc (.cells #[.int .i64 0, .slice none 0 0] 35)) := (by repeat (first | exact Below.refl _ _ | assumption | (refine Below.alloc ?_ (by first | omega | (simp; done) | (simp; omega)) _) | (refine Below.setCell ?_ (by first | omega | (simp; done) | (simp; omega)) _) | refine Below.drew ?_))
  have p1 := ((Blk.new w #[.int .i64 side, .slice A ks.length c] 40).alloc (.cells #[.int .i64 t, .slice N l.length cn, .slice M ms.length ms.length] 44)).alloc (.cells #[.int .i64 0, .slice none 0 0] 35)
  have p2 := (Blk.new (w.alloc (.cells #[.int .i64 side, .slice A ks.length c] 40)) #[.int .i64 t, .slice N l.length cn, .slice M ms.length ms.length] 44).alloc (.cells #[.int .i64 0, .slice none 0 0] 35)
  have p3 := Blk.new ((w.alloc (.cells #[.int .i64 side, .slice A ks.length c] 40)).alloc (.cells #[.int .i64 t, .slice N l.length cn, .slice M ms.length ms.length] 44)) #[.int .i64 0, .slice none 0 0] 35
  simp only [World.size_alloc] at p2 p3
  obtain ⟨i0, hi0, hz0', hz1, hz2⟩ := info_parts manInfo
  go_enter Tryz.func8, Tryz.ntmps8
  go_wp2_with fail
  generalize hW0 : ((w.alloc _).alloc _).alloc _ = W0 at *
  clear hW0
  refine (specGameOkK_any _ _ _ _ _ _ _ _ _ _ _ ((hR.below hb0).more hb0.size) ((hG.below hb0).more hb0.size) hsm hl).mono ?_
  rintro e w2 ⟨rfl, hb2⟩
  have q1 := p1.below hb2 p1.lt
  have q2 := p2.below hb2 p2.lt
  have q3 := p3.below hb2 p3.lt
  have hl3 := p3.lt
  have hbe := hb0.trans (hb2.mono hb0.size)
  have hs2 := hb2.size
  clear p1 p2 p3 hb2
  obtain ⟨⟨r0, r1⟩, _⟩ := q1.at2
  obtain ⟨⟨g0, g1, g2⟩, _⟩ := q2.at3
  obtain ⟨⟨d0, d1⟩, ⟨d2, d3⟩⟩ := q3.at2
  cases hg : gameB side ks t l ms
  · have HN := Lib.hid (gp_no hg)
    clear hg q1 q2
    go_wp2_with fail
    refine bodyPost_ret (v := .tuple #[.agg #[.int .i64 0, .slice none 0 0], .bool false]) ?_ rfl ?_
    · obtain ⟨⟨e0, e1⟩, _⟩ := (q3.set2 (.int .i64 0) (.slice none 0 0)).at2
      simp [results, Tryz.results8, go_sem, e0, e1]
    · rw [HN.out.1, HN.out.2.1, HN.out.2.2]
      exact ⟨none, 0, rfl, MenA.nil _ _ _ _, (hbe.setCell (by show w.heap.size ≤ w.heap.size + 1 + 1; omega) _).setCell (by show w.heap.size ≤ w.heap.size + 1 + 1; omega) _⟩
  · have HN := Lib.hid (gp_yes hg)
    have HF := Lib.hid (gameB_facts2 hg)
    have HP := Lib.hid (men_pos (gp_ok hg))
    have HL4 := Lib.hid (gp_len hg)
    clear hg
    go_wp2_with fail
    refine (l14All_any side A c ks t N cn l M ms.length ms _ ((hR.below hbe).more hbe.size) ((hG.1.below hbe).more hbe.size) ((hG.2.below hbe).more hbe.size) HF.out.1 HF.out.2.1 hl.2 (Nat.le_refl _)).mono ?_
    rintro e w4 ⟨_, h2, hb4⟩
    obtain ⟨S, cS, rfl, b, off, rfl, hB, hq⟩ := h2 HF.out.2.2.1
    have r3 := q3.below hb4 q3.lt
    have hbf := hbe.trans (hb4.mono hbe.size)
    have hs4 := hb4.size
    obtain ⟨N9, c9, k0, k1, hN9⟩ := hq ms.length (Nat.le_refl _)
    clear q1 q2 q3 r0 r1 g0 g1 g2 d0 d1 d2 d3 h2 hq hb4 hbe
    obtain ⟨T, hT⟩ : ∃ T, T = (gP t l ms ms.length).1 := ⟨_, rfl⟩
    obtain ⟨L, hL⟩ : ∃ L, L = (gP t l ms ms.length).2 := ⟨_, rfl⟩
    rw [← hT] at HN k0
    rw [← hL] at HN k1 hN9 HP HL4
    clear hT hL
    have hlp := HP.out
    have hl4 := HL4.out
    obtain ⟨b9, o9, rfl, hB9, _⟩ := hN9 hlp
    have hidx : (ms.length : Int) < ((ms.length + 1 : Nat) : Int) := by omega
    have p8 := Blk.new w4 #[.int .i64 T, .slice (some ⟨b9, o9, none⟩) L.length c9] 35
    have r8 := r3.alloc (.cells #[.int .i64 T, .slice (some ⟨b9, o9, none⟩) L.length c9] 35)
    have hN8 := hN9.below (below_of w4 (.cells #[.int .i64 T, .slice (some ⟨b9, o9, none⟩) L.length c9] 35))
    have hb8 := hbf.alloc hbf.size (.cells #[.int .i64 T, .slice (some ⟨b9, o9, none⟩) L.length c9] 35)
    have hz8 : w4.heap.size < (w4.alloc (.cells #[.int .i64 T, .slice (some ⟨b9, o9, none⟩) L.length c9] 35)).heap.size := by simp
    go_wp2_with fail
    generalize hY8 : w4.alloc _ = W8 at *
    generalize hy8 : w4.heap.size = g8 at *
    have hne8 : g8 ≠ w.heap.size + 1 + 1 := by omega
    have hlt8 : w.heap.size + 1 + 1 < W8.heap.size := by omega
    have hls8 : w.heap.size + 1 + 1 < W8.heap.size := hlt8
    clear hY8 hy8 r3 hN9 hbf k0 k1
    have HL : Hid ((cellsM L).length = L.length * 3) := Lib.hid (cellsM_len L)
    have hmx : 0 + L.length ≤ maxLen := by unfold maxLen; omega
    have OA : Hid (OwnM (W8.alloc (.cells #[] 105)).drew W8.heap.size (.slice (some ⟨W8.heap.size, 0, none⟩) 0 0) 0 []) := Lib.hid (own_empty W8 _ (Nat.le_refl _))
    have BA : Hid (Below W8.heap.size W8 (W8.alloc (.cells #[] 105)).drew) := Lib.hid ((Below.refl _ _).alloc (Nat.le_refl _) _).drew
    have BW : Hid (Below W8.heap.size W8 W8.drew) := Lib.hid (Below.refl _ _).drew
    have HN9 := Lib.hid ((hN8.below (BA.out.mono (by omega))).news)
    have HS : Hid (∀ w', Below W8.heap.size W8 w' → (w'.cell? ⟨g8, 0, none⟩ = some (.int .i64 T) ∧ w'.cell? ⟨g8, 1, none⟩ = some (.slice (some ⟨b9, o9, none⟩) L.length c9))) := Lib.hid (fun w' hb => ((p8.below hb hz8).at2).1)
    have HP8 := Lib.hid p8
    have HR8 := Lib.hid r8
    have HB8 := Lib.hid hb8
    clear p8 r8 hb8 hN8
    go_region_held3 (fun w' => w'.cell? ⟨g8, 0, none⟩ = some (.int .i64 T) ∧ w'.cell? ⟨g8, 1, none⟩ = some (.slice (some ⟨b9, o9, none⟩) L.length c9))
      (first | exact HS.out _ BW.out | exact HS.out _ BA.out | exact HS.out _ hw7 | exact ((((HP8.out.below hw7 hz8).other ⟨w.heap.size + 1 + 1, 0, none⟩ _ hne8).other ⟨w.heap.size + 1 + 1, 1, none⟩ _ hne8).at2).1)
      (first
        | (refine step_append_lies _ rfl _ _ _ rfl W8.heap.size 105 i0 (.agg #[.int .i64 0, .int .i64 0, .int .i64 0]) 3 24 Tryz.underlying33 hi0 hz0' hz1 hz2 rfl (by decide) _ _ _ rfl OA.out ⟨b9, o9, none⟩ L.length _ (cellsM L) rfl HL.out HN9.out (cellsM_one _) hlp hmx (by omega) BA.out.size _ rfl ?_; intro g7 c7 w7 hown7 hgrow7 hat7 hlt7; have hm7 := menA_grownE hown7; have hw7 := OwnM.base OA.out hgrow7 BA.out (Nat.le_refl _) BA.out.size; have r7 := HR8.out.below hw7 hlt8; obtain ⟨⟨u0, u1⟩, ⟨u2, u3⟩⟩ := r7.at2))
    all_goals
      go_wp2_with fail
      refine bodyPost_ret (v := .tuple #[.agg #[.int .i64 T, .slice (some ⟨g7, 0, none⟩) L.length c7], .bool true]) ?_ rfl ?_
      · obtain ⟨⟨e0, e1⟩, _⟩ := (r7.set2 (.int .i64 T) (.slice (some ⟨g7, 0, none⟩) L.length c7)).at2
        simp [results, Tryz.results8, go_sem, e0, e1]
      · rw [HN.out.1, HN.out.2.1, HN.out.2.2]
        have h87 := HB8.out.trans (hw7.mono HB8.out.size)
        have hsz8 := HB8.out.size
        refine ⟨some ⟨g7, 0, none⟩, c7, rfl, ?_, (h87.setCell (by show w.heap.size ≤ w.heap.size + 1 + 1; omega) _).setCell (by show w.heap.size ≤ w.heap.size + 1 + 1; omega) _⟩
        exact ((hm7.off _ _ hls8).off _ _ hls8).more (by omega) (by rw [size_set, size_set]; exact Nat.le_refl _)
end Go.Proofs.YtcgfklljbblhlaaGreatDoor.Ko
