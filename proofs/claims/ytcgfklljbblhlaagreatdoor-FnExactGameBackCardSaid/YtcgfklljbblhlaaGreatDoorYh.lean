/- An answer (Pos, bool) in new memory; men appended to an empty slice. GamePos: model and program. Marks of games that a law has converted. Games in new memory: the program's copy. Games in new memory: the model's copy. GameBack: model and program. Slices of moves in the exact laws: marked, held; games marked and held. -/
import Derived.Test.YtcgfklljbblhlaaGreatDoorY0
import Derived.Deep.RegionHeld3
import Derived.Deep.AppendLies
import Derived.Test.YtcgfklljbblhlaaGreatDoorMk
import Derived.Laws.AppendOwn
namespace Go.Proofs.YtcgfklljbblhlaaGreatDoor.Ko
open Go.ChangeShapes Go.WideShapes Go.ChangeAt Go.RowKit Base Sq
set_option linter.unusedVariables false
set_option maxRecDepth 20000

/-- an answer (Pos, bool) in new memory -/
def ResQ (w w' : World) (T : Int) (L : List St) (B : Bool) (e : Ending) : Prop := ∃ A c, e = .returned (.tuple #[.agg #[.int .i64 T, .slice A L.length c], .bool B]) ∧ MenA w.heap.size w'.heap.size w' A L ∧ Below w.heap.size w w'
theorem own_empty (W : World) (base : Nat) (hB : base ≤ W.heap.size) : OwnM (W.alloc (.cells #[] 105)) base (.slice (some ⟨W.heap.size, 0, none⟩) 0 0) 0 [] := ⟨rfl, .inr ⟨W.heap.size, 0, #[], rfl, hB, Blk.new W #[] 105, Nat.le_refl _, Nat.zero_le _, rfl, rfl⟩⟩
theorem ownb {e g n c : Nat} (h : (Value.slice (some ⟨e, 0, none⟩) n c).ownBlock = some g) : e = g := by simpa [Value.ownBlock] using h
theorem blk_keptE {w w' : World} {b e : Nat} {vs : Array Value} {T : TypeId} (h : Blk w b vs T) (hg : w.grownBy w' (Value.slice (some ⟨e, 0, none⟩) 0 0).ownBlock) (hne : e ≠ b) : Blk w' b vs T := by
  unfold Blk at *; rw [hg.block b (lt_of_block h) (fun h => by simp [Value.ownBlock] at h; omega)]; exact h
theorem MenA.set_ne {lo hi g : Nat} {w : World} {l : List St} (h : MenA lo hi w (some ⟨g, 0, none⟩) l) (a : Addr) (u : Value) (ha : g ≠ a.block) : MenA lo hi (w.setCell a u) (some ⟨g, 0, none⟩) l := fun hn => by
  obtain ⟨b, cs, hb, h1, h2, h3, h4, h5⟩ := h hn
  obtain rfl : g = b := by simpa using hb
  exact ⟨g, cs, rfl, h1, h2, h3.other a u ha, h4, h5⟩
theorem menA_grownE {base g c : Nat} {w : World} {l : List St} (h : w.ownsRow base 105 3 (.slice (some ⟨g, 0, none⟩) (0 + l.length) c) (0 + l.length) ([] ++ cellsM l)) : MenA base w.heap.size w (some ⟨g, 0, none⟩) l := by
  rw [Nat.zero_add, List.nil_append] at h
  obtain ⟨A, c', hv, hm⟩ := MenA.of h
  simp only [Value.slice.injEq] at hv
  obtain ⟨rfl, _, _⟩ := hv
  exact hm

end Go.Proofs.YtcgfklljbblhlaaGreatDoor.Ko

namespace Go.Proofs.YtcgfklljbblhlaaGreatDoor.Ko
open Go.ChangeShapes Go.WideShapes Go.ChangeAt Go.RowKit Base Sq
set_option linter.unusedVariables false
set_option maxRecDepth 20000
attribute [local irreducible] wpQuiet

noncomputable def gpT (side : Int) (ks : List Kd) (t : Int) (l : List St) (ms : List Mv) : Int := if gameB side ks t l ms = true then (gP t l ms ms.length).1 else 0
noncomputable def gpL (side : Int) (ks : List Kd) (t : Int) (l : List St) (ms : List Mv) : List St := if gameB side ks t l ms = true then (gP t l ms ms.length).2 else []
theorem gameB_facts2 {side t : Int} {ks : List Kd} {l : List St} {ms : List Mv} (h : gameB side ks t l ms = true) : rulesOk side ks = true ∧ posOk side ks t l = true ∧ playB side ks t l ms ms.length = true ∧ ms.length ≤ 30 := by
  unfold gameB posB at h
  simp only [Bool.and_eq_true, decide_eq_true_eq] at h
  exact ⟨h.1.1.1, h.1.1.2, h.1.2, h.2⟩
theorem gp_ok {side t : Int} {ks : List Kd} {l : List St} {ms : List Mv} (h : gameB side ks t l ms = true) : posOk side ks (gP t l ms ms.length).1 (gP t l ms ms.length).2 = true := by
  obtain ⟨h1, h2, h3, _⟩ := gameB_facts2 h
  exact gP_ok (rulesOk_facts h1).1 h2 _ h3
theorem gp_len {side t : Int} {ks : List Kd} {l : List St} {ms : List Mv} (h : gameB side ks t l ms = true) : (gP t l ms ms.length).2.length ≤ 4 := (shapeB_facts (posOk_shape (gp_ok h))).2.1
theorem gpL_len {side t : Int} {ks : List Kd} {l : List St} {ms : List Mv} : (gpL side ks t l ms).length ≤ 1048576 := by
  unfold gpL
  split
  · rename_i h; have := gp_len h; omega
  · exact Nat.zero_le _
theorem gp_no {side t : Int} {ks : List Kd} {l : List St} {ms : List Mv} (h : gameB side ks t l ms = false) : gpT side ks t l ms = 0 ∧ gpL side ks t l ms = [] ∧ gameB side ks t l ms = false := by unfold gpT gpL; rw [h]; exact ⟨rfl, rfl, rfl⟩
theorem gp_yes {side t : Int} {ks : List Kd} {l : List St} {ms : List Mv} (h : gameB side ks t l ms = true) : gpT side ks t l ms = (gP t l ms ms.length).1 ∧ gpL side ks t l ms = (gP t l ms ms.length).2 ∧ gameB side ks t l ms = true := by unfold gpT gpL; rw [h]; exact ⟨rfl, rfl, rfl⟩

set_option maxHeartbeats 2000000 in
theorem gamePosK_any (side : Int) (A : Option Addr) (c : Nat) (ks : List Kd) (t : Int) (N : Option Addr) (cn : Nat) (l : List St) (M : Option Addr) (ms : List Mv) (w : World) (hR : IsKinds w w.heap.size A ks) (hG : InG w w.heap.size N l M ms) (hTA : TabAt w) (hsm : Small ks) (hl : l.length ≤ 1048576 ∧ ms.length ≤ 1048576) :
    Calls Tryz.prog 11 #[.agg #[.int .i64 side, .slice A ks.length c], .agg #[.int .i64 t, .slice N l.length cn, .slice M ms.length ms.length]] w fun e w' => ResQ w w' (gpT side ks t l ms) (gpL side ks t l ms) (gameB side ks t l ms) e := by
  have hb0 : Below w.heap.size w (((w.alloc (.cells #[.int .i64 side, .slice A ks.length c] 40)).alloc (.cells #[.int .i64 t, .slice N l.length cn, .slice M ms.length ms.length] 44)).alloc (.cells #[.int .i64 0, .slice none 0 0] 35)) := (by repeat (first | exact Below.refl _ _ | assumption | (refine Below.alloc ?_ (by first | omega | (simp; done) | (simp; omega)) _) | (refine Below.setCell ?_ (by first | omega | (simp; done) | (simp; omega)) _) | refine Below.drew ?_))
  have p1 := ((Blk.new w #[.int .i64 side, .slice A ks.length c] 40).alloc (.cells #[.int .i64 t, .slice N l.length cn, .slice M ms.length ms.length] 44)).alloc (.cells #[.int .i64 0, .slice none 0 0] 35)
  have p2 := (Blk.new (w.alloc (.cells #[.int .i64 side, .slice A ks.length c] 40)) #[.int .i64 t, .slice N l.length cn, .slice M ms.length ms.length] 44).alloc (.cells #[.int .i64 0, .slice none 0 0] 35)
  have p3 := Blk.new ((w.alloc (.cells #[.int .i64 side, .slice A ks.length c] 40)).alloc (.cells #[.int .i64 t, .slice N l.length cn, .slice M ms.length ms.length] 44)) #[.int .i64 0, .slice none 0 0] 35
  simp only [World.size_alloc] at p2 p3
  go_enter Tryz.func11, Tryz.ntmps11
  go_wp2_with fail
  generalize hW0 : ((w.alloc _).alloc _).alloc _ = W0 at *
  clear hW0
  refine (courseOf_any side A c ks t N cn l M ms.length ms _ ((hR.below hb0).more hb0.size) ((hG.1.below hb0).more hb0.size) ((hG.2.below hb0).more hb0.size) (hTA.below hb0 hTA.lt) hsm hl.1 hl.2).mono ?_
  rintro e w2 ⟨h1, h2, hb2⟩
  have q3 := p3.below hb2 p3.lt
  have hl3 := p3.lt
  have hbe := hb0.trans (hb2.mono hb0.size)
  have hs2 := hb2.size
  clear p1 p2 p3 hb2
  obtain ⟨⟨d0, d1⟩, ⟨d2, d3⟩⟩ := q3.at2
  cases hg : gameB side ks t l ms
  · obtain rfl := h1 hg
    have HN := Lib.hid (gp_no hg)
    clear hg h1 h2
    go_wp2_with fail
    refine bodyPost_ret (v := .tuple #[.agg #[.int .i64 0, .slice none 0 0], .bool false]) ?_ rfl ?_
    · obtain ⟨⟨e0, e1⟩, _⟩ := (q3.set2 (.int .i64 0) (.slice none 0 0)).at2
      simp [results, Tryz.results11, go_sem, e0, e1]
    · rw [HN.out.1, HN.out.2.1, HN.out.2.2]
      exact ⟨none, 0, rfl, MenA.nil _ _ _ _, (hbe.setCell (by show w.heap.size ≤ w.heap.size + 1 + 1; omega) _).setCell (by show w.heap.size ≤ w.heap.size + 1 + 1; omega) _⟩
  · obtain ⟨g, m, rfl, hm1, hm2, N2, cn2, F, hC, hM2, _, _⟩ := h2 hg
    have HN := Lib.hid (gp_yes hg)
    clear hg h1 h2
    obtain ⟨T, hT⟩ : ∃ T, T = (gP t l ms ms.length).1 := ⟨_, rfl⟩
    obtain ⟨L, hL⟩ : ∃ L, L = (gP t l ms ms.length).2 := ⟨_, rfl⟩
    rw [← hT, ← hL] at hC HN
    rw [← hL] at hM2
    clear hT hL
    obtain ⟨⟨a0, a1, a2, a3, a4, a5, a6⟩, _⟩ := blk_at7 hC
    go_wp2_with fail
    refine bodyPost_ret (v := .tuple #[.agg #[.int .i64 T, .slice N2 L.length cn2], .bool true]) ?_ rfl ?_
    · obtain ⟨⟨e0, e1⟩, _⟩ := (q3.set2 (.int .i64 T) (.slice N2 L.length cn2)).at2
      simp [results, Tryz.results11, go_sem, e0, e1]
    · rw [HN.out.1, HN.out.2.1, HN.out.2.2]
      have hlo : w.heap.size + 1 + 1 < g + 1 := by omega
      refine ⟨N2, cn2, rfl, ?_, (hbe.setCell (by show w.heap.size ≤ w.heap.size + 1 + 1; omega) _).setCell (by show w.heap.size ≤ w.heap.size + 1 + 1; omega) _⟩
      exact ((hM2.off _ _ hlo).off _ _ hlo).more (by omega) (by rw [size_set, size_set]; exact Nat.le_refl _)

set_option maxHeartbeats 4000000 in
theorem specGamePosK_any (side : Int) (A : Option Addr) (c : Nat) (ks : List Kd) (t : Int) (N : Option Addr) (cn : Nat) (l : List St) (M : Option Addr) (ms : List Mv) (w : World) (hR : IsKinds w w.heap.size A ks) (hG : InG w w.heap.size N l M ms) (hsm : Small ks) (hl : l.length ≤ 1048576 ∧ ms.length ≤ 1048576) :
    Calls Tryz.prog 8 #[.agg #[.int .i64 side, .slice A ks.length c], .agg #[.int .i64 t, .slice N l.length cn, .slice M ms.length ms.length]] w fun e w' => ResQ w w' (gpT side ks t l ms) (gpL side ks t l ms) (gameB side ks t l ms) e := by
  have hb0 : Below w.heap.size w (((w.alloc (.cells #[.int .i64 side, .slice A ks.length c] 40)).alloc (.cells #[.int .i64 t, .slice N l.length cn, .slice M ms.length ms.length] 44)).alloc (.cells #[.int .i64 0, .slice none 0 0] 35)) := (by repeat (first | exact Below.refl _ _ | assumption | (refine Below.alloc ?_ (by first | omega | (simp; done) | (simp; omega)) _) | (refine Below.setCell ?_ (by first | omega | (simp; done) | (simp; omega)) _) | refine Below.drew ?_))
  have p1 := ((Blk.new w #[.int .i64 side, .slice A ks.length c] 40).alloc (.cells #[.int .i64 t, .slice N l.length cn, .slice M ms.length ms.length] 44)).alloc (.cells #[.int .i64 0, .slice none 0 0] 35)
  have p2 := (Blk.new (w.alloc (.cells #[.int .i64 side, .slice A ks.length c] 40)) #[.int .i64 t, .slice N l.length cn, .slice M ms.length ms.length] 44).alloc (.cells #[.int .i64 0, .slice none 0 0] 35)
  have p3 := Blk.new ((w.alloc (.cells #[.int .i64 side, .slice A ks.length c] 40)).alloc (.cells #[.int .i64 t, .slice N l.length cn, .slice M ms.length ms.length] 44)) #[.int .i64 0, .slice none 0 0] 35
  simp only [World.size_alloc] at p2 p3
  obtain ⟨i0, hi0, hz0', hz1, hz2⟩ := info_parts manInfo
  go_enter Tryz.func8, Tryz.ntmps8
  go_wp2_with fail
  generalize hW0 : ((w.alloc _).alloc _).alloc _ = W0 at *
  clear hW0
  refine (specGameOkK_any _ _ _ _ _ _ _ _ _ _ _ ((hR.below hb0).more hb0.size) ((hG.below hb0).more hb0.size) hsm hl).mono ?_
  rintro e w2 ⟨rfl, hb2⟩
  have q1 := p1.below hb2 p1.lt
  have q2 := p2.below hb2 p2.lt
  have q3 := p3.below hb2 p3.lt
  have hl3 := p3.lt
  have hbe := hb0.trans (hb2.mono hb0.size)
  have hs2 := hb2.size
  clear p1 p2 p3 hb2
  obtain ⟨⟨r0, r1⟩, _⟩ := q1.at2
  obtain ⟨⟨g0, g1, g2⟩, _⟩ := q2.at3
  obtain ⟨⟨d0, d1⟩, ⟨d2, d3⟩⟩ := q3.at2
  cases hg : gameB side ks t l ms
  · have HN := Lib.hid (gp_no hg)
    clear hg q1 q2
    go_wp2_with fail
    refine bodyPost_ret (v := .tuple #[.agg #[.int .i64 0, .slice none 0 0], .bool false]) ?_ rfl ?_
    · obtain ⟨⟨e0, e1⟩, _⟩ := (q3.set2 (.int .i64 0) (.slice none 0 0)).at2
      simp [results, Tryz.results8, go_sem, e0, e1]
    · rw [HN.out.1, HN.out.2.1, HN.out.2.2]
      exact ⟨none, 0, rfl, MenA.nil _ _ _ _, (hbe.setCell (by show w.heap.size ≤ w.heap.size + 1 + 1; omega) _).setCell (by show w.heap.size ≤ w.heap.size + 1 + 1; omega) _⟩
  · have HN := Lib.hid (gp_yes hg)
    have HF := Lib.hid (gameB_facts2 hg)
    have HP := Lib.hid (men_pos (gp_ok hg))
    have HL4 := Lib.hid (gp_len hg)
    clear hg
    go_wp2_with fail
    refine (l14All_any side A c ks t N cn l M ms.length ms _ ((hR.below hbe).more hbe.size) ((hG.1.below hbe).more hbe.size) ((hG.2.below hbe).more hbe.size) HF.out.1 HF.out.2.1 hl.2 (Nat.le_refl _)).mono ?_
    rintro e w4 ⟨_, h2, hb4⟩
    obtain ⟨S, cS, rfl, b, off, rfl, hB, hq⟩ := h2 HF.out.2.2.1
    have r3 := q3.below hb4 q3.lt
    have hbf := hbe.trans (hb4.mono hbe.size)
    have hs4 := hb4.size
    obtain ⟨N9, c9, k0, k1, hN9⟩ := hq ms.length (Nat.le_refl _)
    clear q1 q2 q3 r0 r1 g0 g1 g2 d0 d1 d2 d3 h2 hq hb4 hbe
    obtain ⟨T, hT⟩ : ∃ T, T = (gP t l ms ms.length).1 := ⟨_, rfl⟩
    obtain ⟨L, hL⟩ : ∃ L, L = (gP t l ms ms.length).2 := ⟨_, rfl⟩
    rw [← hT] at HN k0
    rw [← hL] at HN k1 hN9 HP HL4
    clear hT hL
    have hlp := HP.out
    have hl4 := HL4.out
    obtain ⟨b9, o9, rfl, hB9, _⟩ := hN9 hlp
    have hidx : (ms.length : Int) < ((ms.length + 1 : Nat) : Int) := by omega
    have p8 := Blk.new w4 #[.int .i64 T, .slice (some ⟨b9, o9, none⟩) L.length c9] 35
    have r8 := r3.alloc (.cells #[.int .i64 T, .slice (some ⟨b9, o9, none⟩) L.length c9] 35)
    have hN8 := hN9.below (below_of w4 (.cells #[.int .i64 T, .slice (some ⟨b9, o9, none⟩) L.length c9] 35))
    have hb8 := hbf.alloc hbf.size (.cells #[.int .i64 T, .slice (some ⟨b9, o9, none⟩) L.length c9] 35)
    have hz8 : w4.heap.size < (w4.alloc (.cells #[.int .i64 T, .slice (some ⟨b9, o9, none⟩) L.length c9] 35)).heap.size := by simp
    go_wp2_with fail
    generalize hY8 : w4.alloc _ = W8 at *
    generalize hy8 : w4.heap.size = g8 at *
    have hne8 : g8 ≠ w.heap.size + 1 + 1 := by omega
    have hlt8 : w.heap.size + 1 + 1 < W8.heap.size := by omega
    have hls8 : w.heap.size + 1 + 1 < W8.heap.size := hlt8
    clear hY8 hy8 r3 hN9 hbf k0 k1
    have HL : Hid ((cellsM L).length = L.length * 3) := Lib.hid (cellsM_len L)
    have hmx : 0 + L.length ≤ maxLen := by unfold maxLen; omega
    have OA : Hid (OwnM (W8.alloc (.cells #[] 105)).drew W8.heap.size (.slice (some ⟨W8.heap.size, 0, none⟩) 0 0) 0 []) := Lib.hid (own_empty W8 _ (Nat.le_refl _))
    have BA : Hid (Below W8.heap.size W8 (W8.alloc (.cells #[] 105)).drew) := Lib.hid ((Below.refl _ _).alloc (Nat.le_refl _) _).drew
    have BW : Hid (Below W8.heap.size W8 W8.drew) := Lib.hid (Below.refl _ _).drew
    have HN9 := Lib.hid ((hN8.below (BA.out.mono (by omega))).news)
    have HS : Hid (∀ w', Below W8.heap.size W8 w' → (w'.cell? ⟨g8, 0, none⟩ = some (.int .i64 T) ∧ w'.cell? ⟨g8, 1, none⟩ = some (.slice (some ⟨b9, o9, none⟩) L.length c9))) := Lib.hid (fun w' hb => ((p8.below hb hz8).at2).1)
    have HP8 := Lib.hid p8
    have HR8 := Lib.hid r8
    have HB8 := Lib.hid hb8
    clear p8 r8 hb8 hN8
    go_region_held3 (fun w' => w'.cell? ⟨g8, 0, none⟩ = some (.int .i64 T) ∧ w'.cell? ⟨g8, 1, none⟩ = some (.slice (some ⟨b9, o9, none⟩) L.length c9))
      (first | exact HS.out _ BW.out | exact HS.out _ BA.out | exact HS.out _ hw7 | exact ((((HP8.out.below hw7 hz8).other ⟨w.heap.size + 1 + 1, 0, none⟩ _ hne8).other ⟨w.heap.size + 1 + 1, 1, none⟩ _ hne8).at2).1)
      (first
        | (refine step_append_lies _ rfl _ _ _ rfl W8.heap.size 105 i0 (.agg #[.int .i64 0, .int .i64 0, .int .i64 0]) 3 24 Tryz.underlying33 hi0 hz0' hz1 hz2 rfl (by decide) _ _ _ rfl OA.out ⟨b9, o9, none⟩ L.length _ (cellsM L) rfl HL.out HN9.out (cellsM_one _) hlp hmx (by omega) BA.out.size _ rfl ?_; intro g7 c7 w7 hown7 hgrow7 hat7 hlt7; have hm7 := menA_grownE hown7; have hw7 := OwnM.base OA.out hgrow7 BA.out (Nat.le_refl _) BA.out.size; have r7 := HR8.out.below hw7 hlt8; obtain ⟨⟨u0, u1⟩, ⟨u2, u3⟩⟩ := r7.at2))
    all_goals
      go_wp2_with fail
      refine bodyPost_ret (v := .tuple #[.agg #[.int .i64 T, .slice (some ⟨g7, 0, none⟩) L.length c7], .bool true]) ?_ rfl ?_
      · obtain ⟨⟨e0, e1⟩, _⟩ := (r7.set2 (.int .i64 T) (.slice (some ⟨g7, 0, none⟩) L.length c7)).at2
        simp [results, Tryz.results8, go_sem, e0, e1]
      · rw [HN.out.1, HN.out.2.1, HN.out.2.2]
        have h87 := HB8.out.trans (hw7.mono HB8.out.size)
        have hsz8 := HB8.out.size
        refine ⟨some ⟨g7, 0, none⟩, c7, rfl, ?_, (h87.setCell (by show w.heap.size ≤ w.heap.size + 1 + 1; omega) _).setCell (by show w.heap.size ≤ w.heap.size + 1 + 1; omega) _⟩
        exact ((hm7.off _ _ hls8).off _ _ hls8).more (by omega) (by rw [size_set, size_set]; exact Nat.le_refl _)
end Go.Proofs.YtcgfklljbblhlaaGreatDoor.Ko

namespace Go.Proofs.YtcgfklljbblhlaaGreatDoor.Ko
open Go.ChangeShapes Go.WideShapes Go.ChangeAt Go.RowKit Base Sq
set_option linter.unusedVariables false
set_option maxRecDepth 20000
attribute [local irreducible] wpQuiet

theorem NewGmv.big {B : Nat} {w : World} {g : Nat} {l : List Mv} (h : NewGmv B w g l) : BlkG w g (l.length * 2) 58 := by
  obtain ⟨cs, _, hb, hi⟩ := h
  refine ⟨cs, hb, ?_⟩
  rcases Nat.eq_zero_or_pos l.length with h0 | h0
  · omega
  · have := (Array.getElem?_eq_some_iff.1 (hi (l.length - 1) (by omega)).2).1
    omega
set_option maxHeartbeats 1000000 in
theorem markMoveSB_any (gs n c : Nat) (k : Int) (w : World) (h : BlkG w gs (n * 2) 58) (hn : n ≤ 1048576) (hk0 : 0 ≤ k) (hk1 : k ≤ 1000000000000000) :
    Calls Tryz.prog 38 #[.slice (some ⟨gs, 0, none⟩) n c, .int .i64 k] w fun e w' => e = .returned (.int .i64 (k + 2 * n)) ∧ Span gs (gs + 1) w w' := by
  go_enter Tryz.func38, Tryz.ntmps38
  go_wp2_with fail
  go_loopw [1, 5] (fun x i wr => ∃ j : Nat, j ≤ n ∧ i = .int .i64 j ∧ x = .int .i64 (k + 2 * j) ∧ BlkG wr gs (n * 2) 58 ∧ Span gs (gs + 1) w wr) (fun _ i _ => n - (intOf i).toNat)
  case atStart => exact ⟨0, by omega, rfl, by simp, h, Span.refl _ _ _⟩
  case round =>
    clear h
    obtain ⟨j, hj, rfl, rfl, hB, hS⟩ := hrel
    by_cases hlt : j < n
    · obtain ⟨v0, c0⟩ := hB.cell (i := j * 2) (by omega)
      obtain ⟨v1, c1⟩ := hB.cell (i := j * 2 + 1) (by omega)
      have f0 := hB.free (j * 2)
      have f1 := hB.free (j * 2 + 1)
      go_wp2_with fail
      go_roundw
      case rel => exact ⟨j + 1, by omega, by go_num, by first | go_num | (congr 1; omega), (hB.setCell _ _ _).setCell _ _ _, (hS.setCell (by omega) (by omega) _ _).setCell (by omega) (by omega) _ _⟩
      case measure => simp [intOf]; omega
    · obtain rfl : j = n := by omega
      go_wp2_with fail
      go_ret
      exact ⟨rfl, hS⟩
theorem markPosB_any (g c : Nat) (t : Int) (l : List St) (k : Int) (w : World) (h : BlkG w g (l.length * 3) 105) (hl : l.length ≤ 1048576) (hk0 : 0 ≤ k) (hk1 : k ≤ 1000000000000000) :
    Calls Tryz.prog 17 #[.agg #[.int .i64 t, .slice (some ⟨g, 0, none⟩) l.length c], .int .i64 k] w fun e w' => e = .returned (.int .i64 (k + 3 * (l.length : Int))) ∧ Span g (g + 1) w w' := by
  have hb0 := below_of w (.cells #[.int .i64 t, .slice (some ⟨g, 0, none⟩) l.length c] 35)
  have HB0 := Lib.hid hb0
  have HK := Lib.hid (h.below hb0 h.lt)
  clear h hb0
  go_enter Tryz.func17, Tryz.ntmps17
  go_wp2_with fail
  refine (markManS_any _ _ _ _ _ HK.out hl hk0 hk1).mono ?_
  rintro e w2 ⟨rfl, hs⟩
  go_wp2_with fail
  go_ret
  exact ⟨rfl, (Span.ofBelow HB0.out).trans hs⟩
set_option maxHeartbeats 1000000 in
theorem markGame_any (lo hi g c : Nat) (t : Int) (l : List St) (g2 cm : Nat) (ms : List Mv) (k : Int) (w : World) (h : BlkG w g (l.length * 3) 105) (h' : BlkG w g2 (ms.length * 2) 58) (h1 : lo ≤ g ∧ g < hi) (h2 : lo ≤ g2 ∧ g2 < hi) (hl : l.length ≤ 1048576 ∧ ms.length ≤ 1048576) (hk0 : 0 ≤ k) (hk1 : k ≤ 100000000000000) :
    Calls Tryz.prog 16 #[.agg #[.int .i64 t, .slice (some ⟨g, 0, none⟩) l.length c, .slice (some ⟨g2, 0, none⟩) ms.length cm], .int .i64 k] w fun e w' => MarkPost lo hi w w' k e := by
  have hb0 := below_of w (.cells #[.int .i64 t, .slice (some ⟨g, 0, none⟩) l.length c, .slice (some ⟨g2, 0, none⟩) ms.length cm] 44)
  have p0 := Blk.new w #[.int .i64 t, .slice (some ⟨g, 0, none⟩) l.length c, .slice (some ⟨g2, 0, none⟩) ms.length cm] 44
  have hgl := h.lt
  obtain ⟨hla, hlb⟩ := hl
  have HB0 := Lib.hid hb0
  have HK := Lib.hid (h.below hb0 h.lt)
  have HK2 := Lib.hid (h'.below hb0 h'.lt)
  clear h h' hb0
  go_enter Tryz.func16, Tryz.ntmps16
  go_wp2_with fail
  generalize hW0 : w.alloc _ = W0 at *
  clear hW0
  refine (markPosB_any _ _ _ _ _ _ HK.out hla hk0 (by omega)).mono ?_
  rintro e w2 ⟨rfl, hs⟩
  have p2 := hs.blk p0 (by omega)
  have HK3 := Lib.hid (hs.shape _ _ _ HK2.out)
  have HS := Lib.hid hs
  obtain ⟨⟨q0, q1, q2⟩, _⟩ := p2.at3
  clear hs p0 p2
  go_wp2_with fail
  refine (markMoveSB_any _ _ _ _ _ HK3.out hlb (by omega) (by omega)).mono ?_
  rintro e w3 ⟨rfl, hs3⟩
  go_wp2_with fail
  go_ret
  exact ⟨_, rfl, by omega, by omega, (Span.ofBelow HB0.out).trans ((HS.out.wide h1.1 (by omega)).trans (hs3.wide h2.1 (by omega)))⟩
end Go.Proofs.YtcgfklljbblhlaaGreatDoor.Ko

namespace Go.Proofs.YtcgfklljbblhlaaGreatDoor.Ko
open Go.ChangeShapes Go.WideShapes Go.ChangeAt Go.RowKit Base Sq
set_option linter.unusedVariables false
set_option maxRecDepth 20000
attribute [local irreducible] wpQuiet

theorem cellsV_get {l : List Mv} {j : Nat} {u : Value} (h : (cellsV l)[j]? = some u) :
    ∃ i, i < l.length ∧ ((j = i * 2 ∧ u = .int .i64 (mvAt l i).1) ∨ (j = i * 2 + 1 ∧ u = .int .i64 (mvAt l i).2)) := by
  have hj : j < l.length * 2 := by rw [← cellsV_len]; exact (List.getElem?_eq_some_iff.1 h).1
  obtain ⟨h1, h2⟩ := cellsV_at l (j / 2) (by omega)
  refine ⟨j / 2, by omega, ?_⟩
  have hm : j % 2 = 0 ∨ j % 2 = 1 := by omega
  rcases hm with hm | hm
  · have e : j = j / 2 * 2 := by omega
    rw [← e, h] at h1; cases h1; exact .inl ⟨e, rfl⟩
  · have e : j = j / 2 * 2 + 1 := by omega
    rw [← e, h] at h2; cases h2; exact .inr ⟨e, rfl⟩
theorem cellsV_one (l : List Mv) : ∀ u ∈ cellsV l, u.oneCell' = true := by
  induction l with
  | nil => intro u hu; simp [cellsV] at hu
  | cons m l ih =>
    intro u hu
    simp only [cellsV, List.mem_cons] at hu
    rcases hu with rfl | rfl | hu
    · rfl
    · rfl
    · exact ih u hu
theorem InMvs.news {w : World} {B b off n : Nat} {l : List Mv} (h : InMvs w B (some ⟨b, off, none⟩) n l) (hn : l.length ≤ n) : ∀ j u, (cellsV l)[j]? = some u → w.cell? (Addr.add ⟨b, off, none⟩ j) = some u := by
  intro j u hu
  obtain ⟨i, hi, hc⟩ := cellsV_get hu
  obtain ⟨b', off', he, _, hh⟩ := h (by omega)
  cases he
  obtain ⟨h1, h2⟩ := hh i (by omega)
  have ea : Addr.add ⟨b, off, none⟩ j = ⟨b, off + j, none⟩ := by
    unfold Addr.add
    split
    · rename_i h0; rw [h0]; rfl
    · rfl
  rw [ea]
  rcases hc with ⟨rfl, rfl⟩ | ⟨rfl, rfl⟩
  · exact h1
  · rw [← Nat.add_assoc]; exact h2
set_option maxHeartbeats 2000000 in
theorem cloneMv_any (b c : Nat) (l : List Mv) (w : World) (h : InMvs w w.heap.size (some ⟨b, 0, none⟩) l.length l) (hl : l.length ≤ 1048576) :
    Calls Tryz.prog 63 #[.slice (some ⟨b, 0, none⟩) l.length c] w fun e w' => ∃ A c', e = .returned (.slice A l.length c') ∧ MvA w.heap.size w'.heap.size w' A l ∧ Below w.heap.size w w' := by
  obtain ⟨i0, hi, hz0, hz1, hz2⟩ := info_parts moveInfoG
  have hmax : 0 + l.length ≤ maxLen := by unfold maxLen; omega
  have hN := fun w' (hb : Below w.heap.size w w') => (h.below hb).news (Nat.le_refl _)
  have HN := Lib.hid hN
  clear h hN
  have heq := fun (w : World) (a : Option Addr) (n c n' c' : Nat) => Lib.run_eql_slice_nil (P := Tryz.prog) w 42 58 a n c n' c' Tryz.underlying42
  go_enter Tryz.func63, Tryz.ntmps63
  go_wp2_with (at_builtin; refine wpList_append_own _ rfl _ _ 42 rfl w.heap.size 58 i0 (.agg #[.int .i64 0, .int .i64 0]) 2 16 Tryz.underlying42 hi hz0 hz1 hz2 rfl (by decide) _ 0 [] rfl ⟨rfl, .inr ⟨w.heap.size, 0, #[], rfl, Nat.le_refl _, Blk.new w #[] 58, Nat.le_refl _, Nat.zero_le _, rfl, rfl⟩⟩ ⟨b, 0, none⟩ l.length c (cellsV l) rfl (cellsV_len l) (HN.out _ (below_of w _)) (cellsV_one l) hmax (by omega) (by simp) ?_; intro v' w7 hown' hgrow7 hnil7)
  have hbe : Below w.heap.size w w7 := (below_of w (.cells #[] 58)).grown hgrow7 (by simp) (fun k hk => Nat.le_of_eq (Option.some.inj (show some w.heap.size = some k from hk)))
  have hown2 : OwnV w7 w.heap.size v' l := by unfold OwnV; simpa using hown'
  obtain ⟨A, c', rfl, hm⟩ := hown2.of
  clear hown' hgrow7 hnil7 hown2
  go_wp2_with fail
  go_ret
  exact ⟨A, c', rfl, hm, hbe⟩
theorem MvA.offG {lo hi : Nat} {w : World} {A : Option Addr} {l : List Mv} (h : MvA lo hi w A l) (a : Addr) (u : Value) (ha : a.block < lo) : MvA lo hi (w.setCell a u) A l := fun hn => by
  obtain ⟨b, cs, rfl, h1, h2, h3, h4, h5⟩ := h hn
  exact ⟨b, cs, rfl, h1, h2, h3.other a u (by omega), h4, h5⟩
/-- a game in new memory -/
def GameNew (w w' : World) (A : Option Addr) (l : List St) (M : Option Addr) (ms : List Mv) : Prop := MenA w.heap.size w'.heap.size w' A l ∧ MvA w.heap.size w'.heap.size w' M ms
set_option maxHeartbeats 4000000 in
theorem gameCopied_any (t : Int) (N : Option Addr) (cn : Nat) (l : List St) (g2 cm : Nat) (ms : List Mv) (w : World) (hN : IsSteps w w.heap.size N l) (hM : InMvs w w.heap.size (some ⟨g2, 0, none⟩) ms.length ms) (hl : l.length ≤ 1048576) (hp : 0 < l.length) (hm : ms.length ≤ 1048576) :
    Calls Tryz.prog 43 #[.agg #[.int .i64 t, .slice N l.length cn, .slice (some ⟨g2, 0, none⟩) ms.length cm]] w fun e w' => ∃ A c' M c2, e = .returned (.agg #[.int .i64 t, .slice A l.length c', .slice M ms.length c2]) ∧ GameNew w w' A l M ms ∧ Below w.heap.size w w' := by
  have hb0 : Below w.heap.size w ((w.alloc (.cells #[.int .i64 t, .slice N l.length cn, .slice (some ⟨g2, 0, none⟩) ms.length cm] 44)).alloc (.cells #[.int .i64 0, .slice none 0 0, .slice none 0 0] 44)) := (by repeat (first | exact Below.refl _ _ | assumption | (refine Below.alloc ?_ (by first | omega | (simp; done) | (simp; omega)) _) | (refine Below.setCell ?_ (by first | omega | (simp; done) | (simp; omega)) _) | refine Below.drew ?_))
  have p1 := (Blk.new w #[.int .i64 t, .slice N l.length cn, .slice (some ⟨g2, 0, none⟩) ms.length cm] 44).alloc (.cells #[.int .i64 0, .slice none 0 0, .slice none 0 0] 44)
  have p2 := Blk.new (w.alloc (.cells #[.int .i64 t, .slice N l.length cn, .slice (some ⟨g2, 0, none⟩) ms.length cm] 44)) #[.int .i64 0, .slice none 0 0, .slice none 0 0] 44
  simp only [World.size_alloc] at p2
  go_enter Tryz.func43, Tryz.ntmps43
  go_wp2_with fail
  generalize hW0 : (w.alloc _).alloc _ = W0 at *
  clear hW0
  have z1 := p1.lt
  have z2 := p2.lt
  have HP1 := Lib.hid p1
  have HP2 := Lib.hid p2
  have HB0 := Lib.hid hb0
  have HN := Lib.hid hN
  have HM := Lib.hid hM
  have hs0 := hb0.size
  have hw : Below W0.heap.size W0 W0.drew := (Below.refl _ _).drew
  have HS : Hid (∀ w', Below W0.heap.size W0 w' → (w'.cell? ⟨w.heap.size, 0, none⟩ = some (.int .i64 t) ∧ w'.cell? ⟨w.heap.size, 1, none⟩ = some (.slice N l.length cn) ∧ w'.cell? ⟨w.heap.size, 2, none⟩ = some (.slice (some ⟨g2, 0, none⟩) ms.length cm))) := Lib.hid (fun w' hb => ((HP1.out.below hb z1).at3).1)
  have hne : w.heap.size ≠ w.heap.size + 1 := by omega
  clear p1 p2 hb0 hN hM
  go_region_held3 (fun w' => w'.cell? ⟨w.heap.size, 0, none⟩ = some (.int .i64 t) ∧ w'.cell? ⟨w.heap.size, 1, none⟩ = some (.slice N l.length cn) ∧ w'.cell? ⟨w.heap.size, 2, none⟩ = some (.slice (some ⟨g2, 0, none⟩) ms.length cm))
    (first | exact HS.out _ hw | exact (((((HP1.out.below hw z1).other ⟨w.heap.size + 1, 0, none⟩ _ hne).other ⟨w.heap.size + 1, 1, none⟩ _ hne).other ⟨w.heap.size + 1, 2, none⟩ _ hne).at3).1)
    (first
      | (go_at_call 58; refine (copied_any t N cn l _ ((HN.out.below (HB0.out.trans (hw.mono hs0))).more (by have := hw.size; omega)) hl hp).mono ?_; rintro e wa ⟨A6, c6, rfl, hm6, hb6⟩; have hsa := hw.size; have hsb := hb6.size; have hw := hw.trans (hb6.mono hw.size); try (have hm7 := hm7.below hb6); try (have p2x := HP2.out.below hw z2; obtain ⟨⟨u0, u1, u2⟩, ⟨u3, u4, u5⟩⟩ := p2x.at3))
      | (go_at_call 63; refine (cloneMv_any g2 cm ms _ ((HM.out.below (HB0.out.trans (hw.mono hs0))).more (by have := hw.size; omega)) hm).mono ?_; rintro e wb ⟨M7, c7, rfl, hm7, hb7⟩; have hsc := hw.size; have hsd := hb7.size; have hw := hw.trans (hb7.mono hw.size); try (have hm6 := hm6.below hb7); try (have p2x := HP2.out.below hw z2; obtain ⟨⟨u0, u1, u2⟩, ⟨u3, u4, u5⟩⟩ := p2x.at3)))
  all_goals
    go_wp2_with fail
    refine bodyPost_ret (v := .agg #[.int .i64 t, .slice A6 l.length c6, .slice M7 ms.length c7]) ?_ rfl ⟨A6, c6, M7, c7, rfl, ?_, ?_⟩
    · obtain ⟨⟨e0, e1, e2⟩, _⟩ := Blk.at3 (x := .int .i64 t) (y := .slice A6 l.length c6) (z := .slice M7 ms.length c7) (((p2x.set 0 (.int .i64 t)).set 1 (.slice A6 l.length c6)).set 2 (.slice M7 ms.length c7))
      simp [results, Tryz.results43, go_sem, e0, e1, e2]
    · have hlo1 : w.heap.size + 1 < W0.heap.size := z2
      have hsa' : W0.heap.size ≤ W0.drew.heap.size := Nat.le_refl _
      refine ⟨(((hm6.off _ _ hlo1).off _ _ hlo1).off _ _ hlo1).more hs0 (by rw [size_set, size_set, size_set]; exact hsd), ?_⟩
      exact ((MvA.offG (MvA.offG (MvA.offG hm7 _ _ (by show w.heap.size + 1 < wa.heap.size; omega)) _ _ (by show w.heap.size + 1 < wa.heap.size; omega)) _ _ (by show w.heap.size + 1 < wa.heap.size; omega))).more (by omega) (by rw [size_set, size_set, size_set]; exact Nat.le_refl _)
    · exact (((HB0.out.trans (hw.mono hs0)).setCell (by show w.heap.size ≤ w.heap.size + 1; omega) _).setCell (by show w.heap.size ≤ w.heap.size + 1; omega) _).setCell (by show w.heap.size ≤ w.heap.size + 1; omega) _
end Go.Proofs.YtcgfklljbblhlaaGreatDoor.Ko

namespace Go.Proofs.YtcgfklljbblhlaaGreatDoor.Ko
open Go.ChangeShapes Go.WideShapes Go.ChangeAt Go.RowKit Base Sq
set_option linter.unusedVariables false
set_option maxRecDepth 20000
attribute [local irreducible] wpQuiet

/-- an append to a slice of the call's own, of any number of elements, as a step of a region -/
theorem step_append_own {P : Program} {w : World} {ops : Array Oper} {o : Oper} {a : Act} {K : Act → World → Prop} {Q : Exit → Act → World → Prop} {E : Prop} (hgd : o.guard = none) (s x : Operand) (t : TypeId)
    (ho : o.op = .call { callee := .builtin .append, args := #[s, x], argTypes := #[t, t] })
    (base : Nat) (e : TypeId) (i : TypeInfo) (z : Value) (size bytes : Nat) (ht : P.underlying t = some (.slice e)) (hi : P.info? e = some i) (hz : i.zero = some z)
    (hsize : i.size = size) (hby : i.bytes = bytes) (hzs : z.cells.size = size) (hsz : 0 < size)
    (v : Value) (n : Nat) (xs : List Value) (hs : a.eval s = v) (hown : w.ownsRow base e size v n xs)
    (ad : Addr) (m c : Nat) (news : List Value) (hx : a.eval x = .slice (some ad) m c) (hl : news.length = m * size) (hnews : ∀ j u, news[j]? = some u → w.cell? (ad.add j) = some u) (h1 : ∀ u ∈ news, u.oneCell' = true)
    (h63 : n + m ≤ maxLen) (hbytes : (n + m) * bytes ≤ 140737488355328) (hbase : base ≤ w.heap.size)
    (h : ∀ v' w', w'.ownsRow base e size v' (n + m) (xs ++ news) → w.grownBy w' v.ownBlock → (v' = .slice none 0 0 ↔ v = .slice none 0 0 ∧ m = 0) → K (a.put o.dst v') w') :
    if Region.wanted o (yielded ops a.tmps) = true then Oper.wp P o a w K Q else E := by
  have hw : Region.wanted o (yielded ops a.tmps) = true := by simp [Region.wanted, hgd]
  rw [if_pos hw]
  exact wp_append_own w s x t ho base e i z size bytes ht hi hz hsize hby hzs hsz v n xs hs hown ad m c news hx hl hnews h1 h63 hbytes hbase h
theorem ownV_empty (W : World) (base : Nat) (hB : base ≤ W.heap.size) : OwnV (W.alloc (.cells #[] 58)) base (.slice (some ⟨W.heap.size, 0, none⟩) 0 0) [] := OwnV.empty hB (Blk.new W #[] 58)
theorem ownV_blk {w : World} {base e : Nat} (hB : base ≤ e) (h : Blk w e #[] 58) : w.ownsRow base 58 2 (.slice (some ⟨e, 0, none⟩) 0 0) 0 [] := ⟨rfl, .inr ⟨e, 0, #[], rfl, hB, h, Nat.le_refl _, Nat.zero_le _, rfl, rfl⟩⟩
theorem men_moves {w : World} {g e : Nat} {cs vs : Array Value} (h : Blk w g cs 105) (h2 : Blk w e vs 58) : e ≠ g := by
  rintro rfl
  have a : w.heap[e]? = some (.cells cs 105) := h
  have b : w.heap[e]? = some (.cells vs 58) := h2
  rw [a] at b
  simp at b
theorem MenA.grownV {lo hi e : Nat} {w w' : World} {A : Option Addr} {l : List St} {vs : Array Value} (h : MenA lo hi w A l) (he : Blk w e vs 58) (hg : w.grownBy w' (Value.slice (some ⟨e, 0, none⟩) 0 0).ownBlock) : MenA lo hi w' A l := fun hn => by
  obtain ⟨b, cs, rfl, h1, h2, h3, h4, h5⟩ := h hn
  exact ⟨b, cs, rfl, h1, h2, blk_keptE h3 hg (men_moves h3 he), h4, h5⟩
theorem men_own {base : Nat} {w : World} {v : Value} {l : List St} (h : w.ownsRow base 105 3 v (0 + l.length) ([] ++ cellsM l)) : ∃ A c, v = .slice A l.length c ∧ MenA base w.heap.size w A l := by
  rw [Nat.zero_add, List.nil_append] at h
  exact MenA.of h
theorem moves_own {base : Nat} {w : World} {v : Value} {l : List Mv} (h : w.ownsRow base 58 2 v (0 + l.length) ([] ++ cellsV l)) : ∃ A c, v = .slice A l.length c ∧ MvA base w.heap.size w A l ∧ l.length ≤ c ∧ c ≤ maxLen := by
  rw [Nat.zero_add, List.nil_append] at h
  obtain ⟨A, c, rfl, hm⟩ := OwnV.of h
  rcases h.2 with ⟨h', h0⟩ | ⟨g, cap, cur, h', _, _, hn, hm', _⟩
  · simp only [Value.slice.injEq] at h'
    obtain ⟨rfl, _, rfl⟩ := h'
    exact ⟨_, _, rfl, hm, by omega, Nat.zero_le _⟩
  · simp only [Value.slice.injEq] at h'
    obtain ⟨rfl, _, rfl⟩ := h'
    exact ⟨_, _, rfl, hm, hn, hm'⟩

set_option maxHeartbeats 4000000 in
theorem l14Copy_any (t : Int) (N : Option Addr) (cn : Nat) (l : List St) (g2 cm : Nat) (ms : List Mv) (w : World) (hN : IsSteps w w.heap.size N l) (hM : InMvs w w.heap.size (some ⟨g2, 0, none⟩) ms.length ms) (hl : l.length ≤ 1048576) (hp : 0 < l.length) (hm : ms.length ≤ 1048576) :
    Calls Tryz.prog 41 #[.agg #[.int .i64 t, .slice N l.length cn, .slice (some ⟨g2, 0, none⟩) ms.length cm]] w fun e w' => ∃ A c' M c2, e = .returned (.agg #[.int .i64 t, .slice A l.length c', .slice M ms.length c2]) ∧ GameNew w w' A l M ms ∧ (ms.length ≤ c2 ∧ c2 ≤ maxLen) ∧ Below w.heap.size w w' := by
  have hb0 : Below w.heap.size w ((w.alloc (.cells #[.int .i64 t, .slice N l.length cn, .slice (some ⟨g2, 0, none⟩) ms.length cm] 44)).alloc (.cells #[.int .i64 0, .slice none 0 0, .slice none 0 0] 44)) := (by repeat (first | exact Below.refl _ _ | assumption | (refine Below.alloc ?_ (by first | omega | (simp; done) | (simp; omega)) _) | (refine Below.setCell ?_ (by first | omega | (simp; done) | (simp; omega)) _) | refine Below.drew ?_))
  have p1 := (Blk.new w #[.int .i64 t, .slice N l.length cn, .slice (some ⟨g2, 0, none⟩) ms.length cm] 44).alloc (.cells #[.int .i64 0, .slice none 0 0, .slice none 0 0] 44)
  have p2 := Blk.new (w.alloc (.cells #[.int .i64 t, .slice N l.length cn, .slice (some ⟨g2, 0, none⟩) ms.length cm] 44)) #[.int .i64 0, .slice none 0 0, .slice none 0 0] 44
  simp only [World.size_alloc] at p2
  obtain ⟨b, off, rfl, hB, _⟩ := hN hp
  obtain ⟨i0, hi0, hz0, hz1, hz2⟩ := info_parts manInfo
  obtain ⟨j0, hj0, hy0, hy1, hy2⟩ := info_parts moveInfoG
  go_enter Tryz.func41, Tryz.ntmps41
  go_wp2_with fail
  generalize hW0 : (w.alloc _).alloc _ = W0 at *
  clear hW0
  have z1 := p1.lt
  have z2 := p2.lt
  have HP1 := Lib.hid p1
  have HP2 := Lib.hid p2
  have HB0 := Lib.hid hb0
  have hs0 := hb0.size
  have HN := Lib.hid (fun (w' : World) (hb : Below w.heap.size w w') => (hN.below hb).news)
  have HM := Lib.hid (fun (w' : World) (hb : Below w.heap.size w w') => (hM.below hb).news (Nat.le_refl _))
  have HL : Hid ((cellsM l).length = l.length * 3) := Lib.hid (cellsM_len l)
  have HLV : Hid ((cellsV ms).length = ms.length * 2) := Lib.hid (cellsV_len ms)
  have hmx : 0 + l.length ≤ maxLen := by unfold maxLen; omega
  have hmx2 : 0 + ms.length ≤ maxLen := by unfold maxLen; omega
  have hw : Below W0.heap.size W0 W0.drew := (Below.refl _ _).drew
  have HS : Hid (∀ w', Below W0.heap.size W0 w' → (w'.cell? ⟨w.heap.size, 0, none⟩ = some (.int .i64 t) ∧ w'.cell? ⟨w.heap.size, 1, none⟩ = some (.slice (some ⟨b, off, none⟩) l.length cn) ∧ w'.cell? ⟨w.heap.size, 2, none⟩ = some (.slice (some ⟨g2, 0, none⟩) ms.length cm))) := Lib.hid (fun w' hb => ((HP1.out.below hb z1).at3).1)
  have hne : w.heap.size ≠ w.heap.size + 1 := by omega
  clear p1 p2 hb0 hN hM hB
  have O1 : Hid (OwnM ((W0.alloc (.cells #[] 58)).alloc (.cells #[] 105)).drew W0.heap.size (.slice (some ⟨W0.heap.size + 1, 0, none⟩) 0 0) 0 []) := Lib.hid (by have h := own_empty (W0.alloc (.cells #[] 58)) W0.heap.size (by simp); rw [World.size_alloc] at h; exact h)
  have O2 : Hid (OwnM ((W0.alloc (.cells #[] 105)).alloc (.cells #[] 58)).drew W0.heap.size (.slice (some ⟨W0.heap.size, 0, none⟩) 0 0) 0 []) := Lib.hid (OwnM.alloc (own_empty W0 _ (Nat.le_refl _)) _)
  have O3 : Hid (OwnM (W0.alloc (.cells #[] 105)).drew W0.heap.size (.slice (some ⟨W0.heap.size, 0, none⟩) 0 0) 0 []) := Lib.hid (own_empty W0 _ (Nat.le_refl _))
  have B1 : Hid (Below W0.heap.size W0 ((W0.alloc (.cells #[] 58)).alloc (.cells #[] 105)).drew) := Lib.hid (((Below.refl _ _).alloc (Nat.le_refl _) _).alloc (by simp) _).drew
  have B2 : Hid (Below W0.heap.size W0 ((W0.alloc (.cells #[] 105)).alloc (.cells #[] 58)).drew) := Lib.hid (((Below.refl _ _).alloc (Nat.le_refl _) _).alloc (by simp) _).drew
  have B3 : Hid (Below W0.heap.size W0 (W0.alloc (.cells #[] 105)).drew) := Lib.hid ((Below.refl _ _).alloc (Nat.le_refl _) _).drew
  have B4 : Hid (Below W0.heap.size W0 (W0.alloc (.cells #[] 58)).drew) := Lib.hid ((Below.refl _ _).alloc (Nat.le_refl _) _).drew
  have X1 : Hid (Blk ((W0.alloc (.cells #[] 58)).alloc (.cells #[] 105)).drew W0.heap.size #[] 58) := Lib.hid ((Blk.new W0 #[] 58).alloc (.cells #[] 105))
  have X2 : Hid (Blk ((W0.alloc (.cells #[] 105)).alloc (.cells #[] 58)).drew (W0.heap.size + 1) #[] 58) := Lib.hid (by have h := Blk.new (W0.alloc (.cells #[] 105)) #[] 58; rw [World.size_alloc] at h; exact h)
  go_region_held3 (fun w' => w'.cell? ⟨w.heap.size, 0, none⟩ = some (.int .i64 t) ∧ w'.cell? ⟨w.heap.size, 1, none⟩ = some (.slice (some ⟨b, off, none⟩) l.length cn) ∧ w'.cell? ⟨w.heap.size, 2, none⟩ = some (.slice (some ⟨g2, 0, none⟩) ms.length cm))
    (first | exact HS.out _ hw | exact HS.out _ (hw.alloc hw.size _) | exact HS.out _ B1.out | exact HS.out _ B2.out | exact HS.out _ B3.out | exact HS.out _ B4.out | exact (((((HP1.out.below hw z1).other ⟨w.heap.size + 1, 0, none⟩ _ hne).other ⟨w.heap.size + 1, 1, none⟩ _ hne).other ⟨w.heap.size + 1, 2, none⟩ _ hne).at3).1)
    (first
      | (refine step_append_own rfl _ _ _ rfl W0.heap.size 105 i0 (.agg #[.int .i64 0, .int .i64 0, .int .i64 0]) 3 24 Tryz.underlying33 hi0 hz0 hz1 hz2 rfl (by decide) _ _ _ rfl O1.out ⟨b, off, none⟩ l.length _ (cellsM l) rfl HL.out (HN.out _ (HB0.out.trans (Below.mono B1.out hs0))) (cellsM_one _) hmx (by omega) B1.out.size ?_; intro v7 w7 hown7 hgrow7 hnil7; have hw := OwnM.base O1.out hgrow7 B1.out (Nat.le_refl _) B1.out.size; have hsz7 := hw.size; have XV := blk_keptE X1.out hgrow7 (by omega); obtain ⟨A7, c7, rfl, hm7⟩ := men_own hown7; clear hown7 hgrow7 hnil7)
      | (refine step_append_own rfl _ _ _ rfl W0.heap.size 105 i0 (.agg #[.int .i64 0, .int .i64 0, .int .i64 0]) 3 24 Tryz.underlying33 hi0 hz0 hz1 hz2 rfl (by decide) _ _ _ rfl O2.out ⟨b, off, none⟩ l.length _ (cellsM l) rfl HL.out (HN.out _ (HB0.out.trans (Below.mono B2.out hs0))) (cellsM_one _) hmx (by omega) B2.out.size ?_; intro v7 w7 hown7 hgrow7 hnil7; have hw := OwnM.base O2.out hgrow7 B2.out (Nat.le_refl _) B2.out.size; have hsz7 := hw.size; have XV := blk_keptE X2.out hgrow7 (by omega); obtain ⟨A7, c7, rfl, hm7⟩ := men_own hown7; clear hown7 hgrow7 hnil7)
      | (refine step_append_own rfl _ _ _ rfl W0.heap.size 105 i0 (.agg #[.int .i64 0, .int .i64 0, .int .i64 0]) 3 24 Tryz.underlying33 hi0 hz0 hz1 hz2 rfl (by decide) _ _ _ rfl O3.out ⟨b, off, none⟩ l.length _ (cellsM l) rfl HL.out (HN.out _ (HB0.out.trans (Below.mono B3.out hs0))) (cellsM_one _) hmx (by omega) B3.out.size ?_; intro v7 w7 hown7 hgrow7 hnil7; have hw := OwnM.base O3.out hgrow7 B3.out (Nat.le_refl _) B3.out.size; have hsz7 := hw.size; obtain ⟨A7, c7, rfl, hm7⟩ := men_own hown7; clear hown7 hgrow7 hnil7)
      | (refine step_append_own rfl _ _ _ rfl W0.heap.size 58 j0 (.agg #[.int .i64 0, .int .i64 0]) 2 16 Tryz.underlying42 hj0 hy0 hy1 hy2 rfl (by decide) _ _ _ rfl (ownV_blk (Nat.le_refl _) (XV)) ⟨g2, 0, none⟩ ms.length _ (cellsV ms) rfl HLV.out (HM.out _ (HB0.out.trans (Below.mono hw hs0))) (cellsV_one _) hmx2 (by omega) (Below.size hw) ?_; intro v9 w9 hown9 hgrow9 hnil9; have hsz9 : w7.heap.size ≤ w9.heap.size := Nat.le_trans (by first | exact Nat.le_refl _ | simp) hgrow9.size; have hw := OwnV.base (show OwnV w7 W0.heap.size (.slice (some ⟨W0.heap.size, 0, none⟩) 0 0) [] from OwnV.empty (Nat.le_refl _) XV) hgrow9 hw (Nat.le_refl _) (Below.size hw); have hm7 := MenA.grownV (hm7) (XV) hgrow9; obtain ⟨A9, c9, rfl, hm9, hc9⟩ := moves_own hown9; have p2x := HP2.out.below hw z2; obtain ⟨⟨u0, u1, u2⟩, ⟨u3, u4, u5⟩⟩ := p2x.at3; clear hown9 hgrow9 hnil9)
      | (refine step_append_own rfl _ _ _ rfl W0.heap.size 58 j0 (.agg #[.int .i64 0, .int .i64 0]) 2 16 Tryz.underlying42 hj0 hy0 hy1 hy2 rfl (by decide) _ _ _ rfl (ownV_blk (Nat.le_succ _) (XV)) ⟨g2, 0, none⟩ ms.length _ (cellsV ms) rfl HLV.out (HM.out _ (HB0.out.trans (Below.mono hw hs0))) (cellsV_one _) hmx2 (by omega) (Below.size hw) ?_; intro v9 w9 hown9 hgrow9 hnil9; have hsz9 : w7.heap.size ≤ w9.heap.size := Nat.le_trans (by first | exact Nat.le_refl _ | simp) hgrow9.size; have hw := OwnV.base (show OwnV w7 W0.heap.size (.slice (some ⟨W0.heap.size + 1, 0, none⟩) 0 0) [] from OwnV.empty (Nat.le_succ _) XV) hgrow9 hw (Nat.le_refl _) (Below.size hw); have hm7 := MenA.grownV (hm7) (XV) hgrow9; obtain ⟨A9, c9, rfl, hm9, hc9⟩ := moves_own hown9; have p2x := HP2.out.below hw z2; obtain ⟨⟨u0, u1, u2⟩, ⟨u3, u4, u5⟩⟩ := p2x.at3; clear hown9 hgrow9 hnil9)
      | (refine step_append_own rfl _ _ _ rfl W0.heap.size 58 j0 (.agg #[.int .i64 0, .int .i64 0]) 2 16 Tryz.underlying42 hj0 hy0 hy1 hy2 rfl (by decide) _ _ _ rfl (ownV_blk hw.size (Blk.new w7 #[] 58)) ⟨g2, 0, none⟩ ms.length _ (cellsV ms) rfl HLV.out (HM.out _ (HB0.out.trans (Below.mono (hw.alloc hw.size (.cells #[] 58)) hs0))) (cellsV_one _) hmx2 (by omega) (Below.size (hw.alloc hw.size (.cells #[] 58))) ?_; intro v9 w9 hown9 hgrow9 hnil9; have hsz9 : w7.heap.size ≤ w9.heap.size := Nat.le_trans (by first | exact Nat.le_refl _ | simp) hgrow9.size; have hw := OwnV.base (ownV_empty w7 W0.heap.size hw.size) hgrow9 (hw.alloc hw.size (.cells #[] 58)) (Nat.le_refl _) (Below.size (hw.alloc hw.size (.cells #[] 58))); have hm7 := MenA.grownV (hm7.below (below_of w7 (.cells #[] 58))) (Blk.new w7 #[] 58) hgrow9; obtain ⟨A9, c9, rfl, hm9, hc9⟩ := moves_own hown9; have p2x := HP2.out.below hw z2; obtain ⟨⟨u0, u1, u2⟩, ⟨u3, u4, u5⟩⟩ := p2x.at3; clear hown9 hgrow9 hnil9))
  all_goals
    go_wp2_with fail
    refine bodyPost_ret (v := .agg #[.int .i64 t, .slice A7 l.length c7, .slice A9 ms.length c9]) ?_ rfl ⟨A7, c7, A9, c9, rfl, ?_, hc9, ?_⟩
    · obtain ⟨⟨e0, e1, e2⟩, _⟩ := Blk.at3 (x := .int .i64 t) (y := .slice A7 l.length c7) (z := .slice A9 ms.length c9) (((p2x.set 0 (.int .i64 t)).set 1 (.slice A7 l.length c7)).set 2 (.slice A9 ms.length c9))
      simp [results, Tryz.results41, go_sem, e0, e1, e2]
    · have hlo1 : w.heap.size + 1 < W0.heap.size := z2
      have hsz := hw.size
      exact ⟨(((hm7.off _ _ hlo1).off _ _ hlo1).off _ _ hlo1).more hs0 (by rw [size_set, size_set, size_set]; omega), (MvA.offG (MvA.offG (MvA.offG hm9 _ _ hlo1) _ _ hlo1) _ _ hlo1).more hs0 (by rw [size_set, size_set, size_set]; exact Nat.le_refl _)⟩
    · exact (((HB0.out.trans (hw.mono hs0)).setCell (by show w.heap.size ≤ w.heap.size + 1; omega) _).setCell (by show w.heap.size ≤ w.heap.size + 1; omega) _).setCell (by show w.heap.size ≤ w.heap.size + 1; omega) _
end Go.Proofs.YtcgfklljbblhlaaGreatDoor.Ko

namespace Go.Proofs.YtcgfklljbblhlaaGreatDoor.Ko
open Go.ChangeShapes Go.WideShapes Go.ChangeAt Go.RowKit Base Sq
set_option linter.unusedVariables false
set_option maxRecDepth 20000
attribute [local irreducible] wpQuiet

/-- an answer (Game, bool) in new memory -/
def ResK (w w' : World) (T : Int) (L : List St) (MM : List Mv) (B : Bool) (e : Ending) : Prop := ∃ A c M cm, e = .returned (.tuple #[.agg #[.int .i64 T, .slice A L.length c, .slice M MM.length cm], .bool B]) ∧ MenA w.heap.size w'.heap.size w' A L ∧ MvA w.heap.size w'.heap.size w' M MM ∧ Below w.heap.size w w'
noncomputable def gbT (side : Int) (ks : List Kd) (t : Int) (l : List St) (ms : List Mv) : Int := if gameB side ks t l ms = true then t else 0
noncomputable def gbL (side : Int) (ks : List Kd) (t : Int) (l : List St) (ms : List Mv) : List St := if gameB side ks t l ms = true then l else []
noncomputable def gbM (side : Int) (ks : List Kd) (t : Int) (l : List St) (ms : List Mv) : List Mv := if gameB side ks t l ms = true then ms.take (ms.length - 1) else []
noncomputable def gbB (side : Int) (ks : List Kd) (t : Int) (l : List St) (ms : List Mv) : Bool := gameB side ks t l ms && decide (0 < ms.length)
theorem gbL_len {side t : Int} {ks : List Kd} {l : List St} {ms : List Mv} (hl : l.length ≤ 1048576 ∧ ms.length ≤ 1048576) : (gbL side ks t l ms).length ≤ 1048576 := by
  unfold gbL
  split
  · exact hl.1
  · exact Nat.zero_le _
theorem gbM_len {side t : Int} {ks : List Kd} {l : List St} {ms : List Mv} (hl : l.length ≤ 1048576 ∧ ms.length ≤ 1048576) : (gbM side ks t l ms).length ≤ 1048576 := by
  unfold gbM
  split
  · rw [List.length_take]; omega
  · exact Nat.zero_le _
theorem gb_no {side t : Int} {ks : List Kd} {l : List St} {ms : List Mv} (h : gameB side ks t l ms = false) : gbT side ks t l ms = 0 ∧ gbL side ks t l ms = [] ∧ gbM side ks t l ms = [] ∧ gbB side ks t l ms = false := by unfold gbT gbL gbM gbB; rw [h]; exact ⟨rfl, rfl, rfl, rfl⟩
theorem gb_yes {side t : Int} {ks : List Kd} {l : List St} {ms : List Mv} (h : gameB side ks t l ms = true) : gbT side ks t l ms = t ∧ gbL side ks t l ms = l ∧ gbM side ks t l ms = ms.take (ms.length - 1) ∧ gbB side ks t l ms = decide (0 < ms.length) := by unfold gbT gbL gbM gbB; rw [h]; exact ⟨rfl, rfl, rfl, rfl⟩
theorem mv_take (ms : List Mv) {n i : Nat} (hi : i < n) : mvAt (ms.take n) i = mvAt ms i := by
  unfold mvAt; simp [List.getD_eq_getElem?_getD, List.getElem?_take, hi]
theorem MvA.take {lo hi : Nat} {w : World} {A : Option Addr} {ms : List Mv} (h : MvA lo hi w A ms) (n : Nat) : MvA lo hi w A (ms.take n) := fun h0 => by
  rw [List.length_take] at h0
  obtain ⟨b, cs, rfl, h1, h2, h3, h4, h5⟩ := h (by omega)
  refine ⟨b, cs, rfl, h1, h2, h3, by rw [List.length_take]; omega, fun i hi => ?_⟩
  rw [List.length_take] at hi
  rw [mv_take ms (show i < n by omega)]
  exact h5 i (by omega)
theorem InMvs.take {w : World} {B : Nat} {M : Option Addr} {ms : List Mv} {n : Nat} (h : InMvs w B M ms.length ms) (hn : n ≤ ms.length) : InMvs w B M (ms.take n).length (ms.take n) := fun h0 => by
  rw [List.length_take, Nat.min_eq_left hn] at h0
  obtain ⟨b, off, rfl, hb, hc⟩ := h (by omega)
  exact ⟨b, off, rfl, hb, fun i hi => by
    rw [List.length_take, Nat.min_eq_left hn] at hi
    rw [mv_take ms hi]; exact hc i (by omega)⟩

set_option maxHeartbeats 2000000 in
theorem gameBackK_any (side : Int) (A : Option Addr) (c : Nat) (ks : List Kd) (t : Int) (N : Option Addr) (cn : Nat) (l : List St) (g2 : Nat) (ms : List Mv) (w : World) (hR : IsKinds w w.heap.size A ks) (hG : InG w w.heap.size N l (some ⟨g2, 0, none⟩) ms) (hTA : TabAt w) (hsm : Small ks) (hl : l.length ≤ 1048576 ∧ ms.length ≤ 1048576) :
    Calls Tryz.prog 20 #[.agg #[.int .i64 side, .slice A ks.length c], .agg #[.int .i64 t, .slice N l.length cn, .slice (some ⟨g2, 0, none⟩) ms.length ms.length]] w fun e w' => ResK w w' (gbT side ks t l ms) (gbL side ks t l ms) (gbM side ks t l ms) (gbB side ks t l ms) e := by
  have hb0 : Below w.heap.size w (((w.alloc (.cells #[.int .i64 side, .slice A ks.length c] 40)).alloc (.cells #[.int .i64 t, .slice N l.length cn, .slice (some ⟨g2, 0, none⟩) ms.length ms.length] 44)).alloc (.cells #[.int .i64 0, .slice none 0 0, .slice none 0 0] 44)) := (by repeat (first | exact Below.refl _ _ | assumption | (refine Below.alloc ?_ (by first | omega | (simp; done) | (simp; omega)) _) | (refine Below.setCell ?_ (by first | omega | (simp; done) | (simp; omega)) _) | refine Below.drew ?_))
  have p1 := ((Blk.new w #[.int .i64 side, .slice A ks.length c] 40).alloc (.cells #[.int .i64 t, .slice N l.length cn, .slice (some ⟨g2, 0, none⟩) ms.length ms.length] 44)).alloc (.cells #[.int .i64 0, .slice none 0 0, .slice none 0 0] 44)
  have p2 := (Blk.new (w.alloc (.cells #[.int .i64 side, .slice A ks.length c] 40)) #[.int .i64 t, .slice N l.length cn, .slice (some ⟨g2, 0, none⟩) ms.length ms.length] 44).alloc (.cells #[.int .i64 0, .slice none 0 0, .slice none 0 0] 44)
  have p3 := Blk.new ((w.alloc (.cells #[.int .i64 side, .slice A ks.length c] 40)).alloc (.cells #[.int .i64 t, .slice N l.length cn, .slice (some ⟨g2, 0, none⟩) ms.length ms.length] 44)) #[.int .i64 0, .slice none 0 0, .slice none 0 0] 44
  simp only [World.size_alloc] at p2 p3
  go_enter Tryz.func20, Tryz.ntmps20
  go_wp2_with fail
  generalize hW0 : ((w.alloc _).alloc _).alloc _ = W0 at *
  clear hW0
  refine (gameOkK_any _ _ _ _ _ _ _ _ _ _ _ ((hR.below hb0).more hb0.size) ((hG.below hb0).more hb0.size) (hTA.below hb0 hTA.lt) hsm hl).mono ?_
  rintro e w2 ⟨rfl, hb2⟩
  have q2 := p2.below hb2 p2.lt
  have q3 := p3.below hb2 p3.lt
  have hl3 := p3.lt
  have hbe := hb0.trans (hb2.mono hb0.size)
  have hs2 := hb2.size
  clear p1 p2 p3 hb2
  obtain ⟨⟨g0, g1, g3⟩, ⟨g4, g5, g6⟩⟩ := q2.at3
  obtain ⟨⟨d0, d1, d2⟩, ⟨d3, d4, d5⟩⟩ := q3.at3
  cases hg : gameB side ks t l ms
  · have HN := Lib.hid (gb_no hg)
    clear hg
    go_wp2_with fail
    refine bodyPost_ret (v := .tuple #[.agg #[.int .i64 0, .slice none 0 0, .slice none 0 0], .bool false]) ?_ rfl ?_
    · obtain ⟨⟨e0, e1, e2⟩, _⟩ := (q3.set3 (.int .i64 0) (.slice none 0 0) (.slice none 0 0)).at3
      simp [results, Tryz.results20, go_sem, e0, e1, e2]
    · rw [HN.out.1, HN.out.2.1, HN.out.2.2.1, HN.out.2.2.2]
      exact ⟨none, 0, none, 0, rfl, MenA.nil _ _ _ _, MvA.nil _ _ _ _, ((hbe.setCell (by show w.heap.size ≤ w.heap.size + 1 + 1; omega) _).setCell (by show w.heap.size ≤ w.heap.size + 1 + 1; omega) _).setCell (by show w.heap.size ≤ w.heap.size + 1 + 1; omega) _⟩
  · have HN := Lib.hid (gb_yes hg)
    have hlp := men_pos (gameB_facts2 hg).2.1
    clear hg
    rcases Nat.eq_zero_or_pos ms.length with h0 | h0
    · obtain rfl : ms = [] := List.length_eq_zero_iff.1 h0
      go_wp2_with fail
      have q3' := q3
      have hbe' := hbe
      refine (gameCopied_any t N cn l g2 0 [] w2 ((hG.1.below hbe).more hbe.size) ((hG.2.below hbe).more hbe.size) hl.1 hlp (by simp)).mono ?_
      rintro e w4 ⟨A4, c4, M4, c5, rfl, ⟨hm4, hv4⟩, hb4⟩
      have r3 := q3'.below hb4 q3'.lt
      have hbf := hbe'.trans (hb4.mono hbe'.size)
      have hs4 := hb4.size
      have hs5 := hbe'.size
      clear g0 g1 g3 g4 g5 g6 d0 d1 d2 d3 d4 d5
      obtain ⟨⟨d0, d1, d2⟩, ⟨d3, d4, d5⟩⟩ := r3.at3
      go_wp2_with fail
      refine bodyPost_ret (v := .tuple #[.agg #[.int .i64 t, .slice A4 l.length c4, .slice M4 ([] : List Mv).length c5], .bool false]) ?_ rfl ?_
      · obtain ⟨⟨e0, e1, e2⟩, _⟩ := (r3.set3 (.int .i64 t) (.slice A4 l.length c4) (.slice M4 0 c5)).at3
        simp [results, Tryz.results20, go_sem, e0, e1, e2]
      · rw [HN.out.1, HN.out.2.1, HN.out.2.2.1, HN.out.2.2.2]
        have hlo : w.heap.size + 1 + 1 < w2.heap.size := by omega
        refine ⟨A4, c4, M4, c5, rfl, ?_, ?_, ((hbf.setCell (by show w.heap.size ≤ w.heap.size + 1 + 1; omega) _).setCell (by show w.heap.size ≤ w.heap.size + 1 + 1; omega) _).setCell (by show w.heap.size ≤ w.heap.size + 1 + 1; omega) _⟩
        · exact (((hm4.off _ _ hlo).off _ _ hlo).off _ _ hlo).more (by omega) (by rw [size_set, size_set, size_set]; exact Nat.le_refl _)
        · exact (MvA.offG (MvA.offG (MvA.offG hv4 _ _ hlo) _ _ hlo) _ _ hlo).more (by omega) (by rw [size_set, size_set, size_set]; exact Nat.le_refl _)
    · have h1 : ((ms.length : Int) == 0) = false := by rw [beq_eq_false_iff_ne]; omega
      go_wp2_with fail
      have q3' := q3.other ⟨w.heap.size + 1, 2, none⟩ (.slice (some ⟨g2, 0, none⟩) (ms.length - 1) ms.length) (by show w.heap.size + 1 + 1 ≠ w.heap.size + 1; omega)
      have hbe' := hbe.setCell (p := ⟨w.heap.size + 1, 2, none⟩) (show w.heap.size ≤ w.heap.size + 1 by omega) (.slice (some ⟨g2, 0, none⟩) (ms.length - 1) ms.length)
      obtain ⟨mt, hmt⟩ : ∃ mt, mt = ms.take (ms.length - 1) := ⟨_, rfl⟩
      have hmtl : mt.length = ms.length - 1 := by rw [hmt, List.length_take]; omega
      have hmi : InMvs w w.heap.size (some ⟨g2, 0, none⟩) mt.length mt := by rw [hmt]; exact hG.2.take (by omega)
      have hsw : (w2.setCell ⟨w.heap.size + 1, 2, none⟩ (.slice (some ⟨g2, 0, none⟩) (ms.length - 1) ms.length)).heap.size = w2.heap.size := size_set _ _ _
      have hdt : decide (0 < ms.length) = true := decide_eq_true h0
      rw [← hmt, hdt] at HN
      clear hmt hdt
      rw [← hmtl] at q3' hbe' hsw ⊢
      have hml : mt.length ≤ 1048576 := by omega
      have HML := Lib.hid hmtl
      clear hmtl
      generalize hY : w2.setCell _ _ = W3 at *
      clear hY
      refine (gameCopied_any t N cn l g2 ms.length mt W3 ((hG.1.below hbe').more hbe'.size) ((hmi.below hbe').more hbe'.size) hl.1 hlp hml).mono ?_
      rintro e w4 ⟨A4, c4, M4, c5, rfl, ⟨hm4, hv4⟩, hb4⟩
      have r3 := q3'.below hb4 q3'.lt
      have hbf := hbe'.trans (hb4.mono hbe'.size)
      have hs4 := hb4.size
      have hs5 := hbe'.size
      clear g0 g1 g3 g4 g5 g6 d0 d1 d2 d3 d4 d5
      obtain ⟨⟨d0, d1, d2⟩, ⟨d3, d4, d5⟩⟩ := r3.at3
      go_wp2_with fail
      refine bodyPost_ret (v := .tuple #[.agg #[.int .i64 t, .slice A4 l.length c4, .slice M4 mt.length c5], .bool true]) ?_ rfl ?_
      · obtain ⟨⟨e0, e1, e2⟩, _⟩ := (r3.set3 (.int .i64 t) (.slice A4 l.length c4) (.slice M4 mt.length c5)).at3
        simp [results, Tryz.results20, go_sem, e0, e1, e2]
      · rw [HN.out.1, HN.out.2.1, HN.out.2.2.1, HN.out.2.2.2]
        have hlo : w.heap.size + 1 + 1 < W3.heap.size := by omega
        refine ⟨A4, c4, M4, c5, rfl, ?_, ?_, ((hbf.setCell (by show w.heap.size ≤ w.heap.size + 1 + 1; omega) _).setCell (by show w.heap.size ≤ w.heap.size + 1 + 1; omega) _).setCell (by show w.heap.size ≤ w.heap.size + 1 + 1; omega) _⟩
        · exact (((hm4.off _ _ hlo).off _ _ hlo).off _ _ hlo).more (by omega) (by rw [size_set, size_set, size_set]; exact Nat.le_refl _)
        · exact (MvA.offG (MvA.offG (MvA.offG hv4 _ _ hlo) _ _ hlo) _ _ hlo).more (by omega) (by rw [size_set, size_set, size_set]; exact Nat.le_refl _)

set_option maxHeartbeats 2000000 in
theorem specGameBackK_any (side : Int) (A : Option Addr) (c : Nat) (ks : List Kd) (t : Int) (N : Option Addr) (cn : Nat) (l : List St) (g2 : Nat) (ms : List Mv) (w : World) (hR : IsKinds w w.heap.size A ks) (hG : InG w w.heap.size N l (some ⟨g2, 0, none⟩) ms) (hsm : Small ks) (hl : l.length ≤ 1048576 ∧ ms.length ≤ 1048576) :
    Calls Tryz.prog 19 #[.agg #[.int .i64 side, .slice A ks.length c], .agg #[.int .i64 t, .slice N l.length cn, .slice (some ⟨g2, 0, none⟩) ms.length ms.length]] w fun e w' => ResK w w' (gbT side ks t l ms) (gbL side ks t l ms) (gbM side ks t l ms) (gbB side ks t l ms) e := by
  have hb0 : Below w.heap.size w (((w.alloc (.cells #[.int .i64 side, .slice A ks.length c] 40)).alloc (.cells #[.int .i64 t, .slice N l.length cn, .slice (some ⟨g2, 0, none⟩) ms.length ms.length] 44)).alloc (.cells #[.int .i64 0, .slice none 0 0, .slice none 0 0] 44)) := (by repeat (first | exact Below.refl _ _ | assumption | (refine Below.alloc ?_ (by first | omega | (simp; done) | (simp; omega)) _) | (refine Below.setCell ?_ (by first | omega | (simp; done) | (simp; omega)) _) | refine Below.drew ?_))
  have p1 := ((Blk.new w #[.int .i64 side, .slice A ks.length c] 40).alloc (.cells #[.int .i64 t, .slice N l.length cn, .slice (some ⟨g2, 0, none⟩) ms.length ms.length] 44)).alloc (.cells #[.int .i64 0, .slice none 0 0, .slice none 0 0] 44)
  have p2 := (Blk.new (w.alloc (.cells #[.int .i64 side, .slice A ks.length c] 40)) #[.int .i64 t, .slice N l.length cn, .slice (some ⟨g2, 0, none⟩) ms.length ms.length] 44).alloc (.cells #[.int .i64 0, .slice none 0 0, .slice none 0 0] 44)
  have p3 := Blk.new ((w.alloc (.cells #[.int .i64 side, .slice A ks.length c] 40)).alloc (.cells #[.int .i64 t, .slice N l.length cn, .slice (some ⟨g2, 0, none⟩) ms.length ms.length] 44)) #[.int .i64 0, .slice none 0 0, .slice none 0 0] 44
  simp only [World.size_alloc] at p2 p3
  go_enter Tryz.func19, Tryz.ntmps19
  go_wp2_with fail
  generalize hW0 : ((w.alloc _).alloc _).alloc _ = W0 at *
  clear hW0
  refine (specGameOkK_any _ _ _ _ _ _ _ _ _ _ _ ((hR.below hb0).more hb0.size) ((hG.below hb0).more hb0.size) hsm hl).mono ?_
  rintro e w2 ⟨rfl, hb2⟩
  have q2 := p2.below hb2 p2.lt
  have q3 := p3.below hb2 p3.lt
  have hl3 := p3.lt
  have hbe := hb0.trans (hb2.mono hb0.size)
  have hs2 := hb2.size
  clear p1 p2 p3 hb2
  obtain ⟨⟨g0, g1, g3⟩, ⟨g4, g5, g6⟩⟩ := q2.at3
  obtain ⟨⟨d0, d1, d2⟩, ⟨d3, d4, d5⟩⟩ := q3.at3
  cases hg : gameB side ks t l ms
  · have HN := Lib.hid (gb_no hg)
    clear hg
    go_wp2_with fail
    refine bodyPost_ret (v := .tuple #[.agg #[.int .i64 0, .slice none 0 0, .slice none 0 0], .bool false]) ?_ rfl ?_
    · obtain ⟨⟨e0, e1, e2⟩, _⟩ := (q3.set3 (.int .i64 0) (.slice none 0 0) (.slice none 0 0)).at3
      simp [results, Tryz.results19, go_sem, e0, e1, e2]
    · rw [HN.out.1, HN.out.2.1, HN.out.2.2.1, HN.out.2.2.2]
      exact ⟨none, 0, none, 0, rfl, MenA.nil _ _ _ _, MvA.nil _ _ _ _, ((hbe.setCell (by show w.heap.size ≤ w.heap.size + 1 + 1; omega) _).setCell (by show w.heap.size ≤ w.heap.size + 1 + 1; omega) _).setCell (by show w.heap.size ≤ w.heap.size + 1 + 1; omega) _⟩
  · have HN := Lib.hid (gb_yes hg)
    have hlp := men_pos (gameB_facts2 hg).2.1
    clear hg
    go_wp2_with fail
    refine (l14Copy_any t N cn l g2 ms.length ms w2 ((hG.1.below hbe).more hbe.size) ((hG.2.below hbe).more hbe.size) hl.1 hlp hl.2).mono ?_
    rintro e w4 ⟨A4, c4, M4, c5, rfl, ⟨hm4, hv4⟩, ⟨hc1, hc2⟩, hb4⟩
    have r2 := q2.below hb4 q2.lt
    have r3 := q3.below hb4 q3.lt
    have hbf := hbe.trans (hb4.mono hbe.size)
    have hs4 := hb4.size
    have y2 := r2.lt
    have y3 := r3.lt
    clear g0 g1 g3 g4 g5 g6 d0 d1 d2 d3 d4 d5 q2 q3
    obtain ⟨⟨g0, g1, g3⟩, ⟨g4, g5, g6⟩⟩ := r2.at3
    obtain ⟨⟨d0, d1, d2⟩, ⟨d3, d4, d5⟩⟩ := r3.at3
    obtain ⟨⟨b0, b1, b2⟩, _⟩ := (r2.alloc (.cells #[.int .i64 t, .slice A4 l.length c4, .slice M4 ms.length c5] 44)).at3
    have hM4 : 0 < ms.length → ∃ bm, M4 = some ⟨bm, 0, none⟩ := fun h0 => by obtain ⟨bm, _, h, _⟩ := hv4 h0; exact ⟨bm, h⟩
    unfold maxLen at hc2
    rcases Nat.eq_zero_or_pos ms.length with h0 | h0
    · obtain rfl : ms = [] := List.length_eq_zero_iff.1 h0
      go_wp2_with fail
      refine bodyPost_ret (v := .tuple #[.agg #[.int .i64 t, .slice A4 l.length c4, .slice M4 0 c5], .bool false]) ?_ rfl ?_
      · obtain ⟨⟨e0, e1, e2⟩, _⟩ := ((r3.set3 (.int .i64 t) (.slice A4 l.length c4) (.slice M4 0 c5)).alloc (.cells #[.int .i64 t, .slice A4 l.length c4, .slice M4 0 c5] 44)).at3
        simp [results, Tryz.results19, go_sem, e0, e1, e2]
      · rw [HN.out.1, HN.out.2.1, HN.out.2.2.1, HN.out.2.2.2]
        have hlo : w.heap.size + 1 + 1 < w2.heap.size := by omega
        have hs5 := hbf.size
        refine ⟨A4, c4, M4, c5, rfl, ?_, ?_, (((hbf.setCell (by show w.heap.size ≤ w.heap.size + 1 + 1; omega) _).setCell (by show w.heap.size ≤ w.heap.size + 1 + 1; omega) _).setCell (by show w.heap.size ≤ w.heap.size + 1 + 1; omega) _).alloc (by rw [size_set, size_set, size_set]; omega) _⟩
        · exact ((((hm4.off _ _ hlo).off _ _ hlo).off _ _ hlo).below ((below_of _ _).mono (by rw [size_set, size_set, size_set]; exact Nat.le_refl _))).more (by omega) (by rw [World.size_alloc, size_set, size_set, size_set]; omega)
        · exact ((MvA.offG (MvA.offG (MvA.offG hv4 _ _ hlo) _ _ hlo) _ _ hlo).below ((below_of _ _).mono (by rw [size_set, size_set, size_set]; exact Nat.le_refl _))).more (by omega) (by rw [World.size_alloc, size_set, size_set, size_set]; omega)
    · have h1 : ((ms.length : Int) == 0) = false := by rw [beq_eq_false_iff_ne]; omega
      obtain ⟨bm, rfl⟩ := hM4 h0
      go_wp2_with fail
      refine bodyPost_ret (v := .tuple #[.agg #[.int .i64 t, .slice A4 l.length c4, .slice (some ⟨bm, 0, none⟩) (ms.length - 1) c5], .bool true]) ?_ rfl ?_
      · obtain ⟨⟨e0, e1, e2⟩, _⟩ := ((r3.set3 (.int .i64 t) (.slice A4 l.length c4) (.slice (some ⟨bm, 0, none⟩) (ms.length - 1) c5)).alloc (.cells #[.int .i64 t, .slice A4 l.length c4, .slice (some ⟨bm, 0, none⟩) (ms.length - 1) c5] 44)).at3
        simp [results, Tryz.results19, go_sem, e0, e1, e2]
      · rw [HN.out.1, HN.out.2.1, HN.out.2.2.1, HN.out.2.2.2]
        have hlo : w.heap.size + 1 + 1 < w2.heap.size := by omega
        have hs5 := hbf.size
        have hmtl : (ms.take (ms.length - 1)).length = ms.length - 1 := by rw [List.length_take]; omega
        have hdt : decide (0 < ms.length) = true := decide_eq_true h0
        rw [hdt]
        refine ⟨A4, c4, (some ⟨bm, 0, none⟩), c5, by rw [hmtl], ?_, ?_, (((hbf.setCell (by show w.heap.size ≤ w.heap.size + 1 + 1; omega) _).setCell (by show w.heap.size ≤ w.heap.size + 1 + 1; omega) _).setCell (by show w.heap.size ≤ w.heap.size + 1 + 1; omega) _).alloc (by rw [size_set, size_set, size_set]; omega) _⟩
        · exact ((((hm4.off _ _ hlo).off _ _ hlo).off _ _ hlo).below ((below_of _ _).mono (by rw [size_set, size_set, size_set]; exact Nat.le_refl _))).more (by omega) (by rw [World.size_alloc, size_set, size_set, size_set]; omega)
        · exact ((MvA.offG (MvA.offG (MvA.offG (hv4.take (ms.length - 1)) _ _ hlo) _ _ hlo) _ _ hlo).below ((below_of _ _).mono (by rw [size_set, size_set, size_set]; exact Nat.le_refl _))).more (by omega) (by rw [World.size_alloc, size_set, size_set, size_set]; omega)
end Go.Proofs.YtcgfklljbblhlaaGreatDoor.Ko

namespace Go.Proofs.YtcgfklljbblhlaaGreatDoor.Ko
open Go.ChangeShapes Go.WideShapes Go.ChangeAt Go.RowKit Base Sq
set_option linter.unusedVariables false
set_option maxRecDepth 20000
attribute [local irreducible] wpQuiet

def IsMvs (w : World) (B : Nat) (A : Option Addr) (l : List Mv) : Prop := MvA 0 B w A l
theorem MvA.is {lo hi : Nat} {w : World} {A : Option Addr} {l : List Mv} (h : MvA lo hi w A l) : IsMvs w hi A l := MvA.more h (Nat.zero_le _) (Nat.le_refl _)
theorem IsMvs.more {w : World} {B B' : Nat} {A : Option Addr} {l : List Mv} (h : IsMvs w B A l) (hB : B ≤ B') : IsMvs w B' A l := MvA.more h (Nat.le_refl _) hB
theorem IsMvs.below {w w' : World} {B : Nat} {A : Option Addr} {l : List Mv} (h : IsMvs w B A l) (hb : Below B w w') : IsMvs w' B A l := MvA.below h hb
theorem IsMvs.at {w : World} {B : Nat} {A : Option Addr} {l : List Mv} (h : IsMvs w B A l) {i : Nat} (hi : i < l.length) : ∃ b, A = some ⟨b, 0, none⟩ ∧ b < B ∧ w.cell? ⟨b, i * 2, none⟩ = some (.int .i64 (mvAt l i).1) ∧ w.cell? ⟨b, i * 2 + 1, none⟩ = some (.int .i64 (mvAt l i).2) := MvA.at h hi
theorem MvA.span {lo hi lo' hi' : Nat} {w w' : World} {A : Option Addr} {l : List Mv} (h : MvA lo hi w A l) (hs : Span lo' hi' w w') (ho : hi ≤ lo' ∨ hi' ≤ lo) : MvA lo hi w' A l := fun hn => by
  obtain ⟨b, cs, rfl, h1, h2, h3, h4, h5⟩ := h hn
  exact ⟨b, cs, rfl, h1, h2, hs.blk h3 (by omega), h4, h5⟩
theorem eqMove_same (f q : Int) (w : World) :
    Calls Tryz.prog 61 #[.agg #[.int .i64 f, .int .i64 q], .agg #[.int .i64 f, .int .i64 q]] w fun e w' => e = .returned (.bool true) ∧ Below w.heap.size w w' := by
  go_enter Tryz.func61, Tryz.ntmps61
  go_wp2_with fail
  go_ret
  exact ⟨rfl, (by repeat (first | exact Below.refl _ _ | assumption | (refine Below.alloc ?_ (by first | omega | (simp; done) | (simp; omega)) _) | (refine Below.setCell ?_ (by first | omega | (simp; done) | (simp; omega)) _) | refine Below.drew ?_))⟩
theorem eqMoveS_same (A A' : Option Addr) (c c' : Nat) (l : List Mv) (w : World) (h : IsMvs w w.heap.size A l) (h' : IsMvs w w.heap.size A' l) (hl : l.length ≤ 1048576) :
    Calls Tryz.prog 36 #[.slice A l.length c, .slice A' l.length c'] w fun e w' => e = .returned (.bool true) ∧ Below w.heap.size w w' := by
  go_enter Tryz.func36, Tryz.ntmps36
  go_wp2_with fail
  go_loopw [5] (fun i wr => ∃ k : Nat, k ≤ l.length ∧ i = .int .i64 k ∧ Below w.heap.size w wr) (fun i _ => l.length - (intOf i).toNat)
  case atStart => exact ⟨0, by omega, rfl, Below.refl _ _⟩
  case round =>
    obtain ⟨k, hk, rfl, hbe⟩ := hrel
    by_cases hlt : k < l.length
    · obtain ⟨b, rfl, hB, c0, c1⟩ := (h.below hbe).at hlt
      obtain ⟨b', rfl, hB', d0, d1⟩ := (h'.below hbe).at hlt
      have hz := hbe.size
      have z1 : b < wr.heap.size := by omega
      have z2 : b' < wr.heap.size := by omega
      have hk1 : (k : Int) < (l.length : Int) := by omega
      have hk2 : (0 : Int) ≤ (k : Int) := by omega
      go_wp2_with fail
      refine wp_region_below (W := wr) (by kernel_rfl) (by kernel_rfl) (Below.refl _ _) ?_
      repeat (first
        | (refine qs_skip (by rfl) ?_; simp only [Act.put, List.setIfInBounds_toArray, List.set_cons_zero, List.set_cons_succ])
        | (apply qs_take
           focus rfl
           focus (
             intro wq hwq
             obtain ⟨hcq, hfq⟩ := bcell hwq
             go_simp
             all_goals first
               | exact rfl
               | (go_at_call 61; refine (eqMove_same _ _ _).mono ?_; exact fun e w2 h => ⟨h.1, hwq.trans (h.2.mono hwq.size)⟩)
               | (exact ⟨trivial, rfl⟩))
           simp only [Act.put, List.setIfInBounds_toArray, List.set_cons_zero, List.set_cons_succ]))
      refine wpQuiet_nil ?_
      intro wq hwq
      go_wp2_with fail
      go_roundw
      case rel => exact ⟨k + 1, by omega, by go_num, hbe.trans (hwq.mono (by omega))⟩
      case measure => simp [intOf]; omega
    · obtain rfl : k = l.length := by omega
      go_wp2_with fail
      go_ret
      exact ⟨rfl, hbe⟩
def marksV (k : Int) (n : Nat) : List Mv := (List.range n).map fun i : Nat => (k + 2 * i, k + 2 * i + 1)
theorem marksV_len (k : Int) (n : Nat) : (marksV k n).length = n := by simp [marksV]
theorem marksV_at {k : Int} {n i : Nat} (h : i < n) : mvAt (marksV k n) i = (k + 2 * i, k + 2 * i + 1) := by unfold mvAt marksV; simp [List.getD_eq_getElem?_getD, h]
set_option maxHeartbeats 1000000 in
theorem markMoveS_any (lo hi : Nat) (A : Option Addr) (c : Nat) (l : List Mv) (k : Int) (w : World) (h : MvA lo hi w A l) (hl : l.length ≤ 1048576) (hk0 : 0 ≤ k) (hk1 : k ≤ 1000000000000000) :
    Calls Tryz.prog 38 #[.slice A l.length c, .int .i64 k] w fun e w' => e = .returned (.int .i64 (k + 2 * l.length)) ∧ MvA lo hi w' A (marksV k l.length) ∧ Span lo hi w w' := by
  rcases Nat.eq_zero_or_pos l.length with h0 | h0
  · have hd : decide (0 < l.length) = false := decide_eq_false (by omega)
    rw [h0]
    clear h
    go_enter Tryz.func38, Tryz.ntmps38
    go_wp2_with fail
    go_loopw [1, 5] (fun x i wr => i = .int .i64 0 ∧ x = .int .i64 k ∧ wr = w) (fun _ i _ => 0)
    case atStart => exact ⟨rfl, rfl, rfl⟩
    case round =>
      obtain ⟨rfl, rfl, rfl⟩ := hrel
      go_wp2_with fail
      go_ret
      exact ⟨by simp, fun hn => by simp [marksV] at hn, Span.refl _ _ _⟩
  · obtain ⟨b, cs0, rfl, h1, h2, h3, h4, h5⟩ := h h0
    clear h h5
    go_enter Tryz.func38, Tryz.ntmps38
    go_wp2_with fail
    go_loopw [1, 5] (fun x i wr => ∃ (j : Nat) (cs : Array Value), j ≤ l.length ∧ i = .int .i64 j ∧ x = .int .i64 (k + 2 * j) ∧ Blk wr b cs 58 ∧ l.length * 2 ≤ cs.size ∧ Hid (∀ i, i < j → cs[i * 2]? = some (.int .i64 (k + 2 * i)) ∧ cs[i * 2 + 1]? = some (.int .i64 (k + 2 * i + 1))) ∧ Span lo hi w wr) (fun _ i _ => l.length - (intOf i).toNat)
    case atStart => exact ⟨0, cs0, by omega, rfl, by simp, h3, h4, Lib.hid (fun j hj => absurd hj (by omega)), Span.refl _ _ _⟩
    case round =>
      clear h3 h4
      obtain ⟨j, cs, hj, rfl, rfl, hB, hsz, hh, hS⟩ := hrel
      by_cases hlt : j < l.length
      · obtain ⟨o0, x0⟩ := old_cell (cs := cs) (i := j * 2) (by omega)
        obtain ⟨o1, x1⟩ := old_cell (cs := cs) (i := j * 2 + 1) (by omega)
        have y0 := (hB.cell (j * 2)).trans x0
        have y1 := (hB.cell (j * 2 + 1)).trans x1
        have f0 := hB.free (j * 2)
        have f1 := hB.free (j * 2 + 1)
        have HB2 := Lib.hid ((hB.set (j * 2) (.int .i64 (k + 2 * j))).set (j * 2 + 1) (.int .i64 (k + 2 * j + 1)))
        have HN : Hid (∀ i, i < j + 1 → ((cs.setIfInBounds (j * 2) (.int .i64 (k + 2 * j))).setIfInBounds (j * 2 + 1) (.int .i64 (k + 2 * j + 1)))[i * 2]? = some (.int .i64 (k + 2 * i)) ∧ ((cs.setIfInBounds (j * 2) (.int .i64 (k + 2 * j))).setIfInBounds (j * 2 + 1) (.int .i64 (k + 2 * j + 1)))[i * 2 + 1]? = some (.int .i64 (k + 2 * i + 1))) := Lib.hid (all_succ
          (fun i hi => ⟨set_get (set_get (hh.out i hi).1 (by omega)) (by omega), set_get (set_get (hh.out i hi).2 (by omega)) (by omega)⟩)
          ⟨set_get (set_same (by omega)) (by omega), set_same (by simp; omega)⟩)
        have HSZ : Hid (l.length * 2 ≤ ((cs.setIfInBounds (j * 2) (.int .i64 (k + 2 * j))).setIfInBounds (j * 2 + 1) (.int .i64 (k + 2 * j + 1))).size) := Lib.hid (by simpa using hsz)
        have HS2 := Lib.hid ((hS.setCell h1 h2 (j * 2) (.int .i64 (k + 2 * j))).setCell h1 h2 (j * 2 + 1) (.int .i64 (k + 2 * j + 1)))
        clear x0 x1 hB hS hh
        go_wp2_with fail
        go_roundw
        case rel =>
          refine ⟨j + 1, _, by omega, by go_num, by first | go_num | (congr 1; omega), ?_, HSZ.out, Lib.hid HN.out, ?_⟩
          · have := HB2.out; simpa [Int.add_assoc] using this
          · have := HS2.out; simpa [Int.add_assoc] using this
        case measure => simp [intOf]; omega
      · obtain rfl : j = l.length := by omega
        go_wp2_with fail
        go_ret
        exact ⟨rfl, fun _ => ⟨b, cs, rfl, h1, h2, hB, by rw [marksV_len]; exact hsz, fun i hi => by rw [marksV_len] at hi; rw [marksV_at hi]; exact hh.out i hi⟩, hS⟩
set_option maxHeartbeats 1000000 in
theorem heldMoveS_any (A : Option Addr) (c n B : Nat) (k : Int) (w : World) (h : IsMvs w B A (marksV k n)) (hl : n ≤ 1048576) (hk0 : 0 ≤ k) (hk1 : k ≤ 1000000000000000) :
    Calls Tryz.prog 44 #[.slice A n c, .int .i64 k] w fun e w' => e = .returned (.int .i64 (k + 2 * n)) ∧ w = w' := by
  go_enter Tryz.func44, Tryz.ntmps44
  go_wp2_with fail
  go_loopw [1, 5] (fun x i wr => ∃ j : Nat, j ≤ n ∧ i = .int .i64 j ∧ x = .int .i64 (k + 2 * j) ∧ wr = w) (fun _ i _ => n - (intOf i).toNat)
  case atStart => exact ⟨0, by omega, rfl, by simp, rfl⟩
  case round =>
    obtain ⟨j, hj, rfl, rfl, rfl⟩ := hrel
    by_cases hlt : j < n
    · obtain ⟨b, rfl, hB, c0, c1⟩ := h.at (i := j) (by rw [marksV_len]; omega)
      rw [marksV_at hlt] at c0 c1
      go_wp2_with fail
      go_roundw
      case rel => exact ⟨j + 1, by omega, by go_num, by first | go_num | (congr 1; omega), by first | rfl | trivial⟩
      case measure => simp [intOf]; omega
    · obtain rfl : j = n := by omega
      go_wp2_with fail
      go_ret
      exact ⟨rfl, rfl⟩

theorem MvA.inm {lo hi : Nat} {w : World} {A : Option Addr} {l : List Mv} (h : MvA lo hi w A l) : InMvs w hi A l.length l := fun hn => by
  obtain ⟨b, cs, rfl, h1, h2, h3, h4, h5⟩ := h hn
  exact ⟨b, 0, rfl, h2, fun i hi => ⟨by rw [Nat.zero_add]; exact (h3.cell _).trans (h5 i hi).1, by rw [Nat.zero_add]; exact (h3.cell _).trans (h5 i hi).2⟩⟩
theorem InMvs.more' {w : World} {B B' : Nat} {A : Option Addr} {n : Nat} {ms : List Mv} (h : InMvs w B A n ms) (hB : B ≤ B') : InMvs w B' A n ms := h.more hB
theorem men_moves2 {w : World} {g e : Nat} {cs vs : Array Value} (h : Blk w g cs 105) (h2 : Blk w e vs 58) : e ≠ g := men_moves h h2
theorem MenA.narrow {lo hi : Nat} {w : World} {A : Option Addr} {l : List St} (h : MenA lo hi w A l) (hlh : lo ≤ hi) : ∃ lo1 hi1, lo ≤ lo1 ∧ hi1 ≤ hi ∧ MenA lo1 hi1 w A l ∧ ∀ b vs, Blk w b vs 58 → b < lo1 ∨ hi1 ≤ b := by
  rcases Nat.eq_zero_or_pos l.length with h0 | h0
  · exact ⟨hi, hi, hlh, Nat.le_refl _, fun hn => by omega, fun b _ _ => by omega⟩
  · obtain ⟨b, cs, rfl, h1, h2, h3, h4, h5⟩ := h h0
    exact ⟨b, b + 1, h1, by omega, fun _ => ⟨b, cs, rfl, Nat.le_refl _, by omega, h3, h4, h5⟩, fun b' vs hb => by have := men_moves h3 hb; omega⟩
theorem MvA.narrow {lo hi : Nat} {w : World} {A : Option Addr} {l : List Mv} (h : MvA lo hi w A l) (hlh : lo ≤ hi) : ∃ lo1 hi1, lo ≤ lo1 ∧ hi1 ≤ hi ∧ MvA lo1 hi1 w A l ∧ ∀ b vs, Blk w b vs 105 → b < lo1 ∨ hi1 ≤ b := by
  rcases Nat.eq_zero_or_pos l.length with h0 | h0
  · exact ⟨hi, hi, hlh, Nat.le_refl _, fun hn => by omega, fun b _ _ => by omega⟩
  · obtain ⟨b, cs, rfl, h1, h2, h3, h4, h5⟩ := h h0
    exact ⟨b, b + 1, h1, by omega, fun _ => ⟨b, cs, rfl, Nat.le_refl _, by omega, h3, h4, h5⟩, fun b' vs hb => by have := men_moves hb h3; omega⟩
set_option maxHeartbeats 1000000 in
theorem markGameA_any (lo hi : Nat) (t : Int) (A : Option Addr) (c : Nat) (l : List St) (M : Option Addr) (cm : Nat) (ms : List Mv) (k : Int) (w : World) (hA : MenA lo hi w A l) (hV : MvA lo hi w M ms) (hlh : lo ≤ hi) (hh : hi ≤ w.heap.size) (hl : l.length ≤ 1048576) (hm : ms.length ≤ 1048576) (hk0 : 0 ≤ k) (hk1 : k ≤ 100000000000000) :
    Calls Tryz.prog 16 #[.agg #[.int .i64 t, .slice A l.length c, .slice M ms.length cm], .int .i64 k] w fun e w' => e = .returned (.int .i64 (k + 3 * (l.length : Int) + 2 * (ms.length : Int))) ∧ MenA lo hi w' A (marksM k l.length) ∧ MvA lo hi w' M (marksV (k + 3 * (l.length : Int)) ms.length) ∧ Span lo hi w w' := by
  have hb0 := below_of w (.cells #[.int .i64 t, .slice A l.length c, .slice M ms.length cm] 44)
  have p0 := Blk.new w #[.int .i64 t, .slice A l.length c, .slice M ms.length cm] 44
  obtain ⟨lo1, hi1, n1, n2, hA1, hsep⟩ := (hA.below (hb0.mono hh)).narrow hlh
  have hV1 := hV.below (hb0.mono hh)
  have hz0 : (w.alloc (.cells #[.int .i64 t, .slice A l.length c, .slice M ms.length cm] 44)).heap.size = w.heap.size + 1 := by simp
  clear hA hV
  go_enter Tryz.func16, Tryz.ntmps16
  go_wp2_with fail
  have HZ0 := Lib.hid hz0
  generalize hW0 : w.alloc _ = W0 at *
  have hzz : w.heap.size ≤ W0.heap.size := by have := HZ0.out; omega
  clear hW0 hz0
  refine (markPosA_any lo1 hi1 _ _ _ _ _ _ hA1 (by omega) hl hk0 (by omega)).mono ?_
  rintro e w2 ⟨rfl, hA2, sp⟩
  have p2 := sp.blk p0 (by omega)
  have hV2 : MvA lo hi w2 M ms := fun hn => by
    obtain ⟨b, cs, rfl, h1, h2, h3, h4, h5⟩ := hV1 hn
    exact ⟨b, cs, rfl, h1, h2, sp.blk h3 (hsep _ _ h3), h4, h5⟩
  obtain ⟨lo2, hi2, n3, n4, hV3, hsep2⟩ := hV2.narrow hlh
  have HSP := Lib.hid sp
  have HB0 := Lib.hid hb0
  obtain ⟨⟨q0, q1, q2⟩, _⟩ := p2.at3
  clear hV1 hV2 hsep sp p0 p2 hb0
  go_wp2_with fail
  refine (markMoveS_any lo2 hi2 _ _ _ _ _ hV3 hm (by omega) (by omega)).mono ?_
  rintro e w3 ⟨rfl, hV4, sp3⟩
  have hA3 : MenA lo1 hi1 w3 A (marksM k l.length) := fun hn => by
    obtain ⟨b, cs, rfl, h1, h2, h3, h4, h5⟩ := hA2 hn
    exact ⟨b, cs, rfl, h1, h2, sp3.blk h3 (hsep2 _ _ h3), h4, h5⟩
  go_wp2_with fail
  go_ret
  exact ⟨rfl, hA3.more n1 n2, MvA.more hV4 n3 n4, (Span.ofBelow HB0.out).trans ((HSP.out.wide n1 n2).trans (sp3.wide n3 n4))⟩
set_option maxHeartbeats 1000000 in
theorem heldGameA_any (t : Int) (A : Option Addr) (c n : Nat) (M : Option Addr) (cm m : Nat) (k : Int) (w : World) (hA : IsSteps w w.heap.size A (marksM k n)) (hV : IsMvs w w.heap.size M (marksV (k + 3 * (n : Int)) m)) (hl : n ≤ 1048576) (hm : m ≤ 1048576) (hk0 : 0 ≤ k) (hk1 : k ≤ 100000000000000) :
    Calls Tryz.prog 21 #[.agg #[.int .i64 t, .slice A n c, .slice M m cm], .int .i64 k] w fun e w' => e = .returned (.int .i64 (k + 3 * (n : Int) + 2 * (m : Int))) ∧ Below w.heap.size w w' := by
  have hb0 := below_of w (.cells #[.int .i64 t, .slice A n c, .slice M m cm] 44)
  have p0 := Blk.new w #[.int .i64 t, .slice A n c, .slice M m cm] 44
  go_enter Tryz.func21, Tryz.ntmps21
  go_wp2_with fail
  generalize hW0 : w.alloc _ = W0 at *
  clear hW0
  refine (heldPosA_any _ _ _ _ _ _ ((hA.below hb0).more hb0.size) hl hk0 (by omega)).mono ?_
  rintro e w2 ⟨rfl, hb2⟩
  have p2 := p0.below hb2 p0.lt
  have hbe := hb0.trans (hb2.mono hb0.size)
  have hd1 : decide (k + 3 * (n : Int) < 0) = false := decide_eq_false (by omega)
  obtain ⟨⟨q0, q1, q2⟩, _⟩ := p2.at3
  have HV := Lib.hid ((hV.below hbe).more hbe.size)
  clear hb0 p0 hb2 p2 hA hV
  go_wp2_with fail
  refine (heldMoveS_any _ _ _ _ _ _ HV.out hm (by omega) (by omega)).mono ?_
  rintro e w3 ⟨rfl, rfl⟩
  have hd2 : decide (k + 3 * (n : Int) + 2 * (m : Int) < 0) = false := decide_eq_false (by omega)
  go_wp2_with fail
  go_ret
  exact ⟨rfl, hbe⟩
end Go.Proofs.YtcgfklljbblhlaaGreatDoor.Ko
