/- The model's MoveDo. -/
import Derived.Test.YtkhceblbiabnbaaGreatMr
namespace Go.Proofs.YtkhceblbiabnbaaGreat.Ko
open Go.ChangeShapes Go.WideShapes Go.ChangeAt Go.RowKit Base Sq
set_option linter.unusedVariables false
set_option maxRecDepth 20000
attribute [local irreducible] wpQuiet

def mdT (side : Int) (ks : List Kd) (t : Int) (l : List St) (f q : Int) : Int := if moveB side ks t l f q = true then 1 - t else 0
def mdL (side : Int) (ks : List Kd) (t : Int) (l : List St) (f q : Int) : List St := if moveB side ks t l f q = true then doL l (manV l f).toNat q else []
def MoveDoPost (W w' : World) (side : Int) (ks : List Kd) (t : Int) (l : List St) (f q : Int) (e : Ending) : Prop :=
  ∃ A c, e = .returned (.tuple #[.agg #[.int .i64 (mdT side ks t l f q), .slice A (mdL side ks t l f q).length c], .bool (moveB side ks t l f q)]) ∧ MenA W.heap.size w'.heap.size w' A (mdL side ks t l f q) ∧ Below W.heap.size W w'
theorem md_no {side : Int} {ks : List Kd} {t : Int} {l : List St} {f q : Int} (h : moveB side ks t l f q = false) : mdT side ks t l f q = 0 ∧ mdL side ks t l f q = [] := by
  unfold mdT mdL; rw [h]; exact ⟨rfl, rfl⟩
theorem md_yes {side : Int} {ks : List Kd} {t : Int} {l : List St} {f q : Int} {n : Nat} (h : moveB side ks t l f q = true) (hn : manV l f = (n : Int)) : mdT side ks t l f q = 1 - t ∧ mdL side ks t l f q = doL l n q := by
  unfold mdT mdL; rw [h, hn, Int.toNat_natCast]; exact ⟨rfl, rfl⟩
theorem moveB_bad {side : Int} {ks : List Kd} {t : Int} {l : List St} {f q : Int} (h : posB side ks t l = false) : moveB side ks t l f q = false := by unfold moveB; rw [h]; rfl
theorem moveB_ok {side : Int} {ks : List Kd} {t : Int} {l : List St} {f q : Int} (h : posB side ks t l = true) : moveB side ks t l f q = canB side ks t l f q := by unfold moveB; rw [h]; rfl
theorem okB_on {s a : Int} (hs : s = 2 ∨ s = 3 ∨ s = 4) (h : 0 ≤ a ∧ a < s * s) : okB s a = true := decide_eq_true (by omega)
theorem okB_is {s a : Int} (h : okB s a = true) : 0 ≤ a ∧ a < s * s := by have := of_decide_eq_true h; omega
/-- a legal move starts at a man of the player's and ends on the board -/
theorem canB_facts {side : Int} {ks : List Kd} {t : Int} {l : List St} {f q : Int} (hs : side = 2 ∨ side = 3 ∨ side = 4) (hsh : shapeB side ks t l = true) (h : canB side ks t l f q = true) :
    ∃ n : Nat, manV l f = (n : Int) ∧ n < l.length ∧ (stAt l n).far = f ∧ (0 ≤ f ∧ f < side * side) ∧ (0 ≤ q ∧ q < side * side) ∧ freeB ks t l q = true := by
  by_cases hm : manV l f = -1
  · rw [canB_none hm] at h; cases h
  · obtain ⟨h1, h2, h3⟩ := manV_far hm
    obtain ⟨n, hn⟩ : ∃ n : Nat, manV l f = (n : Int) := ⟨(manV l f).toNat, by omega⟩
    rw [hn] at h1 h2
    simp only [Int.toNat_natCast] at h1 h2
    have hmen := (shapeB_facts hsh).2.2.2.2 n h1
    rw [canB_some hn] at h
    simp only [Bool.and_eq_true] at h
    obtain ⟨⟨_, hh⟩, hmy⟩ := h
    have hq := hitsB_in hs hmen.2.2.1 hh
    have hf : freeB ks t l q = true := by
      cases hfb : freeB ks t l q
      · rw [mayB_no hfb] at hmy; cases hmy
      · rfl
    exact ⟨n, hn, h1, h2, by rw [← h2]; exact hmen.2.2.1, hq, hf⟩
theorem canB_off {side : Int} {ks : List Kd} {t : Int} {l : List St} {f q : Int} (hs : side = 2 ∨ side = 3 ∨ side = 4) (hsh : shapeB side ks t l = true) (h : okB side f = false ∨ okB side q = false) : canB side ks t l f q = false := by
  cases hc : canB side ks t l f q
  · rfl
  · obtain ⟨n, _, _, _, h1, h2, _⟩ := canB_facts hs hsh hc
    rcases h with h | h
    · rw [okB_on hs h1] at h; cases h
    · rw [okB_on hs h2] at h; cases h

set_option maxHeartbeats 1000000 in
theorem specMoveDo_any (side : Int) (A : Option Addr) (c : Nat) (ks : List Kd) (t : Int) (M : Option Addr) (cm : Nat) (l : List St) (f q : Int) (w : World) (hR : IsKinds w w.heap.size A ks) (hM : IsSteps w w.heap.size M l)
    (hsm : Small ks) (hl : l.length ≤ 1048576) :
    Calls Tryz.prog 6 #[.agg #[.int .i64 side, .slice A ks.length c], .agg #[.int .i64 t, .slice M l.length cm], .agg #[.int .i64 f, .int .i64 q]] w fun e w' => MoveDoPost w w' side ks t l f q e := by
  go_enter Tryz.func6, Tryz.ntmps6
  go_wp2_with fail
  have hb0 : Below w.heap.size w ((((w.alloc (.cells #[.int .i64 side, .slice A ks.length c] 39)).alloc (.cells #[.int .i64 t, .slice M l.length cm] 34)).alloc (.cells #[.int .i64 f, .int .i64 q] 42)).alloc (.cells #[.int .i64 0, .slice none 0 0] 34)) := (by repeat (first | exact Below.refl _ _ | assumption | (refine Below.alloc ?_ (by first | omega | (simp; done) | (simp; omega)) _) | (refine Below.setCell ?_ (by first | omega | (simp; done) | (simp; omega)) _) | refine Below.drew ?_))
  have p1 := (((Blk.new w #[.int .i64 side, .slice A ks.length c] 39).alloc (.cells #[.int .i64 t, .slice M l.length cm] 34)).alloc (.cells #[.int .i64 f, .int .i64 q] 42)).alloc (.cells #[.int .i64 0, .slice none 0 0] 34)
  have p2 := ((Blk.new (w.alloc (.cells #[.int .i64 side, .slice A ks.length c] 39)) #[.int .i64 t, .slice M l.length cm] 34).alloc (.cells #[.int .i64 f, .int .i64 q] 42)).alloc (.cells #[.int .i64 0, .slice none 0 0] 34)
  have p3 := (Blk.new ((w.alloc (.cells #[.int .i64 side, .slice A ks.length c] 39)).alloc (.cells #[.int .i64 t, .slice M l.length cm] 34)) #[.int .i64 f, .int .i64 q] 42).alloc (.cells #[.int .i64 0, .slice none 0 0] 34)
  have p4 := Blk.new (((w.alloc (.cells #[.int .i64 side, .slice A ks.length c] 39)).alloc (.cells #[.int .i64 t, .slice M l.length cm] 34)).alloc (.cells #[.int .i64 f, .int .i64 q] 42)) #[.int .i64 0, .slice none 0 0] 34
  simp only [World.size_alloc] at p2 p3 p4
  generalize hW0 : (((w.alloc _).alloc _).alloc _).alloc _ = W0 at *
  clear hW0
  refine (specPosOk_any _ _ _ _ _ _ _ _ _ ((hR.below hb0).more hb0.size) ((hM.below hb0).more hb0.size) hsm hl).mono ?_
  rintro e w2 ⟨rfl, hb2⟩
  have p1' := p1.below hb2 p1.lt
  have p2' := p2.below hb2 p2.lt
  have p3' := p3.below hb2 p3.lt
  have p4' := p4.below hb2 p4.lt
  have hb0' := hb0.trans (hb2.mono hb0.size)
  obtain ⟨⟨r0, r1⟩, _⟩ := p1'.at2
  obtain ⟨⟨o0, o1⟩, _⟩ := p2'.at2
  obtain ⟨⟨m0, m1⟩, _⟩ := p3'.at2
  obtain ⟨⟨u0, u1⟩, ⟨u2, u3⟩⟩ := p4'.at2
  clear p1 p2 p3 p4 hb0 hb2
  have hfin : ∀ w' : World, Blk w' (w.heap.size + 1 + 1 + 1) #[.int .i64 0, .slice none 0 0] 34 → Below w.heap.size w w' →
      moveB side ks t l f q = false → MoveDoPost w ((w'.setCell ⟨w.heap.size + 1 + 1 + 1, 0, none⟩ (.int .i64 0)).setCell ⟨w.heap.size + 1 + 1 + 1, 1, none⟩ (.slice none 0 0)) side ks t l f q (.returned (.tuple #[.agg #[.int .i64 0, .slice none 0 0], .bool false])) := fun w' hk hb hn => by
    obtain ⟨e1, e2⟩ := md_no hn
    refine ⟨none, 0, by rw [e1, e2, hn]; rfl, by rw [e2]; exact MenA.nil _ _ _ _, (hb.setCell (by show w.heap.size ≤ w.heap.size + 1 + 1 + 1; omega) _).setCell (by show w.heap.size ≤ w.heap.size + 1 + 1 + 1; omega) _⟩
  have HFIN := Lib.hid hfin
  clear hfin
  cases hp : posB side ks t l
  · have HP := Lib.hid (moveB_bad (f := f) (q := q) hp)
    clear hp
    go_wp2_with fail
    refine bodyPost_ret (v := .tuple #[.agg #[.int .i64 0, .slice none 0 0], .bool false]) ?_ rfl (HFIN.out _ p4' hb0' HP.out)
    obtain ⟨⟨d0, d1⟩, _⟩ := (p4'.set2 (.int .i64 0) (.slice none 0 0)).at2
    simp [results, Tryz.results6, go_sem, d0, d1]
  · obtain ⟨hok, hsh, _⟩ := posB_facts hp
    have hs := (rulesOk_facts hok).1
    have HP := Lib.hid hp
    have HO := Lib.hid hok
    have HS := Lib.hid hsh
    have HSS := Lib.hid hs
    clear hp hok hsh hs
    cases hof : okB side f
    · have HOF := Lib.hid hof
      have HN := Lib.hid ((moveB_ok HP.out).trans (canB_off (q := q) HSS.out HS.out (.inl hof)))
      clear hof
      go_wp2_with (go_at_call 19; refine (sp_sq_ok _ _ _).mono ?_; rw [HOF.out]; rintro e w' ⟨rfl, rfl⟩)
      refine bodyPost_ret (v := .tuple #[.agg #[.int .i64 0, .slice none 0 0], .bool false]) ?_ rfl (HFIN.out _ p4' hb0' HN.out)
      obtain ⟨⟨d0, d1⟩, _⟩ := (p4'.set2 (.int .i64 0) (.slice none 0 0)).at2
      simp [results, Tryz.results6, go_sem, d0, d1]
    · have HOF := Lib.hid hof
      clear hof
      cases hoq : okB side q
      · have HOQ := Lib.hid hoq
        have HN := Lib.hid ((moveB_ok HP.out).trans (canB_off (f := f) HSS.out HS.out (.inr hoq)))
        clear hoq
        go_wp2_with (go_at_call 19; refine (sp_sq_ok _ _ _).mono ?_; (first | rw [HOF.out] | rw [HOQ.out]); rintro e w' ⟨rfl, rfl⟩)
        refine bodyPost_ret (v := .tuple #[.agg #[.int .i64 0, .slice none 0 0], .bool false]) ?_ rfl (HFIN.out _ p4' hb0' HN.out)
        obtain ⟨⟨d0, d1⟩, _⟩ := (p4'.set2 (.int .i64 0) (.slice none 0 0)).at2
        simp [results, Tryz.results6, go_sem, d0, d1]
      · have HOQ := Lib.hid hoq
        have HQ := Lib.hid (okB_is hoq)
        clear hoq
        go_wp2_with (go_at_call 19; refine (sp_sq_ok _ _ _).mono ?_; (first | rw [HOF.out] | rw [HOQ.out]); rintro e w' ⟨rfl, rfl⟩)
        refine (l4Can_any _ _ _ _ _ _ _ _ _ _ _ ((hR.below hb0').more hb0'.size) ((hM.below hb0').more hb0'.size) HO.out HS.out HQ.out).mono ?_
        rintro e w3 ⟨rfl, hb3⟩
        have p1 := p1'.below hb3 p1'.lt
        have p2 := p2'.below hb3 p2'.lt
        have p3 := p3'.below hb3 p3'.lt
        have p4 := p4'.below hb3 p4'.lt
        have hb0 := hb0'.trans (hb3.mono hb0'.size)
        clear p1' p2' p3' p4' hb0' hb3 r0 r1 o0 o1 m0 m1 u0 u1 u2 u3
        obtain ⟨⟨r0, r1⟩, _⟩ := p1.at2
        obtain ⟨⟨o0, o1⟩, _⟩ := p2.at2
        obtain ⟨⟨m0, m1⟩, _⟩ := p3.at2
        obtain ⟨⟨u0, u1⟩, ⟨u2, u3⟩⟩ := p4.at2
        cases hcn : canB side ks t l f q
        · have HN := Lib.hid ((moveB_ok HP.out).trans hcn)
          clear hcn
          go_wp2_with fail
          refine bodyPost_ret (v := .tuple #[.agg #[.int .i64 0, .slice none 0 0], .bool false]) ?_ rfl (HFIN.out _ p4 hb0 HN.out)
          obtain ⟨⟨d0, d1⟩, _⟩ := (p4.set2 (.int .i64 0) (.slice none 0 0)).at2
          simp [results, Tryz.results6, go_sem, d0, d1]
        · have HN := Lib.hid ((moveB_ok HP.out).trans hcn)
          obtain ⟨n, hn, hn1, hn2, _, _, hfr⟩ := canB_facts HSS.out HS.out hcn
          have HF := Lib.hid hfr
          have HNN := Lib.hid hn
          have HFAR := Lib.hid hn2
          clear hcn hfr hn hn2
          go_wp2_with fail
          refine (l4Do_any _ _ _ _ _ _ _ _ ((hM.below hb0).more hb0.size) (shapeB_facts HS.out).1 (shapeB_facts HS.out).2.1 hn1 HFAR.out (shapeB_up HS.out) (resL_pos HS.out (freeB_king (shapeB_up HS.out) HF.out))).mono ?_
          rintro e w4 ⟨Aa, ca, rfl, hna, hb4⟩
          have p4' := p4.below hb4 p4.lt
          have hb5 := hb0.trans (hb4.mono hb0.size)
          have hz0 := hb0.size
          have zp := p4.lt
          obtain ⟨⟨v0, v1⟩, ⟨v2, v3⟩⟩ := p4'.at2
          clear p1 p2 p3 p4 hb0 hb4 r0 r1 o0 o1 m0 m1 u0 u1 u2 u3
          go_wp2_with fail
          obtain ⟨e1, e2⟩ := md_yes HN.out HNN.out
          refine bodyPost_ret (v := .tuple #[.agg #[.int .i64 (1 - t), .slice Aa (doL l n q).length ca], .bool true]) ?_ rfl ⟨Aa, ca, ?_, ?_, ?_⟩
          · obtain ⟨⟨d0, d1⟩, _⟩ := (p4'.set2 (.int .i64 (1 - t)) (.slice Aa (doL l n q).length ca)).at2
            simp [results, Tryz.results6, go_sem, d0, d1]
          · rw [e1, e2, HN.out]
          · rw [e2]
            exact fun hn => by
              obtain ⟨gg, cc', rfl, g1, g2, g3, g4, g5⟩ := hna hn
              exact ⟨gg, cc', rfl, by omega, by simpa [size_set] using g2, (g3.other _ _ (by show gg ≠ w.heap.size + 1 + 1 + 1; omega)).other _ _ (by show gg ≠ w.heap.size + 1 + 1 + 1; omega), g4, g5⟩
          · exact (hb5.setCell (by show w.heap.size ≤ w.heap.size + 1 + 1 + 1; omega) _).setCell (by show w.heap.size ≤ w.heap.size + 1 + 1 + 1; omega) _

end Go.Proofs.YtkhceblbiabnbaaGreat.Ko
