/- PassPos by the model. -/
import Derived.Test.YtcgfklljbblhlaaPks
import Derived.Test.YtcgfklljbblhlaaPa
import Derived.Deep.Cut
import Derived.Deep.RegionHeld3
import Derived.Deep.AppendLies
namespace Go.Proofs.Ytcgfklljbblhlaa.Ko
open Go.ChangeShapes Go.WideShapes Go.ChangeAt Go.RowKit Base Sq
set_option linter.unusedVariables false
set_option maxRecDepth 20000
attribute [local irreducible] wpQuiet

/-- the position may be passed -/
def paB (side : Int) (ks : List Kd) (t : Int) (l : List St) : Bool := posB side ks t l && posOk side ks (1 - t) l
def paT (side : Int) (ks : List Kd) (t : Int) (l : List St) : Int := if paB side ks t l = true then 1 - t else 0
def paL (side : Int) (ks : List Kd) (t : Int) (l : List St) : List St := if paB side ks t l = true then l else []
theorem paL_len {side : Int} {ks : List Kd} {t : Int} {l : List St} (h : l.length ≤ 1048576) : (paL side ks t l).length ≤ 1048576 := by
  unfold paL
  split
  · exact h
  · exact Nat.zero_le _
theorem pa_no {side : Int} {ks : List Kd} {t : Int} {l : List St} (h : paB side ks t l = false) : paT side ks t l = 0 ∧ paL side ks t l = [] := by unfold paT paL; rw [h]; exact ⟨rfl, rfl⟩
theorem pa_yes {side : Int} {ks : List Kd} {t : Int} {l : List St} (h : paB side ks t l = true) : paT side ks t l = 1 - t ∧ paL side ks t l = l := by unfold paT paL; rw [h]; exact ⟨rfl, rfl⟩
/-- an answer (Pos, bool) in new memory -/
def ResQ (w w' : World) (T : Int) (L : List St) (B : Bool) (e : Ending) : Prop := ∃ A c, e = .returned (.tuple #[.agg #[.int .i64 T, .slice A L.length c], .bool B]) ∧ MenA w.heap.size w'.heap.size w' A L ∧ Below w.heap.size w w'
theorem shape_of {side t : Int} {ks : List Kd} {l : List St} (h : posOk side ks t l = true) : shapeB side ks t l = true := by unfold posOk at h; simp at h; exact h.1
theorem men_pos' {side t : Int} {ks : List Kd} {l : List St} (h : posOk side ks t l = true) : 0 < l.length := by
  obtain ⟨_, _, h1, _, _⟩ := shapeB_facts (shape_of h)
  refine Nat.pos_of_ne_zero fun h0 => ?_
  rw [h0] at h1
  simp [cntK] at h1
theorem turn_of {side t : Int} {ks : List Kd} {l : List St} (h : posOk side ks t l = true) : 0 ≤ t ∧ t ≤ 1 := by
  obtain ⟨h1, _⟩ := shapeB_facts (shape_of h)
  exact h1
def PaCut (w wx : World) (t : Int) (l : List St) (v : Value) : Prop := ∃ (g : Nat) (A : Option Addr) (c : Nat), v = .pointer (some ⟨g, 0, none⟩) ∧ w.heap.size ≤ g ∧ Blk wx g #[.int .i64 (1 - t), .slice A l.length c] 45 ∧ MenA w.heap.size wx.heap.size wx A l ∧ Below w.heap.size w wx
theorem own_empty (W : World) (base : Nat) (hB : base ≤ W.heap.size) : OwnM (W.alloc (.cells #[] 86)) base (.slice (some ⟨W.heap.size, 0, none⟩) 0 0) 0 [] := ⟨rfl, .inr ⟨W.heap.size, 0, #[], rfl, hB, Blk.new W #[] 86, Nat.le_refl _, Nat.zero_le _, rfl, rfl⟩⟩
theorem ownb {e g n c : Nat} (h : (Value.slice (some ⟨e, 0, none⟩) n c).ownBlock = some g) : e = g := by simpa [Value.ownBlock] using h
theorem blk_keptE {w w' : World} {b e : Nat} {vs : Array Value} {T : TypeId} (h : Blk w b vs T) (hg : w.grownBy w' (Value.slice (some ⟨e, 0, none⟩) 0 0).ownBlock) (hne : e ≠ b) : Blk w' b vs T := by
  unfold Blk at *; rw [hg.block b (lt_of_block h) (fun h => by simp [Value.ownBlock] at h; omega)]; exact h
theorem MenA.set_ne {lo hi g : Nat} {w : World} {l : List St} (h : MenA lo hi w (some ⟨g, 0, none⟩) l) (a : Addr) (u : Value) (ha : g ≠ a.block) : MenA lo hi (w.setCell a u) (some ⟨g, 0, none⟩) l := fun hn => by
  obtain ⟨b, cs, hb, h1, h2, h3, h4, h5⟩ := h hn
  obtain rfl : g = b := by simpa using hb
  exact ⟨g, cs, rfl, h1, h2, h3.other a u ha, h4, h5⟩
theorem menA_grown {base g c : Nat} {w : World} {l : List St} (h : w.ownsRow base 86 3 (.slice (some ⟨g, 0, none⟩) (0 + l.length) c) (0 + l.length) ([] ++ cellsM l)) : MenA base w.heap.size w (some ⟨g, 0, none⟩) l := by
  rw [Nat.zero_add, List.nil_append] at h
  obtain ⟨A, c', hv, hm⟩ := MenA.of h
  simp only [Value.slice.injEq] at hv
  obtain ⟨rfl, _, _⟩ := hv
  exact hm

set_option maxHeartbeats 4000000 in
theorem l16Pass_any (side : Int) (A : Option Addr) (c : Nat) (ks : List Kd) (t : Int) (M : Option Addr) (cm : Nat) (l : List St) (w : World) (hR : IsKinds w w.heap.size A ks) (hM : IsSteps w w.heap.size M l)
    (hsm : Small ks) (hl : l.length ≤ 1048576) (hp : posB side ks t l = true) :
    Calls Try.prog 41 #[.agg #[.int .i64 side, .slice A ks.length c], .agg #[.int .i64 t, .slice M l.length cm]] w fun e w' => ResQ w w' (paT side ks t l) (paL side ks t l) (paB side ks t l) e := by
  have hb0 : Below w.heap.size w (((w.alloc (.cells #[.int .i64 side, .slice A ks.length c] 50)).alloc (.cells #[.int .i64 t, .slice M l.length cm] 45)).alloc (.cells #[.int .i64 0, .slice none 0 0] 45)) := (by repeat (first | exact Below.refl _ _ | assumption | (refine Below.alloc ?_ (by first | omega | (simp; done) | (simp; omega)) _) | (refine Below.setCell ?_ (by first | omega | (simp; done) | (simp; omega)) _) | refine Below.drew ?_))
  have p1 := ((Blk.new w #[.int .i64 side, .slice A ks.length c] 50).alloc (.cells #[.int .i64 t, .slice M l.length cm] 45)).alloc (.cells #[.int .i64 0, .slice none 0 0] 45)
  have p2 := (Blk.new (w.alloc (.cells #[.int .i64 side, .slice A ks.length c] 50)) #[.int .i64 t, .slice M l.length cm] 45).alloc (.cells #[.int .i64 0, .slice none 0 0] 45)
  have p3 := Blk.new ((w.alloc (.cells #[.int .i64 side, .slice A ks.length c] 50)).alloc (.cells #[.int .i64 t, .slice M l.length cm] 45)) #[.int .i64 0, .slice none 0 0] 45
  simp only [World.size_alloc] at p2 p3
  have hok : rulesOk side ks = true := by unfold posB at hp; simp at hp; exact hp.1
  have hpk : posOk side ks t l = true := by unfold posB at hp; simp at hp; exact hp.2
  have hlp := men_pos' hpk
  have ht := turn_of hpk
  have HPB : Hid (paB side ks t l = posOk side ks (1 - t) l) := Lib.hid (by unfold paB; rw [hp]; rfl)
  obtain ⟨b, off, rfl, hB, _⟩ := hM hlp
  obtain ⟨i0, hi0, hz0', hz1, hz2⟩ := info_parts manInfo
  have HN := Lib.hid (fun (w' : World) (hb : Below w.heap.size w w') => (hM.below hb).news)
  have HL : Hid ((cellsM l).length = l.length * 3) := Lib.hid (cellsM_len l)
  have hmx : 0 + l.length ≤ maxLen := by unfold maxLen; omega
  have WT : IntKind.i64.wrap (1 - t) = 1 - t := IntWalk.i64_in _ (by omega)
  go_enter Try.func41, Try.ntmps41
  go_wp2_with fail
  generalize hW0 : ((w.alloc _).alloc _).alloc _ = W0 at *
  clear hW0
  obtain ⟨⟨a0, a1⟩, _⟩ := p1.at2
  obtain ⟨⟨b0, b1⟩, _⟩ := p2.at2
  obtain ⟨⟨d0, d1⟩, ⟨d2, d3⟩⟩ := p3.at2
  have hl1 := p1.lt
  have hl2 := p2.lt
  have hl3 := p3.lt
  go_cut [6] from 7 (fun v wx => PaCut W0 wx t l v)
  case first =>
    have HB0 := Lib.hid hb0
    have hzW : w.heap.size ≤ W0.heap.size := hb0.size
    have HWD : Hid (Below W0.heap.size W0 W0.drew) := Lib.hid (Below.refl _ _).drew
    have HS : Hid (∀ w', Below W0.heap.size W0 w' → (w'.cell? ⟨w.heap.size + 1, 0, none⟩ = some (.int .i64 t) ∧ w'.cell? ⟨w.heap.size + 1, 1, none⟩ = some (.slice (some ⟨b, off, none⟩) l.length cm))) := Lib.hid (fun w' hb => ((p2.below hb hl2).at2).1)
    have OA : Hid (OwnM (W0.alloc (.cells #[] 86)).drew W0.heap.size (.slice (some ⟨W0.heap.size, 0, none⟩) 0 0) 0 []) := Lib.hid (own_empty W0 _ (Nat.le_refl _))
    have OB : Hid (OwnM ((W0.alloc (.cells #[.int .i64 0, .slice none 0 0] 45)).alloc (.cells #[] 86)).drew W0.heap.size (.slice (some ⟨W0.heap.size + 1, 0, none⟩) 0 0) 0 []) := Lib.hid (by have h := own_empty (W0.alloc (.cells #[.int .i64 0, .slice none 0 0] 45)) W0.heap.size (by simp); rw [World.size_alloc] at h; exact h)
    have OC : Hid (OwnM ((W0.alloc (.cells #[] 86)).alloc (.cells #[.int .i64 0, .slice none 0 0] 45)).drew W0.heap.size (.slice (some ⟨W0.heap.size, 0, none⟩) 0 0) 0 []) := Lib.hid (OwnM.alloc (own_empty W0 _ (Nat.le_refl _)) _)
    have BA : Hid (Below W0.heap.size W0 (W0.alloc (.cells #[] 86)).drew) := Lib.hid ((Below.refl _ _).alloc (Nat.le_refl _) _).drew
    have BB : Hid (Below W0.heap.size W0 ((W0.alloc (.cells #[.int .i64 0, .slice none 0 0] 45)).alloc (.cells #[] 86)).drew) := Lib.hid (((Below.refl _ _).alloc (Nat.le_refl _) _).alloc (by simp) _).drew
    have BC : Hid (Below W0.heap.size W0 ((W0.alloc (.cells #[] 86)).alloc (.cells #[.int .i64 0, .slice none 0 0] 45)).drew) := Lib.hid (((Below.refl _ _).alloc (Nat.le_refl _) _).alloc (by simp) _).drew
    have XB : Hid (Blk ((W0.alloc (.cells #[.int .i64 0, .slice none 0 0] 45)).alloc (.cells #[] 86)).drew W0.heap.size #[.int .i64 0, .slice none 0 0] 45) := Lib.hid ((Blk.new W0 #[.int .i64 0, .slice none 0 0] 45).alloc (.cells #[] 86))
    have XC : Hid (Blk ((W0.alloc (.cells #[] 86)).alloc (.cells #[.int .i64 0, .slice none 0 0] 45)).drew (W0.heap.size + 1) #[.int .i64 0, .slice none 0 0] 45) := Lib.hid (by have h := Blk.new (W0.alloc (.cells #[] 86)) #[.int .i64 0, .slice none 0 0] 45; rw [World.size_alloc] at h; exact h)
    clear p1 p2 p3 hb0 d0 d1 d2 d3 a0 a1
    go_region_held3 (fun w' => w'.cell? ⟨w.heap.size + 1, 0, none⟩ = some (.int .i64 t) ∧ w'.cell? ⟨w.heap.size + 1, 1, none⟩ = some (.slice (some ⟨b, off, none⟩) l.length cm))
      (first | exact HS.out _ HWD.out | exact HS.out _ BA.out | exact HS.out _ BB.out | exact HS.out _ BC.out | exact HS.out _ (Below.alloc HWD.out (Nat.le_refl _) _) | exact HS.out _ hw7 | exact HS.out _ (hw7.alloc hw7.size _) | exact HS.out _ ((hw7.setCell (Nat.le_refl _) _).setCell (Nat.le_refl _) _) | exact HS.out _ ((hw7.setCell (Nat.le_succ _) _).setCell (Nat.le_succ _) _))
      (first
        | (refine step_append_lies _ rfl _ _ _ rfl W0.heap.size 86 i0 (.agg #[.int .i64 0, .int .i64 0, .int .i64 0]) 3 24 Try.underlying43 hi0 hz0' hz1 hz2 rfl (by decide) _ _ _ rfl OA.out ⟨b, off, none⟩ l.length _ (cellsM l) rfl HL.out (HN.out _ (HB0.out.trans (Below.mono BA.out hzW))) (cellsM_one _) hlp hmx (by omega) BA.out.size _ rfl ?_; intro g7 c7 w7 hown7 hgrow7 hat7 hlt7; have hm7 := menA_grown hown7; have hw7 := OwnM.base OA.out hgrow7 BA.out (Nat.le_refl _) BA.out.size; skip)
        | (refine step_append_lies _ rfl _ _ _ rfl W0.heap.size 86 i0 (.agg #[.int .i64 0, .int .i64 0, .int .i64 0]) 3 24 Try.underlying43 hi0 hz0' hz1 hz2 rfl (by decide) _ _ _ rfl OB.out ⟨b, off, none⟩ l.length _ (cellsM l) rfl HL.out (HN.out _ (HB0.out.trans (Below.mono BB.out hzW))) (cellsM_one _) hlp hmx (by omega) BB.out.size _ rfl ?_; intro g7 c7 w7 hown7 hgrow7 hat7 hlt7; have hm7 := menA_grown hown7; have hw7 := OwnM.base OB.out hgrow7 BB.out (Nat.le_refl _) BB.out.size; have pb7 := blk_keptE XB.out hgrow7 (by omega); have hne7 : g7 ≠ W0.heap.size := (by rcases hat7 with h | h; exact (by have : W0.heap.size + 1 = g7 := ownb (n := 0) (c := 0) h; omega); exact (by have := BB.out.size; have h2 : g7 = ((W0.alloc (.cells #[.int .i64 0, .slice none 0 0] 45)).alloc (.cells #[] 86)).heap.size := h; simp only [World.size_alloc] at h2; omega)); obtain ⟨⟨u0, u1⟩, ⟨u2, u3⟩⟩ := pb7.at2)
        | (refine step_append_lies _ rfl _ _ _ rfl W0.heap.size 86 i0 (.agg #[.int .i64 0, .int .i64 0, .int .i64 0]) 3 24 Try.underlying43 hi0 hz0' hz1 hz2 rfl (by decide) _ _ _ rfl OC.out ⟨b, off, none⟩ l.length _ (cellsM l) rfl HL.out (HN.out _ (HB0.out.trans (Below.mono BC.out hzW))) (cellsM_one _) hlp hmx (by omega) BC.out.size _ rfl ?_; intro g7 c7 w7 hown7 hgrow7 hat7 hlt7; have hm7 := menA_grown hown7; have hw7 := OwnM.base OC.out hgrow7 BC.out (Nat.le_refl _) BC.out.size; have pb7 := blk_keptE XC.out hgrow7 (by omega); have hne7 : g7 ≠ W0.heap.size + 1 := (by rcases hat7 with h | h; exact (by have : W0.heap.size = g7 := ownb (n := 0) (c := 0) h; omega); exact (by have h2 : g7 = ((W0.alloc (.cells #[] 86)).alloc (.cells #[.int .i64 0, .slice none 0 0] 45)).heap.size := h; simp only [World.size_alloc] at h2; omega)); obtain ⟨⟨u0, u1⟩, ⟨u2, u3⟩⟩ := pb7.at2))
    all_goals
      go_wp2_with fail
      go_meet
      first
        | exact ⟨_, _, _, rfl, hw7.size, Blk.new w7 _ _, (hm7.below (below_of w7 _)).more (Nat.le_refl _) (by simp), hw7.alloc hw7.size _⟩
        | exact ⟨_, _, _, rfl, Nat.le_refl _, pb7.set2 _ _, ((hm7.set_ne _ _ hne7).set_ne _ _ hne7).more (Nat.le_refl _) (by rw [size_set, size_set]; exact Nat.le_refl _), (hw7.setCell (Nat.le_refl _) _).setCell (Nat.le_refl _) _⟩
        | exact ⟨_, _, _, rfl, Nat.le_succ _, pb7.set2 _ _, ((hm7.set_ne _ _ hne7).set_ne _ _ hne7).more (Nat.le_refl _) (by rw [size_set, size_set]; exact Nat.le_refl _), (hw7.setCell (Nat.le_succ _) _).setCell (Nat.le_succ _) _⟩
  obtain ⟨g, A6, c6, rfl, hg, p6, hm6, hb6⟩ := hcut
  have q1 := p1.below hb6 hl1
  have q3 := p3.below hb6 hl3
  have hbe := hb0.trans (hb6.mono hb0.size)
  have hsz0 := hb0.size
  clear p1 p2 p3 hb0 hb6 a0 a1 b0 b1 d0 d1 d2 d3
  obtain ⟨⟨a0, a1⟩, _⟩ := q1.at2
  obtain ⟨⟨b0, b1⟩, _⟩ := p6.at2
  go_wp2_with fail
  refine (l3Ok_any _ _ _ _ _ _ _ _ _ ((hR.below hbe).more hbe.size) hm6.is hok hl).mono ?_
  rintro e w8 ⟨rfl, hb8⟩
  have r3 := q3.below hb8 q3.lt
  have r6 := p6.below hb8 p6.lt
  have hm8 := hm6.below hb8
  have hbf := hbe.trans (hb8.mono hbe.size)
  have hs8 := hb8.size
  clear q1 q3 p6 hm6 hbe a0 a1 b0 b1
  obtain ⟨⟨a0, a1⟩, ⟨a2, a3⟩⟩ := r3.at2
  obtain ⟨⟨b0, b1⟩, _⟩ := r6.at2
  cases hk : posOk side ks (1 - t) l
  · have HN : Hid (paB side ks t l = false) := Lib.hid (by rw [HPB.out, hk])
    clear hk
    go_wp2_with fail
    refine bodyPost_ret (v := .tuple #[.agg #[.int .i64 0, .slice none 0 0], .bool false]) ?_ rfl ?_
    · obtain ⟨⟨e0, e1⟩, _⟩ := (r3.set2 (.int .i64 0) (.slice none 0 0)).at2
      simp [results, Try.results41, go_sem, e0, e1]
    · obtain ⟨e1, e2⟩ := pa_no HN.out
      rw [e1, e2, HN.out]
      exact ⟨none, 0, rfl, MenA.nil _ _ _ _, (hbf.setCell (by show w.heap.size ≤ w.heap.size + 1 + 1; omega) _).setCell (by show w.heap.size ≤ w.heap.size + 1 + 1; omega) _⟩
  · have HN : Hid (paB side ks t l = true) := Lib.hid (by rw [HPB.out, hk])
    clear hk
    go_wp2_with fail
    refine bodyPost_ret (v := .tuple #[.agg #[.int .i64 (1 - t), .slice A6 l.length c6], .bool true]) ?_ rfl ?_
    · obtain ⟨⟨e0, e1⟩, _⟩ := (r3.set2 (.int .i64 (1 - t)) (.slice A6 l.length c6)).at2
      simp [results, Try.results41, go_sem, e0, e1]
    · obtain ⟨e1, e2⟩ := pa_yes HN.out
      rw [e1, e2, HN.out]
      have hlo : w.heap.size + 1 + 1 < W0.heap.size := hl3
      exact ⟨A6, c6, rfl, (((hm8.off _ _ hlo).off _ _ hlo)).more (by omega) (by rw [size_set, size_set]; exact hs8), (hbf.setCell (by show w.heap.size ≤ w.heap.size + 1 + 1; omega) _).setCell (by show w.heap.size ≤ w.heap.size + 1 + 1; omega) _⟩
set_option maxHeartbeats 1000000 in
theorem specPassPos_any (side : Int) (A : Option Addr) (c : Nat) (ks : List Kd) (t : Int) (M : Option Addr) (cm : Nat) (l : List St) (w : World) (hR : IsKinds w w.heap.size A ks) (hM : IsSteps w w.heap.size M l)
    (hsm : Small ks) (hl : l.length ≤ 1048576) :
    Calls Try.prog 23 #[.agg #[.int .i64 side, .slice A ks.length c], .agg #[.int .i64 t, .slice M l.length cm]] w fun e w' => ResQ w w' (paT side ks t l) (paL side ks t l) (paB side ks t l) e := by
  have hb0 : Below w.heap.size w (((w.alloc (.cells #[.int .i64 side, .slice A ks.length c] 50)).alloc (.cells #[.int .i64 t, .slice M l.length cm] 45)).alloc (.cells #[.int .i64 0, .slice none 0 0] 45)) := (by repeat (first | exact Below.refl _ _ | assumption | (refine Below.alloc ?_ (by first | omega | (simp; done) | (simp; omega)) _) | (refine Below.setCell ?_ (by first | omega | (simp; done) | (simp; omega)) _) | refine Below.drew ?_))
  have p1 := ((Blk.new w #[.int .i64 side, .slice A ks.length c] 50).alloc (.cells #[.int .i64 t, .slice M l.length cm] 45)).alloc (.cells #[.int .i64 0, .slice none 0 0] 45)
  have p2 := (Blk.new (w.alloc (.cells #[.int .i64 side, .slice A ks.length c] 50)) #[.int .i64 t, .slice M l.length cm] 45).alloc (.cells #[.int .i64 0, .slice none 0 0] 45)
  have p3 := Blk.new ((w.alloc (.cells #[.int .i64 side, .slice A ks.length c] 50)).alloc (.cells #[.int .i64 t, .slice M l.length cm] 45)) #[.int .i64 0, .slice none 0 0] 45
  simp only [World.size_alloc] at p2 p3
  go_enter Try.func23, Try.ntmps23
  go_wp2_with fail
  generalize hW0 : ((w.alloc _).alloc _).alloc _ = W0 at *
  clear hW0
  refine (specPosOk_any _ _ _ _ _ _ _ _ _ ((hR.below hb0).more hb0.size) ((hM.below hb0).more hb0.size) hsm hl).mono ?_
  rintro e w2 ⟨rfl, hb2⟩
  have q1 := p1.below hb2 p1.lt
  have q2 := p2.below hb2 p2.lt
  have q3 := p3.below hb2 p3.lt
  have hl3 := p3.lt
  have hbe := hb0.trans (hb2.mono hb0.size)
  have hs2 := hb2.size
  clear p1 p2 p3 hb0
  obtain ⟨⟨a0, a1⟩, _⟩ := q1.at2
  obtain ⟨⟨b0, b1⟩, _⟩ := q2.at2
  obtain ⟨⟨d0, d1⟩, ⟨d2, d3⟩⟩ := q3.at2
  cases hp : posB side ks t l
  · have HN : Hid (paB side ks t l = false) := Lib.hid (by unfold paB; rw [hp]; rfl)
    clear hp
    go_wp2_with fail
    refine bodyPost_ret (v := .tuple #[.agg #[.int .i64 0, .slice none 0 0], .bool false]) ?_ rfl ?_
    · obtain ⟨⟨e0, e1⟩, _⟩ := (q3.set2 (.int .i64 0) (.slice none 0 0)).at2
      simp [results, Try.results23, go_sem, e0, e1]
    · obtain ⟨e1, e2⟩ := pa_no HN.out
      rw [e1, e2, HN.out]
      exact ⟨none, 0, rfl, MenA.nil _ _ _ _, (hbe.setCell (by show w.heap.size ≤ w.heap.size + 1 + 1; omega) _).setCell (by show w.heap.size ≤ w.heap.size + 1 + 1; omega) _⟩
  · have HP := Lib.hid hp
    clear hp
    go_wp2_with fail
    refine (l16Pass_any _ _ _ _ _ _ _ _ _ ((hR.below hbe).more hbe.size) ((hM.below hbe).more hbe.size) hsm hl HP.out).mono ?_
    obtain ⟨T, hT⟩ : ∃ T, T = paT side ks t l := ⟨_, rfl⟩
    obtain ⟨L, hL⟩ : ∃ L, L = paL side ks t l := ⟨_, rfl⟩
    obtain ⟨B, hBB⟩ : ∃ B, B = paB side ks t l := ⟨_, rfl⟩
    rw [← hT, ← hL, ← hBB]
    have HT := Lib.hid hT
    have HLq := Lib.hid hL
    have HBq := Lib.hid hBB
    clear hT hL hBB
    rintro e w4 ⟨A4, c4, rfl, hm4, hb4⟩
    have r3 := q3.below hb4 q3.lt
    have hbf := hbe.trans (hb4.mono hbe.size)
    clear q1 q2 q3 a0 a1 b0 b1 d0 d1 d2 d3
    obtain ⟨⟨d0, d1⟩, ⟨d2, d3⟩⟩ := r3.at2
    go_wp2_with fail
    refine bodyPost_ret (v := .tuple #[.agg #[.int .i64 T, .slice A4 L.length c4], .bool B]) ?_ rfl ?_
    · obtain ⟨⟨e0, e1⟩, _⟩ := (r3.set2 (.int .i64 T) (.slice A4 L.length c4)).at2
      simp [results, Try.results23, go_sem, e0, e1]
    · have hlo : w.heap.size + 1 + 1 < w2.heap.size := by omega
      rw [← HT.out, ← HLq.out, ← HBq.out]
      refine ⟨A4, c4, rfl, ?_, (hbf.setCell (by show w.heap.size ≤ w.heap.size + 1 + 1; omega) _).setCell (by show w.heap.size ≤ w.heap.size + 1 + 1; omega) _⟩
      exact ((hm4.off _ _ hlo).off _ _ hlo).more (by omega) (by rw [size_set, size_set]; exact Nat.le_refl _)
end Go.Proofs.Ytcgfklljbblhlaa.Ko
