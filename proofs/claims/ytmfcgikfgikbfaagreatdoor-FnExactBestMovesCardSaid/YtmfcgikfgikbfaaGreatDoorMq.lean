/- The model's position behind a move: l4Do. -/
import Derived.Test.YtmfcgikfgikbfaaGreatDoorMp
import Derived.Test.YtmfcgikfgikbfaaGreatDoorMg
namespace Go.Proofs.YtmfcgikfgikbfaaGreatDoor.Ko
open Go.ChangeShapes Go.WideShapes Go.ChangeAt Go.RowKit Base Sq
set_option linter.unusedVariables false
set_option maxRecDepth 20000
attribute [local irreducible] wpQuiet

theorem OwnM.nonnil {w : World} {base n : Nat} {v : Value} {l : List St} (h : OwnM w base v n l) (hv : v ≠ .slice none 0 0) : ∃ g c, v = .slice (some ⟨g, 0, none⟩) n c ∧ n ≤ c ∧ c ≤ maxLen ∧ base ≤ g ∧ g < w.heap.size := by
  rcases h.2 with ⟨h', _⟩ | ⟨g, cap, cur, rfl, hb, hg, hn, hm, _⟩
  · exact absurd h' hv
  · exact ⟨g, cap, rfl, hn, hm, hb, lt_of_block hg⟩
theorem blk_grown {w w' : World} {b : Nat} {vs : Array Value} {T : TypeId} {row : Option Nat} (h : Blk w b vs T) (hg : w.grownBy w' row) (hne : row ≠ some b) : Blk w' b vs T := by
  unfold Blk at *; rw [hg.block b (lt_of_block h) (fun e => hne e.symm)]; exact h
def xsK (l : List St) (n k : Nat) : St := if n < k then stAt l n else ⟨0, 0, 0⟩
theorem xsK_hit (l : List St) (n : Nat) : xsK l n (n + 1) = stAt l n := if_pos (by omega)
theorem xsK_skip {l : List St} {n k : Nat} (h : k ≠ n) : xsK l n (k + 1) = xsK l n k := by
  unfold xsK
  by_cases hn : n < k
  · rw [if_pos hn, if_pos (by omega)]
  · rw [if_neg hn, if_neg (by omega)]
theorem xsK_zero (l : List St) (n : Nat) : xsK l n 0 = ⟨0, 0, 0⟩ := if_neg (by omega)
theorem xsK_end {l : List St} {n : Nat} (h : n < l.length) : xsK l n l.length = stAt l n := if_pos h
theorem resL_hit (l : List St) (n : Nat) (q : Int) : resL l n q (n + 1) = resL l n q n := by simp [resL]
theorem resL_skip {l : List St} {n k : Nat} {q : Int} (hq : (stAt l k).far = q) : resL l n q (k + 1) = resL l n q k := by simp [resL, hq]
theorem resL_keep {l : List St} {n k : Nat} {q : Int} (h : k ≠ n) (hq : (stAt l k).far ≠ q) : resL l n q (k + 1) = resL l n q k ++ [⟨(stAt l k).dx, (stAt l k).dy, (stAt l k).far⟩] := by simp [resL, h, hq]
theorem resL_len (l : List St) (n : Nat) (q : Int) : ∀ k, (resL l n q k).length ≤ k := by
  intro k
  induction k with
  | zero => exact Nat.le_refl _
  | succ k ih =>
    simp only [resL, List.length_append]
    split
    · simp; omega
    · simp; omega
/-- some man stays: a king -/
theorem resL_pos {side t : Int} {ks : List Kd} {l : List St} {n : Nat} {q : Int} (hsh : shapeB side ks t l = true) (hk : ∀ j, j < l.length → j ≠ n → (stAt l j).far = q → (stAt l j).dx ≠ kingV ks) : 1 ≤ (resL l n q l.length).length := by
  obtain ⟨_, _, h0, h1, _⟩ := shapeB_facts hsh
  obtain ⟨a, ha, ha1, ha2⟩ := kingAt_some h0
  obtain ⟨b, hb, hb1, hb2⟩ := kingAt_some h1
  have hab : a ≠ b := fun he => by subst he; omega
  have : ∃ j, j < l.length ∧ j ≠ n ∧ (stAt l j).dx = kingV ks := by
    by_cases h : a = n
    · exact ⟨b, hb, fun he => hab (h.trans he.symm), hb2⟩
    · exact ⟨a, ha, h, ha2⟩
  obtain ⟨j, hj, hjn, hjk⟩ := this
  have hm : stAt l j ∈ resL l n q l.length := mem_resL.2 ⟨j, hj, hjn, fun he => hk j hj hjn he hjk, rfl⟩
  exact List.length_pos_of_mem hm

theorem OwnM.apart5 {w : World} {base n c n' : Nat} {g g' : Nat} {l : List St} (h : OwnM w base (.slice (some ⟨g, 0, none⟩) n c) n' l) (o : Nat) (u : Value) (ha : g ≠ g') : OwnM (w.setCell ⟨g', o, none⟩ u) base (.slice (some ⟨g, 0, none⟩) n c) n' l := by
  refine ⟨h.1, ?_⟩
  rcases h.2 with h0 | ⟨g'', cap, cur, hv, hB, hg, rest⟩
  · exact .inl h0
  · have hgg : g = g'' := by simp only [Value.slice.injEq, Option.some.injEq, Addr.mk.injEq, and_true] at hv; exact hv.1
    exact .inr ⟨g'', cap, cur, hv, hB, Blk.other (w := w) (b := g'') (vs := cur) (T := 115) hg ⟨g', o, none⟩ u (by show g'' ≠ g'; omega), rest⟩

set_option maxHeartbeats 8000000 in
theorem l4Do_any (t : Int) (M : Option Addr) (cm : Nat) (l : List St) (n : Nat) (f q : Int) (w : World) (hM : IsSteps w w.heap.size M l) (ht : 0 ≤ t ∧ t ≤ 1) (hl : l.length ≤ 4) (hi : n < l.length) (hf : (stAt l n).far = f) (hu : Up l) (hrest : 1 ≤ (resL l n q l.length).length) :
    Calls Tryz.prog 82 #[.agg #[.int .i64 t, .slice M l.length cm], .agg #[.int .i64 f, .int .i64 q]] w fun e w' => DoPost w w' t l n q e := by
  have HU := Lib.hid hu
  have HFAR := Lib.hid hf
  have HREST := Lib.hid hrest
  obtain ⟨ht0, ht1⟩ := ht
  obtain ⟨i0, hi0, hz0, hz1, hz2⟩ := info_parts manInfo
  clear hu hf hrest
  go_enter Tryz.func82, Tryz.ntmps82
  go_wp2_with fail
  have hb0 : Below w.heap.size w (((((w.alloc (.cells #[.int .i64 t, .slice M l.length cm] 58)).alloc (.cells #[.int .i64 f, .int .i64 q] 98)).alloc (.cells #[.int .i64 0, .slice none 0 0] 58)).alloc (.cells #[] 115)).alloc (.cells #[.int .i64 0, .int .i64 0, .int .i64 0] 115)) := (by repeat (first | exact Below.refl _ _ | assumption | (refine Below.alloc ?_ (by first | omega | (simp; done) | (simp; omega)) _) | (refine Below.setCell ?_ (by first | omega | (simp; done) | (simp; omega)) _) | refine Below.drew ?_))
  have p1 := ((((Blk.new w #[.int .i64 t, .slice M l.length cm] 58).alloc (.cells #[.int .i64 f, .int .i64 q] 98)).alloc (.cells #[.int .i64 0, .slice none 0 0] 58)).alloc (.cells #[] 115)).alloc (.cells #[.int .i64 0, .int .i64 0, .int .i64 0] 115)
  have p2 := (((Blk.new (w.alloc (.cells #[.int .i64 t, .slice M l.length cm] 58)) #[.int .i64 f, .int .i64 q] 98).alloc (.cells #[.int .i64 0, .slice none 0 0] 58)).alloc (.cells #[] 115)).alloc (.cells #[.int .i64 0, .int .i64 0, .int .i64 0] 115)
  have p3 := ((Blk.new ((w.alloc (.cells #[.int .i64 t, .slice M l.length cm] 58)).alloc (.cells #[.int .i64 f, .int .i64 q] 98)) #[.int .i64 0, .slice none 0 0] 58).alloc (.cells #[] 115)).alloc (.cells #[.int .i64 0, .int .i64 0, .int .i64 0] 115)
  have p4 := (Blk.new (((w.alloc (.cells #[.int .i64 t, .slice M l.length cm] 58)).alloc (.cells #[.int .i64 f, .int .i64 q] 98)).alloc (.cells #[.int .i64 0, .slice none 0 0] 58)) #[] 115).alloc (.cells #[.int .i64 0, .int .i64 0, .int .i64 0] 115)
  have p5 := Blk.new ((((w.alloc (.cells #[.int .i64 t, .slice M l.length cm] 58)).alloc (.cells #[.int .i64 f, .int .i64 q] 98)).alloc (.cells #[.int .i64 0, .slice none 0 0] 58)).alloc (.cells #[] 115)) #[.int .i64 0, .int .i64 0, .int .i64 0] 115
  simp only [World.size_alloc] at p2 p3 p4 p5
  generalize hW0 : (((((w.alloc _).alloc _).alloc _).alloc _).alloc _) = W0 at *
  clear hW0
  have hO0 : OwnM W0 (w.heap.size + 1 + 1 + 1) (.slice (some ⟨w.heap.size + 1 + 1 + 1, 0, none⟩) 0 0) 0 [] := ⟨rfl, .inr ⟨w.heap.size + 1 + 1 + 1, 0, #[], rfl, Nat.le_refl _, p4, Nat.le_refl _, Nat.zero_le _, rfl, rfl⟩⟩
  go_loopw [5, 7] (fun x iv wr => ∃ (k g cc : Nat), k ≤ l.length ∧ iv = .int .i64 k ∧ x = .slice (some ⟨g, 0, none⟩) (resL l n q k).length cc ∧ (resL l n q k).length ≤ cc ∧ cc ≤ maxLen ∧ OwnM wr (w.heap.size + 1 + 1 + 1) (.slice (some ⟨g, 0, none⟩) (resL l n q k).length cc) (resL l n q k).length (resL l n q k) ∧ g ≠ w.heap.size + 1 + 1 + 1 + 1 ∧ w.heap.size + 1 + 1 + 1 ≤ g ∧
    Blk wr w.heap.size #[.int .i64 t, .slice M l.length cm] 58 ∧ Blk wr (w.heap.size + 1) #[.int .i64 f, .int .i64 q] 98 ∧ Blk wr (w.heap.size + 1 + 1) #[.int .i64 0, .slice none 0 0] 58 ∧ Blk wr (w.heap.size + 1 + 1 + 1 + 1) #[.int .i64 (xsK l n k).dx, .int .i64 (xsK l n k).dy, .int .i64 (xsK l n k).far] 115 ∧ Below w.heap.size w wr) (fun _ iv _ => l.length - (intOf iv).toNat)
  case atStart => exact ⟨0, w.heap.size + 1 + 1 + 1, 0, by omega, rfl, rfl, Nat.le_refl _, Nat.zero_le _, hO0, by omega, by omega, p1, p2, p3, by rw [xsK_zero]; exact p5, hb0⟩
  case round =>
    clear hO0 p1 p2 p3 p4 p5 hb0
    obtain ⟨k, g, cc, hk, rfl, rfl, hcc, hcm, hO, hg5, hg3, p1, p2, p3, p5, hbe⟩ := hrel
    have hlen := resL_len l n q k
    have hz := hbe.size
    have z1 := p1.lt
    have z2 := p2.lt
    have z3 := p3.lt
    have z5 := p5.lt
    obtain ⟨⟨o0, o1⟩, _⟩ := p1.at2
    obtain ⟨⟨m0, m1⟩, _⟩ := p2.at2
    obtain ⟨⟨x0, x1, x2⟩, ⟨f0, f1, f2⟩⟩ := p5.at3
    by_cases hlt : k < l.length
    · obtain ⟨b, off, rfl, hB, hc⟩ := hM.below hbe (by omega)
      obtain ⟨s0, s1, s2⟩ := hc k hlt
      have zb : b < wr.heap.size := by omega
      have HO := Lib.hid hO
      have HP1 := Lib.hid p1
      have HP2 := Lib.hid p2
      have HP3 := Lib.hid p3
      have HP5 := Lib.hid p5
      have HBE := Lib.hid hbe
      clear hc hO p1 p2 p3 p5 hbe
      by_cases hkn : k = n
      · subst hkn
        have hd : ((stAt l k).far == f) = true := by simpa using HFAR.out
        have HL := Lib.hid (resL_hit l k q)
        have HX := Lib.hid (xsK_hit l k)
        go_wp2_with fail
        go_roundw
        case rel => exact ⟨k + 1, g, cc, by omega, by go_num, by rw [HL.out], by rw [HL.out]; exact hcc, hcm, by rw [HL.out]; exact ((HO.out.apart5 _ _ hg5).apart5 _ _ hg5).apart5 _ _ hg5, hg5, hg3, ((HP1.out.other _ _ (by show w.heap.size ≠ w.heap.size + 1 + 1 + 1 + 1; omega)).other _ _ (by show w.heap.size ≠ w.heap.size + 1 + 1 + 1 + 1; omega)).other _ _ (by show w.heap.size ≠ w.heap.size + 1 + 1 + 1 + 1; omega), ((HP2.out.other _ _ (by show w.heap.size + 1 ≠ w.heap.size + 1 + 1 + 1 + 1; omega)).other _ _ (by show w.heap.size + 1 ≠ w.heap.size + 1 + 1 + 1 + 1; omega)).other _ _ (by show w.heap.size + 1 ≠ w.heap.size + 1 + 1 + 1 + 1; omega), ((HP3.out.other _ _ (by show w.heap.size + 1 + 1 ≠ w.heap.size + 1 + 1 + 1 + 1; omega)).other _ _ (by show w.heap.size + 1 + 1 ≠ w.heap.size + 1 + 1 + 1 + 1; omega)).other _ _ (by show w.heap.size + 1 + 1 ≠ w.heap.size + 1 + 1 + 1 + 1; omega), by rw [HX.out]; exact HP5.out.set3 _ _ _, ((HBE.out.setCell (by show w.heap.size ≤ w.heap.size + 1 + 1 + 1 + 1; omega) _).setCell (by show w.heap.size ≤ w.heap.size + 1 + 1 + 1 + 1; omega) _).setCell (by show w.heap.size ≤ w.heap.size + 1 + 1 + 1 + 1; omega) _⟩
        case measure => simp [intOf]; omega
      · have hd : ((stAt l k).far == f) = false := by
          simp only [beq_eq_false_iff_ne, ne_eq]
          exact fun he => hkn (HU.out.inj hlt hi (he.trans HFAR.out.symm))
        have HX := Lib.hid (xsK_skip (l := l) hkn)
        by_cases hq : (stAt l k).far = q
        · have hd2 : ((stAt l k).far == q) = true := by simpa using hq
          have HL := Lib.hid (resL_skip (n := n) hq)
          clear hq hkn
          go_wp2_with fail
          go_roundw
          case rel => exact ⟨k + 1, g, cc, by omega, by go_num, by rw [HL.out], by rw [HL.out]; exact hcc, hcm, by rw [HL.out]; exact HO.out, hg5, hg3, HP1.out, HP2.out, HP3.out, by rw [HX.out]; exact HP5.out, HBE.out⟩
          case measure => simp [intOf]; omega
        · have hd2 : ((stAt l k).far == q) = false := by simpa using hq
          have HL := Lib.hid (resL_keep hkn hq)
          clear hq hkn
          have hmx : (resL l n q k).length + 1 ≤ maxLen := by unfold maxLen; omega
          have HNEW := Lib.hid (Blk.new wr #[.int .i64 (stAt l k).dx, .int .i64 (stAt l k).dy, .int .i64 (stAt l k).far] 115)
          have HOA := Lib.hid (HO.out.alloc (.cells #[.int .i64 (stAt l k).dx, .int .i64 (stAt l k).dy, .int .i64 (stAt l k).far] 115))
          have HP5A := Lib.hid (HP5.out.alloc (.cells #[.int .i64 (stAt l k).dx, .int .i64 (stAt l k).dy, .int .i64 (stAt l k).far] 115))
          have HWA := Lib.hid ((Below.refl (w.heap.size + 1 + 1 + 1) wr).alloc (by omega) (.cells #[.int .i64 (stAt l k).dx, .int .i64 (stAt l k).dy, .int .i64 (stAt l k).far] 115))
          generalize hL : resL l n q k = L at *
          go_wp2_with (at_builtin; refine wpList_append_own_at _ rfl _ _ 56 rfl (w.heap.size + 1 + 1 + 1) 115 i0 (.agg #[.int .i64 0, .int .i64 0, .int .i64 0]) 3 24 Tryz.underlying56 hi0 hz0 hz1 hz2 rfl (by decide) (.slice (some ⟨g, 0, none⟩) L.length cc) _ _ rfl HOA.out ⟨wr.heap.size, 0, none⟩ 1 1 [.int .i64 (stAt l k).dx, .int .i64 (stAt l k).dy, .int .i64 (stAt l k).far] rfl rfl (news3 HNEW.out) (fun u hu => by simp at hu; rcases hu with rfl | rfl | rfl <;> rfl) hmx (by omega) (by simp; omega) ?_; intro v7 w7 hown7 hgrow7 hnil7 hblk7; have hO7 := OwnM.snoc (s := ⟨(stAt l k).dx, (stAt l k).dy, (stAt l k).far⟩) hown7; obtain ⟨g7, c7, rfl, hc7, hm7, hg7, _⟩ := hO7.nonnil (fun he => by have := (hnil7.1 he).2; omega); have hb7 := HOA.out.base hgrow7 HWA.out (Nat.le_refl _) (by simp; omega); have hP7 := blk_grown HP5A.out hgrow7 (by simp only [Value.ownBlock]; intro he; injection he with he; exact hg5 he); have hne7 : g7 ≠ w.heap.size + 1 + 1 + 1 + 1 := (by simp [Value.ownBlock] at hblk7; omega); clear hown7 hgrow7 hnil7 hblk7)
          go_roundw
          case rel => exact ⟨k + 1, g7, c7, by omega, by go_num, by rw [HL.out]; simp, by rw [HL.out]; simpa using hc7, hm7, by rw [HL.out]; simpa using hO7, hne7, hg7, HP1.out.below hb7 (by omega), HP2.out.below hb7 (by omega), HP3.out.below hb7 (by omega), by rw [HX.out]; exact hP7, HBE.out.trans (hb7.mono (by omega))⟩
          case measure => simp [intOf]; omega
    · obtain rfl : k = l.length := by omega
      rw [xsK_end hi] at p5 x0 x1 x2
      obtain ⟨cs, hb, hcs, hin, _⟩ := hO.blk rfl
      have z4 := hb.lt
      have p1s := p1.other ⟨w.heap.size + 1 + 1 + 1 + 1, 2, none⟩ (.int .i64 q) (by show w.heap.size ≠ w.heap.size + 1 + 1 + 1 + 1; omega)
      have p3s := p3.other ⟨w.heap.size + 1 + 1 + 1 + 1, 2, none⟩ (.int .i64 q) (by show w.heap.size + 1 + 1 ≠ w.heap.size + 1 + 1 + 1 + 1; omega)
      have p5s : Blk (wr.setCell ⟨w.heap.size + 1 + 1 + 1 + 1, 2, none⟩ (.int .i64 q)) (w.heap.size + 1 + 1 + 1 + 1) #[.int .i64 (stAt l n).dx, .int .i64 (stAt l n).dy, .int .i64 q] 115 := p5.set 2 (.int .i64 q)
      have hbs := hb.other ⟨w.heap.size + 1 + 1 + 1 + 1, 2, none⟩ (.int .i64 q) hg5
      have hbes := hbe.setCell (p := ⟨w.heap.size + 1 + 1 + 1 + 1, 2, none⟩) (by show w.heap.size ≤ w.heap.size + 1 + 1 + 1 + 1; omega) (.int .i64 q)
      have HLL : Hid ((resL l n q l.length).length ≤ 4) := Lib.hid (by have := resL_len l n q l.length; omega)
      have HREST2 := HREST
      clear hO p1 p2 p3 p5 hbe hb
      have HB := Lib.hid hbs
      have HP1 := Lib.hid p1s
      have HP3 := Lib.hid p3s
      have HP5 := Lib.hid p5s
      have HBE := Lib.hid hbes
      have HIN := Lib.hid hin
      clear hbs p1s p3s p5s hbes hin hcs
      go_wp2_with fail
      generalize hL : resL l n q l.length = L at *
      generalize hW3 : wr.setCell _ _ = W3 at *
      clear hW3 o0 o1 m0 m1 x0 x1 x2 f0 f1 f2 z1 z2 z3 z4 z5 hz
      have z1 := HP1.out.lt
      have z3 := HP3.out.lt
      have z5 := HP5.out.lt
      have z4 := HB.out.lt
      have hz := HBE.out.size
      have HS : Hid (∀ w', Blk w' w.heap.size #[.int .i64 t, .slice M l.length cm] 58 → Blk w' (w.heap.size + 1 + 1 + 1 + 1) #[.int .i64 (stAt l n).dx, .int .i64 (stAt l n).dy, .int .i64 q] 115 → (w'.cell? ⟨w.heap.size, 0, none⟩ = some (.int .i64 t) ∧ w'.cell? ⟨w.heap.size + 1 + 1 + 1 + 1, 0, none⟩ = some (.int .i64 (stAt l n).dx) ∧ w'.cell? ⟨w.heap.size + 1 + 1 + 1 + 1, 1, none⟩ = some (.int .i64 (stAt l n).dy) ∧ w'.cell? ⟨w.heap.size + 1 + 1 + 1 + 1, 2, none⟩ = some (.int .i64 q))) := Lib.hid (fun w' h1 h5 => by
        obtain ⟨⟨a0, a1⟩, _⟩ := h1.at2
        obtain ⟨⟨b0, b1, b2⟩, _⟩ := h5.at3
        exact ⟨a0, b0, b1, b2⟩)
      have hw : Below W3.heap.size W3 W3.drew := (Below.refl _ _).drew
      obtain ⟨⟨c0, c1⟩, ⟨c2, c3⟩⟩ := (HP3.out.below hw z3).at2
      have hwr : IntKind.i64.wrap (1 - t) = 1 - t := IntWalk.i64_in _ (by omega)
      go_region_held3 (fun w' => w'.cell? ⟨w.heap.size, 0, none⟩ = some (.int .i64 t) ∧ w'.cell? ⟨w.heap.size + 1 + 1 + 1 + 1, 0, none⟩ = some (.int .i64 (stAt l n).dx) ∧ w'.cell? ⟨w.heap.size + 1 + 1 + 1 + 1, 1, none⟩ = some (.int .i64 (stAt l n).dy) ∧ w'.cell? ⟨w.heap.size + 1 + 1 + 1 + 1, 2, none⟩ = some (.int .i64 q))
        (first
          | exact HS.out _ (HP1.out.below hw z1) (HP5.out.below hw z5)
          | exact HS.out _ (((HP1.out.below hw z1).other _ _ (by show w.heap.size ≠ w.heap.size + 1 + 1; omega)).other _ _ (by show w.heap.size ≠ w.heap.size + 1 + 1; omega)) (((HP5.out.below hw z5).other _ _ (by show w.heap.size + 1 + 1 + 1 + 1 ≠ w.heap.size + 1 + 1; omega)).other _ _ (by show w.heap.size + 1 + 1 + 1 + 1 ≠ w.heap.size + 1 + 1; omega)))
        (first | (go_at_call 100; refine (l4Put_any _ _ _ _ _ _ _ _ (((HIN.out.is HB.out).below hw).more hw.size) HLL.out HREST.out hcc hcm).mono ?_; rintro e wa ⟨Aa, ca, rfl, hna, hba, _, _⟩; have hzx := hw.size; have hw := hw.trans (hba.mono hw.size); obtain ⟨⟨c0, c1⟩, ⟨c2, c3⟩⟩ := (HP3.out.below hw z3).at2))
      all_goals
        go_wp2_with fail
        have p3q := HP3.out.below hw z3
        have hbq := HBE.out.trans (hw.mono hz)
        refine bodyPost_ret (v := .agg #[.int .i64 (1 - t), .slice Aa (putL L ⟨(stAt l n).dx, (stAt l n).dy, q⟩).length ca]) ?_ rfl ⟨Aa, ca, ?_, ?_, ?_⟩
        · obtain ⟨⟨d0, d1⟩, _⟩ := (p3q.set2 (.int .i64 (1 - t)) (.slice Aa (putL L ⟨(stAt l n).dx, (stAt l n).dy, q⟩).length ca)).at2
          simp [results, Tryz.results82, go_sem, d0, d1]
        · unfold doL; rw [hL]
        · unfold doL; rw [hL]
          have hl1 := HP1.out
          exact fun hn => by
            obtain ⟨gg, cc', rfl, g1, g2, g3, g4, g5⟩ := hna hn
            exact ⟨gg, cc', rfl, by omega, by simpa [size_set] using g2, (g3.other _ _ (by show gg ≠ w.heap.size + 1 + 1; omega)).other _ _ (by show gg ≠ w.heap.size + 1 + 1; omega), g4, g5⟩
        · exact (hbq.setCell (by show w.heap.size ≤ w.heap.size + 1 + 1; omega) _).setCell (by show w.heap.size ≤ w.heap.size + 1 + 1; omega) _
end Go.Proofs.YtmfcgikfgikbfaaGreatDoor.Ko
