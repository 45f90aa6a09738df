/- TurnSwap of the model. -/
import Derived.Test.YtnchjpjlabeababTv
namespace Go.Proofs.Ytnchjpjlabeabab.Ko
open Go.ChangeShapes Go.WideShapes Go.ChangeAt Go.RowKit Base Sq
set_option linter.unusedVariables false
set_option maxRecDepth 20000
attribute [local irreducible] wpQuiet

/-- the men that have been appended -/
def OwnM (w : World) (base : Nat) (v : Value) (n : Nat) (l : List St) : Prop := w.ownsRow base 59 3 v n (cellsM l)
theorem OwnM.below {w w' : World} {base n : Nat} {v : Value} {l : List St} (h : OwnM w base v n l) (hb : Below w.heap.size w w') : OwnM w' base v n l := by
  refine ⟨h.1, ?_⟩
  rcases h.2 with h0 | ⟨g, cap, cur, hv, hB, hg, rest⟩
  · exact .inl h0
  · exact .inr ⟨g, cap, cur, hv, hB, (hb.block g (lt_of_block hg)).trans hg, rest⟩
theorem OwnM.other {w : World} {base n : Nat} {v : Value} {l : List St} (h : OwnM w base v n l) (a : Addr) (u : Value) (ha : a.block < base) : OwnM (w.setCell a u) base v n l := by
  refine ⟨h.1, ?_⟩
  rcases h.2 with h0 | ⟨g, cap, cur, hv, hB, hg, rest⟩
  · exact .inl h0
  · exact .inr ⟨g, cap, cur, hv, hB, Blk.other (w := w) (b := g) (vs := cur) (T := 59) hg a u (by omega), rest⟩
theorem OwnM.base {w w' : World} {base n : Nat} {v : Value} {l : List St} (h : OwnM w base v n l) (hg : w.grownBy w' v.ownBlock) {B : Nat} {a : World} (hb : Below B a w) (hB : B ≤ base) (hs : B ≤ w.heap.size) : Below B a w' :=
  hb.grown hg hs (fun k hk => by
    rcases h.2 with ⟨rfl, _⟩ | ⟨g, cap, cur, rfl, hbg, _⟩
    · simp [Value.ownBlock] at hk
    · simp [Value.ownBlock] at hk; omega)
theorem OwnM.alloc {w : World} {base n : Nat} {v : Value} {l : List St} (h : OwnM w base v n l) (o : Obj) : OwnM (w.alloc o) base v n l := h.below (below_of w o)
theorem OwnM.slice {w : World} {base n : Nat} {v : Value} {l : List St} (h : OwnM w base v n l) : ∃ A c, v = .slice A n c := by
  rcases h.2 with ⟨rfl, h0⟩ | ⟨g, cap, cur, rfl, _⟩
  · exact ⟨none, 0, by rw [h0]⟩
  · exact ⟨_, cap, rfl⟩
theorem OwnM.snoc {w' : World} {base n : Nat} {v' : Value} {l : List St} {s : St} (h : w'.ownsRow base 59 3 v' (n + 1) (cellsM l ++ [.int .i64 s.dx, .int .i64 s.dy, .int .i64 s.far])) : OwnM w' base v' (n + 1) (l ++ [s]) := by
  unfold OwnM; rw [cellsM_snoc]; exact h
theorem news3 {w : World} {g : Nat} {x y z : Value} {T : TypeId} (h : Blk w g #[x, y, z] T) : ∀ j u, [x, y, z][j]? = some u → w.cell? (Addr.add ⟨g, 0, none⟩ j) = some u := by
  intro j u hu
  have hj : j < 3 := (List.getElem?_eq_some_iff.1 hu).1
  have ea : Addr.add ⟨g, 0, none⟩ j = ⟨g, j, none⟩ := by
    unfold Addr.add
    split
    · rename_i h0; rw [h0]
    · simp
  rw [ea, h.cell]
  have : j = 0 ∨ j = 1 ∨ j = 2 := by omega
  rcases this with rfl | rfl | rfl <;> simpa using hu

set_option maxHeartbeats 4000000 in
theorem specTurnSwap_any (side : Int) (A : Option Addr) (c : Nat) (ks : List Kd) (t : Int) (M : Option Addr) (cm : Nat) (l : List St) (w : World) (hR : IsKinds w w.heap.size A ks) (hM : IsSteps w w.heap.size M l)
    (hsm : Small ks) (hl : l.length ≤ 1048576) :
    Calls Try.prog 8 #[.agg #[.int .i64 side, .slice A ks.length c], .agg #[.int .i64 t, .slice M l.length cm]] w fun e w' => SwapPost w w' side ks t l e := by
  obtain ⟨t1, ht1⟩ : ∃ t1, (IntKind.i64.wrap (1 - t)) = t1 := ⟨_, rfl⟩
  have HT := Lib.hid ht1
  go_enter Try.func8, Try.ntmps8
  go_wp2_with fail
  have hb0 : Below w.heap.size w ((((w.alloc (.cells #[.int .i64 side, .slice A ks.length c] 36)).alloc (.cells #[.int .i64 t, .slice M l.length cm] 32)).alloc (.cells #[.int .i64 0, .slice none 0 0] 32)).alloc (.cells #[.int .i64 t1, .slice none 0 0] 32)) := (by repeat (first | exact Below.refl _ _ | assumption | (refine Below.alloc ?_ (by first | omega | (simp; done) | (simp; omega)) _) | (refine Below.setCell ?_ (by first | omega | (simp; done) | (simp; omega)) _) | refine Below.drew ?_))
  have p2 := ((Blk.new (w.alloc (.cells #[.int .i64 side, .slice A ks.length c] 36)) #[.int .i64 t, .slice M l.length cm] 32).alloc (.cells #[.int .i64 0, .slice none 0 0] 32)).alloc (.cells #[.int .i64 t1, .slice none 0 0] 32)
  have p3 := (Blk.new ((w.alloc (.cells #[.int .i64 side, .slice A ks.length c] 36)).alloc (.cells #[.int .i64 t, .slice M l.length cm] 32)) #[.int .i64 0, .slice none 0 0] 32).alloc (.cells #[.int .i64 t1, .slice none 0 0] 32)
  have p4 := Blk.new (((w.alloc (.cells #[.int .i64 side, .slice A ks.length c] 36)).alloc (.cells #[.int .i64 t, .slice M l.length cm] 32)).alloc (.cells #[.int .i64 0, .slice none 0 0] 32)) #[.int .i64 t1, .slice none 0 0] 32
  simp only [World.size_alloc] at p2 p3 p4
  generalize hW0 : (((w.alloc _).alloc _).alloc _).alloc _ = W0 at *
  clear hW0 ht1
  refine (specPosOk_any _ _ _ _ _ _ _ _ _ ((hR.below hb0).more hb0.size) ((hM.below hb0).more hb0.size) hsm hl).mono ?_
  rintro e w2 ⟨rfl, hb2⟩
  have p2' := p2.below hb2 p2.lt
  have p3' := p3.below hb2 p3.lt
  have p4' := p4.below hb2 p4.lt
  have hb0' := hb0.trans (hb2.mono hb0.size)
  obtain ⟨⟨o0, o1⟩, _⟩ := p2'.at2
  obtain ⟨⟨r0, r1⟩, ⟨r2, r3⟩⟩ := p3'.at2
  have z4 := p4'.lt
  clear p2 p3 p4 hb0 hb2
  cases hp : posB side ks t l
  · have HP := Lib.hid (sw_no hp)
    clear hp
    go_wp2_with fail
    obtain ⟨e1, e2⟩ := HP.out
    refine bodyPost_ret (v := .agg #[.int .i64 0, .slice none 0 0]) ?_ rfl ⟨none, 0, ?_, ?_, ?_⟩
    · obtain ⟨⟨d0, d1⟩, _⟩ := (p3'.set2 (.int .i64 0) (.slice none 0 0)).at2
      simp [results, Try.results8, go_sem, d0, d1]
    · rw [e1, e2]; rfl
    · rw [e2]; exact MenA.nil _ _ _ _
    · exact (hb0'.setCell (by show w.heap.size ≤ w.heap.size + 1 + 1; omega) _).setCell (by show w.heap.size ≤ w.heap.size + 1 + 1; omega) _
  · obtain ⟨⟨ht0, ht1⟩, hpos, hl4, hmen⟩ := posB_men hp
    have HP := Lib.hid (sw_yes hp)
    have HMEN := Lib.hid hmen
    have htt : t1 = 1 - t := by
      rw [← HT.out]
      rcases (show t = 0 ∨ t = 1 by omega) with rfl | rfl <;> decide
    subst htt
    clear hp hmen o0 o1 r0 r1 r2 r3
    go_wp2_with fail
    go_loopw [6] (fun i wr => ∃ (j : Nat) (B : Option Addr) (d : Nat), j ≤ l.length ∧ i = .int .i64 j ∧ OwnM wr (w.heap.size + 1 + 1 + 1 + 1) (.slice B j d) j (swapL (l.take j)) ∧
      Blk wr (w.heap.size + 1) #[.int .i64 t, .slice M l.length cm] 32 ∧ Blk wr (w.heap.size + 1 + 1) #[.int .i64 0, .slice none 0 0] 32 ∧ Blk wr (w.heap.size + 1 + 1 + 1) #[.int .i64 (1 - t), .slice B j d] 32 ∧ Below w.heap.size w wr) (fun i _ => l.length - (intOf i).toNat)
    case atStart => exact ⟨0, none, 0, by omega, rfl, World.ownsRow_nil _ _ _ _, p2', p3', p4', hb0'⟩
    case round =>
      clear p2' p3' p4' hb0' hR z4
      obtain ⟨j, B, d, hj, rfl, hO, p2, p3, p4, hbe⟩ := hrel
      by_cases hlt : j < l.length
      · obtain ⟨b, off, rfl, hB, hc⟩ := hM.below hbe (by omega)
        obtain ⟨s0, s1, s2⟩ := hc j hlt
        obtain ⟨m1, m2⟩ := HMEN.out j hlt
        obtain ⟨⟨o0, o1⟩, _⟩ := p2.at2
        obtain ⟨⟨q0, q1⟩, ⟨q2, q3⟩⟩ := p4.at2
        have hz := hbe.size
        have z2 := p2.lt
        have z4 := p4.lt
        have HX := Lib.hid ((swapT_snoc hlt).symm)
        obtain ⟨i0, hi, hz0, hz1, hz2⟩ := info_parts manInfo
        have hmax : j + 1 ≤ maxLen := by unfold maxLen; omega
        have HA2 := Lib.hid ((below_of wr (.cells #[.int .i64 (stAt l j).dx, .int .i64 (1 - (stAt l j).dy), .int .i64 (stAt l j).far] 59)).alloc (by simp) (.cells #[.int .i64 (stAt l j).dx, .int .i64 (1 - (stAt l j).dy), .int .i64 (stAt l j).far] 59))
        have HO := Lib.hid (hO.below HA2.out)
        have HP2 := Lib.hid (p2.below HA2.out p2.lt)
        have HP3 := Lib.hid (p3.below HA2.out p3.lt)
        have HP4 := Lib.hid (p4.below HA2.out p4.lt)
        have HBE := Lib.hid (hbe.trans (HA2.out.mono hz))
        have hzz : (wr.alloc (.cells #[.int .i64 (stAt l j).dx, .int .i64 (1 - (stAt l j).dy), .int .i64 (stAt l j).far] 59)).heap.size = wr.heap.size + 1 := by simp
        have hnew := Blk.new (wr.alloc (.cells #[.int .i64 (stAt l j).dx, .int .i64 (1 - (stAt l j).dy), .int .i64 (stAt l j).far] 59)) #[.int .i64 (stAt l j).dx, .int .i64 (1 - (stAt l j).dy), .int .i64 (stAt l j).far] 59
        rw [hzz] at hnew
        have HNEW := Lib.hid hnew
        clear hc hO hbe p2 p3 p4 hnew hzz
        go_wp2_with (at_builtin; refine wpList_append_own _ rfl _ _ 30 rfl (w.heap.size + 1 + 1 + 1 + 1) 59 i0 (.agg #[.int .i64 0, .int .i64 0, .int .i64 0]) 3 24 Try.underlying30 hi hz0 hz1 hz2 rfl (by decide) _ _ _ rfl HO.out ⟨wr.heap.size + 1, 0, none⟩ 1 1 [.int .i64 (stAt l j).dx, .int .i64 (1 - (stAt l j).dy), .int .i64 (stAt l j).far] rfl rfl (news3 HNEW.out) (fun u hu => by simp at hu; rcases hu with rfl | rfl | rfl <;> rfl) hmax (by omega) (by simp; omega) ?_; intro v' w7 hown' hgrow7 hnil7; have hbG : Below (w.heap.size + 1 + 1 + 1 + 1) _ w7 := HO.out.base hgrow7 (Below.refl _ _) (Nat.le_refl _) (by simp; omega); have hO7 := OwnM.snoc (s := swapM (stAt l j)) hown'; rw [HX.out] at hO7; obtain ⟨B7, d7, hv7⟩ := hO7.slice; subst hv7; have p4 := HP4.out.below hbG (by omega); obtain ⟨⟨q0', q1'⟩, ⟨q2', q3'⟩⟩ := p4.at2; have HG := Lib.hid hbG; have HO7 := Lib.hid hO7; have HP47 := Lib.hid p4; have hz7 := p4.lt; clear hown' hgrow7 hnil7 hbG hO7 p4 HO HNEW HA2 HP4)
        have p2 := (HP2.out.below HG.out (by omega)).other ⟨w.heap.size + 1 + 1 + 1, 1, none⟩ (.slice B7 (j + 1) d7) (by show w.heap.size + 1 ≠ w.heap.size + 1 + 1 + 1; omega)
        have p3 := (HP3.out.below HG.out (by omega)).other ⟨w.heap.size + 1 + 1 + 1, 1, none⟩ (.slice B7 (j + 1) d7) (by show w.heap.size + 1 + 1 ≠ w.heap.size + 1 + 1 + 1; omega)
        have p4 := HP47.out.set 1 (.slice B7 (j + 1) d7)
        have hO8 := HO7.out.other ⟨w.heap.size + 1 + 1 + 1, 1, none⟩ (.slice B7 (j + 1) d7) (by show w.heap.size + 1 + 1 + 1 < _; omega)
        have hbe := (HBE.out.trans (HG.out.mono (by omega))).setCell (p := ⟨w.heap.size + 1 + 1 + 1, 1, none⟩) (by show w.heap.size ≤ w.heap.size + 1 + 1 + 1; omega) (.slice B7 (j + 1) d7)
        go_roundw
        case rel => exact ⟨j + 1, B7, d7, by omega, by go_num, hO8, p2, p3, p4, hbe⟩
        case measure => simp [intOf]; omega
      · obtain rfl : j = l.length := by omega
        obtain ⟨⟨o0, o1⟩, _⟩ := p2.at2
        obtain ⟨⟨r0, r1⟩, ⟨r2, r3⟩⟩ := p3.at2
        obtain ⟨⟨q0, q1⟩, ⟨q2, q3⟩⟩ := p4.at2
        go_wp2_with fail
        obtain ⟨e1, e2⟩ := HP.out
        have hO' := ((hO.other ⟨w.heap.size + 1 + 1, 0, none⟩ (.int .i64 (1 - t)) (by show w.heap.size + 1 + 1 < _; omega)).other ⟨w.heap.size + 1 + 1, 1, none⟩ (.slice B l.length d) (by show w.heap.size + 1 + 1 < _; omega))
        rw [List.take_length] at hO'
        have hO2 : ((wr.setCell ⟨w.heap.size + 1 + 1, 0, none⟩ (.int .i64 (1 - t))).setCell ⟨w.heap.size + 1 + 1, 1, none⟩ (.slice B l.length d)).ownsRow (w.heap.size + 1 + 1 + 1 + 1) 59 3 (.slice B l.length d) (swapL l).length (cellsM (swapL l)) := by rw [swapL_len]; exact hO'
        obtain ⟨G, cg, he, hm⟩ := MenA.of hO2
        rw [swapL_len] at he
        cases he
        refine bodyPost_ret (v := .agg #[.int .i64 (1 - t), .slice B l.length d]) ?_ rfl ⟨B, d, ?_, ?_, ?_⟩
        · obtain ⟨⟨d0, d1⟩, _⟩ := (p3.set2 (.int .i64 (1 - t)) (.slice B l.length d)).at2
          simp [results, Try.results8, go_sem, d0, d1]
        · rw [e1, e2, swapL_len]
        · rw [e2]; exact hm.more (by omega) (Nat.le_refl _)
        · exact (hbe.setCell (by show w.heap.size ≤ w.heap.size + 1 + 1; omega) _).setCell (by show w.heap.size ≤ w.heap.size + 1 + 1; omega) _
end Go.Proofs.Ytnchjpjlabeabab.Ko
