/- The position behind a man's going. -/
import Derived.Test.YtcgfklljbblhlaaGreatDoorAf
namespace Go.Proofs.YtcgfklljbblhlaaGreatDoor.Ko
open Go.ChangeShapes Go.WideShapes Go.ChangeAt Go.RowKit Base Sq
set_option linter.unusedVariables false
set_option maxRecDepth 20000
attribute [local irreducible] wpQuiet

def DoPost (w w' : World) (t : Int) (l : List St) (i : Nat) (q : Int) (e : Ending) : Prop :=
  ∃ A c, e = .returned (.agg #[.int .i64 (1 - t), .slice A (doL l i q).length c]) ∧ MenA w.heap.size w'.heap.size w' A (doL l i q) ∧ Below w.heap.size w w'
theorem aftL_hit {l : List St} {i : Nat} {q : Int} : aftL l i q (i + 1) = aftL l i q i ++ [⟨(stAt l i).dx, (stAt l i).dy, q⟩] := by simp [aftL]
theorem aftL_skip {l : List St} {i k : Nat} {q : Int} (h : k ≠ i) (hq : (stAt l k).far = q) : aftL l i q (k + 1) = aftL l i q k := by simp [aftL, h, hq]
theorem aftL_keep {l : List St} {i k : Nat} {q : Int} (h : k ≠ i) (hq : (stAt l k).far ≠ q) : aftL l i q (k + 1) = aftL l i q k ++ [⟨(stAt l k).dx, (stAt l k).dy, (stAt l k).far⟩] := by simp [aftL, h, hq]
theorem OwnM.blk {w : World} {g n c : Nat} {l : List St} {base : Nat} (h : OwnM w base (.slice (some ⟨g, 0, none⟩) n c) n l) (hl : l.length = n) : ∃ cs, Blk w g cs 105 ∧ l.length * 3 ≤ cs.size ∧ StepsIn cs l l.length ∧ base ≤ g := by
  rcases h.2 with ⟨h', _⟩ | ⟨g', cap', cur, h', hb, hg, hn, hm, hs, ht⟩
  · simp at h'
  · simp only [Value.slice.injEq, Option.some.injEq, Addr.mk.injEq, and_true, true_and] at h'
    obtain ⟨rfl, rfl⟩ := h'
    refine ⟨cur, hg, by omega, fun i hi => ?_, hb⟩
    obtain ⟨h1, h2, h3⟩ := cellsM_at l i hi
    rw [← ht, List.getElem?_take_of_lt (by omega)] at h1 h2 h3
    exact ⟨by simpa using h1, by simpa using h2, by simpa using h3⟩

theorem OwnM.glt {w : World} {base n c n' : Nat} {g : Nat} {l : List St} (h : OwnM w base (.slice (some ⟨g, 0, none⟩) n c) n' l) : g < w.heap.size := by
  rcases h.2 with ⟨h', _⟩ | ⟨g', cap, cur, hv, hB, hg, rest⟩
  · simp at h'
  · have hgg : g = g' := by simp only [Value.slice.injEq, Option.some.injEq, Addr.mk.injEq, and_true] at hv; exact hv.1
    rw [hgg]; exact lt_of_block hg

set_option maxHeartbeats 4000000 in
theorem after_any (t : Int) (M : Option Addr) (cm : Nat) (l : List St) (i : Nat) (q : Int) (w : World) (hM : IsSteps w w.heap.size M l) (ht : 0 ≤ t ∧ t ≤ 1) (hl : l.length ≤ 4) (hi : i < l.length) (hu : Up l) :
    Calls Tryz.prog 91 #[.agg #[.int .i64 t, .slice M l.length cm], .int .i64 i, .int .i64 q] w fun e w' => DoPost w w' t l i q e := by
  have HU := Lib.hid hu
  obtain ⟨ht0, ht1⟩ := ht
  obtain ⟨i0, hi0, hz0, hz1, hz2⟩ := info_parts manInfo
  clear hu
  have hb0 := Below.alloc (below_of w (.cells #[.int .i64 t, .slice M l.length cm] 35)) (by simp) (.cells #[.int .i64 0, .slice none 0 0] 35)
  have HP0 := Lib.hid ((Blk.new w #[.int .i64 t, .slice M l.length cm] 35).alloc (.cells #[.int .i64 0, .slice none 0 0] 35))
  have hp1 := Blk.new (w.alloc (.cells #[.int .i64 t, .slice M l.length cm] 35)) #[.int .i64 0, .slice none 0 0] 35
  simp only [World.size_alloc] at hp1
  have HP1 := Lib.hid hp1
  have HB0 := Lib.hid hb0
  clear hb0 hp1
  go_enter Tryz.func91, Tryz.ntmps91
  go_wp2_with (at_make; refine wpList_make_own _ rfl _ _ _ rfl (w.heap.size + 1 + 1) 105 i0 (.agg #[.int .i64 0, .int .i64 0, .int .i64 0]) 3 Tryz.underlying33 hi0 hz0 hz1 .i64 .i64 _ l.length (by rfl) (by rfl) rfl (by rw [hz2]; omega) (by unfold maxLen; omega) (by simp) ?_; intro w1 hown hgrow; simp only [World.size_alloc] at hown; have hb1 := below_of_grown hgrow (B := w.heap.size + 1 + 1) (by simp); have p0 := HP0.out.below hb1 (by omega); have p1 := HP1.out.below hb1 (by omega); have hbe := HB0.out.trans (hb1.mono (by omega)); obtain ⟨⟨o0, o1⟩, _⟩ := p0.at2; clear hgrow hb1 HP0 HP1 HB0)
  go_loopw [7, 17] (fun x iv wr => ∃ k : Nat, k ≤ l.length ∧ iv = .int .i64 k ∧ x = .slice (some ⟨w.heap.size + 1 + 1, 0, none⟩) (aftL l i q k).length l.length ∧ OwnM wr (w.heap.size + 1 + 1) (.slice (some ⟨w.heap.size + 1 + 1, 0, none⟩) (aftL l i q k).length l.length) (aftL l i q k).length (aftL l i q k) ∧
    Blk wr w.heap.size #[.int .i64 t, .slice M l.length cm] 35 ∧ Blk wr (w.heap.size + 1) #[.int .i64 0, .slice none 0 0] 35 ∧ Below w.heap.size w wr) (fun _ iv _ => l.length - (intOf iv).toNat)
  case atStart => exact ⟨0, by omega, rfl, rfl, hown, p0, p1, hbe⟩
  case round =>
    clear hown p0 p1 hbe o0 o1
    obtain ⟨k, hk, rfl, rfl, hO, p0, p1, hbe⟩ := hrel
    have hlen := aftL_len l i q k
    have hz := hbe.size
    have z1 := p1.lt
    have zg := hO.glt
    by_cases hlt : k < l.length
    · obtain ⟨b, off, rfl, hB, hc⟩ := hM.below hbe (by omega)
      obtain ⟨s0, s1, s2⟩ := hc k hlt
      have zb : b < wr.heap.size := by omega
      have HO := Lib.hid hO
      have HP0 := Lib.hid p0
      have HP1 := Lib.hid p1
      have HBE := Lib.hid hbe
      clear hc hO p0 p1 hbe
      by_cases hki : k = i
      · subst hki
        have HL := Lib.hid (aftL_hit (l := l) (i := k) (q := q))
        have hnew := Blk.new (wr.alloc (.cells #[.int .i64 (stAt l k).dx, .int .i64 (stAt l k).dy, .int .i64 q] 105)) #[.int .i64 (stAt l k).dx, .int .i64 (stAt l k).dy, .int .i64 q] 105
        simp only [World.size_alloc] at hnew
        have HNEW := Lib.hid hnew
        have HO2 := Lib.hid ((HO.out.alloc (.cells #[.int .i64 (stAt l k).dx, .int .i64 (stAt l k).dy, .int .i64 q] 105)).alloc (.cells #[.int .i64 (stAt l k).dx, .int .i64 (stAt l k).dy, .int .i64 q] 105))
        have HW := Lib.hid (((Below.refl wr.heap.size wr).alloc (Nat.le_refl _) (.cells #[.int .i64 (stAt l k).dx, .int .i64 (stAt l k).dy, .int .i64 q] 105)).alloc (by simp) (.cells #[.int .i64 (stAt l k).dx, .int .i64 (stAt l k).dy, .int .i64 q] 105))
        clear hnew
        generalize hL : aftL l k q k = L at *
        have hd : ((k : Int) == (k : Int)) = true := by simp
        go_wp2_with (at_builtin; refine wpList_append_fits _ rfl _ _ 33 rfl (w.heap.size + 1 + 1) 105 i0 3 Tryz.underlying33 hi0 hz1 _ _ _ _ rfl HO2.out ⟨wr.heap.size + 1, 0, none⟩ 1 1 [.int .i64 (stAt l k).dx, .int .i64 (stAt l k).dy, .int .i64 q] rfl rfl (news3 HNEW.out) (fun u hu => by simp at hu; rcases hu with rfl | rfl | rfl <;> rfl) (by omega) ?_; intro w7 hown' hgrow7; have hO7 := OwnM.snoc (s := ⟨(stAt l k).dx, (stAt l k).dy, q⟩) hown'; have hbG := (HW.out.mono (Nat.le_of_lt zg)).grown hgrow7 (by simp; omega) (fun j hj => by cases hj; exact Nat.le_refl _); clear hown' hgrow7)
        go_roundw
        case rel => exact ⟨k + 1, by omega, by go_num, by rw [HL.out]; simp, by rw [HL.out]; simpa using hO7, HP0.out.below hbG (by omega), HP1.out.below hbG (by omega), HBE.out.trans (hbG.mono (by omega))⟩
        case measure => simp [intOf]; omega
      · have hd : ((k : Int) == (i : Int)) = false := by simp; omega
        by_cases hq : (stAt l k).far = q
        · have hd2 : ((stAt l k).far == q) = true := by simpa using hq
          have HL := Lib.hid (aftL_skip hki hq)
          have HW := Lib.hid ((Below.refl wr.heap.size wr).alloc (Nat.le_refl _) (.cells #[.int .i64 (stAt l k).dx, .int .i64 (stAt l k).dy, .int .i64 (stAt l k).far] 105))
          clear hq hki
          generalize hL : aftL l i q k = L at *
          go_wp2_with fail
          go_roundw
          case rel => exact ⟨k + 1, by omega, by go_num, by rw [HL.out], by rw [HL.out]; exact HO.out.alloc _, HP0.out.alloc _, HP1.out.alloc _, HBE.out.trans (HW.out.mono (by omega))⟩
          case measure => simp [intOf]; omega
        · have hd2 : ((stAt l k).far == q) = false := by simpa using hq
          have HL := Lib.hid (aftL_keep hki hq)
          have hnew := Blk.new (wr.alloc (.cells #[.int .i64 (stAt l k).dx, .int .i64 (stAt l k).dy, .int .i64 (stAt l k).far] 105)) #[.int .i64 (stAt l k).dx, .int .i64 (stAt l k).dy, .int .i64 (stAt l k).far] 105
          simp only [World.size_alloc] at hnew
          have HNEW := Lib.hid hnew
          have HO2 := Lib.hid ((HO.out.alloc (.cells #[.int .i64 (stAt l k).dx, .int .i64 (stAt l k).dy, .int .i64 (stAt l k).far] 105)).alloc (.cells #[.int .i64 (stAt l k).dx, .int .i64 (stAt l k).dy, .int .i64 (stAt l k).far] 105))
          have HW := Lib.hid (((Below.refl wr.heap.size wr).alloc (Nat.le_refl _) (.cells #[.int .i64 (stAt l k).dx, .int .i64 (stAt l k).dy, .int .i64 (stAt l k).far] 105)).alloc (by simp) (.cells #[.int .i64 (stAt l k).dx, .int .i64 (stAt l k).dy, .int .i64 (stAt l k).far] 105))
          clear hnew hq hki
          generalize hL : aftL l i q k = L at *
          go_wp2_with (at_builtin; refine wpList_append_fits _ rfl _ _ 33 rfl (w.heap.size + 1 + 1) 105 i0 3 Tryz.underlying33 hi0 hz1 _ _ _ _ rfl HO2.out ⟨wr.heap.size + 1, 0, none⟩ 1 1 [.int .i64 (stAt l k).dx, .int .i64 (stAt l k).dy, .int .i64 (stAt l k).far] rfl rfl (news3 HNEW.out) (fun u hu => by simp at hu; rcases hu with rfl | rfl | rfl <;> rfl) (by omega) ?_; intro w7 hown' hgrow7; have hO7 := OwnM.snoc (s := ⟨(stAt l k).dx, (stAt l k).dy, (stAt l k).far⟩) hown'; have hbG := (HW.out.mono (Nat.le_of_lt zg)).grown hgrow7 (by simp; omega) (fun j hj => by cases hj; exact Nat.le_refl _); clear hown' hgrow7)
          go_roundw
          case rel => exact ⟨k + 1, by omega, by go_num, by rw [HL.out]; simp, by rw [HL.out]; simpa using hO7, HP0.out.below hbG (by omega), HP1.out.below hbG (by omega), HBE.out.trans (hbG.mono (by omega))⟩
          case measure => simp [intOf]; omega
    · obtain rfl : k = l.length := by omega
      obtain ⟨cs, hb, hsz, hin, hg⟩ := hO.blk rfl
      have HA := Lib.hid (aft_do (q := q) hi)
      have HD := Lib.hid (doL_asc HU.out i q)
      obtain ⟨⟨o0, o1⟩, _⟩ := p0.at2
      clear hO
      go_wp2_with fail
      refine (sortMen_any _ _ _ _ _ hb (by omega) hin).mono ?_
      rintro e w2 ⟨rfl, l', cs', hp, hs, hb', hs', hin', hbel⟩
      have HE : Hid (l' = doL l i q) := Lib.hid (asc_unique (hp.trans HA.out) HD.out hs)
      have hlen' := hp.length_eq
      have hb2 := hbel (w.heap.size + 1 + 1) (Nat.le_refl _)
      have p0' := p0.below hb2 (by omega)
      have p1' := p1.below hb2 (by omega)
      have hbe' := hbe.trans (hb2.mono (by omega))
      obtain ⟨⟨r0, r1⟩, _⟩ := p0'.at2
      obtain ⟨⟨u0, u1⟩, ⟨u2, u3⟩⟩ := p1'.at2
      clear hbel hb2 p0 p1 hbe o0 o1 hp hs
      go_wp2_with fail
      refine bodyPost_ret (v := .agg #[.int .i64 (1 - t), .slice (some ⟨w.heap.size + 1 + 1, 0, none⟩) (aftL l i q l.length).length l.length]) ?_ rfl ⟨some ⟨w.heap.size + 1 + 1, 0, none⟩, l.length, ?_, ?_, ?_⟩
      · obtain ⟨⟨d0, d1⟩, _⟩ := (p1'.set2 (.int .i64 (1 - t)) (.slice (some ⟨w.heap.size + 1 + 1, 0, none⟩) (aftL l i q l.length).length l.length)).at2
        simp [results, Tryz.results91, go_sem, d0, d1]
      · rw [← HE.out, hlen']
      · rw [← HE.out]
        exact fun _ => ⟨_, cs', rfl, by omega, by have := hb'.lt; simpa [size_set] using this, (hb'.other _ _ (by show w.heap.size + 1 + 1 ≠ w.heap.size + 1; omega)).other _ _ (by show w.heap.size + 1 + 1 ≠ w.heap.size + 1; omega), by rw [hlen', hs']; exact hsz, by rw [hlen']; exact hin'⟩
      · exact (hbe'.setCell (by show w.heap.size ≤ w.heap.size + 1; omega) _).setCell (by show w.heap.size ≤ w.heap.size + 1; omega) _
end Go.Proofs.YtcgfklljbblhlaaGreatDoor.Ko
