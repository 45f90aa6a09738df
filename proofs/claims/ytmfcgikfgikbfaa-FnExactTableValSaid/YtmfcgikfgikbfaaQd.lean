/- The program's coder.code. -/
import Derived.Test.YtmfcgikfgikbfaaQc
import Derived.Test.YtmfcgikfgikbfaaPx
import Derived.Deep.RegionHeld3
namespace Go.Proofs.Ytmfcgikfgikbfaa.Ko
open Go.ChangeShapes Go.WideShapes Go.ChangeAt Go.RowKit Base Sq
set_option linter.unusedVariables false
set_option maxRecDepth 20000
attribute [local irreducible] wpQuiet

theorem own_one (s : Int) (w : World) (base : Nat) (hB : base ≤ w.heap.size) : In.Own (w.alloc (.cells #[.int .i64 s] 3)) base (.slice (some ⟨w.heap.size, 0, none⟩) 1 1) [s] :=
  ⟨rfl, .inr ⟨w.heap.size, 1, #[.int .i64 s], rfl, hB, Blk.new w #[.int .i64 s] 3, Nat.le_refl _, by decide, rfl, rfl⟩⟩
theorem own_row' {w : World} {base n : Nat} {v : Value} {l : List Int} (h : In.Own w base v l) (hn : l.length = n) : w.ownsRow base 3 1 v n (In.nums l) := by have := h; unfold In.Own at this; rwa [hn] at this
/-- a store into the own list -/
theorem own_set {w : World} {base g cap : Nat} {l : List Int} (h : In.Own w base (.slice (some ⟨g, 0, none⟩) l.length cap) l) (i : Nat) (x : Int) (hi : i < l.length) :
    In.Own (w.setCell ⟨g, i, none⟩ (.int .i64 x)) base (.slice (some ⟨g, 0, none⟩) (l.set i x).length cap) (l.set i x) := by
  rcases h.2 with ⟨h0, _⟩ | ⟨g', cap', cur, hv, hB, hg, hn, hm, hs, ht⟩
  · cases h0
  · injection hv with h1 h2 h3
    injection h1 with h1
    injection h1 with h1
    subst h1
    subst h3
    refine ⟨by simp [In.nums], .inr ⟨g, cap, cur.setIfInBounds i (.int .i64 x), rfl, hB, Blk.set hg i _, by simpa using hn, hm, by simpa using hs, ?_⟩⟩
    unfold In.nums at *
    rw [List.map_set, ← ht]
    simp [Array.toList_setIfInBounds, List.take_set]

def CdInv (w wr : World) (side : Int) (A : Option Addr) (c n : Nat) (M : Option Addr) (cm m : Nat) (D : Option Addr) (d : Nat) (t : Int) (N : Option Addr) (cn l : Nat) (v : Value) (L : List Int) : Prop :=
  In.Own wr (w.heap.size + 2) v L ∧ Blk wr w.heap.size #[.int .i64 side, .slice A n c, .slice M m cm, .slice D (m + 1) d] 78 ∧ Blk wr (w.heap.size + 1) #[.int .i64 t, .slice N l cn] 43 ∧ Below w.heap.size w wr

set_option maxHeartbeats 8000000 in
theorem code_any (side : Int) (A : Option Addr) (c n : Nat) (M : Option Addr) (cm : Nat) (m : List Pc) (D : Option Addr) (d : Nat) (t : Int) (N : Option Addr) (cn : Nat) (l : List St) (w : World) (hM : IsPcs w w.heap.size M m)
    (hD : In.IsInts w w.heap.size D (basesV side m.length)) (hN : IsSteps w w.heap.size N l) (hU : Uniq m)
    (hs : side = 2 ∨ side = 3 ∨ side = 4) (hm : m.length ≤ 4) (hl : l.length ≤ 4) (ht : 0 ≤ t ∧ t ≤ 1) (hf : ∀ i, i < l.length → 0 ≤ (stAt l i).far ∧ (stAt l i).far < side * side) :
    Calls Try.prog 55 #[.agg #[.int .i64 side, .slice A n c, .slice M m.length cm, .slice D (m.length + 1) d], .agg #[.int .i64 t, .slice N l.length cn]] w fun e w' => e = .returned (.int .i64 (codeQ side t l m)) ∧ Below w.heap.size w w' := by
  have hbx := (below_of w (.cells #[.int .i64 side, .slice A n c, .slice M m.length cm, .slice D (m.length + 1) d] 78)).alloc (by first | (simp; done) | (simp; omega) | omega) (.cells #[.int .i64 t, .slice N l.length cn] 43)
  have HU := Lib.hid hU
  have HSD := Lib.hid hs
  have HFR := Lib.hid hf
  clear hU hs hf
  go_enter Try.func55, Try.ntmps55
  go_wp2_with fail
  have p1 := (Blk.new w #[.int .i64 side, .slice A n c, .slice M m.length cm, .slice D (m.length + 1) d] 78).alloc (.cells #[.int .i64 t, .slice N l.length cn] 43)
  have p2 := Blk.new (w.alloc (.cells #[.int .i64 side, .slice A n c, .slice M m.length cm, .slice D (m.length + 1) d] 78)) #[.int .i64 t, .slice N l.length cn] 43
  simp only [World.size_alloc] at p2
  have hz1 : w.heap.size + 2 ≤ ((w.alloc (.cells #[.int .i64 side, .slice A n c, .slice M m.length cm, .slice D (m.length + 1) d] 78)).alloc (.cells #[.int .i64 t, .slice N l.length cn] 43)).heap.size := (by first | (simp; done) | (simp; omega) | omega)
  generalize hW1 : (w.alloc _).alloc _ = W1 at *
  clear hW1
  refine (squares_any _ _ _ _ _ HSD.out).mono ?_
  rintro e w2 ⟨rfl, hb2⟩
  have q1 := Blk.below p1 hb2 p1.lt
  have q2 := Blk.below p2 hb2 p2.lt
  have hbe2 := hbx.trans (hb2.mono hbx.size)
  have hz2 := hb2.size
  obtain ⟨c0, c1, c2, c3⟩ := Blk.at4 q1
  obtain ⟨⟨e0, e1⟩, _⟩ := q2.at2
  have y1 := q1.lt
  have y2 := q2.lt
  clear p1 p2 hbx hb2
  go_wp2_with fail
  have hI0 : Hid (CdInv w (w2.alloc (.cells #[.int .i64 t] 3)) side A c n M cm m.length D d t N cn l.length (.slice (some ⟨w2.heap.size, 0, none⟩) (0 + 1) 1) (t :: List.replicate 0 (side * side))) := Lib.hid
    ⟨own_one t w2 _ (by omega), q1.alloc _, q2.alloc _, hbe2.alloc (by omega) _⟩
  obtain ⟨i0, hi0, hz0, hzz1, hzz2⟩ := info_parts In.infoInt
  have hwb : w.heap.size ≤ w2.heap.size := by omega
  clear q1 q2 hbe2 c0 c1 c2 c3 e0 e1
  have hw1 : IntKind.i64.wrap (side * side) = side * side := IntWalk.i64_in _ (by rcases HSD.out with rfl | rfl | rfl <;> decide)
  generalize hW3 : w2.alloc _ = W3 at *
  clear hW3 y1 y2
  go_loopw [6, 19] (fun v i wr => ∃ (k : Nat) (B : Option Addr) (d' : Nat), k ≤ m.length ∧ i = .int .i64 k ∧ v = .slice B (k + 1) d' ∧ Hid (CdInv w wr side A c n M cm m.length D d t N cn l.length (.slice B (k + 1) d') (t :: List.replicate k (side * side)))) (fun _ i _ => m.length - (intOf i).toNat)
  case atStart => exact ⟨0, some ⟨w2.heap.size, 0, none⟩, 1, by omega, rfl, rfl, hI0⟩
  case round =>
    clear hI0
    obtain ⟨k, B, d', hk, rfl, rfl, hI⟩ := hrel
    obtain ⟨hO, q1, q2, hbe⟩ := hI.out
    have y1 := q1.lt
    have y2 := q2.lt
    have hz := hbe.size
    by_cases hlt : k < m.length
    · have hlt' : (k : Int) < (m.length : Int) := by omega
      have hmax : k + 1 + 1 ≤ maxLen := by unfold maxLen; omega
      have HO := Lib.hid hO
      clear hI hO
      go_wp2_with (at_builtin; refine wpList_append_own _ rfl _ _ 26 rfl (w.heap.size + 2) 3 i0 (.int .i64 0) 1 8 Try.underlying26 hi0 hz0 hzz1 hzz2 rfl (by decide) _ _ _ rfl (World.ownsRow.alloc (own_row' HO.out (by simp)) _) ⟨wr.heap.size, 0, none⟩ 1 1 [.int .i64 (side * side)] rfl rfl (cell_one_new _ _ _) (fun u hu => by simp at hu; subst hu; rfl) hmax (by omega) (by simp; omega) ?_; intro v' w7 hown' hgrow7 hnil7)
      have hO7 : In.Own w7 (w.heap.size + 2) v' (t :: List.replicate (k + 1) (side * side)) := by
        unfold In.Own
        rw [List.replicate_succ', ← List.cons_append, In.nums_snoc]
        simpa using hown'
      have HO5 := Lib.hid (In.Own.below HO.out (below_of wr (.cells #[.int .i64 (side * side)] 3)))
      have hbG : Below (w.heap.size + 2) (wr.alloc (.cells #[.int .i64 (side * side)] 3)) w7 := In.own_base HO5.out hgrow7 (Below.refl _ _) (Nat.le_refl _) (by simp; omega)
      have hq1 := Blk.below (q1.alloc (.cells #[.int .i64 (side * side)] 3)) hbG (by omega)
      have hq2 := Blk.below (q2.alloc (.cells #[.int .i64 (side * side)] 3)) hbG (by omega)
      have hbe7 := (hbe.alloc hz (.cells #[.int .i64 (side * side)] 3)).trans (hbG.mono (by omega))
      obtain ⟨A7, c7, hv7⟩ := hO7.slice
      rw [show (t :: List.replicate (k + 1) (side * side)).length = k + 1 + 1 from by simp] at hv7
      subst hv7
      have HF := Lib.hid (show CdInv w w7 side A c n M cm m.length D d t N cn l.length (.slice A7 (k + 1 + 1) c7) (t :: List.replicate (k + 1) (side * side)) from ⟨hO7, hq1, hq2, hbe7⟩)
      clear hown' hgrow7 hnil7 hO7 hbG hq1 hq2 hbe7
      go_roundw
      case rel =>
        have R : k + 1 ≤ m.length ∧ Value.int .i64 ((k : Int) + 1) = .int .i64 ((k + 1 : Nat) : Int) ∧ Value.slice A7 (k + 1 + 1) c7 = .slice A7 (k + 1 + 1) c7 ∧ Hid (CdInv w w7 side A c n M cm m.length D d t N cn l.length (.slice A7 (k + 1 + 1) c7) (t :: List.replicate (k + 1) (side * side))) := ⟨by omega, by go_num, rfl, HF⟩
        first
          | exact ⟨k + 1, A7, c7, R⟩
          | ((repeat apply Exists.intro); exact ⟨⟨k + 1, A7, c7, R⟩, rfl⟩)
      case measure => simp [intOf]; omega
    · obtain rfl : k = m.length := by omega
      obtain ⟨⟨e0, e1⟩, _⟩ := q2.at2
      rw [← digK_start side t l m] at hO
      obtain ⟨g, cp, hv, hgb, hgl⟩ := World.ownsRow.form (own_row' hO (digK_len side t l m 0)) (by omega)
      injection hv with h1 h2 h3
      subst h1
      subst h3
      have hI1 : Hid (CdInv w wr side A c n M cm m.length D d t N cn l.length (.slice (some ⟨g, 0, none⟩) (m.length + 1) d') (digK side t l m 0)) := Lib.hid ⟨hO, q1, q2, hbe⟩
      clear h2 hI hO q1 y1 y2 hz
      go_wp2_with fail
      clear e0 e1 q2 hbe hgl
      go_loopw [29] (fun i wq => ∃ k : Nat, k ≤ l.length ∧ i = .int .i64 k ∧ Hid (∀ j, j < k → ∃ i, i < m.length ∧ sameP (stAt l j) (pcAt m i) = true) ∧ Hid (∀ i, i < k → ∀ j, j < i → sameB (stAt l i) (stAt l j) = false) ∧
        Hid (CdInv w wq side A c n M cm m.length D d t N cn l.length (.slice (some ⟨g, 0, none⟩) (m.length + 1) d') (digK side t l m k))) (fun i _ => l.length - (intOf i).toNat)
      case atStart => exact ⟨0, by omega, rfl, Lib.hid (fun j hj => absurd hj (by omega)), Lib.hid (fun j hj => absurd hj (by omega)), hI1⟩
      case round =>
        clear hI1
        obtain ⟨k, hk, rfl, hP, hT, hI⟩ := hrel
        obtain ⟨hO, q1, q2, hbe⟩ := hI.out
        have y1 := q1.lt
        have y2 := q2.lt
        have hz := hbe.size
        have HO := Lib.hid hO
        clear hI hO
        by_cases hlt : k < l.length
        · have hlt' : (k : Int) < (l.length : Int) := by omega
          obtain ⟨b, off, rfl, hB, hc⟩ := hN.below hbe (by omega)
          obtain ⟨a0, a1, a2⟩ := hc k hlt
          have g1 : (0 : Int) ≤ (k : Int) := by omega
          clear hc
          go_wp2_with fail
          have pm0 := Blk.new wr #[.int .i64 (stAt l k).dx, .int .i64 (stAt l k).dy, .int .i64 (stAt l k).far] 101
          have hbA := below_of wr (.cells #[.int .i64 (stAt l k).dx, .int .i64 (stAt l k).dy, .int .i64 (stAt l k).far] 101)
          have q1 := q1.alloc (.cells #[.int .i64 (stAt l k).dx, .int .i64 (stAt l k).dy, .int .i64 (stAt l k).far] 101)
          have q2 := q2.alloc (.cells #[.int .i64 (stAt l k).dx, .int .i64 (stAt l k).dy, .int .i64 (stAt l k).far] 101)
          have HO := Lib.hid (In.Own.below HO.out hbA)
          have hbe4 := hbe.trans (hbA.mono hz)
          have y4 := pm0.lt
          have hz4 := hbe4.size
          generalize hW4 : wr.alloc _ = W4 at *
          generalize hbm : wr.heap.size = bm at *
          clear hW4 hbm hbA a0 a1 a2 hbe hz
          have y1 := q1.lt
          have y2 := q2.lt
          have HS : Hid (∀ w', Below W4.heap.size W4 w' → (w'.cell? ⟨w.heap.size, 2, none⟩ = some (.slice M m.length cm) ∧ w'.cell? ⟨bm, 0, none⟩ = some (.int .i64 (stAt l k).dx) ∧ w'.cell? ⟨bm, 1, none⟩ = some (.int .i64 (stAt l k).dy) ∧ w'.cell? ⟨bm, 2, none⟩ = some (.int .i64 (stAt l k).far))) := Lib.hid (fun w' hb => by
            obtain ⟨⟨a0, a1, a2⟩, _⟩ := (Blk.below pm0 hb y4).at3
            exact ⟨(Blk.at4 (Blk.below q1 hb y1)).2.2.1, a0, a1, a2⟩)
          have hw : Below W4.heap.size W4 W4.drew := (Below.refl _ _).drew
          go_region_held3 (fun w' => w'.cell? ⟨w.heap.size, 2, none⟩ = some (.slice M m.length cm) ∧ w'.cell? ⟨bm, 0, none⟩ = some (.int .i64 (stAt l k).dx) ∧ w'.cell? ⟨bm, 1, none⟩ = some (.int .i64 (stAt l k).dy) ∧ w'.cell? ⟨bm, 2, none⟩ = some (.int .i64 (stAt l k).far))
            (exact HS.out _ hw)
            (first
              | (go_at_call 76; refine (piece_any _ _ _ _).mono ?_; rintro e w5 ⟨rfl, hb5⟩; have hw := hw.trans (hb5.mono hw.size))
              | (go_at_call 75; refine (index_any M cm m (stAt l k) _ ((hM.below (hbe4.trans (hw.mono hz4))).more (Nat.le_trans hz4 hw.size)) (by omega)).mono ?_; rintro e w6 ⟨z, rfl, hzz, hb6⟩; have hw := hw.trans (hb6.mono hw.size)))
          have hbe6 := hbe4.trans (hw.mono hz4)
          have q1 := Blk.below q1 hw y1
          have q2 := Blk.below q2 hw y2
          have pm6 := Blk.below pm0 hw y4
          have HO6 := Lib.hid (In.Own.below HO.out hw)
          have hz6 := hbe6.size
          have ym := pm6.lt
          clear hw HS hbe4 pm0 y1 y2 y4 hz4
          rcases hzz with ⟨i, hi, rfl, hsp⟩ | ⟨rfl, hno⟩
          · obtain ⟨A', c', hv, hII⟩ := HO6.out.is
            rw [digK_len] at hv
            obtain ⟨rfl, rfl⟩ : some (⟨g, 0, none⟩ : Addr) = A' ∧ d' = c' := by injection hv with h1 h2 h3; exact ⟨h1, h3⟩
            obtain ⟨gx, hgx, hgl, hcc⟩ := hII (by rw [digK_len]; omega)
            obtain rfl : g = gx := by injection hgx with h1; injection h1
            have cg := hcc (i + 1) (by rw [digK_len]; omega)
            rw [digK_succ hi] at cg
            obtain ⟨cur, hcur⟩ := own_block HO6.out (k := g) rfl
            have fg := Blk.free hcur (i + 1)
            have d0 : ((i : Int) == -1) = false := by simp <;> omega
            have hw5 : IntKind.i64.wrap (1 + (i : Int)) = 1 + (i : Int) := IntWalk.i64_in _ (by omega)
            have g2 : (0 : Int) ≤ 1 + (i : Int) := by omega
            have g3 : 1 + (i : Int) < (m.length : Int) + 1 := by omega
            have g4 : (1 + (i : Int)).toNat = i + 1 := by omega
            obtain ⟨⟨a0, a1, a2⟩, _⟩ := pm6.at3
            clear hcc hII hcur hv hgx
            by_cases hat : atK side l (pcAt m i) k = side * side
            · have dd : (atK side l (pcAt m i) k == side * side) = true := by simp [hat]
              have HAT := Lib.hid hat
              have HSP := Lib.hid hsp
              clear hat hsp
              go_wp2_with fail
              have HO7 := Lib.hid (own_set (cap := d') (by rw [digK_len]; exact HO6.out) (i + 1) (stAt l k).far (by rw [digK_len]; omega))
              go_roundw
              case rel =>
                refine ⟨k + 1, by omega, by go_num, Lib.hid (all_succ hP.out ⟨i, hi, HSP.out⟩), Lib.hid (all_succ (P := fun i => ∀ j, j < i → sameB (stAt l i) (stAt l j) = false) hT.out (no_twin HFR.out hlt HSP.out HAT.out)), Lib.hid ?_⟩
                have h := HO7.out
                rw [← digK_next HU.out hi HSP.out, digK_len] at h
                exact ⟨h, Blk.other q1 _ _ (by show w.heap.size ≠ g; omega), Blk.other q2 _ _ (by show w.heap.size + 1 ≠ g; omega), hbe6.setCell (by show w.heap.size ≤ g; omega) _⟩
              case measure => simp [intOf]; omega
            · have dd : (atK side l (pcAt m i) k == side * side) = false := by simp [hat]
              have HQ := Lib.hid (codeQ_twice (s := side) (t := t) (m := m) hlt hsp hat)
              clear hat hsp
              go_wp2_with fail
              go_ret
              exact ⟨by rw [HQ.out]; rfl, hbe6⟩
          · have HQ := Lib.hid (codeQ_none (s := side) (t := t) HU.out hlt hno)
            clear hno
            go_wp2_with fail
            go_ret
            exact ⟨by rw [HQ.out]; rfl, hbe6⟩
        · obtain rfl : k = l.length := by omega
          have HQ := Lib.hid (codeQ_end (s := side) (t := t) HU.out hP.out hT.out)
          obtain ⟨A', c', hv, hII⟩ := HO.out.is
          rw [digK_len] at hv
          obtain ⟨rfl, rfl⟩ : some (⟨g, 0, none⟩ : Addr) = A' ∧ d' = c' := by injection hv with h1 h2 h3; exact ⟨h1, h3⟩
          have HII := Lib.hid hII
          obtain ⟨c0, c1, c2, c3⟩ := Blk.at4 q1
          clear hv hII
          go_wp2_with fail
          refine (numberOf_any side t l m _ _ D d _ HII.out ((hD.below hbe).more hz) HSD.out hm ht HFR.out).mono ?_
          rintro e w9 ⟨rfl, rfl⟩
          go_wp2_with fail
          go_ret
          exact ⟨by rw [HQ.out]; rfl, hbe⟩
end Go.Proofs.Ytmfcgikfgikbfaa.Ko
