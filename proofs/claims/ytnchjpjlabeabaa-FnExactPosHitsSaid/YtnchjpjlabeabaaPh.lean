/- PosHits of the program and of the model. -/
import Derived.Test.YtnchjpjlabeabaaPk
import Derived.Test.YtnchjpjlabeabaaIn
namespace Go.Proofs.Ytnchjpjlabeabaa.Ko
open Go.ChangeShapes Go.WideShapes Go.ChangeAt Go.RowKit Base Sq In
set_option linter.unusedVariables false
set_option maxRecDepth 20000
attribute [local irreducible] wpQuiet

/-- the indices below k of the men that attack q -/
def hitsL (side : Int) (ks : List Kd) (l : List St) (q : Int) : Nat → List Int
  | 0 => []
  | k + 1 => hitsL side ks l q k ++ if hitsB side l (kOf ks (stAt l k)).steps (stAt l k).far q then [(k : Int)] else []
def posHits (side : Int) (ks : List Kd) (t : Int) (l : List St) (q : Int) : List Int := if posB side ks t l = true ∧ okB side q = true then hitsL side ks l q l.length else []
theorem hitsL_len (side : Int) (ks : List Kd) (l : List St) (q : Int) (k : Nat) : (hitsL side ks l q k).length ≤ k := by
  induction k with
  | zero => simp [hitsL]
  | succ k ih => simp only [hitsL, List.length_append]; split <;> simp <;> omega
theorem hitsL_yes {side q : Int} {ks : List Kd} {l : List St} {k : Nat} (h : hitsB side l (kOf ks (stAt l k)).steps (stAt l k).far q = true) : hitsL side ks l q (k + 1) = hitsL side ks l q k ++ [(k : Int)] := by simp [hitsL, h]
theorem hitsL_no {side q : Int} {ks : List Kd} {l : List St} {k : Nat} (h : hitsB side l (kOf ks (stAt l k)).steps (stAt l k).far q = false) : hitsL side ks l q (k + 1) = hitsL side ks l q k := by simp [hitsL, h]
theorem posHits_no {side t q : Int} {ks : List Kd} {l : List St} (h : ¬ (posB side ks t l = true ∧ okB side q = true)) : posHits side ks t l q = [] := if_neg h
theorem posHits_yes {side t q : Int} {ks : List Kd} {l : List St} (h : posB side ks t l = true ∧ okB side q = true) : posHits side ks t l q = hitsL side ks l q l.length := if_pos h
def IntsPost (w w' : World) (l : List Int) (e : Ending) : Prop := ∃ v, e = .returned v ∧ In.Own w' w.heap.size v l ∧ Below w.heap.size w w'
theorem own_nil (w : World) (base : Nat) : In.Own w base (.slice none 0 0) [] := World.ownsRow_nil _ _ _ _
theorem own_more {w : World} {base base' : Nat} {v : Value} {l : List Int} (h : In.Own w base v l) (hb : base' ≤ base) : In.Own w base' v l := by
  refine ⟨h.1, ?_⟩
  rcases h.2 with h0 | ⟨g, cap, cur, hv, hB, rest⟩
  · exact .inl h0
  · exact .inr ⟨g, cap, cur, hv, by omega, rest⟩
theorem own_grown {w' : World} {base : Nat} {v' : Value} {l : List Int} {x : Int} (h : w'.ownsRow base 3 1 v' (l.length + 1) (nums l ++ [.int .i64 x])) : In.Own w' base v' (l ++ [x]) := by
  unfold In.Own; rw [nums_snoc, List.length_append]; exact h

set_option maxHeartbeats 4000000 in
theorem posHits_any (side : Int) (A : Option Addr) (c : Nat) (ks : List Kd) (t : Int) (M : Option Addr) (cm : Nat) (l : List St) (q : Int) (w : World) (hR : IsKinds w w.heap.size A ks) (hM : IsSteps w w.heap.size M l)
    (hsm : Small ks) (hl : l.length ≤ 1048576) :
    Calls Try.prog 22 #[.agg #[.int .i64 side, .slice A ks.length c], .agg #[.int .i64 t, .slice M l.length cm], .int .i64 q] w fun e w' => IntsPost w w' (posHits side ks t l q) e := by
  go_enter Try.func22, Try.ntmps22
  go_wp2_with fail
  have hb0 : Below w.heap.size w ((w.alloc (.cells #[.int .i64 side, .slice A ks.length c] 29)).alloc (.cells #[.int .i64 t, .slice M l.length cm] 40)) := (by repeat (first | exact Below.refl _ _ | assumption | (refine Below.alloc ?_ (by first | omega | (simp; done) | (simp; omega)) _) | (refine Below.setCell ?_ (by first | omega | (simp; done) | (simp; omega)) _) | refine Below.drew ?_))
  have p1 := (Blk.new w #[.int .i64 side, .slice A ks.length c] 29).alloc (.cells #[.int .i64 t, .slice M l.length cm] 40)
  have p2 := Blk.new (w.alloc (.cells #[.int .i64 side, .slice A ks.length c] 29)) #[.int .i64 t, .slice M l.length cm] 40
  simp only [World.size_alloc] at p2
  generalize hW0 : (w.alloc _).alloc _ = W0 at *
  clear hW0
  refine (posOk_any _ _ _ _ _ _ _ _ _ ((hR.below hb0).more hb0.size) ((hM.below hb0).more hb0.size) hsm hl).mono ?_
  rintro e w2 ⟨rfl, hb2⟩
  have p1' := p1.below hb2 p1.lt
  have p2' := p2.below hb2 p2.lt
  have hb0' := hb0.trans (hb2.mono hb0.size)
  obtain ⟨⟨r0, r1⟩, _⟩ := p1'.at2
  obtain ⟨⟨o0, o1⟩, _⟩ := p2'.at2
  clear p1 p2 hb0 hb2
  cases hp : posB side ks t l
  · have HP := Lib.hid (posHits_no (q := q) (fun h => by rw [hp] at h; cases h.1))
    clear hp
    go_wp2_with fail
    go_ret
    exact ⟨_, rfl, by rw [HP.out]; exact own_nil _ _, hb0'⟩
  cases hq : okB side q
  · have HP := Lib.hid (posHits_no (side := side) (ks := ks) (t := t) (l := l) (fun h => by rw [hq] at h; cases h.2))
    have HQ := Lib.hid hq
    clear hp hq
    go_wp2_with (go_at_call 53; refine (sq_ok _ _ _).mono ?_; rw [HQ.out]; rintro e w' ⟨rfl, rfl⟩)
    go_ret
    exact ⟨_, rfl, by rw [HP.out]; exact own_nil _ _, hb0'⟩
  have HP := Lib.hid (posHits_yes ⟨hp, hq⟩)
  have HQ := Lib.hid hq
  obtain ⟨hok, hsh, _⟩ := posB_facts hp
  obtain ⟨_, hl4, _, _, hmen⟩ := shapeB_facts hsh
  have HMEN := Lib.hid hmen
  have HOK := Lib.hid hok
  clear hp hq hok hsh hmen
  go_wp2_with (go_at_call 53; refine (sq_ok _ _ _).mono ?_; rw [HQ.out]; rintro e w' ⟨rfl, rfl⟩)
  go_loopw [7, 24] (fun x i wr => ∃ (j : Nat) (B : Option Addr) (d : Nat), j ≤ l.length ∧ i = .int .i64 j ∧ x = .slice B (hitsL side ks l q j).length d ∧ In.Own wr (w.heap.size + 1 + 1) (.slice B (hitsL side ks l q j).length d) (hitsL side ks l q j) ∧
    Blk wr w.heap.size #[.int .i64 side, .slice A ks.length c] 29 ∧ Blk wr (w.heap.size + 1) #[.int .i64 t, .slice M l.length cm] 40 ∧ Below w.heap.size w wr) (fun _ i _ => l.length - (intOf i).toNat)
  case atStart => exact ⟨0, none, 0, by omega, rfl, rfl, own_nil _ _, p1', p2', hb0'⟩
  case round =>
    clear p1' p2' hb0' r0 r1 o0 o1
    obtain ⟨j, B, d, hj, rfl, rfl, hO, p1, p2, hbe⟩ := hrel
    by_cases hlt : j < l.length
    · obtain ⟨b, off, rfl, hB, hc⟩ := hM.below hbe (by omega)
      obtain ⟨s0, s1, s2⟩ := hc j hlt
      obtain ⟨⟨n1, n2⟩, ⟨n3, n4⟩, ⟨n5, n6⟩, _⟩ := HMEN.out j hlt
      obtain ⟨⟨r0, r1⟩, _⟩ := p1.at2
      obtain ⟨⟨o0, o1⟩, _⟩ := p2.at2
      have hz := hbe.size
      have z1 := p1.lt
      have z2 := p2.lt
      clear hc
      go_wp2_with fail
      have hA := below_of wr (.cells #[.int .i64 (stAt l j).dx, .int .i64 (stAt l j).dy, .int .i64 (stAt l j).far] 77)
      have hb3 := hbe.trans (hA.mono hz)
      have p3 := p1.below hA p1.lt
      have p4 := p2.below hA p2.lt
      have hO3 := hO.below hA
      clear hA hbe p1 p2 hO
      refine (hits_any _ _ _ _ _ _ _ _ _ _ _ _ ((hR.below hb3).more hb3.size) ((hM.below hb3).more hb3.size) HOK.out ⟨n1, n2⟩ ⟨n5, n6⟩ hl).mono ?_
      rintro e w5 ⟨rfl, hb5⟩
      have p1 := p3.below hb5 p3.lt
      have p2 := p4.below hb5 p4.lt
      have hO5 := hO3.below hb5
      have hb6 := hb3.trans (hb5.mono hb3.size)
      have hsz6 := hb6.size
      clear p3 p4 hO3 hb5 hb3
      cases hh : hitsB side l (kOf ks ⟨(stAt l j).dx, (stAt l j).dy, (stAt l j).far⟩).steps (stAt l j).far q
      · have HE := Lib.hid (hitsL_no (side := side) (ks := ks) (l := l) (k := j) (q := q) hh)
        clear hh
        go_wp2_with fail
        go_roundw
        case rel =>
          have R : j + 1 ≤ l.length ∧ Value.int .i64 ((j : Int) + 1) = .int .i64 ((j + 1 : Nat) : Int) ∧ Value.slice B (hitsL side ks l q j).length d = .slice B (hitsL side ks l q (j + 1)).length d ∧ In.Own w5 (w.heap.size + 1 + 1) (.slice B (hitsL side ks l q (j + 1)).length d) (hitsL side ks l q (j + 1)) ∧
            Blk w5 w.heap.size #[.int .i64 side, .slice A ks.length c] 29 ∧ Blk w5 (w.heap.size + 1) #[.int .i64 t, .slice (some ⟨b, off, none⟩) l.length cm] 40 ∧ Below w.heap.size w w5 := ⟨by omega, by go_num, by rw [HE.out], by rw [HE.out]; exact hO5, p1, p2, hb6⟩
          first
            | exact ⟨j + 1, B, d, R⟩
            | ((repeat apply Exists.intro); exact ⟨⟨j + 1, B, d, R⟩, rfl⟩)
        case measure => simp [intOf]; omega
      · have HE := Lib.hid (hitsL_yes (side := side) (ks := ks) (l := l) (k := j) (q := q) hh)
        have hlen := hitsL_len side ks l q j
        obtain ⟨i0, hi, hz0, hz1, hz2⟩ := info_parts infoInt
        have hmax : (hitsL side ks l q j).length + 1 ≤ maxLen := by unfold maxLen; omega
        have HO5 := Lib.hid hO5
        have HB6 := Lib.hid hb6
        have HP1 := Lib.hid p1
        have HP2 := Lib.hid p2
        have z5 := p2.lt
        clear hh hO5 hb6 p1 p2
        go_wp2_with (at_builtin; refine wpList_append_own _ rfl _ _ 44 rfl (w.heap.size + 1 + 1) 3 i0 (.int .i64 0) 1 8 Try.underlying44 hi hz0 hz1 hz2 rfl (by decide) _ _ _ rfl (World.ownsRow.alloc HO5.out _) ⟨w5.heap.size, 0, none⟩ 1 1 [.int .i64 j] rfl rfl (cell_one_new _ _ _) (fun u hu => by simp at hu; subst hu; rfl) hmax (by omega) (by simp; omega) ?_; intro v' w7 hown' hgrow7 hnil7)
        have hbG : Below (w.heap.size + 1 + 1) (w5.alloc (.cells #[.int .i64 (j : Int)] 3)) w7 := own_base (l := hitsL side ks l q j) (World.ownsRow.alloc HO5.out _) hgrow7 (Below.refl _ _) (Nat.le_refl _) (by simp; omega)
        have hO7 : In.Own w7 (w.heap.size + 1 + 1) v' (hitsL side ks l q (j + 1)) := by rw [HE.out]; exact own_grown hown'
        have hb7 : Below w.heap.size w w7 := (HB6.out.alloc hsz6 _).trans (hbG.mono (by omega))
        have p1 := (HP1.out.alloc (.cells #[.int .i64 (j : Int)] 3)).below hbG (by omega)
        have p2 := (HP2.out.alloc (.cells #[.int .i64 (j : Int)] 3)).below hbG (by omega)
        obtain ⟨B7, d7, hv7⟩ := hO7.slice
        subst hv7
        clear hown' hgrow7 hnil7 HO5 HB6 HP1 HP2 hbG
        go_roundw
        case rel =>
          have R : j + 1 ≤ l.length ∧ Value.int .i64 ((j : Int) + 1) = .int .i64 ((j + 1 : Nat) : Int) ∧ Value.slice B7 (hitsL side ks l q (j + 1)).length d7 = .slice B7 (hitsL side ks l q (j + 1)).length d7 ∧ In.Own w7 (w.heap.size + 1 + 1) (.slice B7 (hitsL side ks l q (j + 1)).length d7) (hitsL side ks l q (j + 1)) ∧
            Blk w7 w.heap.size #[.int .i64 side, .slice A ks.length c] 29 ∧ Blk w7 (w.heap.size + 1) #[.int .i64 t, .slice (some ⟨b, off, none⟩) l.length cm] 40 ∧ Below w.heap.size w w7 := ⟨by omega, by go_num, rfl, hO7, p1, p2, hb7⟩
          first
            | exact ⟨j + 1, B7, d7, R⟩
            | ((repeat apply Exists.intro); exact ⟨⟨j + 1, B7, d7, R⟩, rfl⟩)
        case measure => simp [intOf]; omega
    · obtain rfl : j = l.length := by omega
      go_wp2_with fail
      go_ret
      exact ⟨_, rfl, by rw [HP.out]; exact own_more hO (by omega), hbe⟩

set_option maxHeartbeats 4000000 in
theorem specPosHits_any (side : Int) (A : Option Addr) (c : Nat) (ks : List Kd) (t : Int) (M : Option Addr) (cm : Nat) (l : List St) (q : Int) (w : World) (hR : IsKinds w w.heap.size A ks) (hM : IsSteps w w.heap.size M l)
    (hsm : Small ks) (hl : l.length ≤ 1048576) :
    Calls Try.prog 21 #[.agg #[.int .i64 side, .slice A ks.length c], .agg #[.int .i64 t, .slice M l.length cm], .int .i64 q] w fun e w' => IntsPost w w' (posHits side ks t l q) e := by
  go_enter Try.func21, Try.ntmps21
  go_wp2_with fail
  have hb0 : Below w.heap.size w (((w.alloc (.cells #[.int .i64 side, .slice A ks.length c] 29)).alloc (.cells #[.int .i64 t, .slice M l.length cm] 40)).alloc (.cells #[] 3)) := (by repeat (first | exact Below.refl _ _ | assumption | (refine Below.alloc ?_ (by first | omega | (simp; done) | (simp; omega)) _) | (refine Below.setCell ?_ (by first | omega | (simp; done) | (simp; omega)) _) | refine Below.drew ?_))
  have p1 := ((Blk.new w #[.int .i64 side, .slice A ks.length c] 29).alloc (.cells #[.int .i64 t, .slice M l.length cm] 40)).alloc (.cells #[] 3)
  have p2 := (Blk.new (w.alloc (.cells #[.int .i64 side, .slice A ks.length c] 29)) #[.int .i64 t, .slice M l.length cm] 40).alloc (.cells #[] 3)
  have p3 := Blk.new ((w.alloc (.cells #[.int .i64 side, .slice A ks.length c] 29)).alloc (.cells #[.int .i64 t, .slice M l.length cm] 40)) #[] 3
  simp only [World.size_alloc] at p2 p3
  generalize hW0 : ((w.alloc _).alloc _).alloc _ = W0 at *
  clear hW0
  refine (specPosOk_any _ _ _ _ _ _ _ _ _ ((hR.below hb0).more hb0.size) ((hM.below hb0).more hb0.size) hsm hl).mono ?_
  rintro e w2 ⟨rfl, hb2⟩
  have p1' := p1.below hb2 p1.lt
  have p2' := p2.below hb2 p2.lt
  have hO' := In.Own.empty (base := w.heap.size + 1 + 1) (Nat.le_refl _) (p3.below hb2 p3.lt)
  have hb0' := hb0.trans (hb2.mono hb0.size)
  obtain ⟨⟨r0, r1⟩, _⟩ := p1'.at2
  obtain ⟨⟨o0, o1⟩, _⟩ := p2'.at2
  clear p1 p2 p3 hb0 hb2
  cases hp : posB side ks t l
  · have HP := Lib.hid (posHits_no (q := q) (fun h => by rw [hp] at h; cases h.1))
    clear hp
    go_wp2_with fail
    go_ret
    exact ⟨_, rfl, by rw [HP.out]; exact own_nil _ _, hb0'⟩
  cases hq : okB side q
  · have HP := Lib.hid (posHits_no (side := side) (ks := ks) (t := t) (l := l) (fun h => by rw [hq] at h; cases h.2))
    have HQ := Lib.hid hq
    clear hp hq
    go_wp2_with (go_at_call 51; refine (sp_sq_ok _ _ _).mono ?_; rw [HQ.out]; rintro e w' ⟨rfl, rfl⟩)
    go_ret
    exact ⟨_, rfl, by rw [HP.out]; exact own_nil _ _, hb0'⟩
  have HP := Lib.hid (posHits_yes ⟨hp, hq⟩)
  have HQ := Lib.hid hq
  obtain ⟨hok, hsh, _⟩ := posB_facts hp
  obtain ⟨_, hl4, _, _, hmen⟩ := shapeB_facts hsh
  have HMEN := Lib.hid hmen
  have HOK := Lib.hid hok
  clear hp hq hok hsh hmen
  go_wp2_with (go_at_call 51; refine (sp_sq_ok _ _ _).mono ?_; rw [HQ.out]; rintro e w' ⟨rfl, rfl⟩)
  go_loopw [7, 8] (fun x i wr => ∃ (j : Nat) (B : Option Addr) (d : Nat), j ≤ l.length ∧ i = .int .i64 j ∧ x = .slice B (hitsL side ks l q j).length d ∧ In.Own wr (w.heap.size + 1 + 1) (.slice B (hitsL side ks l q j).length d) (hitsL side ks l q j) ∧
    Blk wr w.heap.size #[.int .i64 side, .slice A ks.length c] 29 ∧ Blk wr (w.heap.size + 1) #[.int .i64 t, .slice M l.length cm] 40 ∧ Below w.heap.size w wr) (fun _ i _ => l.length - (intOf i).toNat)
  case atStart => exact ⟨0, some ⟨w.heap.size + 1 + 1, 0, none⟩, 0, by omega, rfl, rfl, hO', p1', p2', hb0'⟩
  case round =>
    clear p1' p2' hb0' hO' r0 r1 o0 o1
    obtain ⟨j, B, d, hj, rfl, rfl, hO, p1, p2, hbe⟩ := hrel
    by_cases hlt : j < l.length
    · obtain ⟨b, off, rfl, hB, hc⟩ := hM.below hbe (by omega)
      obtain ⟨s0, s1, s2⟩ := hc j hlt
      obtain ⟨⟨n1, n2⟩, ⟨n3, n4⟩, ⟨n5, n6⟩, _⟩ := HMEN.out j hlt
      obtain ⟨⟨r0, r1⟩, _⟩ := p1.at2
      obtain ⟨⟨o0, o1⟩, _⟩ := p2.at2
      have hz := hbe.size
      have z1 := p1.lt
      have z2 := p2.lt
      clear hc
      have z3 : b < wr.heap.size := by omega
      have hk0 : (0 : Int) ≤ (j : Int) := by omega
      have hk3 : (j : Int) < (l.length : Int) := by omega
      have t1 := (hR.below hbe).more hz
      have t2 := (hM.below hbe).more hz
      have hq0 : 0 ≤ q := (okB_yes HQ.out).2.1
      go_wp2_with fail
      cases hh : hitsB side l (kOf ks ⟨(stAt l j).dx, (stAt l j).dy, (stAt l j).far⟩).steps (stAt l j).far q
      · have HE := Lib.hid (hitsL_no (side := side) (ks := ks) (l := l) (k := j) (q := q) hh)
        have HI := Lib.hid hh
        clear hh
        refine wp_region_below (W := wr) (by kernel_rfl) (by kernel_rfl) (Below.refl _ _) ?_
        repeat (first
          | (refine qs_skip (by rfl) ?_; simp only [Act.put, List.setIfInBounds_toArray, List.set_cons_zero, List.set_cons_succ])
          | (apply qs_take
             focus rfl
             focus (
               intro wq hwq
               obtain ⟨hcq, hfq⟩ := bcell hwq
               go_simp
               all_goals first
                 | exact rfl
                 | (go_at_call 52; refine (l3Hits_any _ _ _ _ _ _ _ _ _ _ _ _ _ ((t1.below hwq).more hwq.size) ((t2.below hwq).more hwq.size) HOK.out ⟨n1, n2⟩ ⟨n5, n6⟩ hl hq0).mono ?_; rw [HI.out]; exact fun e w2 h => ⟨h.1, hwq.trans (h.2.mono hwq.size)⟩)
                 | (exact ⟨trivial, rfl⟩))
             simp only [Act.put, List.setIfInBounds_toArray, List.set_cons_zero, List.set_cons_succ]))
        refine wpQuiet_nil ?_
        intro wq hwq
        have p1 := p1.below hwq z1
        have p2 := p2.below hwq z2
        have hO5 := hO.below hwq
        have hb6 := hbe.trans (hwq.mono hz)
        have hsz6 := hb6.size
        clear hwq hO hbe t1 t2
        go_wp2_with fail
        go_roundw
        case rel =>
          have R : j + 1 ≤ l.length ∧ Value.int .i64 ((j : Int) + 1) = .int .i64 ((j + 1 : Nat) : Int) ∧ Value.slice B (hitsL side ks l q j).length d = .slice B (hitsL side ks l q (j + 1)).length d ∧ In.Own wq (w.heap.size + 1 + 1) (.slice B (hitsL side ks l q (j + 1)).length d) (hitsL side ks l q (j + 1)) ∧
            Blk wq w.heap.size #[.int .i64 side, .slice A ks.length c] 29 ∧ Blk wq (w.heap.size + 1) #[.int .i64 t, .slice (some ⟨b, off, none⟩) l.length cm] 40 ∧ Below w.heap.size w wq := ⟨by omega, by go_num, by rw [HE.out], by rw [HE.out]; exact hO5, p1, p2, hb6⟩
          first
            | exact ⟨j + 1, B, d, R⟩
            | ((repeat apply Exists.intro); exact ⟨⟨j + 1, B, d, R⟩, rfl⟩)
        case measure => simp [intOf]; omega
      · have HE := Lib.hid (hitsL_yes (side := side) (ks := ks) (l := l) (k := j) (q := q) hh)
        have HI := Lib.hid hh
        clear hh
        refine wp_region_below (W := wr) (by kernel_rfl) (by kernel_rfl) (Below.refl _ _) ?_
        repeat (first
          | (refine qs_skip (by rfl) ?_; simp only [Act.put, List.setIfInBounds_toArray, List.set_cons_zero, List.set_cons_succ])
          | (apply qs_take
             focus rfl
             focus (
               intro wq hwq
               obtain ⟨hcq, hfq⟩ := bcell hwq
               go_simp
               all_goals first
                 | exact rfl
                 | (go_at_call 52; refine (l3Hits_any _ _ _ _ _ _ _ _ _ _ _ _ _ ((t1.below hwq).more hwq.size) ((t2.below hwq).more hwq.size) HOK.out ⟨n1, n2⟩ ⟨n5, n6⟩ hl hq0).mono ?_; rw [HI.out]; exact fun e w2 h => ⟨h.1, hwq.trans (h.2.mono hwq.size)⟩)
                 | (exact ⟨trivial, rfl⟩))
             simp only [Act.put, List.setIfInBounds_toArray, List.set_cons_zero, List.set_cons_succ]))
        refine wpQuiet_nil ?_
        intro wq hwq
        have p1 := p1.below hwq z1
        have p2 := p2.below hwq z2
        have hO5 := hO.below hwq
        have hb6 := hbe.trans (hwq.mono hz)
        have hsz6 := hb6.size
        clear hwq hO hbe t1 t2
        have hlen := hitsL_len side ks l q j
        obtain ⟨i0, hi, hz0, hz1, hz2⟩ := info_parts infoInt
        have hmax : (hitsL side ks l q j).length + 1 ≤ maxLen := by unfold maxLen; omega
        have HO5 := Lib.hid hO5
        have HB6 := Lib.hid hb6
        have HP1 := Lib.hid p1
        have HP2 := Lib.hid p2
        have z5 := p2.lt
        clear hO5 hb6 p1 p2
        go_wp2_with (at_builtin; refine wpList_append_own _ rfl _ _ 44 rfl (w.heap.size + 1 + 1) 3 i0 (.int .i64 0) 1 8 Try.underlying44 hi hz0 hz1 hz2 rfl (by decide) _ _ _ rfl (World.ownsRow.alloc HO5.out _) ⟨wq.heap.size, 0, none⟩ 1 1 [.int .i64 j] rfl rfl (cell_one_new _ _ _) (fun u hu => by simp at hu; subst hu; rfl) hmax (by omega) (by simp; omega) ?_; intro v' w7 hown' hgrow7 hnil7)
        have hbG : Below (w.heap.size + 1 + 1) (wq.alloc (.cells #[.int .i64 (j : Int)] 3)) w7 := own_base (l := hitsL side ks l q j) (World.ownsRow.alloc HO5.out _) hgrow7 (Below.refl _ _) (Nat.le_refl _) (by simp; omega)
        have hO7 : In.Own w7 (w.heap.size + 1 + 1) v' (hitsL side ks l q (j + 1)) := by rw [HE.out]; exact own_grown hown'
        have hb7 : Below w.heap.size w w7 := (HB6.out.alloc hsz6 _).trans (hbG.mono (by omega))
        have p1 := (HP1.out.alloc (.cells #[.int .i64 (j : Int)] 3)).below hbG (by omega)
        have p2 := (HP2.out.alloc (.cells #[.int .i64 (j : Int)] 3)).below hbG (by omega)
        obtain ⟨B7, d7, hv7⟩ := hO7.slice
        subst hv7
        clear hown' hgrow7 hnil7 HO5 HB6 HP1 HP2 hbG
        go_roundw
        case rel =>
          have R : j + 1 ≤ l.length ∧ Value.int .i64 ((j : Int) + 1) = .int .i64 ((j + 1 : Nat) : Int) ∧ Value.slice B7 (hitsL side ks l q (j + 1)).length d7 = .slice B7 (hitsL side ks l q (j + 1)).length d7 ∧ In.Own w7 (w.heap.size + 1 + 1) (.slice B7 (hitsL side ks l q (j + 1)).length d7) (hitsL side ks l q (j + 1)) ∧
            Blk w7 w.heap.size #[.int .i64 side, .slice A ks.length c] 29 ∧ Blk w7 (w.heap.size + 1) #[.int .i64 t, .slice (some ⟨b, off, none⟩) l.length cm] 40 ∧ Below w.heap.size w w7 := ⟨by omega, by go_num, rfl, hO7, p1, p2, hb7⟩
          first
            | exact ⟨j + 1, B7, d7, R⟩
            | ((repeat apply Exists.intro); exact ⟨⟨j + 1, B7, d7, R⟩, rfl⟩)
        case measure => simp [intOf]; omega
    · obtain rfl : j = l.length := by omega
      obtain ⟨⟨o0, o1⟩, _⟩ := p2.at2
      go_wp2_with fail
      go_ret
      exact ⟨_, rfl, by rw [HP.out]; exact own_more hO (by omega), hbe⟩
end Go.Proofs.Ytnchjpjlabeabaa.Ko
