/- Whether a man attacks a square: the program's loop over the iterator; the model's loops. -/
import Derived.Test.YtcgfklljbblhlaaGreatDoorAt
namespace Go.Proofs.YtcgfklljbblhlaaGreatDoor.Ko
open Go.ChangeShapes Go.WideShapes Go.ChangeAt Go.RowKit Base Sq Rf
set_option linter.unusedVariables false
set_option maxRecDepth 20000
attribute [local go_sem] Oper.semAt_some
attribute [local irreducible] wpQuiet

theorem attacks_any (side : Int) (A : Option Addr) (c n : Nat) (M : Option Addr) (cm k : Nat) (dx dy far : Int) (w : World) (b : Nat) (hb : w.heap.size = b) :
    Calls Tryz.prog 109 #[.agg #[.int .i64 dx, .int .i64 dy, .int .i64 far], .agg #[.int .i64 side, .slice A n c], .slice M k cm] w fun e w' =>
      e = .returned (.func (.func 122) #[] #[.pointer (some ⟨b + 1, 0, none⟩), .pointer (some ⟨b, 0, none⟩), .pointer (some ⟨b + 2, 0, none⟩)]) ∧
      Blk w' b #[.int .i64 dx, .int .i64 dy, .int .i64 far] 105 ∧ Blk w' (b + 1) #[.int .i64 side, .slice A n c] 40 ∧ Blk w' (b + 2) #[.slice M k cm] 33 ∧ w'.heap.size = b + 3 ∧ Below b w w' := by
  subst hb
  go_enter Tryz.func109, Tryz.ntmps109
  go_wp2_with fail
  go_ret
  refine ⟨rfl, (((Blk.new w _ _).alloc _).alloc _), ?_, ?_, by simp, (by repeat (first | exact Below.refl _ _ | assumption | (refine Below.alloc ?_ (by first | omega | (simp; done) | (simp; omega)) _) | (refine Below.setCell ?_ (by first | omega | (simp; done) | (simp; omega)) _) | refine Below.drew ?_))⟩
  · have h := (Blk.new (w.alloc (.cells #[.int .i64 dx, .int .i64 dy, .int .i64 far] 105)) #[.int .i64 side, .slice A n c] 40).alloc (.cells #[.slice M k cm] 33)
    simpa using h
  · have h := Blk.new ((w.alloc (.cells #[.int .i64 dx, .int .i64 dy, .int .i64 far] 105)).alloc (.cells #[.int .i64 side, .slice A n c] 40)) #[.slice M k cm] 33
    simpa using h
theorem att_over (n : Nat) (hn : 1 ≤ n) (n₀ br bm bn : Nat) (side : Int) (A : Option Addr) (c : Nat) (ks : List Kd) (M : Option Addr) (cm : Nat) (l : List St) (m : St)
    (hok : rulesOk side ks = true) (hm : 0 ≤ m.dx ∧ m.dx < ks.length) (hq : 0 ≤ m.far ∧ m.far < side * side) (hl : l.length ≤ 1048576) (w : World) (hA : AttAt w n₀ br bm bn side A c ks M cm l m) :
    Over Fence.wide n Tryz.prog 122 #[.pointer (some ⟨br, 0, none⟩), .pointer (some ⟨bm, 0, none⟩), .pointer (some ⟨bn, 0, none⟩)] (fun x : Int => #[.int .i64 x]) (AttK n₀ br bm bn)
      (fun ys => ys = attL side l (kOf ks m).steps m.far (kOf ks m).steps.length) (fun pre => pre <+: attL side l (kOf ks m).steps m.far (kOf ks m).steps.length) (attL side l (kOf ks m).steps m.far (kOf ks m).steps.length).length w :=
  fun L J Jx W hW hJ _ hY h0 => att1_in n hn L n₀ br bm bn side A c ks M cm l m hok hm hq hl J Jx W hJ hY (hA.below hW hA.low hA.r.lt hA.m.lt hA.n.lt) h0

set_option maxRecDepth 100000 in
set_option maxHeartbeats 2000000 in
theorem hits_any (side : Int) (A : Option Addr) (c : Nat) (ks : List Kd) (M : Option Addr) (cm : Nat) (l : List St) (dx dy far q : Int) (w : World) (hR : IsKinds w w.heap.size A ks) (hM : IsSteps w w.heap.size M l)
    (hok : rulesOk side ks = true) (hm : 0 ≤ dx ∧ dx < ks.length) (hq : 0 ≤ far ∧ far < side * side) (hl : l.length ≤ 1048576) :
    Calls Tryz.prog 89 #[.agg #[.int .i64 dx, .int .i64 dy, .int .i64 far], .agg #[.int .i64 side, .slice A ks.length c], .slice M l.length cm, .int .i64 q] w fun e w' =>
      e = .returned (.bool (hitsB side l (kOf ks ⟨dx, dy, far⟩).steps far q)) ∧ Below w.heap.size w w' := by
  refine (callsIn_wide (n := 6)).1 ?_
  refine callsIn_of_wp_marks Tryz.func89 rfl trivial ?_ rfl
  simp only [Tryz.ntmps89, List.size_toArray, List.length_cons, List.length_nil, Nat.reduceAdd, Nat.reduceSub, Array.replicate_succ, Array.replicate_zero, List.push_toArray, List.append_toArray, List.nil_append, List.cons_append]
  gi_wp2
  have h3 := (Blk.new (((w.alloc (.cells #[.int .i64 dx, .int .i64 dy, .int .i64 far] 105)).alloc (.cells #[.int .i64 side, .slice A ks.length c] 40))) #[.int .i64 q] 3).alloc (.cells #[.bool false] 4)
  have h4 := Blk.new ((((w.alloc (.cells #[.int .i64 dx, .int .i64 dy, .int .i64 far] 105)).alloc (.cells #[.int .i64 side, .slice A ks.length c] 40))).alloc (.cells #[.int .i64 q] 3)) #[.bool false] 4
  simp only [World.size_alloc] at h3 h4
  have hw : Below w.heap.size w ((((w.alloc (.cells #[.int .i64 dx, .int .i64 dy, .int .i64 far] 105)).alloc (.cells #[.int .i64 side, .slice A ks.length c] 40)).alloc (.cells #[.int .i64 q] 3)).alloc (.cells #[.bool false] 4)) := (by repeat (first | exact Below.refl _ _ | assumption | (refine Below.alloc ?_ (by first | omega | (simp; done) | (simp; omega)) _) | (refine Below.setCell ?_ (by first | omega | (simp; done) | (simp; omega)) _) | refine Below.drew ?_))
  have hsz : ((((w.alloc (.cells #[.int .i64 dx, .int .i64 dy, .int .i64 far] 105)).alloc (.cells #[.int .i64 side, .slice A ks.length c] 40)).alloc (.cells #[.int .i64 q] 3)).alloc (.cells #[.bool false] 4)).heap.size = w.heap.size + 4 := by simp
  generalize hW4 : (((w.alloc _).alloc _).alloc _).alloc _ = W4 at *
  clear hW4
  refine ⟨trivial, (callsIn_wide.2 (attacks_any _ _ _ _ _ _ _ _ _ _ _ (w.heap.size + 4) hsz)).mono ?_⟩
  rintro e w' ⟨rfl, b1, b2, b3, hsz', hb⟩
  have h3 := h3.below hb (by omega)
  have h4 := h4.below hb (by omega)
  have hw := hw.trans (hb.mono (by omega))
  have hA : AttAt w' w.heap.size (w.heap.size + 4 + 1) (w.heap.size + 4) (w.heap.size + 4 + 2) side A c ks M cm l ⟨dx, dy, far⟩ := ⟨b2, b1, b3, hR.below hw, hM.below hw, by omega⟩
  clear hb hsz b1 b2 b3
  gi_wp2
  refine wp_over rfl (by omega) (gf := 122) (lb := #[.pointer (some ⟨w.heap.size + 4 + 1, 0, none⟩), .pointer (some ⟨w.heap.size + 4, 0, none⟩), .pointer (some ⟨w.heap.size + 4 + 2, 0, none⟩)]) rfl trivial (enters_of Tryz.func122 (by kernel_rfl) rfl)
    (att_over (6 - 1) (by omega) w.heap.size (w.heap.size + 4 + 1) (w.heap.size + 4) (w.heap.size + 4 + 2) side A c ks M cm l ⟨dx, dy, far⟩ hok hm hq hl w' hA) (fun b hb => by unfold AttK at hb; omega) (Below.refl _ _) (fun _ => rfl)
    (fun pre W => ((∀ y ∈ pre, y ≠ q) ∧ Blk W (w.heap.size + 1 + 1) #[.int .i64 q] 3 ∧ Blk W (w.heap.size + 1 + 1 + 1) #[.bool false] 4) ∧ Below w.heap.size w W)
    (fun c pre W => (c = .ret ∧ q ∈ pre ∧ Blk W (w.heap.size + 1 + 1 + 1) #[.bool true] 4) ∧ Below w.heap.size w W)
    (fun s X Y h hb => ⟨⟨h.1.1, h.1.2.1.below hb (by omega), h.1.2.2.below hb (by omega)⟩, h.2.trans (hb.mono (by omega))⟩)
    (fun c s X Y h hb => ⟨⟨h.1.1, h.1.2.1, h.1.2.2.below hb (by omega)⟩, h.2.trans (hb.mono (by omega))⟩)
    ⟨⟨by simp, h3, h4⟩, hw⟩
    (fun x => { tmps := #[.agg #[.int .i64 dx, .int .i64 dy, .int .i64 far], .agg #[.int .i64 side, .slice A ks.length c], .slice M l.length cm, .int .i64 q, .pointer (some ⟨w.heap.size, 0, none⟩), .pointer (some ⟨w.heap.size + 1, 0, none⟩), undef, .pointer (some ⟨w.heap.size + 1 + 1, 0, none⟩), .pointer (some ⟨w.heap.size + 1 + 1 + 1, 0, none⟩), .int .i64 x,
      .agg #[.int .i64 dx, .int .i64 dy, .int .i64 far], .agg #[.int .i64 side, .slice A ks.length c], .slice M l.length cm, .func (.func 122) #[] #[.pointer (some ⟨w.heap.size + 4 + 1, 0, none⟩), .pointer (some ⟨w.heap.size + 4, 0, none⟩), .pointer (some ⟨w.heap.size + 4 + 2, 0, none⟩)], .int .i64 x, undef, undef, undef], defers := [] }) ?assign ?body ?done ?stop
  case assign =>
    intro l x W K hK
    gi_wp2
    exact hK
  case body =>
    rintro L pre x W ⟨⟨hp, g3, g4⟩, hB⟩ _ hz _
    obtain ⟨q0, _⟩ := g3.at1
    obtain ⟨r0, f0⟩ := g4.at1
    by_cases hx : x = q
    · subst hx
      gi_wp2
      exact ⟨Kept.setCell _ _ _ (by unfold AttK; first | (simp; done) | (simp; omega)) (by first | (simp; done) | (simp; omega)), ⟨rfl, by simp, g4.set1 _⟩, hB.setCell (by simp; omega) _⟩
    · have hd : (x == q) = false := by simpa using hx
      have HX := Lib.hid hx
      clear hx
      gi_wp2
      exact ⟨Kept.refl _ _ _, ⟨fun y hy => (List.mem_append.1 hy).elim (hp y) (fun e => by simp at e; subst e; exact HX.out), g3, g4⟩, hB⟩
  case done =>
    rintro D ys W hD rfl ⟨⟨hne, _, g4⟩, hB⟩ hK
    obtain ⟨r0, f0⟩ := g4.at1
    gi_wp2
    have hK' := (KeepsOthers.setCell W ⟨w.heap.size + 1 + 1 + 1, 0, none⟩ (.bool false)).same D _ hK rfl
    have hlt := (Array.getElem?_eq_some_iff.1 hK').1
    refine ⟨by simp, .inl ⟨_, _, rfl, run_takeDeferred hK', ?_⟩⟩
    have g5 := ((g4.set1 (.bool false)).below (put_below (B := w.heap.size + 7) (.deferred none) (by omega) hlt) (by omega)).at1.1
    refine ⟨.bool false, ?_, rb (decide_eq_false (fun h => hne q h rfl)).symm, (hB.setCell (p := ⟨w.heap.size + 1 + 1 + 1, 0, none⟩) (by simp; omega) _).trans (put_below _ (by omega) hlt)⟩
    simp [results, Tryz.f89, go_sem, g5]
  case stop =>
    rintro D c pre W hD hpre ⟨⟨rfl, hin, g4⟩, hB⟩ hK
    gi_wp2
    have hlt := (Array.getElem?_eq_some_iff.1 hK).1
    refine ⟨by simp, .inl ⟨_, _, rfl, run_takeDeferred hK, ?_⟩⟩
    have g5 := (g4.below (put_below (B := w.heap.size + 7) (.deferred none) (by omega) hlt) (by omega)).at1.1
    refine ⟨.bool true, ?_, rb (decide_eq_true (hpre.subset hin)).symm, hB.trans (put_below _ (by omega) hlt)⟩
    simp [results, Tryz.f89, go_sem, g5]

theorem l1Go_next (s a dx dy : Int) (w : World) (hs : s = 2 ∨ s = 3 ∨ s = 4) (ha : 0 ≤ a ∧ a < s * s) (hdx : -2 ≤ dx ∧ dx ≤ 2) (hdy : -2 ≤ dy ∧ dy ≤ 2) :
    Calls Tryz.prog 95 #[.int .i64 s, .int .i64 a, .int .i64 dx, .int .i64 dy] w fun e w' => e = .returned (.int .i64 (nextV s a dx dy)) ∧ w = w' :=
  l1Go_any s a dx dy w hs (by rcases hs with rfl | rfl | rfl <;> omega) (by omega) (by omega)
theorem nextV_bd {s a dx dy : Int} (hs : s = 2 ∨ s = 3 ∨ s = 4) (ha : 0 ≤ a ∧ a < s * s) : nextV s a dx dy = -1 ∨ (0 ≤ nextV s a dx dy ∧ nextV s a dx dy < s * s) := by
  by_cases h : 0 ≤ a % s + dx ∧ a % s + dx < s ∧ 0 ≤ a / s + dy ∧ a / s + dy < s
  · exact .inr (nextV_in hs ha h).2.1
  · exact .inl (nextV_out h)

set_option maxRecDepth 100000 in
set_option maxHeartbeats 4000000 in
theorem l3Hits_any (side : Int) (A : Option Addr) (c : Nat) (ks : List Kd) (t : Int) (M : Option Addr) (cm : Nat) (l : List St) (dx dy far q : Int) (w : World) (hR : IsKinds w w.heap.size A ks) (hM : IsSteps w w.heap.size M l)
    (hok : rulesOk side ks = true) (hm : 0 ≤ dx ∧ dx < ks.length) (hq : 0 ≤ far ∧ far < side * side) (hl : l.length ≤ 1048576) (hq0 : 0 ≤ q) :
    Calls Tryz.prog 73 #[.agg #[.int .i64 side, .slice A ks.length c], .agg #[.int .i64 t, .slice M l.length cm], .agg #[.int .i64 dx, .int .i64 dy, .int .i64 far], .int .i64 q] w fun e w' =>
      e = .returned (.bool (hitsB side l (kOf ks ⟨dx, dy, far⟩).steps far q)) ∧ Below w.heap.size w w' := by
  obtain ⟨hs, hk1, hk4, _, hst⟩ := rulesOk_facts hok
  obtain ⟨hm1, hm2⟩ := hm
  obtain ⟨b, off, rfl, hB, hc⟩ := hR (by omega)
  obtain ⟨S, cc, c0, c1, c2, hS⟩ := hc dx.toNat (by omega)
  obtain ⟨hlen, hstep⟩ := hst dx.toNat (by omega)
  change IsSteps w w.heap.size S (kOf ks ⟨dx, dy, far⟩).steps at hS
  change (kOf ks ⟨dx, dy, far⟩).steps.length ≤ 8 at hlen
  change w.cell? _ = some (.slice S (kOf ks ⟨dx, dy, far⟩).steps.length cc) at c2
  have hstep' : ∀ i, i < (kOf ks ⟨dx, dy, far⟩).steps.length → (-2 ≤ (stAt (kOf ks ⟨dx, dy, far⟩).steps i).dx ∧ (stAt (kOf ks ⟨dx, dy, far⟩).steps i).dx ≤ 2) ∧ (-2 ≤ (stAt (kOf ks ⟨dx, dy, far⟩).steps i).dy ∧ (stAt (kOf ks ⟨dx, dy, far⟩).steps i).dy ≤ 2) ∧ 1 ≤ (stAt (kOf ks ⟨dx, dy, far⟩).steps i).far ∧ (stAt (kOf ks ⟨dx, dy, far⟩).steps i).far ≤ 3 := hstep
  have HST := Lib.hid hstep'
  have HHS := Lib.hid hs
  clear hc hst hok hstep hstep' c0 c1
  generalize hsteps : (kOf ks ⟨dx, dy, far⟩).steps = st at *
  clear hsteps
  have HY := Lib.hid (fun k => hitsB_yes (s := side) (l := l) (steps := st) (a := far) (q := q) (k := k))
  have HN := Lib.hid (hitsB_no (s := side) (l := l) (steps := st) (a := far) (q := q))
  have hB1 : b < w.heap.size + 1 := by omega
  have hB2' : b < w.heap.size + 1 + 1 := by omega
  go_enter Tryz.func73, Tryz.ntmps73
  go_wp2_with fail
  have p1 := ((Blk.new w #[.int .i64 side, .slice (some ⟨b, off, none⟩) ks.length c] 40).alloc (.cells #[.int .i64 t, .slice M l.length cm] 35)).alloc (.cells #[.int .i64 dx, .int .i64 dy, .int .i64 far] 105)
  have p2 := (Blk.new (w.alloc (.cells #[.int .i64 side, .slice (some ⟨b, off, none⟩) ks.length c] 40)) #[.int .i64 t, .slice M l.length cm] 35).alloc (.cells #[.int .i64 dx, .int .i64 dy, .int .i64 far] 105)
  have p3 := Blk.new ((w.alloc (.cells #[.int .i64 side, .slice (some ⟨b, off, none⟩) ks.length c] 40)).alloc (.cells #[.int .i64 t, .slice M l.length cm] 35)) #[.int .i64 dx, .int .i64 dy, .int .i64 far] 105
  simp only [World.size_alloc] at p2 p3
  go_loopw [10] (fun i wr => ∃ k : Nat, k ≤ st.length ∧ i = .int .i64 k ∧ Hid (∀ j, j < k → q ∉ stepL side l (stAt st j) far) ∧
    Blk wr w.heap.size #[.int .i64 side, .slice (some ⟨b, off, none⟩) ks.length c] 40 ∧ Blk wr (w.heap.size + 1) #[.int .i64 t, .slice M l.length cm] 35 ∧ Blk wr (w.heap.size + 1 + 1) #[.int .i64 dx, .int .i64 dy, .int .i64 far] 105 ∧ Below w.heap.size w wr) (fun i _ => st.length - (intOf i).toNat)
  case atStart => exact ⟨0, by omega, rfl, Lib.hid (fun j hj => absurd hj (by omega)), p1, p2, p3, (by repeat (first | exact Below.refl _ _ | assumption | (refine Below.alloc ?_ (by first | omega | (simp; done) | (simp; omega)) _) | (refine Below.setCell ?_ (by first | omega | (simp; done) | (simp; omega)) _) | refine Below.drew ?_))⟩
  case round =>
    clear p1 p2 p3
    obtain ⟨k, hk, rfl, hg, p1, p2, p3, hbe⟩ := hrel
    by_cases hlt : k < st.length
    · obtain ⟨b', off', rfl, hB', hc'⟩ := (hS.below hbe) (by omega)
      obtain ⟨s0, s1, s2⟩ := hc' k hlt
      obtain ⟨⟨m0, m1, m2⟩, _⟩ := p3.at3
      obtain ⟨⟨d1, d2⟩, ⟨d3, d4⟩, d5, d6⟩ := HST.out k hlt
      clear hc' s0 s1 s2
      go_wp2_with fail
      go_loopw [11, 12] (fun x i wr => ∃ (j : Nat) (a : Int), j ≤ (stAt st k).far.toNat ∧ i = .int .i64 j ∧ x = .int .i64 a ∧ Hid (0 ≤ a ∧ a < side * side) ∧ Hid (j = 0 ∨ a ≠ q) ∧ Hid (q ∈ stepL side l (stAt st k) far ↔ q ∈ rayL side l (stAt st k).dx (stAt st k).dy ((stAt st k).far.toNat - j) a) ∧
        Blk wr w.heap.size #[.int .i64 side, .slice (some ⟨b, off, none⟩) ks.length c] 40 ∧ Blk wr (w.heap.size + 1) #[.int .i64 t, .slice M l.length cm] 35 ∧ Blk wr (w.heap.size + 1 + 1) #[.int .i64 dx, .int .i64 dy, .int .i64 far] 105 ∧ Below w.heap.size w wr) (fun _ i _ => (stAt st k).far.toNat - (intOf i).toNat)
      case atStart => exact ⟨0, far, by omega, rfl, rfl, Lib.hid hq, Lib.hid (.inl rfl), Lib.hid (by simp [stepL]), p1, p2, p3, hbe⟩
      case round =>
        clear p1 p2 p3 hbe m0 m1 m2
        obtain ⟨j, a, hj1, rfl, rfl, HA, HQ, HT, p1, p2, p3, hbe⟩ := hrel
        obtain ⟨b2, off2, hA2, hB2, hc2⟩ := (hS.below hbe) (by omega)
        obtain ⟨rfl, rfl⟩ : b' = b2 ∧ off' = off2 := by injection hA2 with hA2; injection hA2 with h1 h2; exact ⟨h1, h2⟩
        obtain ⟨s0, s1, s2⟩ := hc2 k hlt
        obtain ⟨⟨r0, r1⟩, _⟩ := p1.at2
        obtain ⟨⟨o0, o1⟩, _⟩ := p2.at2
        have hz := hbe.size
        have z0 : b' < wr.heap.size := by omega
        have z1 := p1.lt
        have z2 := p2.lt
        have z3 := p3.lt
        have hk0 : (0 : Int) ≤ (k : Int) := by omega
        have hk3 : (k : Int) < (st.length : Int) := by omega
        clear hA2 hc2
        by_cases hjl : j < (stAt st k).far.toNat
        · obtain ⟨j', hj'⟩ : ∃ j', (stAt st k).far.toNat - j = j' + 1 := ⟨(stAt st k).far.toNat - j - 1, by omega⟩
          have HB := Lib.hid (nextV_bd (dx := (stAt st k).dx) (dy := (stAt st k).dy) HHS.out HA.out)
          have HF := Lib.hid (rayL_off (s := side) (l := l) (dx := (stAt st k).dx) (dy := (stAt st k).dy) (n := j') (a := a))
          have HO := Lib.hid (rayL_on (s := side) (l := l) (dx := (stAt st k).dx) (dy := (stAt st k).dy) (n := j') (a := a))
          have HL := Lib.hid (rayL_last (s := side) (l := l) (dx := (stAt st k).dx) (dy := (stAt st k).dy) (n := j') (a := a))
          go_wp2_with fail
          refine wp_region_below (W := wr) (by kernel_rfl) (by kernel_rfl) (Below.refl _ _) ?_
          repeat (first
            | (refine qs_skip (by rfl) ?_; simp only [Act.put, List.setIfInBounds_toArray, List.set_cons_zero, List.set_cons_succ])
            | (apply qs_take
               focus rfl
               focus (
                 intro wq hwq
                 obtain ⟨hcq, hfq⟩ := bcell hwq
                 go_simp
                 all_goals first
                   | exact rfl
                   | (go_at_call 95; refine (l1Go_next _ _ _ _ _ HHS.out HA.out ⟨d1, d2⟩ ⟨d3, d4⟩).mono ?_; exact fun e w2 h => ⟨h.1, h.2 ▸ hwq⟩)
                   | (exact ⟨trivial, rfl⟩))
               simp only [Act.put, List.setIfInBounds_toArray, List.set_cons_zero, List.set_cons_succ]))
          refine wpQuiet_nil ?_
          intro wq hwq
          have p1 := p1.below hwq z1
          have p2 := p2.below hwq z2
          have p3 := p3.below hwq z3
          have hbe := hbe.trans (hwq.mono hz)
          clear s0 s1 s2 r0 r1 o0 o1 z0 z1 z2 z3 hz hwq
          obtain ⟨⟨o0, o1⟩, _⟩ := p2.at2
          by_cases hneg : nextV side a (stAt st k).dx (stAt st k).dy < 0
          · have hne : (nextV side a (stAt st k).dx (stAt st k).dy == q) = false := by simp; omega
            have hnot : q ∉ stepL side l (stAt st k) far := fun h => by have h := HT.out.1 h; rw [hj', HF.out hneg] at h; simp at h
            have HNT := Lib.hid hnot
            have hd : decide (nextV side a (stAt st k).dx (stAt st k).dy < 0) = true := decide_eq_true hneg
            clear hnot
            go_wp2_with fail
            go_roundw
            case rel => exact ⟨k + 1, by omega, by go_num, Lib.hid (all_succ hg.out HNT.out), p1, p2, p3, hbe⟩
            case measure => simp [intOf]; omega
          · have hd : decide (nextV side a (stAt st k).dx (stAt st k).dy < 0) = false := decide_eq_false hneg
            have HB2 : Hid (0 ≤ nextV side a (stAt st k).dx (stAt st k).dy ∧ nextV side a (stAt st k).dx (stAt st k).dy < side * side) := Lib.hid (by
              rcases HB.out with h | h
              · omega
              · exact h)
            have HNG := Lib.hid hneg
            clear hneg
            by_cases hqq : nextV side a (stAt st k).dx (stAt st k).dy = q
            · have hin : q ∈ stepL side l (stAt st k) far := HT.out.2 (by
                rw [hj']
                by_cases hmm : manV l (nextV side a (stAt st k).dx (stAt st k).dy) = -1
                · rw [HO.out (by have := HNG.out; omega) hmm]; simp [hqq]
                · rw [HL.out (by have := HNG.out; omega) hmm]; simp [hqq])
              have HIN := Lib.hid (HY.out k hlt hin)
              have hne : (nextV side a (stAt st k).dx (stAt st k).dy == q) = true := by simpa using hqq
              clear hin hqq
              go_wp2_with fail
              go_ret
              exact ⟨rb HIN.out.symm, hbe⟩
            · have hne : (nextV side a (stAt st k).dx (stAt st k).dy == q) = false := by simpa using hqq
              have HQQ := Lib.hid hqq
              clear hqq
              go_wp2_with fail
              refine (l3Man_any _ _ _ _ _ _ ((hM.below hbe).more hbe.size) hl).mono ?_
              rintro e w5 ⟨rfl, hb5⟩
              have p1 := p1.below hb5 p1.lt
              have p2 := p2.below hb5 p2.lt
              have p3 := p3.below hb5 p3.lt
              have hbe := hbe.trans (hb5.mono hbe.size)
              have HMB := Lib.hid (manV_bd l (nextV side a (stAt st k).dx (stAt st k).dy))
              clear hb5
              by_cases hmm : manV l (nextV side a (stAt st k).dx (stAt st k).dy) = -1
              · have hm0 : manV l (nextV side a (stAt st k).dx (stAt st k).dy) < 0 := by omega
                have HMM := Lib.hid hmm
                clear hmm
                go_wp2_with fail
                go_roundw
                case rel =>
                  refine ⟨j + 1, nextV side a (stAt st k).dx (stAt st k).dy, by omega, by go_num, rfl, HB2, Lib.hid (.inr HQQ.out), Lib.hid ?_, p1, p2, p3, hbe⟩
                  rw [HT.out, hj', HO.out (by have := HNG.out; omega) HMM.out, show (stAt st k).far.toNat - (j + 1) = j' by omega, List.mem_cons]
                  exact ⟨fun h => h.elim (fun e => absurd e.symm HQQ.out) id, .inr⟩
                case measure => simp [intOf]; omega
              · have hm0 : 0 ≤ manV l (nextV side a (stAt st k).dx (stAt st k).dy) := by have := HMB.out; omega
                have hnot : q ∉ stepL side l (stAt st k) far := fun h => by
                  have h := HT.out.1 h
                  rw [hj', HL.out (by have := HNG.out; omega) hmm] at h
                  exact HQQ.out (List.mem_singleton.1 h).symm
                have HNT := Lib.hid hnot
                have hm1q : ((-1 : Int) == q) = false := by simp; omega
                clear hmm hnot
                go_wp2_with fail
                go_roundw
                case rel => exact ⟨k + 1, by omega, by go_num, Lib.hid (all_succ hg.out HNT.out), p1, p2, p3, hbe⟩
                case measure => simp [intOf]; omega
        · obtain rfl : j = (stAt st k).far.toNat := by omega
          have hnot : q ∉ stepL side l (stAt st k) far := fun h => by have h := HT.out.1 h; rw [Nat.sub_self] at h; simp [rayL] at h
          have HNT := Lib.hid hnot
          have hne : (a == q) = false := by
            rcases HQ.out with h | h
            · omega
            · simpa using h
          clear hnot
          go_wp2_with fail
          go_roundw
          case rel => exact ⟨k + 1, by omega, by go_num, Lib.hid (all_succ hg.out HNT.out), p1, p2, p3, hbe⟩
          case measure => simp [intOf]; omega
    · obtain rfl : k = st.length := by omega
      go_wp2_with fail
      go_ret
      exact ⟨rb (HN.out hg.out).symm, hbe⟩
end Go.Proofs.YtcgfklljbblhlaaGreatDoor.Ko
