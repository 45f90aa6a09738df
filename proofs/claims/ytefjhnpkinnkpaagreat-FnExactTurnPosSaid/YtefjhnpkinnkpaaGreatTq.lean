/- TurnPos of the program. -/
import Derived.Test.YtefjhnpkinnkpaaGreatTn
namespace Go.Proofs.YtefjhnpkinnkpaaGreat.Ko
open Go.ChangeShapes Go.WideShapes Go.ChangeAt Go.RowKit Base Sq
set_option linter.unusedVariables false
set_option maxRecDepth 20000
attribute [local irreducible] wpQuiet

theorem idx_any (bs b0 kn : Nat) (W : World) (h : kn < 8) : Sem.run Tryz.prog (Instr.index 54 (.agg (arrK bs b0 8)) (.int .i64 (kn : Int))) W = .ok (.func (.func 48) #[] #[.pointer (some ⟨bs, 0, none⟩), .pointer (some ⟨b0 + kn, 0, none⟩)]) W := by
  rcases (show kn = 0 ∨ kn = 1 ∨ kn = 2 ∨ kn = 3 ∨ kn = 4 ∨ kn = 5 ∨ kn = 6 ∨ kn = 7 by omega) with rfl | rfl | rfl | rfl | rfl | rfl | rfl | rfl <;> kernel_rfl

set_option maxHeartbeats 4000000 in
theorem turnPos_any (side : Int) (A : Option Addr) (c : Nat) (ks : List Kd) (k t : Int) (M : Option Addr) (cm : Nat) (l : List St) (w : World) (hR : IsKinds w w.heap.size A ks) (hM : IsSteps w w.heap.size M l)
    (hsm : Small ks) (hl : l.length ≤ 1048576) :
    Calls Tryz.prog 9 #[.agg #[.int .i64 side, .slice A ks.length c], .int .i64 k, .agg #[.int .i64 t, .slice M l.length cm]] w fun e w' => TurnPost w w' side ks k t l e := by
  go_enter Tryz.func9, Tryz.ntmps9
  go_wp2_with fail
  have hb0 : Below w.heap.size w (((w.alloc (.cells #[.int .i64 side, .slice A ks.length c] 37)).alloc (.cells #[.int .i64 t, .slice M l.length cm] 32)).alloc (.cells #[.int .i64 0, .slice none 0 0] 32)) := (by repeat (first | exact Below.refl _ _ | assumption | (refine Below.alloc ?_ (by first | omega | (simp; done) | (simp; omega)) _) | (refine Below.setCell ?_ (by first | omega | (simp; done) | (simp; omega)) _) | refine Below.drew ?_))
  have p1 := ((Blk.new w #[.int .i64 side, .slice A ks.length c] 37).alloc (.cells #[.int .i64 t, .slice M l.length cm] 32)).alloc (.cells #[.int .i64 0, .slice none 0 0] 32)
  have p2 := (Blk.new (w.alloc (.cells #[.int .i64 side, .slice A ks.length c] 37)) #[.int .i64 t, .slice M l.length cm] 32).alloc (.cells #[.int .i64 0, .slice none 0 0] 32)
  have p4 := Blk.new ((w.alloc (.cells #[.int .i64 side, .slice A ks.length c] 37)).alloc (.cells #[.int .i64 t, .slice M l.length cm] 32)) #[.int .i64 0, .slice none 0 0] 32
  simp only [World.size_alloc] at p2 p4
  generalize hW0 : ((w.alloc _).alloc _).alloc _ = W0 at *
  clear hW0
  refine (posOk_any _ _ _ _ _ _ _ _ _ ((hR.below hb0).more hb0.size) ((hM.below hb0).more hb0.size) hsm hl).mono ?_
  rintro e w2 ⟨rfl, hb2⟩
  have p1' := p1.below hb2 p1.lt
  have p2' := p2.below hb2 p2.lt
  have p4' := p4.below hb2 p4.lt
  have hb0' := hb0.trans (hb2.mono hb0.size)
  obtain ⟨⟨r0, r1⟩, _⟩ := p1'.at2
  obtain ⟨⟨o0, o1⟩, _⟩ := p2'.at2
  obtain ⟨⟨u0, u1⟩, ⟨u2, u3⟩⟩ := p4'.at2
  clear p1 p2 p4 hb0 hb2
  have hfin : ∀ w' : World, Blk w' (w.heap.size + 1 + 1) #[.int .i64 0, .slice none 0 0] 32 → Below w.heap.size w w' →
      tpB side ks k t l = false → TurnPost w ((w'.setCell ⟨w.heap.size + 1 + 1, 0, none⟩ (.int .i64 0)).setCell ⟨w.heap.size + 1 + 1, 1, none⟩ (.slice none 0 0)) side ks k t l (.returned (.tuple #[.agg #[.int .i64 0, .slice none 0 0], .bool false])) := fun w' hk hb hn => by
    obtain ⟨e1, e2⟩ := tp_no hn
    refine ⟨none, 0, by rw [e1, e2, hn]; rfl, by rw [e2]; exact MenA.nil _ _ _ _, (hb.setCell (by show w.heap.size ≤ w.heap.size + 1 + 1; omega) _).setCell (by show w.heap.size ≤ w.heap.size + 1 + 1; omega) _⟩
  have HFIN := Lib.hid hfin
  clear hfin
  cases hp : posB side ks t l
  · have HP := Lib.hid (tpB_bad (k := k) hp)
    clear hp
    go_wp2_with fail
    refine bodyPost_ret (v := .tuple #[.agg #[.int .i64 0, .slice none 0 0], .bool false]) ?_ rfl (HFIN.out _ p4' hb0' HP.out)
    obtain ⟨⟨d0, d1⟩, _⟩ := (p4'.set2 (.int .i64 0) (.slice none 0 0)).at2
    simp [results, Tryz.results9, go_sem, d0, d1]
  · obtain ⟨hok, hsh, _⟩ := posB_facts hp
    have hs := (rulesOk_facts hok).1
    have HP := Lib.hid hp
    have HO := Lib.hid hok
    have HS := Lib.hid hsh
    have HSS := Lib.hid hs
    have hpos : 0 < l.length := by
      obtain ⟨kk, hkk, _⟩ := kingAt_some (shapeB_facts hsh).2.2.1
      omega
    clear hp hok hsh hs
    go_wp2_with fail
    refine (rulesEven_any _ _ _ _ _ _ ((hR.below hb0').more hb0'.size) hsm).mono ?_
    rintro e w3 ⟨rfl, hb3⟩
    have p1 := p1'.below hb3 p1'.lt
    have p2 := p2'.below hb3 p2'.lt
    have p4 := p4'.below hb3 p4'.lt
    have hb0 := hb0'.trans (hb3.mono hb0'.size)
    clear p1' p2' p4' hb0' hb3 r0 r1 o0 o1 u0 u1 u2 u3
    obtain ⟨⟨r0, r1⟩, _⟩ := p1.at2
    obtain ⟨⟨o0, o1⟩, _⟩ := p2.at2
    obtain ⟨⟨u0, u1⟩, ⟨u2, u3⟩⟩ := p4.at2
    cases hev : rulesEven side ks k
    · have HN := Lib.hid (tpB_odd (t := t) (l := l) hev)
      clear hev
      go_wp2_with fail
      refine bodyPost_ret (v := .tuple #[.agg #[.int .i64 0, .slice none 0 0], .bool false]) ?_ rfl (HFIN.out _ p4 hb0 HN.out)
      obtain ⟨⟨d0, d1⟩, _⟩ := (p4.set2 (.int .i64 0) (.slice none 0 0)).at2
      simp [results, Tryz.results9, go_sem, d0, d1]
    · have HN := Lib.hid (tpB_ok HP.out hev)
      have HK := Lib.hid (rulesEven_turn hev)
      clear hev
      obtain ⟨kn, hkn⟩ := Int.eq_ofNat_of_zero_le HK.out.1
      subst hkn
      have hk8 : kn < 8 := by have := HK.out.2; omega
      have hidx := fun bs b0 W => idx_any bs b0 kn W hk8
      have hk0 : (0 : Int) ≤ (kn : Int) := by omega
      have hk9 : (kn : Int) < 8 := by omega
      have HP1 := Lib.hid p1
      have HP2 := Lib.hid p2
      have HP4 := Lib.hid p4
      have HBE := Lib.hid hb0
      have HMX := Lib.hid ((hM.below hb0).more hb0.size)
      have z1 := p1.lt
      have z2 := p2.lt
      have z4 := p4.lt
      have hz := hb0.size
      clear p1 p2 p4 hb0
      go_wp2_with fail
      have HSF : Hid (∀ w', Blk w' w.heap.size #[.int .i64 side, .slice A ks.length c] 37 → Blk w' (w.heap.size + 1) #[.int .i64 t, .slice M l.length cm] 32 → (w'.cell? ⟨w.heap.size, 0, none⟩ = some (.int .i64 side) ∧ w'.cell? ⟨w.heap.size, 1, none⟩ = some (.slice A ks.length c) ∧ w'.cell? ⟨w.heap.size + 1, 0, none⟩ = some (.int .i64 t) ∧ w'.cell? ⟨w.heap.size + 1, 1, none⟩ = some (.slice M l.length cm))) := Lib.hid (fun w' h1 h5 => by
        obtain ⟨⟨a0, a1⟩, _⟩ := h1.at2
        obtain ⟨⟨b0, b1⟩, _⟩ := h5.at2
        exact ⟨a0, a1, b0, b1⟩)
      clear r0 r1 o0 o1 u0 u1 u2 u3
      have hw : Below w3.heap.size w3 w3.drew := (Below.refl _ _).drew
      obtain ⟨⟨c0, c1⟩, ⟨c2, c3⟩⟩ := (HP4.out.below hw z4).at2
      go_region_held3 (fun w' => w'.cell? ⟨w.heap.size, 0, none⟩ = some (.int .i64 side) ∧ w'.cell? ⟨w.heap.size, 1, none⟩ = some (.slice A ks.length c) ∧ w'.cell? ⟨w.heap.size + 1, 0, none⟩ = some (.int .i64 t) ∧ w'.cell? ⟨w.heap.size + 1, 1, none⟩ = some (.slice M l.length cm))
        (first
          | exact HSF.out _ (HP1.out.below hw z1) (HP2.out.below hw z2)
          | exact HSF.out _ (((HP1.out.below hw z1).other _ _ (by show w.heap.size ≠ w.heap.size + 1 + 1; omega)).other _ _ (by show w.heap.size ≠ w.heap.size + 1 + 1; omega)) (((HP2.out.below hw z2).other _ _ (by show w.heap.size + 1 ≠ w.heap.size + 1 + 1; omega)).other _ _ (by show w.heap.size + 1 ≠ w.heap.size + 1 + 1; omega)))
        (first
          | (go_at_call 25; refine (turnsOf_any _ _).mono ?_; rintro e wa ⟨rfl, hsd, hkd, hba⟩; have hw := hw.trans (hba.mono hw.size))
          | (go_at_call 24; refine (turnMen_any _ _ _ side (kn : Int) t ks _ _ _ ((HMX.out.below hw).more hw.size) hpos HS.out HSS.out HK.out hsd (hkd kn hk8)).mono ?_; rintro e wb ⟨Aa, ca, rfl, hna, hbb⟩; have hzx := hw.size; have hw := hw.trans (hbb.mono hw.size); obtain ⟨⟨c0, c1⟩, ⟨c2, c3⟩⟩ := (HP4.out.below hw z4).at2))
      all_goals
        go_wp2_with fail
        have p4q := HP4.out.below hw z4
        have hbq := HBE.out.trans (hw.mono hz)
        obtain ⟨e1, e2⟩ := tp_yes HN.out
        refine bodyPost_ret (v := .tuple #[.agg #[.int .i64 t, .slice Aa (tsL side kn l).length ca], .bool true]) ?_ rfl ⟨Aa, ca, ?_, ?_, ?_⟩
        · obtain ⟨⟨d0, d1⟩, _⟩ := (p4q.set2 (.int .i64 t) (.slice Aa (tsL side kn l).length ca)).at2
          simp [results, Tryz.results9, go_sem, d0, d1]
        · rw [e1, e2, HN.out]
        · rw [e2]
          exact fun hn => by
            obtain ⟨gg, cc', rfl, g1, g2, g3, g4, g5⟩ := hna hn
            exact ⟨gg, cc', rfl, by omega, by simpa [size_set] using g2, (g3.other _ _ (by show gg ≠ w.heap.size + 1 + 1; omega)).other _ _ (by show gg ≠ w.heap.size + 1 + 1; omega), g4, g5⟩
        · exact (hbq.setCell (by show w.heap.size ≤ w.heap.size + 1 + 1; omega) _).setCell (by show w.heap.size ≤ w.heap.size + 1 + 1; omega) _
end Go.Proofs.YtefjhnpkinnkpaaGreat.Ko
