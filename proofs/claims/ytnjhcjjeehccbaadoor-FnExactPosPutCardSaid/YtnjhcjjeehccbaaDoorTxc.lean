/- A position as text, by the program: PosPut. -/
import Derived.Test.YtnjhcjjeehccbaaDoorTxb
import Derived.Test.YtnjhcjjeehccbaaDoorPw
import Derived.Test.YtnjhcjjeehccbaaDoorBu
import Derived.Test.YtnjhcjjeehccbaaDoorPk
namespace Go.Proofs.YtnjhcjjeehccbaaDoor.Ko
open Go.ChangeShapes Go.WideShapes Go.ChangeAt Go.RowKit Base Sq
set_option linter.unusedVariables false
set_option maxRecDepth 20000
attribute [local irreducible] wpQuiet

set_option maxHeartbeats 8000000 in
theorem posPut_any (side : Int) (A : Option Addr) (c : Nat) (ks : List Kd) (t : Int) (M : Option Addr) (cm : Nat) (l : List St) (w : World) (hR : IsKinds w w.heap.size A ks) (hM : IsSteps w w.heap.size M l) (hsm : Small ks) (hl : l.length ≤ 1048576) :
    Calls Tryd.prog 9 #[.agg #[.int .i64 side, .slice A ks.length c], .agg #[.int .i64 t, .slice M l.length cm]] w fun e w' => e = .returned (.string (txt (posT side ks t l))) ∧ Below w.heap.size w w' := by
  have hb0 : Below w.heap.size w ((w.alloc (.cells #[.int .i64 side, .slice A ks.length c] 33)).alloc (.cells #[.int .i64 t, .slice M l.length cm] 37)) := (by repeat (first | exact Below.refl _ _ | assumption | (refine Below.alloc ?_ (by first | omega | (simp; done) | (simp; omega)) _) | (refine Below.setCell ?_ (by first | omega | (simp; done) | (simp; omega)) _) | refine Below.drew ?_))
  have p1 := (Blk.new w #[.int .i64 side, .slice A ks.length c] 33).alloc (.cells #[.int .i64 t, .slice M l.length cm] 37)
  have p2 := Blk.new (w.alloc (.cells #[.int .i64 side, .slice A ks.length c] 33)) #[.int .i64 t, .slice M l.length cm] 37
  simp only [World.size_alloc] at p2
  have HT0 := Lib.hid (fun h => show posT side ks t l = [] from if_neg h)
  have HT1 := Lib.hid (fun h => show posT side ks t l = posU side ks t l from if_pos h)
  go_enter Tryd.func9, Tryd.ntmps9
  go_wp2_with fail
  generalize hW0 : (w.alloc _).alloc _ = W0 at *
  clear hW0
  refine (posOk_any _ _ _ _ _ _ _ _ _ ((hR.below hb0).more hb0.size) ((hM.below hb0).more hb0.size) hsm hl).mono ?_
  rintro e w2 ⟨rfl, hb2⟩
  have q1 := p1.below hb2 p1.lt
  have q2 := p2.below hb2 p2.lt
  have hbe := hb0.trans (hb2.mono hb0.size)
  clear p1 p2 hb0 hb2
  cases hp : posB side ks t l
  · have HV := Lib.hid (HT0.out (by rw [hp]; decide))
    clear hp HT0 HT1
    go_wp2_with fail
    go_ret
    exact ⟨by rw [HV.out]; rfl, hbe⟩
  · have HV := Lib.hid (HT1.out hp)
    obtain ⟨hok, hsh, _⟩ := posB_facts hp
    obtain ⟨ht, hl4, _, _, hmen⟩ := shapeB_facts hsh
    have HOK := Lib.hid hok
    have HMEN := Lib.hid hmen
    have HR := Lib.hid (hR.below hbe)
    have HM := Lib.hid (hM.below hbe)
    have HTD := Lib.hid (show t = 0 ∨ t = 1 by omega)
    have hz := hbe.size
    have z1 := q1.lt
    have z2 := q2.lt
    have HBB := Lib.hid (Bld.Is.fresh w2 w2.heap.size (Nat.le_refl _))
    have HA := Lib.hid (below_of w2 (.cells #[.pointer none, .slice none 0 0] 50))
    obtain ⟨⟨o0, o1⟩, _⟩ := (q2.alloc (.cells #[.pointer none, .slice none 0 0] 50)).at2
    have HQ1 := Lib.hid q1
    have HQ2 := Lib.hid q2
    have HBE := Lib.hid hbe
    clear hp HT0 HT1 hok hsh hmen hR hM hbe q1 q2
    go_wp2_with fail
    generalize hWb : w2.alloc _ = Wb at *
    clear hWb
    refine (sitoa_dig t (HTD.out.elim .inl (fun h => .inr (.inl h))) _).mono ?_
    rintro e w3 ⟨rfl, rfl⟩
    have hdt : (⟨#[UInt8.ofNat (48 + t.toNat)]⟩ : ByteArray) = txt [digU t] := rfl
    rw [hdt]
    clear hdt
    go_wp2_with fail
    refine (Bld.write_any w2.heap.size w2.heap.size [] (txt [digU t]) _ HBB.out (by show 0 + 1 ≤ _; omega) HA.out.size).mono ?_
    rintro e w4 ⟨rfl, hat4, hb4⟩
    have HAT := Lib.hid (show Bld.At w2.heap.size w2.heap.size (posUK side ks t l 0) w4 from hat4)
    have HB4 := Lib.hid (HA.out.trans hb4)
    clear hat4 hb4 o0 o1
    obtain ⟨⟨o0, o1⟩, _⟩ := (HQ2.out.below HB4.out z2).at2
    go_wp2_with fail
    go_loopw [19] (fun i wr => ∃ k : Nat, k ≤ l.length ∧ i = .int .i64 k ∧ Hid (Bld.At w2.heap.size w2.heap.size (posUK side ks t l k) wr) ∧ Hid (Below w2.heap.size w2 wr)) (fun i _ => l.length - (intOf i).toNat)
    case atStart => exact ⟨0, by omega, rfl, HAT, HB4⟩
    case round =>
      clear o0 o1
      obtain ⟨k, hk, rfl, hat, hb⟩ := hrel
      obtain ⟨⟨r0, r1⟩, _⟩ := (HQ1.out.below hb.out z1).at2
      have hzr := hb.out.size
      by_cases hlt : k < l.length
      · obtain ⟨b, off, rfl, hB, hc⟩ := HM.out.below (hb.out.mono hz) (by omega)
        obtain ⟨m0, m1, m2⟩ := hc k hlt
        obtain ⟨hx, _, hu, _⟩ := HMEN.out k hlt
        have HX := Lib.hid hx
        have HU := Lib.hid hu
        have hk0 : (0 : Int) ≤ (k : Int) := by omega
        have hk3 : (k : Int) < (l.length : Int) := by omega
        obtain ⟨s, hs⟩ : ∃ s, s = stAt l k := ⟨_, rfl⟩
        have hA := Lib.hid (below_of wr (.cells #[.int .i64 s.dx, .int .i64 s.dy, .int .i64 s.far] 57))
        have hba := Lib.hid (hb.out.trans (hA.out.mono hzr))
        have HNX := Lib.hid (posUK_next side ks t l k)
        rw [← hs] at m0 m1 m2 HX HU HNX
        have HQB := Lib.hid (HQ1.out.below hba.out z1)
        obtain ⟨⟨g0, g1⟩, _⟩ := HQB.out.at2
        have HKR := Lib.hid (((HR.out.below (hba.out.mono hz))).more (Nat.le_trans hz hba.out.size))
        have HAT2 := Lib.hid (Bld.Is.below (.inr hat.out) hA.out)
        clear hc hx hu hs r0 r1
        go_wp2_with fail
        generalize hWm : wr.alloc _ = Wm at *
        clear hWm
        refine (manText_any side A c ks s _ HKR.out HOK.out HX.out HU.out).mono ?_
        rintro e w6 ⟨rfl, hb6⟩
        have HB6 := Lib.hid hb6
        have HAT6 := Lib.hid (Bld.Is.below HAT2.out hb6)
        obtain ⟨T1, hT1⟩ : ∃ T1, T1 = txt (manU side ks s) := ⟨_, rfl⟩
        have ha1 : ∀ w', (Op.stringOp .add ⟨#[32]⟩ T1).run Tryd.prog w' = .ok (.string (⟨#[32]⟩ ++ T1)) w' := fun w' => run_string_add_sum _ _ _ (by rw [hT1, txt_size]; show 1 + 3 ≤ _; omega)
        have HTE := Lib.hid (show posUK side ks t l k ++ (⟨#[32]⟩ ++ T1 : ByteArray).data.toList = posUK side ks t l (k + 1) by
          rw [hT1, ← HNX.out]; simp [txt, ByteArray.data_append])
        have HTS := Lib.hid (show (⟨#[32]⟩ ++ T1 : ByteArray).size = 4 by rw [ByteArray.size_append, hT1, txt_size]; rfl)
        rw [← hT1]
        clear hT1 hb6 g0 g1
        go_wp2_with fail
        have hsz : (posUK side ks t l k).length + (⟨#[32]⟩ ++ T1 : ByteArray).size ≤ 140737488355328 := by rw [HTS.out, posUK_len]; omega
        have hle : w2.heap.size ≤ w6.heap.size := Nat.le_trans hba.out.size HB6.out.size
        have HW := Bld.write_any w2.heap.size w2.heap.size (posUK side ks t l k) (⟨#[32]⟩ ++ T1) w6 HAT6.out hsz hle
        clear hsz hle
        refine HW.mono ?_
        clear HW
        rintro e w7 ⟨rfl, hat7, hb7⟩
        rw [HTE.out] at hat7
        have HAT7 := Lib.hid hat7
        have HB7 := Lib.hid ((hba.out.trans (HB6.out.mono hba.out.size)).trans hb7)
        clear hat7 hb7
        go_wp2_with fail
        go_roundw
        case rel => exact ⟨k + 1, by omega, by go_num, HAT7, HB7⟩
        case measure => simp [intOf]; omega
      · obtain rfl : k = l.length := by omega
        clear r0 r1
        go_wp2_with fail
        refine (Bld.text_any w2.heap.size w2.heap.size (posU side ks t l) _ (.inr hat.out) (by unfold posU posUK; simp)).mono ?_
        rintro e w8 ⟨rfl, hb8⟩
        have HB8 := Lib.hid (HBE.out.trans ((hb.out.trans hb8).mono hz))
        clear hb8
        go_wp2_with fail
        go_ret
        exact ⟨by rw [HV.out]; rfl, HB8.out⟩
end Go.Proofs.YtnjhcjjeehccbaaDoor.Ko
