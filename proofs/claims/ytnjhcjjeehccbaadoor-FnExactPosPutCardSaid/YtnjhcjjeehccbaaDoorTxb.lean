/- A position as text, by the program: Man.text. -/
import Derived.Test.YtnjhcjjeehccbaaDoorTxa
import Derived.Test.YtnjhcjjeehccbaaDoorPw
import Derived.Test.YtnjhcjjeehccbaaDoorBu
import Derived.Test.YtnjhcjjeehccbaaDoorPk
namespace Go.Proofs.YtnjhcjjeehccbaaDoor.Ko
open Go.ChangeShapes Go.WideShapes Go.ChangeAt Go.RowKit Base Sq
set_option linter.unusedVariables false
set_option maxRecDepth 20000
attribute [local irreducible] wpQuiet

theorem man_eq {side : Int} {ks : List Kd} {s : St} {nm c r : Int} (hn : nm = nameN ks s) (h0 : 0 ≤ nm) (hc : s.far % side = c) (hr : s.far / side = r) : strOfNums [nm] ++ putS c r = txt (manU side ks s) := by
  rw [str_one nm h0, putS_txt, txt_cat, ← hc, ← hr, hn]
  simp [manU, nameU, sqU]

set_option maxHeartbeats 8000000 in
theorem manText_any (side : Int) (A : Option Addr) (c : Nat) (ks : List Kd) (s : St) (w : World) (hR : IsKinds w w.heap.size A ks) (hok : rulesOk side ks = true) (hx : 0 ≤ s.dx ∧ s.dx < ks.length) (hf : 0 ≤ s.far ∧ s.far < side * side) :
    Calls Tryd.prog 21 #[.agg #[.int .i64 s.dx, .int .i64 s.dy, .int .i64 s.far], .agg #[.int .i64 side, .slice A ks.length c]] w fun e w' => e = .returned (.string (txt (manU side ks s))) ∧ Below w.heap.size w w' := by
  obtain ⟨bk, offk, rfl, hBk, hck⟩ := hR (by omega)
  obtain ⟨S, cc, kc0, _, _, _⟩ := hck s.dx.toNat (by omega)
  obtain ⟨nm, hnm⟩ : ∃ nm, nm = (kAt ks s.dx.toNat).name := ⟨_, rfl⟩
  have hnb : 65 ≤ nm ∧ nm ≤ 90 := by rw [hnm]; exact name_bd hok (s := s) hx
  have HNM := Lib.hid (show nm = (kOf ks s).name from hnm)
  rw [← hnm] at kc0
  have hwr : IntKind.u8.wrap nm = nm := by unfold IntKind.wrap; simp [IntKind.bits, IntKind.signed]; omega
  have hwr2 : IntKind.u8.wrap (nm + 32) = nm + 32 := by unfold IntKind.wrap; simp [IntKind.bits, IntKind.signed]; omega
  obtain ⟨x1, x2⟩ := hx
  have HOB := Lib.hid (mem_okB (a := s.far) (rulesOk_facts hok).1 hf)
  have HME := Lib.hid (fun (x : Int) h0 h1 => man_eq (side := side) (ks := ks) (s := s) (nm := x) h0 h1 rfl rfl)
  have hb0 : Below w.heap.size w ((w.alloc (.cells #[.int .i64 s.dx, .int .i64 s.dy, .int .i64 s.far] 57)).alloc (.cells #[.int .i64 side, .slice (some ⟨bk, offk, none⟩) ks.length c] 33)) := (by repeat (first | exact Below.refl _ _ | assumption | (refine Below.alloc ?_ (by first | omega | (simp; done) | (simp; omega)) _) | (refine Below.setCell ?_ (by first | omega | (simp; done) | (simp; omega)) _) | refine Below.drew ?_))
  have p1 := (Blk.new w #[.int .i64 s.dx, .int .i64 s.dy, .int .i64 s.far] 57).alloc (.cells #[.int .i64 side, .slice (some ⟨bk, offk, none⟩) ks.length c] 33)
  have p2 := Blk.new (w.alloc (.cells #[.int .i64 s.dx, .int .i64 s.dy, .int .i64 s.far] 57)) #[.int .i64 side, .slice (some ⟨bk, offk, none⟩) ks.length c] 33
  simp only [World.size_alloc] at p2
  have kc0 := (hb0.cell (p := ⟨bk, _, none⟩) hBk).trans kc0
  have hz := hb0.size
  clear hck hnm hR hf hok
  by_cases ho : s.dy = 1
  · have hd : (s.dy == 1) = true := by simp [ho]
    have HNX := Lib.hid (HME.out (nm + 32) (by unfold nameN; rw [if_pos ho, HNM.out]) (by omega))
    have ha3 : ∀ c r w', (Op.stringOp .add (strOfNums [nm + 32]) (putS c r)).run Tryd.prog w' = .ok (.string (strOfNums [nm + 32] ++ putS c r)) w' := fun c r w' => run_string_add_sum _ _ _ (by show 1 + 2 ≤ _; omega)
    clear ho hnb
    go_enter Tryd.func21, Tryd.ntmps21
    go_wp2_with fail
    generalize hW0 : (w.alloc _).alloc _ = W0 at *
    clear hW0
    obtain ⟨⟨a0, a1, a2⟩, _⟩ := p1.at3
    obtain ⟨⟨r0, r1⟩, _⟩ := p2.at2
    have z1 := p1.lt
    have z2 := p2.lt
    have HS : Hid (∀ w', Below W0.heap.size W0 w' → (w'.cell? ⟨w.heap.size + 1, 0, none⟩ = some (.int .i64 side) ∧ w'.cell? ⟨w.heap.size, 2, none⟩ = some (.int .i64 s.far))) := Lib.hid (fun w' hb => by
      obtain ⟨⟨_, _, b2⟩, _⟩ := (p1.below hb z1).at3
      obtain ⟨⟨b0, _⟩, _⟩ := (p2.below hb z2).at2
      exact ⟨b0, b2⟩)
    have HBE := Lib.hid hb0
    have hw : Below W0.heap.size W0 W0.drew := (Below.refl _ _).drew
    have hc2 := fun x => conv1d W0 x
    clear p1 p2 hb0
    refine wp_region_held_drew (S := (fun w' => w'.cell? ⟨w.heap.size + 1, 0, none⟩ = some (.int .i64 side) ∧ w'.cell? ⟨w.heap.size, 2, none⟩ = some (.int .i64 s.far))) (by kernel_rfl) ?hrg1S (fun hHeld => ?hrg1g)
    case hrg1S => (try dsimp only); (exact HS.out _ hw)
    refine wpAnyH_take (i := 0) (oi := _) (v := ?hrg2v) rfl (by kernel_rfl) (by kernel_rfl) (by kernel_rfl) (fun _ _ _ h => h) (Or.inl ⟨by rfl, ?hrg2y⟩) (by assumption) ?hrg2r
    case hrg2y => (intro w hSw; (try dsimp only at hSw); go_simp; all_goals (with_reducible rfl))
    (try simp only [Act.put]); (try simp only [List.getElem_toArray]); (try simp only [List.getElem_cons_succ]); (try simp only [List.getElem_cons_zero]); (try simp only [List.setIfInBounds_toArray]); (try simp only [List.set_cons_succ]); (try simp only [List.set_cons_zero])
    refine wpAnyH_take (i := 3) (oi := _) (v := ?hrg3v) rfl (by kernel_rfl) (by kernel_rfl) (by kernel_rfl) (fun _ _ _ h => h) (Or.inl ⟨by rfl, ?hrg3y⟩) (by assumption) ?hrg3r
    case hrg3y => (intro w hSw; (try dsimp only at hSw); go_simp; all_goals (with_reducible rfl))
    (try simp only [Act.put]); (try simp only [List.getElem_toArray]); (try simp only [List.getElem_cons_succ]); (try simp only [List.getElem_cons_zero]); (try simp only [List.setIfInBounds_toArray]); (try simp only [List.set_cons_succ]); (try simp only [List.set_cons_zero])
    refine wpAnyH_take (i := 4) (oi := _) (v := ?hrg4v) rfl (by kernel_rfl) (by kernel_rfl) (by kernel_rfl) (fun _ _ _ h => h) (Or.inl ⟨by rfl, ?hrg4y⟩) (by assumption) ?hrg4r
    case hrg4y => (intro w hSw; (try dsimp only at hSw); go_simp; all_goals (with_reducible rfl))
    (try simp only [Act.put]); (try simp only [List.getElem_toArray]); (try simp only [List.getElem_cons_succ]); (try simp only [List.getElem_cons_zero]); (try simp only [List.setIfInBounds_toArray]); (try simp only [List.set_cons_succ]); (try simp only [List.set_cons_zero])
    refine wpAnyH_take (i := 5) (oi := _) (v := ?hrg5v) rfl (by kernel_rfl) (by kernel_rfl) (by kernel_rfl) (fun _ _ _ h => h) (Or.inl ⟨by rfl, ?hrg5y⟩) (by assumption) ?hrg5r
    case hrg5y => (intro w hSw; (try dsimp only at hSw); go_simp; all_goals (with_reducible rfl))
    (try simp only [Act.put]); (try simp only [List.getElem_toArray]); (try simp only [List.getElem_cons_succ]); (try simp only [List.getElem_cons_zero]); (try simp only [List.setIfInBounds_toArray]); (try simp only [List.set_cons_succ]); (try simp only [List.set_cons_zero])
    refine wpAnyH_take (i := 6) (oi := _) (v := ?hrg6v) rfl (by kernel_rfl) (by kernel_rfl) (by kernel_rfl) (fun _ _ _ h => h) (Or.inl ⟨by rfl, ?hrg6y⟩) (by assumption) ?hrg6r
    case hrg6y => (intro w hSw; (try dsimp only at hSw); go_simp; all_goals (with_reducible rfl))
    (try simp only [Act.put]); (try simp only [List.getElem_toArray]); (try simp only [List.getElem_cons_succ]); (try simp only [List.getElem_cons_zero]); (try simp only [List.setIfInBounds_toArray]); (try simp only [List.set_cons_succ]); (try simp only [List.set_cons_zero])
    refine wpAnyH_ready (rs := [1, 7]) (by kernel_rfl) (by simp) ?_
    refine (AllReadyH.cons (o := _) rfl (fun K hK => ?hrg7_1) (AllReadyH.cons (o := _) rfl (fun K hK => ?hrg7_7) AllReadyH.nil))
    case' hrg7_1 =>
      go_simp
      refine hK.out _ _ ?hrg8S (fun hHeld => ?hrg8g)
      case hrg8S => (try dsimp only); (exact HS.out _ (below_of W0 _).drew)
      clear hK K
      (try simp only [Act.put]); (try simp only [List.getElem_toArray]); (try simp only [List.getElem_cons_succ]); (try simp only [List.getElem_cons_zero]); (try simp only [List.setIfInBounds_toArray]); (try simp only [List.set_cons_succ]); (try simp only [List.set_cons_zero])
      refine wpAnyH_ready (rs := [2, 7]) (by kernel_rfl) (by simp) ?_
      refine (AllReadyH.cons (o := _) rfl (fun K hK => ?hrg9_2) (AllReadyH.cons (o := _) rfl (fun K hK => ?hrg9_7) AllReadyH.nil))
      case' hrg9_2 =>
        go_simp
        refine hK.out _ _ ?hrg10S (fun hHeld => ?hrg10g)
        case hrg10S => (try dsimp only); (exact HS.out _ (below_of W0 _).drew)
        clear hK K
        (try simp only [Act.put]); (try simp only [List.getElem_toArray]); (try simp only [List.getElem_cons_succ]); (try simp only [List.getElem_cons_zero]); (try simp only [List.setIfInBounds_toArray]); (try simp only [List.set_cons_succ]); (try simp only [List.set_cons_zero])
        refine wpAnyH_ready (rs := [7]) (by kernel_rfl) (by simp) ?_
        refine (AllReadyH.cons (o := _) rfl (fun K hK => ?hrg11_7) AllReadyH.nil)
        case' hrg11_7 =>
          go_simp; go_at_call 38; refine (squarePut_yes _ _ _ HOB.out).mono ?_; rintro e w5 ⟨rfl, hb5⟩; have hw5 : Below W0.heap.size W0 w5 := (below_of W0 (.cells #[.int .u8 (nm + 32)] 5)).drew.trans (hb5.mono (by show W0.heap.size ≤ _; simp)); have hc5 := conv_at (nm + 32) w5 W0.heap.size ((Blk.below (Blk.drew (Blk.new W0 #[.int .u8 (nm + 32)] 5)) hb5 (by simp)).cell 0)
          refine hK.out _ _ ?hrg12S (fun hHeld => ?hrg12g)
          case hrg12S => (try dsimp only); (exact HS.out _ hw5)
          clear hK K
          (try simp only [Act.put]); (try simp only [List.getElem_toArray]); (try simp only [List.getElem_cons_succ]); (try simp only [List.getElem_cons_zero]); (try simp only [List.setIfInBounds_toArray]); (try simp only [List.set_cons_succ]); (try simp only [List.set_cons_zero])
          refine wpAnyH_take (i := 8) (oi := _) (v := ?hrg13v) rfl (by kernel_rfl) (by kernel_rfl) (by kernel_rfl) (fun _ _ _ h => h) (Or.inl ⟨by rfl, ?hrg13y⟩) (by assumption) ?hrg13r
          case hrg13y => (intro w hSw; (try dsimp only at hSw); go_simp; all_goals (with_reducible rfl))
          (try simp only [Act.put]); (try simp only [List.getElem_toArray]); (try simp only [List.getElem_cons_succ]); (try simp only [List.getElem_cons_zero]); (try simp only [List.setIfInBounds_toArray]); (try simp only [List.set_cons_succ]); (try simp only [List.set_cons_zero])
          refine wpAnyH_take (i := 9) (oi := _) (v := ?hrg14v) rfl (by kernel_rfl) (by kernel_rfl) (by kernel_rfl) (fun _ _ _ h => h) (Or.inl ⟨by rfl, ?hrg14y⟩) (by assumption) ?hrg14r
          case hrg14y => (intro w hSw; (try dsimp only at hSw); go_simp; all_goals (with_reducible rfl))
          (try simp only [Act.put]); (try simp only [List.getElem_toArray]); (try simp only [List.getElem_cons_succ]); (try simp only [List.getElem_cons_zero]); (try simp only [List.setIfInBounds_toArray]); (try simp only [List.set_cons_succ]); (try simp only [List.set_cons_zero])
          refine wpAnyH_done (by kernel_rfl) ?_ _
      case' hrg9_7 =>
        go_simp; go_at_call 38; refine (squarePut_yes _ _ _ HOB.out).mono ?_; rintro e w5 ⟨rfl, hb5⟩; have hw5 : Below W0.heap.size W0 w5 := (below_of W0 (.cells #[.int .u8 (nm + 32)] 5)).drew.trans (hb5.mono (by show W0.heap.size ≤ _; simp)); have hc5 := conv_at (nm + 32) w5 W0.heap.size ((Blk.below (Blk.drew (Blk.new W0 #[.int .u8 (nm + 32)] 5)) hb5 (by simp)).cell 0)
        refine hK.out _ _ ?hrg15S (fun hHeld => ?hrg15g)
        case hrg15S => (try dsimp only); (exact HS.out _ hw5)
        clear hK K
        (try simp only [Act.put]); (try simp only [List.getElem_toArray]); (try simp only [List.getElem_cons_succ]); (try simp only [List.getElem_cons_zero]); (try simp only [List.setIfInBounds_toArray]); (try simp only [List.set_cons_succ]); (try simp only [List.set_cons_zero])
        refine wpAnyH_ready (rs := [2]) (by kernel_rfl) (by simp) ?_
        refine (AllReadyH.cons (o := _) rfl (fun K hK => ?hrg16_2) AllReadyH.nil)
        case' hrg16_2 =>
          go_simp
          refine hK.out _ _ ?hrg17S (fun hHeld => ?hrg17g)
          case hrg17S => (try dsimp only); (exact HS.out _ hw5)
          clear hK K
          (try simp only [Act.put]); (try simp only [List.getElem_toArray]); (try simp only [List.getElem_cons_succ]); (try simp only [List.getElem_cons_zero]); (try simp only [List.setIfInBounds_toArray]); (try simp only [List.set_cons_succ]); (try simp only [List.set_cons_zero])
          refine wpAnyH_take (i := 8) (oi := _) (v := ?hrg18v) rfl (by kernel_rfl) (by kernel_rfl) (by kernel_rfl) (fun _ _ _ h => h) (Or.inl ⟨by rfl, ?hrg18y⟩) (by assumption) ?hrg18r
          case hrg18y => (intro w hSw; (try dsimp only at hSw); go_simp; all_goals (with_reducible rfl))
          (try simp only [Act.put]); (try simp only [List.getElem_toArray]); (try simp only [List.getElem_cons_succ]); (try simp only [List.getElem_cons_zero]); (try simp only [List.setIfInBounds_toArray]); (try simp only [List.set_cons_succ]); (try simp only [List.set_cons_zero])
          refine wpAnyH_take (i := 9) (oi := _) (v := ?hrg19v) rfl (by kernel_rfl) (by kernel_rfl) (by kernel_rfl) (fun _ _ _ h => h) (Or.inl ⟨by rfl, ?hrg19y⟩) (by assumption) ?hrg19r
          case hrg19y => (intro w hSw; (try dsimp only at hSw); go_simp; all_goals (with_reducible rfl))
          (try simp only [Act.put]); (try simp only [List.getElem_toArray]); (try simp only [List.getElem_cons_succ]); (try simp only [List.getElem_cons_zero]); (try simp only [List.setIfInBounds_toArray]); (try simp only [List.set_cons_succ]); (try simp only [List.set_cons_zero])
          refine wpAnyH_done (by kernel_rfl) ?_ _
    case' hrg7_7 =>
      go_simp; go_at_call 38; refine (squarePut_yes _ _ _ HOB.out).mono ?_; rintro e w5 ⟨rfl, hb5⟩; have hw5 : Below W0.heap.size W0 w5 := hw.trans (hb5.mono (Nat.le_refl _)); have hc3 := (fun x => conv1 w5 x)
      refine hK.out _ _ ?hrg20S (fun hHeld => ?hrg20g)
      case hrg20S => (try dsimp only); (exact HS.out _ hw5)
      clear hK K
      (try simp only [Act.put]); (try simp only [List.getElem_toArray]); (try simp only [List.getElem_cons_succ]); (try simp only [List.getElem_cons_zero]); (try simp only [List.setIfInBounds_toArray]); (try simp only [List.set_cons_succ]); (try simp only [List.set_cons_zero])
      refine wpAnyH_ready (rs := [1]) (by kernel_rfl) (by simp) ?_
      refine (AllReadyH.cons (o := _) rfl (fun K hK => ?hrg21_1) AllReadyH.nil)
      case' hrg21_1 =>
        go_simp
        refine hK.out _ _ ?hrg22S (fun hHeld => ?hrg22g)
        case hrg22S => (try dsimp only); (exact HS.out _ (hw5.alloc hw5.size _))
        clear hK K
        (try simp only [Act.put]); (try simp only [List.getElem_toArray]); (try simp only [List.getElem_cons_succ]); (try simp only [List.getElem_cons_zero]); (try simp only [List.setIfInBounds_toArray]); (try simp only [List.set_cons_succ]); (try simp only [List.set_cons_zero])
        refine wpAnyH_ready (rs := [2]) (by kernel_rfl) (by simp) ?_
        refine (AllReadyH.cons (o := _) rfl (fun K hK => ?hrg23_2) AllReadyH.nil)
        case' hrg23_2 =>
          go_simp
          refine hK.out _ _ ?hrg24S (fun hHeld => ?hrg24g)
          case hrg24S => (try dsimp only); (exact HS.out _ (hw5.alloc hw5.size _))
          clear hK K
          (try simp only [Act.put]); (try simp only [List.getElem_toArray]); (try simp only [List.getElem_cons_succ]); (try simp only [List.getElem_cons_zero]); (try simp only [List.setIfInBounds_toArray]); (try simp only [List.set_cons_succ]); (try simp only [List.set_cons_zero])
          refine wpAnyH_take (i := 8) (oi := _) (v := ?hrg25v) rfl (by kernel_rfl) (by kernel_rfl) (by kernel_rfl) (fun _ _ _ h => h) (Or.inl ⟨by rfl, ?hrg25y⟩) (by assumption) ?hrg25r
          case hrg25y => (intro w hSw; (try dsimp only at hSw); go_simp; all_goals (with_reducible rfl))
          (try simp only [Act.put]); (try simp only [List.getElem_toArray]); (try simp only [List.getElem_cons_succ]); (try simp only [List.getElem_cons_zero]); (try simp only [List.setIfInBounds_toArray]); (try simp only [List.set_cons_succ]); (try simp only [List.set_cons_zero])
          refine wpAnyH_take (i := 9) (oi := _) (v := ?hrg26v) rfl (by kernel_rfl) (by kernel_rfl) (by kernel_rfl) (fun _ _ _ h => h) (Or.inl ⟨by rfl, ?hrg26y⟩) (by assumption) ?hrg26r
          case hrg26y => (intro w hSw; (try dsimp only at hSw); go_simp; all_goals (with_reducible rfl))
          (try simp only [Act.put]); (try simp only [List.getElem_toArray]); (try simp only [List.getElem_cons_succ]); (try simp only [List.getElem_cons_zero]); (try simp only [List.setIfInBounds_toArray]); (try simp only [List.set_cons_succ]); (try simp only [List.set_cons_zero])
          refine wpAnyH_done (by kernel_rfl) ?_ _
    all_goals
      go_wp2_with fail
      go_ret
      exact ⟨congrArg (fun x => Ending.returned (Value.string x)) HNX.out, HBE.out.trans (Below.mono (by first | exact hw5 | exact hw5.alloc hw5.size _) hz)⟩
  · have hd : (s.dy == 1) = false := by simp [ho]
    have HNX := Lib.hid (HME.out nm (by unfold nameN; rw [if_neg ho, HNM.out]; omega) (by omega))
    have ha3 : ∀ c r w', (Op.stringOp .add (strOfNums [nm]) (putS c r)).run Tryd.prog w' = .ok (.string (strOfNums [nm] ++ putS c r)) w' := fun c r w' => run_string_add_sum _ _ _ (by show 1 + 2 ≤ _; omega)
    clear ho hnb
    go_enter Tryd.func21, Tryd.ntmps21
    go_wp2_with fail
    generalize hW0 : (w.alloc _).alloc _ = W0 at *
    clear hW0
    obtain ⟨⟨a0, a1, a2⟩, _⟩ := p1.at3
    obtain ⟨⟨r0, r1⟩, _⟩ := p2.at2
    have z1 := p1.lt
    have z2 := p2.lt
    have HS : Hid (∀ w', Below W0.heap.size W0 w' → (w'.cell? ⟨w.heap.size + 1, 0, none⟩ = some (.int .i64 side) ∧ w'.cell? ⟨w.heap.size, 2, none⟩ = some (.int .i64 s.far))) := Lib.hid (fun w' hb => by
      obtain ⟨⟨_, _, b2⟩, _⟩ := (p1.below hb z1).at3
      obtain ⟨⟨b0, _⟩, _⟩ := (p2.below hb z2).at2
      exact ⟨b0, b2⟩)
    have HBE := Lib.hid hb0
    have hw : Below W0.heap.size W0 W0.drew := (Below.refl _ _).drew
    have hc2 := fun x => conv1d W0 x
    clear p1 p2 hb0
    refine wp_region_held_drew (S := (fun w' => w'.cell? ⟨w.heap.size + 1, 0, none⟩ = some (.int .i64 side) ∧ w'.cell? ⟨w.heap.size, 2, none⟩ = some (.int .i64 s.far))) (by kernel_rfl) ?hrg27S (fun hHeld => ?hrg27g)
    case hrg27S => (try dsimp only); (exact HS.out _ hw)
    refine wpAnyH_take (i := 0) (oi := _) (v := ?hrg28v) rfl (by kernel_rfl) (by kernel_rfl) (by kernel_rfl) (fun _ _ _ h => h) (Or.inl ⟨by rfl, ?hrg28y⟩) (by assumption) ?hrg28r
    case hrg28y => (intro w hSw; (try dsimp only at hSw); go_simp; all_goals (with_reducible rfl))
    (try simp only [Act.put]); (try simp only [List.getElem_toArray]); (try simp only [List.getElem_cons_succ]); (try simp only [List.getElem_cons_zero]); (try simp only [List.setIfInBounds_toArray]); (try simp only [List.set_cons_succ]); (try simp only [List.set_cons_zero])
    refine wpAnyH_take (i := 3) (oi := _) (v := ?hrg29v) rfl (by kernel_rfl) (by kernel_rfl) (by kernel_rfl) (fun _ _ _ h => h) (Or.inl ⟨by rfl, ?hrg29y⟩) (by assumption) ?hrg29r
    case hrg29y => (intro w hSw; (try dsimp only at hSw); go_simp; all_goals (with_reducible rfl))
    (try simp only [Act.put]); (try simp only [List.getElem_toArray]); (try simp only [List.getElem_cons_succ]); (try simp only [List.getElem_cons_zero]); (try simp only [List.setIfInBounds_toArray]); (try simp only [List.set_cons_succ]); (try simp only [List.set_cons_zero])
    refine wpAnyH_take (i := 4) (oi := _) (v := ?hrg30v) rfl (by kernel_rfl) (by kernel_rfl) (by kernel_rfl) (fun _ _ _ h => h) (Or.inl ⟨by rfl, ?hrg30y⟩) (by assumption) ?hrg30r
    case hrg30y => (intro w hSw; (try dsimp only at hSw); go_simp; all_goals (with_reducible rfl))
    (try simp only [Act.put]); (try simp only [List.getElem_toArray]); (try simp only [List.getElem_cons_succ]); (try simp only [List.getElem_cons_zero]); (try simp only [List.setIfInBounds_toArray]); (try simp only [List.set_cons_succ]); (try simp only [List.set_cons_zero])
    refine wpAnyH_take (i := 5) (oi := _) (v := ?hrg31v) rfl (by kernel_rfl) (by kernel_rfl) (by kernel_rfl) (fun _ _ _ h => h) (Or.inl ⟨by rfl, ?hrg31y⟩) (by assumption) ?hrg31r
    case hrg31y => (intro w hSw; (try dsimp only at hSw); go_simp; all_goals (with_reducible rfl))
    (try simp only [Act.put]); (try simp only [List.getElem_toArray]); (try simp only [List.getElem_cons_succ]); (try simp only [List.getElem_cons_zero]); (try simp only [List.setIfInBounds_toArray]); (try simp only [List.set_cons_succ]); (try simp only [List.set_cons_zero])
    refine wpAnyH_take (i := 6) (oi := _) (v := ?hrg32v) rfl (by kernel_rfl) (by kernel_rfl) (by kernel_rfl) (fun _ _ _ h => h) (Or.inl ⟨by rfl, ?hrg32y⟩) (by assumption) ?hrg32r
    case hrg32y => (intro w hSw; (try dsimp only at hSw); go_simp; all_goals (with_reducible rfl))
    (try simp only [Act.put]); (try simp only [List.getElem_toArray]); (try simp only [List.getElem_cons_succ]); (try simp only [List.getElem_cons_zero]); (try simp only [List.setIfInBounds_toArray]); (try simp only [List.set_cons_succ]); (try simp only [List.set_cons_zero])
    refine wpAnyH_ready (rs := [1, 7]) (by kernel_rfl) (by simp) ?_
    refine (AllReadyH.cons (o := _) rfl (fun K hK => ?hrg33_1) (AllReadyH.cons (o := _) rfl (fun K hK => ?hrg33_7) AllReadyH.nil))
    case' hrg33_1 =>
      go_simp
      refine hK.out _ _ ?hrg34S (fun hHeld => ?hrg34g)
      case hrg34S => (try dsimp only); (exact HS.out _ (below_of W0 _).drew)
      clear hK K
      (try simp only [Act.put]); (try simp only [List.getElem_toArray]); (try simp only [List.getElem_cons_succ]); (try simp only [List.getElem_cons_zero]); (try simp only [List.setIfInBounds_toArray]); (try simp only [List.set_cons_succ]); (try simp only [List.set_cons_zero])
      refine wpAnyH_ready (rs := [2, 7]) (by kernel_rfl) (by simp) ?_
      refine (AllReadyH.cons (o := _) rfl (fun K hK => ?hrg35_2) (AllReadyH.cons (o := _) rfl (fun K hK => ?hrg35_7) AllReadyH.nil))
      case' hrg35_2 =>
        go_simp
        refine hK.out _ _ ?hrg36S (fun hHeld => ?hrg36g)
        case hrg36S => (try dsimp only); (exact HS.out _ (below_of W0 _).drew)
        clear hK K
        (try simp only [Act.put]); (try simp only [List.getElem_toArray]); (try simp only [List.getElem_cons_succ]); (try simp only [List.getElem_cons_zero]); (try simp only [List.setIfInBounds_toArray]); (try simp only [List.set_cons_succ]); (try simp only [List.set_cons_zero])
        refine wpAnyH_ready (rs := [7]) (by kernel_rfl) (by simp) ?_
        refine (AllReadyH.cons (o := _) rfl (fun K hK => ?hrg37_7) AllReadyH.nil)
        case' hrg37_7 =>
          go_simp; go_at_call 38; refine (squarePut_yes _ _ _ HOB.out).mono ?_; rintro e w5 ⟨rfl, hb5⟩; have hw5 : Below W0.heap.size W0 w5 := (below_of W0 (.cells #[.int .u8 (nm)] 5)).drew.trans (hb5.mono (by show W0.heap.size ≤ _; simp)); have hc5 := conv_at (nm) w5 W0.heap.size ((Blk.below (Blk.drew (Blk.new W0 #[.int .u8 (nm)] 5)) hb5 (by simp)).cell 0)
          refine hK.out _ _ ?hrg38S (fun hHeld => ?hrg38g)
          case hrg38S => (try dsimp only); (exact HS.out _ hw5)
          clear hK K
          (try simp only [Act.put]); (try simp only [List.getElem_toArray]); (try simp only [List.getElem_cons_succ]); (try simp only [List.getElem_cons_zero]); (try simp only [List.setIfInBounds_toArray]); (try simp only [List.set_cons_succ]); (try simp only [List.set_cons_zero])
          refine wpAnyH_take (i := 8) (oi := _) (v := ?hrg39v) rfl (by kernel_rfl) (by kernel_rfl) (by kernel_rfl) (fun _ _ _ h => h) (Or.inl ⟨by rfl, ?hrg39y⟩) (by assumption) ?hrg39r
          case hrg39y => (intro w hSw; (try dsimp only at hSw); go_simp; all_goals (with_reducible rfl))
          (try simp only [Act.put]); (try simp only [List.getElem_toArray]); (try simp only [List.getElem_cons_succ]); (try simp only [List.getElem_cons_zero]); (try simp only [List.setIfInBounds_toArray]); (try simp only [List.set_cons_succ]); (try simp only [List.set_cons_zero])
          refine wpAnyH_take (i := 9) (oi := _) (v := ?hrg40v) rfl (by kernel_rfl) (by kernel_rfl) (by kernel_rfl) (fun _ _ _ h => h) (Or.inl ⟨by rfl, ?hrg40y⟩) (by assumption) ?hrg40r
          case hrg40y => (intro w hSw; (try dsimp only at hSw); go_simp; all_goals (with_reducible rfl))
          (try simp only [Act.put]); (try simp only [List.getElem_toArray]); (try simp only [List.getElem_cons_succ]); (try simp only [List.getElem_cons_zero]); (try simp only [List.setIfInBounds_toArray]); (try simp only [List.set_cons_succ]); (try simp only [List.set_cons_zero])
          refine wpAnyH_done (by kernel_rfl) ?_ _
      case' hrg35_7 =>
        go_simp; go_at_call 38; refine (squarePut_yes _ _ _ HOB.out).mono ?_; rintro e w5 ⟨rfl, hb5⟩; have hw5 : Below W0.heap.size W0 w5 := (below_of W0 (.cells #[.int .u8 (nm)] 5)).drew.trans (hb5.mono (by show W0.heap.size ≤ _; simp)); have hc5 := conv_at (nm) w5 W0.heap.size ((Blk.below (Blk.drew (Blk.new W0 #[.int .u8 (nm)] 5)) hb5 (by simp)).cell 0)
        refine hK.out _ _ ?hrg41S (fun hHeld => ?hrg41g)
        case hrg41S => (try dsimp only); (exact HS.out _ hw5)
        clear hK K
        (try simp only [Act.put]); (try simp only [List.getElem_toArray]); (try simp only [List.getElem_cons_succ]); (try simp only [List.getElem_cons_zero]); (try simp only [List.setIfInBounds_toArray]); (try simp only [List.set_cons_succ]); (try simp only [List.set_cons_zero])
        refine wpAnyH_ready (rs := [2]) (by kernel_rfl) (by simp) ?_
        refine (AllReadyH.cons (o := _) rfl (fun K hK => ?hrg42_2) AllReadyH.nil)
        case' hrg42_2 =>
          go_simp
          refine hK.out _ _ ?hrg43S (fun hHeld => ?hrg43g)
          case hrg43S => (try dsimp only); (exact HS.out _ hw5)
          clear hK K
          (try simp only [Act.put]); (try simp only [List.getElem_toArray]); (try simp only [List.getElem_cons_succ]); (try simp only [List.getElem_cons_zero]); (try simp only [List.setIfInBounds_toArray]); (try simp only [List.set_cons_succ]); (try simp only [List.set_cons_zero])
          refine wpAnyH_take (i := 8) (oi := _) (v := ?hrg44v) rfl (by kernel_rfl) (by kernel_rfl) (by kernel_rfl) (fun _ _ _ h => h) (Or.inl ⟨by rfl, ?hrg44y⟩) (by assumption) ?hrg44r
          case hrg44y => (intro w hSw; (try dsimp only at hSw); go_simp; all_goals (with_reducible rfl))
          (try simp only [Act.put]); (try simp only [List.getElem_toArray]); (try simp only [List.getElem_cons_succ]); (try simp only [List.getElem_cons_zero]); (try simp only [List.setIfInBounds_toArray]); (try simp only [List.set_cons_succ]); (try simp only [List.set_cons_zero])
          refine wpAnyH_take (i := 9) (oi := _) (v := ?hrg45v) rfl (by kernel_rfl) (by kernel_rfl) (by kernel_rfl) (fun _ _ _ h => h) (Or.inl ⟨by rfl, ?hrg45y⟩) (by assumption) ?hrg45r
          case hrg45y => (intro w hSw; (try dsimp only at hSw); go_simp; all_goals (with_reducible rfl))
          (try simp only [Act.put]); (try simp only [List.getElem_toArray]); (try simp only [List.getElem_cons_succ]); (try simp only [List.getElem_cons_zero]); (try simp only [List.setIfInBounds_toArray]); (try simp only [List.set_cons_succ]); (try simp only [List.set_cons_zero])
          refine wpAnyH_done (by kernel_rfl) ?_ _
    case' hrg33_7 =>
      go_simp; go_at_call 38; refine (squarePut_yes _ _ _ HOB.out).mono ?_; rintro e w5 ⟨rfl, hb5⟩; have hw5 : Below W0.heap.size W0 w5 := hw.trans (hb5.mono (Nat.le_refl _)); have hc3 := (fun x => conv1 w5 x)
      refine hK.out _ _ ?hrg46S (fun hHeld => ?hrg46g)
      case hrg46S => (try dsimp only); (exact HS.out _ hw5)
      clear hK K
      (try simp only [Act.put]); (try simp only [List.getElem_toArray]); (try simp only [List.getElem_cons_succ]); (try simp only [List.getElem_cons_zero]); (try simp only [List.setIfInBounds_toArray]); (try simp only [List.set_cons_succ]); (try simp only [List.set_cons_zero])
      refine wpAnyH_ready (rs := [1]) (by kernel_rfl) (by simp) ?_
      refine (AllReadyH.cons (o := _) rfl (fun K hK => ?hrg47_1) AllReadyH.nil)
      case' hrg47_1 =>
        go_simp
        refine hK.out _ _ ?hrg48S (fun hHeld => ?hrg48g)
        case hrg48S => (try dsimp only); (exact HS.out _ (hw5.alloc hw5.size _))
        clear hK K
        (try simp only [Act.put]); (try simp only [List.getElem_toArray]); (try simp only [List.getElem_cons_succ]); (try simp only [List.getElem_cons_zero]); (try simp only [List.setIfInBounds_toArray]); (try simp only [List.set_cons_succ]); (try simp only [List.set_cons_zero])
        refine wpAnyH_ready (rs := [2]) (by kernel_rfl) (by simp) ?_
        refine (AllReadyH.cons (o := _) rfl (fun K hK => ?hrg49_2) AllReadyH.nil)
        case' hrg49_2 =>
          go_simp
          refine hK.out _ _ ?hrg50S (fun hHeld => ?hrg50g)
          case hrg50S => (try dsimp only); (exact HS.out _ (hw5.alloc hw5.size _))
          clear hK K
          (try simp only [Act.put]); (try simp only [List.getElem_toArray]); (try simp only [List.getElem_cons_succ]); (try simp only [List.getElem_cons_zero]); (try simp only [List.setIfInBounds_toArray]); (try simp only [List.set_cons_succ]); (try simp only [List.set_cons_zero])
          refine wpAnyH_take (i := 8) (oi := _) (v := ?hrg51v) rfl (by kernel_rfl) (by kernel_rfl) (by kernel_rfl) (fun _ _ _ h => h) (Or.inl ⟨by rfl, ?hrg51y⟩) (by assumption) ?hrg51r
          case hrg51y => (intro w hSw; (try dsimp only at hSw); go_simp; all_goals (with_reducible rfl))
          (try simp only [Act.put]); (try simp only [List.getElem_toArray]); (try simp only [List.getElem_cons_succ]); (try simp only [List.getElem_cons_zero]); (try simp only [List.setIfInBounds_toArray]); (try simp only [List.set_cons_succ]); (try simp only [List.set_cons_zero])
          refine wpAnyH_take (i := 9) (oi := _) (v := ?hrg52v) rfl (by kernel_rfl) (by kernel_rfl) (by kernel_rfl) (fun _ _ _ h => h) (Or.inl ⟨by rfl, ?hrg52y⟩) (by assumption) ?hrg52r
          case hrg52y => (intro w hSw; (try dsimp only at hSw); go_simp; all_goals (with_reducible rfl))
          (try simp only [Act.put]); (try simp only [List.getElem_toArray]); (try simp only [List.getElem_cons_succ]); (try simp only [List.getElem_cons_zero]); (try simp only [List.setIfInBounds_toArray]); (try simp only [List.set_cons_succ]); (try simp only [List.set_cons_zero])
          refine wpAnyH_done (by kernel_rfl) ?_ _
    all_goals
      go_wp2_with fail
      go_ret
      exact ⟨congrArg (fun x => Ending.returned (Value.string x)) HNX.out, HBE.out.trans (Below.mono (by first | exact hw5 | exact hw5.alloc hw5.size _) hz)⟩

end Go.Proofs.YtnjhcjjeehccbaaDoor.Ko
