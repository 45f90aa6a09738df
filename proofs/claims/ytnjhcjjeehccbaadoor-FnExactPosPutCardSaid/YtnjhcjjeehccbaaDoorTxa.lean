/- A position as text, by the model: l1Dec of one digit, l3Put. -/
import Derived.Test.YtnjhcjjeehccbaaDoorTx
import Derived.Test.YtnjhcjjeehccbaaDoorHi
import Derived.Deep.RegionHeld3
namespace Go.Proofs.YtnjhcjjeehccbaaDoor.Ko
open Go.ChangeShapes Go.WideShapes Go.ChangeAt Go.RowKit Base Sq
set_option linter.unusedVariables false
set_option maxRecDepth 20000
attribute [local irreducible] wpQuiet

theorem txt_of (t : Int) (h : t = 0 ∨ t = 1) : strOfNums [48 + t] = txt [digU t] := by
  rcases h with rfl | rfl <;> rfl
theorem l1Dec_dig (t : Int) (w : World) (h : t = 0 ∨ t = 1) : Calls Tryd.prog 28 #[.int .i64 t] w fun e w' => e = .returned (.string (txt [digU t])) ∧ Below w.heap.size w w' := by
  have hc := fun x => conv1 w x
  rcases h with rfl | rfl
  all_goals
    go_enter Tryd.func28, Tryd.ntmps28
    go_wp2
    go_ret
    exact ⟨by first | rfl | (rw [txt_of _ (by decide)]; rfl), (by repeat (first | exact Below.refl _ _ | assumption | (refine Below.alloc ?_ (by first | omega | (simp; done) | (simp; omega)) _) | (refine Below.setCell ?_ (by first | omega | (simp; done) | (simp; omega)) _) | refine Below.drew ?_))⟩
theorem conv_at (nm : Int) (w : World) (g : Nat) (h : w.cell? ⟨g, 0, none⟩ = some (.int .u8 nm)) : (convert 48 9 (.slice (some ⟨g, 0, none⟩) 1 1)).run Tryd.prog w = .ok (.string (strOfNums [nm])) w :=
  run_convert_bytes_arg _ _ _ Tryd.underlying48 Tryd.underlying5 g 0 1 1 [nm] rfl (fun i hi => by
    obtain rfl : i = 0 := by omega
    simpa using h) _ Tryd.underlying9
theorem str_one (nm : Int) (h0 : 0 ≤ nm) : strOfNums [nm] = txt [UInt8.ofNat nm.toNat] := rfl
theorem mem_okB {side : Int} {a : Int} (hs : side = 2 ∨ side = 3 ∨ side = 4) (h : 0 ≤ a ∧ a < side * side) : okB side a = true := okB_of hs h.1 h.2
/-- what is written of the first k men, and one more -/
theorem put_next {side t : Int} {ks : List Kd} {l : List St} {k : Nat} {nm c r : Int} (hn : nm = nameN ks (stAt l k)) (h0 : 0 ≤ nm) (hc : (stAt l k).far % side = c) (hr : (stAt l k).far / side = r) :
    txt (posUK side ks t l k) ++ txt [32] ++ strOfNums [nm] ++ putS c r = txt (posUK side ks t l (k + 1)) := by
  rw [str_one nm h0, putS_txt, txt_cat, txt_cat, txt_cat, ← posUK_next, ← hc, ← hr, hn]
  simp [manU, nameU, sqU]

set_option maxHeartbeats 8000000 in
theorem l3Put_any (side : Int) (A : Option Addr) (c : Nat) (ks : List Kd) (t : Int) (M : Option Addr) (cm : Nat) (l : List St) (w : World) (hR : IsKinds w w.heap.size A ks) (hM : IsSteps w w.heap.size M l) (hok : rulesOk side ks = true) (hsh : shapeB side ks t l = true) :
    Calls Tryd.prog 15 #[.agg #[.int .i64 side, .slice A ks.length c], .agg #[.int .i64 t, .slice M l.length cm]] w fun e w' => e = .returned (.string (txt (posU side ks t l))) ∧ Below w.heap.size w w' := by
  obtain ⟨hs, _⟩ := rulesOk_facts hok
  obtain ⟨ht, hl4, _, _, hmen⟩ := shapeB_facts hsh
  have HSD := Lib.hid hs
  have HOK := Lib.hid hok
  have HMEN := Lib.hid hmen
  have HR := Lib.hid hR
  have HM := Lib.hid hM
  have HTD := Lib.hid (show t = 0 ∨ t = 1 by omega)
  clear hs hok hsh hmen hR hM
  go_enter Tryd.func15, Tryd.ntmps15
  go_wp2_with fail
  have hb0 : Below w.heap.size w ((w.alloc (.cells #[.int .i64 side, .slice A ks.length c] 33)).alloc (.cells #[.int .i64 t, .slice M l.length cm] 37)) := (by repeat (first | exact Below.refl _ _ | assumption | (refine Below.alloc ?_ (by first | omega | (simp; done) | (simp; omega)) _) | (refine Below.setCell ?_ (by first | omega | (simp; done) | (simp; omega)) _) | refine Below.drew ?_))
  have p1 := (Blk.new w #[.int .i64 side, .slice A ks.length c] 33).alloc (.cells #[.int .i64 t, .slice M l.length cm] 37)
  have p2 := Blk.new (w.alloc (.cells #[.int .i64 side, .slice A ks.length c] 33)) #[.int .i64 t, .slice M l.length cm] 37
  simp only [World.size_alloc] at p2
  generalize hW0 : (w.alloc _).alloc _ = W0 at *
  clear hW0
  refine (l1Dec_dig _ _ HTD.out).mono ?_
  rintro e w2 ⟨rfl, hb2⟩
  have q1 := p1.below hb2 p1.lt
  have q2 := p2.below hb2 p2.lt
  have hbe := hb0.trans (hb2.mono hb0.size)
  clear p1 p2 hb0 hb2
  go_wp2_with fail
  go_loopw [5, 6] (fun o i wr => ∃ k : Nat, k ≤ l.length ∧ i = .int .i64 k ∧ o = .string (txt (posUK side ks t l k)) ∧ Blk wr w.heap.size #[.int .i64 side, .slice A ks.length c] 33 ∧ Blk wr (w.heap.size + 1) #[.int .i64 t, .slice M l.length cm] 37 ∧ Below w.heap.size w wr) (fun _ i _ => l.length - (intOf i).toNat)
  case atStart => exact ⟨0, by omega, rfl, rfl, q1, q2, hbe⟩
  case round =>
    clear q1 q2 hbe
    obtain ⟨k, hk, rfl, rfl, q1, q2, hbe⟩ := hrel
    obtain ⟨⟨r0, r1⟩, _⟩ := q1.at2
    obtain ⟨⟨o0, o1⟩, _⟩ := q2.at2
    have z1 := q1.lt
    have z2 := q2.lt
    have hz := hbe.size
    by_cases hlt : k < l.length
    · obtain ⟨b, off, rfl, hB, hc⟩ := HM.out.below hbe (by omega)
      obtain ⟨m0, m1, m2⟩ := hc k hlt
      obtain ⟨⟨x1, x2⟩, ⟨y1, y2⟩, ⟨u1, u2⟩, _⟩ := HMEN.out k hlt
      obtain ⟨bk, offk, rfl, hBk, hck⟩ := HR.out.below hbe (by omega)
      obtain ⟨S, cc, kc0, _, _, _⟩ := hck (stAt l k).dx.toNat (by omega)
      obtain ⟨nm, hnm⟩ : ∃ nm, nm = (kAt ks (stAt l k).dx.toNat).name := ⟨_, rfl⟩
      have hnb : 65 ≤ nm ∧ nm ≤ 90 := by rw [hnm]; exact name_bd HOK.out (s := stAt l k) ⟨x1, x2⟩
      have HNM := Lib.hid (show nm = (kOf ks (stAt l k)).name from hnm)
      rw [← hnm] at kc0
      have hwr : IntKind.u8.wrap nm = nm := by unfold IntKind.wrap; simp [IntKind.bits, IntKind.signed]; omega
      have hwr2 : IntKind.u8.wrap (nm + 32) = nm + 32 := by unfold IntKind.wrap; simp [IntKind.bits, IntKind.signed]; omega
      have hk0 : (0 : Int) ≤ (k : Int) := by omega
      have hk3 : (k : Int) < (l.length : Int) := by omega
      have z3 : b < wr.heap.size := by omega
      have z4 : bk < wr.heap.size := by omega
      have HOB := Lib.hid (mem_okB (a := (stAt l k).far) HSD.out ⟨u1, u2⟩)
      obtain ⟨S0, hS0⟩ : ∃ S0, S0 = txt (posUK side ks t l k) := ⟨_, rfl⟩
      have hsz : S0.size = 4 * k + 1 := by rw [hS0, txt_size, posUK_len]
      have hs1 : S0.size ≤ 9223372036854775806 := by omega
      have hs2 : S0.size ≤ 9223372036854775805 := by omega
      have hs3 : S0.size ≤ 9223372036854775803 := by omega
      have hsp : ∀ c r : Int, (putS c r).size = 2 := fun _ _ => rfl
      have hsn : ∀ x : Int, (strOfNums [x]).size = 1 := fun _ => rfl
      have HPN := Lib.hid (fun (x : Int) h0 h1 => put_next (side := side) (t := t) (ks := ks) (l := l) (k := k) (nm := x) h0 h1 rfl rfl)
      rw [← hS0] at HPN ⊢
      clear hc hck hnm hsz hS0
      by_cases ho : (stAt l k).dy = 1
      · have hd : ((stAt l k).dy == 1) = true := by simp [ho]
        have HNX := Lib.hid (HPN.out (nm + 32) (by unfold nameN; rw [if_pos ho, HNM.out]) (by omega))
        clear ho hnb
        go_wp2_with fail
        refine wp_region_below (W := wr) (by kernel_rfl) (by kernel_rfl) (Below.refl _ _) ?_
        repeat (first
          | (refine qs_skip (by rfl) ?_; simp only [Act.put, List.setIfInBounds_toArray, List.set_cons_zero, List.set_cons_succ])
          | (apply qs_take
             focus rfl
             focus (
               intro wq hwq
               obtain ⟨hcq, hfq⟩ := bcell hwq
               go_simp
               all_goals first
                 | exact rfl
                 | (exact ⟨trivial, rfl⟩))
             simp only [Act.put, List.setIfInBounds_toArray, List.set_cons_zero, List.set_cons_succ]))
        refine wpQuiet_nil ?_
        intro wq hwq
        have q1 := q1.below hwq z1
        have q2 := q2.below hwq z2
        have hbe := hbe.trans (hwq.mono hz)
        have m0 := (hwq.cell (p := ⟨b, _, none⟩) z3).trans m0
        have m1 := (hwq.cell (p := ⟨b, _, none⟩) z3).trans m1
        have m2 := (hwq.cell (p := ⟨b, _, none⟩) z3).trans m2
        have z3 := Nat.lt_of_lt_of_le z3 hwq.size
        have z1 := q1.lt
        have z2 := q2.lt
        clear r0 r1 o0 o1 kc0 hwq
        obtain ⟨⟨r0, r1⟩, _⟩ := q1.at2
        obtain ⟨⟨o0, o1⟩, _⟩ := q2.at2
        have HQ1 := Lib.hid q1
        have HQ2 := Lib.hid q2
        have HBE := Lib.hid hbe
        have hz := hbe.size
        have HS : Hid (∀ w', Below wq.heap.size wq w' → (w'.cell? ⟨w.heap.size, 0, none⟩ = some (.int .i64 side) ∧ w'.cell? ⟨w.heap.size + 1, 1, none⟩ = some (.slice (some ⟨b, off, none⟩) l.length cm) ∧ w'.cell? ⟨b, off + k * 3 + 2, none⟩ = some (.int .i64 (stAt l k).far))) := Lib.hid (fun w' hb => by
          obtain ⟨⟨a0, a1⟩, _⟩ := (q1.below hb z1).at2
          obtain ⟨⟨b0, b1⟩, _⟩ := (q2.below hb z2).at2
          exact ⟨a0, b1, (hb.cell (p := ⟨b, _, none⟩) z3).trans m2⟩)
        clear q1 q2 hbe
        go_wp2_with fail
        have hw : Below wq.heap.size wq wq.drew := (Below.refl _ _).drew
        have hc1 : ∀ x : Int, (convert 48 9 (.slice (some ⟨wq.heap.size, 0, none⟩) 1 1)).run Tryd.prog (wq.drew.alloc (.cells #[.int .u8 x] 5)) = .ok (.string (strOfNums [x])) (wq.drew.alloc (.cells #[.int .u8 x] 5)) := fun x => conv1 wq.drew x
        have ha1 : ∀ w', (Op.stringOp .add S0 ⟨#[32]⟩).run Tryd.prog w' = .ok (.string (S0 ++ ⟨#[32]⟩)) w' := fun w' => run_string_add_sum _ _ _ (by show S0.size + 1 ≤ _; omega)
        have ha2 : ∀ w', (Op.stringOp .add (S0 ++ ⟨#[32]⟩) (strOfNums [nm + 32])).run Tryd.prog w' = .ok (.string (S0 ++ ⟨#[32]⟩ ++ strOfNums [nm + 32])) w' := fun w' => run_string_add_sum _ _ _ (by rw [ByteArray.size_append]; show S0.size + 1 + 1 ≤ _; omega)
        have ha3 : ∀ c r w', (Op.stringOp .add (S0 ++ ⟨#[32]⟩ ++ strOfNums [nm + 32]) (putS c r)).run Tryd.prog w' = .ok (.string (S0 ++ ⟨#[32]⟩ ++ strOfNums [nm + 32] ++ putS c r)) w' := fun c r w' => run_string_add_sum _ _ _ (by rw [ByteArray.size_append, ByteArray.size_append]; show S0.size + 1 + 1 + 2 ≤ _; omega)
        have hc2 := fun x => conv1d wq x
        refine wp_region_held_drew (S := (fun w' => w'.cell? ⟨w.heap.size, 0, none⟩ = some (.int .i64 side) ∧ w'.cell? ⟨w.heap.size + 1, 1, none⟩ = some (.slice (some ⟨b, off, none⟩) l.length cm) ∧ w'.cell? ⟨b, off + k * 3 + 2, none⟩ = some (.int .i64 (stAt l k).far))) (by kernel_rfl) ?hrg1S (fun hHeld => ?hrg1g)
        case hrg1S => (try dsimp only); (exact HS.out _ hw)
        refine wpAnyH_take (i := 0) (oi := _) (v := ?hrg2v) rfl (by kernel_rfl) (by kernel_rfl) (by kernel_rfl) (fun _ _ _ h => h) (Or.inl ⟨by rfl, ?hrg2y⟩) (by assumption) ?hrg2r
        case hrg2y => (intro w hSw; (try dsimp only at hSw); go_simp; all_goals (with_reducible rfl))
        (try simp only [Act.put]); (try simp only [List.getElem_toArray]); (try simp only [List.getElem_cons_succ]); (try simp only [List.getElem_cons_zero]); (try simp only [List.setIfInBounds_toArray]); (try simp only [List.set_cons_succ]); (try simp only [List.set_cons_zero])
        refine wpAnyH_take (i := 1) (oi := _) (v := ?hrg3v) rfl (by kernel_rfl) (by kernel_rfl) (by kernel_rfl) (fun _ _ _ h => h) (Or.inl ⟨by rfl, ?hrg3y⟩) (by assumption) ?hrg3r
        case hrg3y => (intro w hSw; (try dsimp only at hSw); go_simp; all_goals (with_reducible rfl))
        (try simp only [Act.put]); (try simp only [List.getElem_toArray]); (try simp only [List.getElem_cons_succ]); (try simp only [List.getElem_cons_zero]); (try simp only [List.setIfInBounds_toArray]); (try simp only [List.set_cons_succ]); (try simp only [List.set_cons_zero])
        refine wpAnyH_take (i := 2) (oi := _) (v := ?hrg4v) rfl (by kernel_rfl) (by kernel_rfl) (by kernel_rfl) (fun _ _ _ h => h) (Or.inl ⟨by rfl, ?hrg4y⟩) (by assumption) ?hrg4r
        case hrg4y => (intro w hSw; (try dsimp only at hSw); go_simp; all_goals (with_reducible rfl))
        (try simp only [Act.put]); (try simp only [List.getElem_toArray]); (try simp only [List.getElem_cons_succ]); (try simp only [List.getElem_cons_zero]); (try simp only [List.setIfInBounds_toArray]); (try simp only [List.set_cons_succ]); (try simp only [List.set_cons_zero])
        refine wpAnyH_take (i := 6) (oi := _) (v := ?hrg5v) rfl (by kernel_rfl) (by kernel_rfl) (by kernel_rfl) (fun _ _ _ h => h) (Or.inl ⟨by rfl, ?hrg5y⟩) (by assumption) ?hrg5r
        case hrg5y => (intro w hSw; (try dsimp only at hSw); go_simp; all_goals (with_reducible rfl))
        (try simp only [Act.put]); (try simp only [List.getElem_toArray]); (try simp only [List.getElem_cons_succ]); (try simp only [List.getElem_cons_zero]); (try simp only [List.setIfInBounds_toArray]); (try simp only [List.set_cons_succ]); (try simp only [List.set_cons_zero])
        refine wpAnyH_take (i := 7) (oi := _) (v := ?hrg6v) rfl (by kernel_rfl) (by kernel_rfl) (by kernel_rfl) (fun _ _ _ h => h) (Or.inl ⟨by rfl, ?hrg6y⟩) (by assumption) ?hrg6r
        case hrg6y => (intro w hSw; (try dsimp only at hSw); go_simp; all_goals (with_reducible rfl))
        (try simp only [Act.put]); (try simp only [List.getElem_toArray]); (try simp only [List.getElem_cons_succ]); (try simp only [List.getElem_cons_zero]); (try simp only [List.setIfInBounds_toArray]); (try simp only [List.set_cons_succ]); (try simp only [List.set_cons_zero])
        refine wpAnyH_take (i := 8) (oi := _) (v := ?hrg7v) rfl (by kernel_rfl) (by kernel_rfl) (by kernel_rfl) (fun _ _ _ h => h) (Or.inl ⟨by rfl, ?hrg7y⟩) (by assumption) ?hrg7r
        case hrg7y => (intro w hSw; (try dsimp only at hSw); go_simp; all_goals (with_reducible rfl))
        (try simp only [Act.put]); (try simp only [List.getElem_toArray]); (try simp only [List.getElem_cons_succ]); (try simp only [List.getElem_cons_zero]); (try simp only [List.setIfInBounds_toArray]); (try simp only [List.set_cons_succ]); (try simp only [List.set_cons_zero])
        refine wpAnyH_take (i := 9) (oi := _) (v := ?hrg8v) rfl (by kernel_rfl) (by kernel_rfl) (by kernel_rfl) (fun _ _ _ h => h) (Or.inl ⟨by rfl, ?hrg8y⟩) (by assumption) ?hrg8r
        case hrg8y => (intro w hSw; (try dsimp only at hSw); go_simp; all_goals (with_reducible rfl))
        (try simp only [Act.put]); (try simp only [List.getElem_toArray]); (try simp only [List.getElem_cons_succ]); (try simp only [List.getElem_cons_zero]); (try simp only [List.setIfInBounds_toArray]); (try simp only [List.set_cons_succ]); (try simp only [List.set_cons_zero])
        refine wpAnyH_take (i := 10) (oi := _) (v := ?hrg9v) rfl (by kernel_rfl) (by kernel_rfl) (by kernel_rfl) (fun _ _ _ h => h) (Or.inl ⟨by rfl, ?hrg9y⟩) (by assumption) ?hrg9r
        case hrg9y => (intro w hSw; (try dsimp only at hSw); go_simp; all_goals (with_reducible rfl))
        (try simp only [Act.put]); (try simp only [List.getElem_toArray]); (try simp only [List.getElem_cons_succ]); (try simp only [List.getElem_cons_zero]); (try simp only [List.setIfInBounds_toArray]); (try simp only [List.set_cons_succ]); (try simp only [List.set_cons_zero])
        refine wpAnyH_take (i := 11) (oi := _) (v := ?hrg10v) rfl (by kernel_rfl) (by kernel_rfl) (by kernel_rfl) (fun _ _ _ h => h) (Or.inl ⟨by rfl, ?hrg10y⟩) (by assumption) ?hrg10r
        case hrg10y => (intro w hSw; (try dsimp only at hSw); go_simp; all_goals (with_reducible rfl))
        (try simp only [Act.put]); (try simp only [List.getElem_toArray]); (try simp only [List.getElem_cons_succ]); (try simp only [List.getElem_cons_zero]); (try simp only [List.setIfInBounds_toArray]); (try simp only [List.set_cons_succ]); (try simp only [List.set_cons_zero])
        refine wpAnyH_take (i := 12) (oi := _) (v := ?hrg11v) rfl (by kernel_rfl) (by kernel_rfl) (by kernel_rfl) (fun _ _ _ h => h) (Or.inl ⟨by rfl, ?hrg11y⟩) (by assumption) ?hrg11r
        case hrg11y => (intro w hSw; (try dsimp only at hSw); go_simp; all_goals (with_reducible rfl))
        (try simp only [Act.put]); (try simp only [List.getElem_toArray]); (try simp only [List.getElem_cons_succ]); (try simp only [List.getElem_cons_zero]); (try simp only [List.setIfInBounds_toArray]); (try simp only [List.set_cons_succ]); (try simp only [List.set_cons_zero])
        refine wpAnyH_take (i := 13) (oi := _) (v := ?hrg12v) rfl (by kernel_rfl) (by kernel_rfl) (by kernel_rfl) (fun _ _ _ h => h) (Or.inl ⟨by rfl, ?hrg12y⟩) (by assumption) ?hrg12r
        case hrg12y => (intro w hSw; (try dsimp only at hSw); go_simp; all_goals (with_reducible rfl))
        (try simp only [Act.put]); (try simp only [List.getElem_toArray]); (try simp only [List.getElem_cons_succ]); (try simp only [List.getElem_cons_zero]); (try simp only [List.setIfInBounds_toArray]); (try simp only [List.set_cons_succ]); (try simp only [List.set_cons_zero])
        refine wpAnyH_ready (rs := [3, 14]) (by kernel_rfl) (by simp) ?_
        refine (AllReadyH.cons (o := _) rfl (fun K hK => ?hrg13_3) (AllReadyH.cons (o := _) rfl (fun K hK => ?hrg13_14) AllReadyH.nil))
        case' hrg13_3 =>
          go_simp
          refine hK.out _ _ ?hrg14S (fun hHeld => ?hrg14g)
          case hrg14S => (try dsimp only); (exact HS.out _ (below_of wq _).drew)
          clear hK K
          (try simp only [Act.put]); (try simp only [List.getElem_toArray]); (try simp only [List.getElem_cons_succ]); (try simp only [List.getElem_cons_zero]); (try simp only [List.setIfInBounds_toArray]); (try simp only [List.set_cons_succ]); (try simp only [List.set_cons_zero])
          refine wpAnyH_ready (rs := [4, 14]) (by kernel_rfl) (by simp) ?_
          refine (AllReadyH.cons (o := _) rfl (fun K hK => ?hrg15_4) (AllReadyH.cons (o := _) rfl (fun K hK => ?hrg15_14) AllReadyH.nil))
          case' hrg15_4 =>
            go_simp
            refine hK.out _ _ ?hrg16S (fun hHeld => ?hrg16g)
            case hrg16S => (try dsimp only); (exact HS.out _ (below_of wq _).drew)
            clear hK K
            (try simp only [Act.put]); (try simp only [List.getElem_toArray]); (try simp only [List.getElem_cons_succ]); (try simp only [List.getElem_cons_zero]); (try simp only [List.setIfInBounds_toArray]); (try simp only [List.set_cons_succ]); (try simp only [List.set_cons_zero])
            refine wpAnyH_take (i := 5) (oi := _) (v := ?hrg17v) rfl (by kernel_rfl) (by kernel_rfl) (by kernel_rfl) (fun _ _ _ h => h) (Or.inl ⟨by rfl, ?hrg17y⟩) (by assumption) ?hrg17r
            case hrg17y => (intro w hSw; (try dsimp only at hSw); go_simp; all_goals (with_reducible rfl))
            (try simp only [Act.put]); (try simp only [List.getElem_toArray]); (try simp only [List.getElem_cons_succ]); (try simp only [List.getElem_cons_zero]); (try simp only [List.setIfInBounds_toArray]); (try simp only [List.set_cons_succ]); (try simp only [List.set_cons_zero])
            refine wpAnyH_ready (rs := [14]) (by kernel_rfl) (by simp) ?_
            refine (AllReadyH.cons (o := _) rfl (fun K hK => ?hrg18_14) AllReadyH.nil)
            case' hrg18_14 =>
              go_simp; go_at_call 29; refine (l1Put_any _ _ _ HOB.out).mono ?_; rintro e w5 ⟨rfl, hb5⟩; have hw5 : Below wq.heap.size wq w5 := (below_of wq (.cells #[.int .u8 (nm + 32)] 5)).drew.trans (hb5.mono (by simp)); have hc5 := conv_at (nm + 32) w5 wq.heap.size ((Blk.below (Blk.drew (Blk.new wq #[.int .u8 (nm + 32)] 5)) hb5 (by simp)).cell 0)
              refine hK.out _ _ ?hrg19S (fun hHeld => ?hrg19g)
              case hrg19S => (try dsimp only); (exact HS.out _ hw5)
              clear hK K
              (try simp only [Act.put]); (try simp only [List.getElem_toArray]); (try simp only [List.getElem_cons_succ]); (try simp only [List.getElem_cons_zero]); (try simp only [List.setIfInBounds_toArray]); (try simp only [List.set_cons_succ]); (try simp only [List.set_cons_zero])
              refine wpAnyH_take (i := 15) (oi := _) (v := ?hrg20v) rfl (by kernel_rfl) (by kernel_rfl) (by kernel_rfl) (fun _ _ _ h => h) (Or.inl ⟨by rfl, ?hrg20y⟩) (by assumption) ?hrg20r
              case hrg20y => (intro w hSw; (try dsimp only at hSw); go_simp; all_goals (with_reducible rfl))
              (try simp only [Act.put]); (try simp only [List.getElem_toArray]); (try simp only [List.getElem_cons_succ]); (try simp only [List.getElem_cons_zero]); (try simp only [List.setIfInBounds_toArray]); (try simp only [List.set_cons_succ]); (try simp only [List.set_cons_zero])
              refine wpAnyH_take (i := 16) (oi := _) (v := ?hrg21v) rfl (by kernel_rfl) (by kernel_rfl) (by kernel_rfl) (fun _ _ _ h => h) (Or.inl ⟨by rfl, ?hrg21y⟩) (by assumption) ?hrg21r
              case hrg21y => (intro w hSw; (try dsimp only at hSw); go_simp; all_goals (with_reducible rfl))
              (try simp only [Act.put]); (try simp only [List.getElem_toArray]); (try simp only [List.getElem_cons_succ]); (try simp only [List.getElem_cons_zero]); (try simp only [List.setIfInBounds_toArray]); (try simp only [List.set_cons_succ]); (try simp only [List.set_cons_zero])
              refine wpAnyH_done (by kernel_rfl) ?_ _
          case' hrg15_14 =>
            go_simp; go_at_call 29; refine (l1Put_any _ _ _ HOB.out).mono ?_; rintro e w5 ⟨rfl, hb5⟩; have hw5 : Below wq.heap.size wq w5 := (below_of wq (.cells #[.int .u8 (nm + 32)] 5)).drew.trans (hb5.mono (by simp)); have hc5 := conv_at (nm + 32) w5 wq.heap.size ((Blk.below (Blk.drew (Blk.new wq #[.int .u8 (nm + 32)] 5)) hb5 (by simp)).cell 0)
            refine hK.out _ _ ?hrg22S (fun hHeld => ?hrg22g)
            case hrg22S => (try dsimp only); (exact HS.out _ hw5)
            clear hK K
            (try simp only [Act.put]); (try simp only [List.getElem_toArray]); (try simp only [List.getElem_cons_succ]); (try simp only [List.getElem_cons_zero]); (try simp only [List.setIfInBounds_toArray]); (try simp only [List.set_cons_succ]); (try simp only [List.set_cons_zero])
            refine wpAnyH_ready (rs := [4]) (by kernel_rfl) (by simp) ?_
            refine (AllReadyH.cons (o := _) rfl (fun K hK => ?hrg23_4) AllReadyH.nil)
            case' hrg23_4 =>
              go_simp
              refine hK.out _ _ ?hrg24S (fun hHeld => ?hrg24g)
              case hrg24S => (try dsimp only); (exact HS.out _ hw5)
              clear hK K
              (try simp only [Act.put]); (try simp only [List.getElem_toArray]); (try simp only [List.getElem_cons_succ]); (try simp only [List.getElem_cons_zero]); (try simp only [List.setIfInBounds_toArray]); (try simp only [List.set_cons_succ]); (try simp only [List.set_cons_zero])
              refine wpAnyH_take (i := 5) (oi := _) (v := ?hrg25v) rfl (by kernel_rfl) (by kernel_rfl) (by kernel_rfl) (fun _ _ _ h => h) (Or.inl ⟨by rfl, ?hrg25y⟩) (by assumption) ?hrg25r
              case hrg25y => (intro w hSw; (try dsimp only at hSw); go_simp; all_goals (with_reducible rfl))
              (try simp only [Act.put]); (try simp only [List.getElem_toArray]); (try simp only [List.getElem_cons_succ]); (try simp only [List.getElem_cons_zero]); (try simp only [List.setIfInBounds_toArray]); (try simp only [List.set_cons_succ]); (try simp only [List.set_cons_zero])
              refine wpAnyH_take (i := 15) (oi := _) (v := ?hrg26v) rfl (by kernel_rfl) (by kernel_rfl) (by kernel_rfl) (fun _ _ _ h => h) (Or.inl ⟨by rfl, ?hrg26y⟩) (by assumption) ?hrg26r
              case hrg26y => (intro w hSw; (try dsimp only at hSw); go_simp; all_goals (with_reducible rfl))
              (try simp only [Act.put]); (try simp only [List.getElem_toArray]); (try simp only [List.getElem_cons_succ]); (try simp only [List.getElem_cons_zero]); (try simp only [List.setIfInBounds_toArray]); (try simp only [List.set_cons_succ]); (try simp only [List.set_cons_zero])
              refine wpAnyH_take (i := 16) (oi := _) (v := ?hrg27v) rfl (by kernel_rfl) (by kernel_rfl) (by kernel_rfl) (fun _ _ _ h => h) (Or.inl ⟨by rfl, ?hrg27y⟩) (by assumption) ?hrg27r
              case hrg27y => (intro w hSw; (try dsimp only at hSw); go_simp; all_goals (with_reducible rfl))
              (try simp only [Act.put]); (try simp only [List.getElem_toArray]); (try simp only [List.getElem_cons_succ]); (try simp only [List.getElem_cons_zero]); (try simp only [List.setIfInBounds_toArray]); (try simp only [List.set_cons_succ]); (try simp only [List.set_cons_zero])
              refine wpAnyH_done (by kernel_rfl) ?_ _
        case' hrg13_14 =>
          go_simp; go_at_call 29; refine (l1Put_any _ _ _ HOB.out).mono ?_; rintro e w5 ⟨rfl, hb5⟩; have hw5 : Below wq.heap.size wq w5 := hw.trans (hb5.mono (Nat.le_refl _)); have hc3 := (fun x => conv1 w5 x)
          refine hK.out _ _ ?hrg28S (fun hHeld => ?hrg28g)
          case hrg28S => (try dsimp only); (exact HS.out _ hw5)
          clear hK K
          (try simp only [Act.put]); (try simp only [List.getElem_toArray]); (try simp only [List.getElem_cons_succ]); (try simp only [List.getElem_cons_zero]); (try simp only [List.setIfInBounds_toArray]); (try simp only [List.set_cons_succ]); (try simp only [List.set_cons_zero])
          refine wpAnyH_ready (rs := [3]) (by kernel_rfl) (by simp) ?_
          refine (AllReadyH.cons (o := _) rfl (fun K hK => ?hrg29_3) AllReadyH.nil)
          case' hrg29_3 =>
            go_simp
            refine hK.out _ _ ?hrg30S (fun hHeld => ?hrg30g)
            case hrg30S => (try dsimp only); (exact HS.out _ (hw5.alloc hw5.size _))
            clear hK K
            (try simp only [Act.put]); (try simp only [List.getElem_toArray]); (try simp only [List.getElem_cons_succ]); (try simp only [List.getElem_cons_zero]); (try simp only [List.setIfInBounds_toArray]); (try simp only [List.set_cons_succ]); (try simp only [List.set_cons_zero])
            refine wpAnyH_ready (rs := [4]) (by kernel_rfl) (by simp) ?_
            refine (AllReadyH.cons (o := _) rfl (fun K hK => ?hrg31_4) AllReadyH.nil)
            case' hrg31_4 =>
              go_simp
              refine hK.out _ _ ?hrg32S (fun hHeld => ?hrg32g)
              case hrg32S => (try dsimp only); (exact HS.out _ (hw5.alloc hw5.size _))
              clear hK K
              (try simp only [Act.put]); (try simp only [List.getElem_toArray]); (try simp only [List.getElem_cons_succ]); (try simp only [List.getElem_cons_zero]); (try simp only [List.setIfInBounds_toArray]); (try simp only [List.set_cons_succ]); (try simp only [List.set_cons_zero])
              refine wpAnyH_take (i := 5) (oi := _) (v := ?hrg33v) rfl (by kernel_rfl) (by kernel_rfl) (by kernel_rfl) (fun _ _ _ h => h) (Or.inl ⟨by rfl, ?hrg33y⟩) (by assumption) ?hrg33r
              case hrg33y => (intro w hSw; (try dsimp only at hSw); go_simp; all_goals (with_reducible rfl))
              (try simp only [Act.put]); (try simp only [List.getElem_toArray]); (try simp only [List.getElem_cons_succ]); (try simp only [List.getElem_cons_zero]); (try simp only [List.setIfInBounds_toArray]); (try simp only [List.set_cons_succ]); (try simp only [List.set_cons_zero])
              refine wpAnyH_take (i := 15) (oi := _) (v := ?hrg34v) rfl (by kernel_rfl) (by kernel_rfl) (by kernel_rfl) (fun _ _ _ h => h) (Or.inl ⟨by rfl, ?hrg34y⟩) (by assumption) ?hrg34r
              case hrg34y => (intro w hSw; (try dsimp only at hSw); go_simp; all_goals (with_reducible rfl))
              (try simp only [Act.put]); (try simp only [List.getElem_toArray]); (try simp only [List.getElem_cons_succ]); (try simp only [List.getElem_cons_zero]); (try simp only [List.setIfInBounds_toArray]); (try simp only [List.set_cons_succ]); (try simp only [List.set_cons_zero])
              refine wpAnyH_take (i := 16) (oi := _) (v := ?hrg35v) rfl (by kernel_rfl) (by kernel_rfl) (by kernel_rfl) (fun _ _ _ h => h) (Or.inl ⟨by rfl, ?hrg35y⟩) (by assumption) ?hrg35r
              case hrg35y => (intro w hSw; (try dsimp only at hSw); go_simp; all_goals (with_reducible rfl))
              (try simp only [Act.put]); (try simp only [List.getElem_toArray]); (try simp only [List.getElem_cons_succ]); (try simp only [List.getElem_cons_zero]); (try simp only [List.setIfInBounds_toArray]); (try simp only [List.set_cons_succ]); (try simp only [List.set_cons_zero])
              refine wpAnyH_done (by kernel_rfl) ?_ _
        all_goals
          go_wp2_with fail
          go_roundw
          case rel => exact ⟨k + 1, by omega, by go_num, congrArg Value.string HNX.out, HQ1.out.below (by first | exact hw5 | exact hw5.alloc hw5.size _) z1, HQ2.out.below (by first | exact hw5 | exact hw5.alloc hw5.size _) z2, HBE.out.trans (Below.mono (by first | exact hw5 | exact hw5.alloc hw5.size _) hz)⟩
          case measure => simp [intOf]; omega
      · have hd : ((stAt l k).dy == 1) = false := by simp [ho]
        have HNX := Lib.hid (HPN.out nm (by unfold nameN; rw [if_neg ho, HNM.out]; omega) (by omega))
        clear ho hnb
        go_wp2_with fail
        refine wp_region_below (W := wr) (by kernel_rfl) (by kernel_rfl) (Below.refl _ _) ?_
        repeat (first
          | (refine qs_skip (by rfl) ?_; simp only [Act.put, List.setIfInBounds_toArray, List.set_cons_zero, List.set_cons_succ])
          | (apply qs_take
             focus rfl
             focus (
               intro wq hwq
               obtain ⟨hcq, hfq⟩ := bcell hwq
               go_simp
               all_goals first
                 | exact rfl
                 | (exact ⟨trivial, rfl⟩))
             simp only [Act.put, List.setIfInBounds_toArray, List.set_cons_zero, List.set_cons_succ]))
        refine wpQuiet_nil ?_
        intro wq hwq
        have q1 := q1.below hwq z1
        have q2 := q2.below hwq z2
        have hbe := hbe.trans (hwq.mono hz)
        have m0 := (hwq.cell (p := ⟨b, _, none⟩) z3).trans m0
        have m1 := (hwq.cell (p := ⟨b, _, none⟩) z3).trans m1
        have m2 := (hwq.cell (p := ⟨b, _, none⟩) z3).trans m2
        have z3 := Nat.lt_of_lt_of_le z3 hwq.size
        have z1 := q1.lt
        have z2 := q2.lt
        clear r0 r1 o0 o1 kc0 hwq
        obtain ⟨⟨r0, r1⟩, _⟩ := q1.at2
        obtain ⟨⟨o0, o1⟩, _⟩ := q2.at2
        have HQ1 := Lib.hid q1
        have HQ2 := Lib.hid q2
        have HBE := Lib.hid hbe
        have hz := hbe.size
        have HS : Hid (∀ w', Below wq.heap.size wq w' → (w'.cell? ⟨w.heap.size, 0, none⟩ = some (.int .i64 side) ∧ w'.cell? ⟨w.heap.size + 1, 1, none⟩ = some (.slice (some ⟨b, off, none⟩) l.length cm) ∧ w'.cell? ⟨b, off + k * 3 + 2, none⟩ = some (.int .i64 (stAt l k).far))) := Lib.hid (fun w' hb => by
          obtain ⟨⟨a0, a1⟩, _⟩ := (q1.below hb z1).at2
          obtain ⟨⟨b0, b1⟩, _⟩ := (q2.below hb z2).at2
          exact ⟨a0, b1, (hb.cell (p := ⟨b, _, none⟩) z3).trans m2⟩)
        clear q1 q2 hbe
        go_wp2_with fail
        have hw : Below wq.heap.size wq wq.drew := (Below.refl _ _).drew
        have hc1 : ∀ x : Int, (convert 48 9 (.slice (some ⟨wq.heap.size, 0, none⟩) 1 1)).run Tryd.prog (wq.drew.alloc (.cells #[.int .u8 x] 5)) = .ok (.string (strOfNums [x])) (wq.drew.alloc (.cells #[.int .u8 x] 5)) := fun x => conv1 wq.drew x
        have ha1 : ∀ w', (Op.stringOp .add S0 ⟨#[32]⟩).run Tryd.prog w' = .ok (.string (S0 ++ ⟨#[32]⟩)) w' := fun w' => run_string_add_sum _ _ _ (by show S0.size + 1 ≤ _; omega)
        have ha2 : ∀ w', (Op.stringOp .add (S0 ++ ⟨#[32]⟩) (strOfNums [nm])).run Tryd.prog w' = .ok (.string (S0 ++ ⟨#[32]⟩ ++ strOfNums [nm])) w' := fun w' => run_string_add_sum _ _ _ (by rw [ByteArray.size_append]; show S0.size + 1 + 1 ≤ _; omega)
        have ha3 : ∀ c r w', (Op.stringOp .add (S0 ++ ⟨#[32]⟩ ++ strOfNums [nm]) (putS c r)).run Tryd.prog w' = .ok (.string (S0 ++ ⟨#[32]⟩ ++ strOfNums [nm] ++ putS c r)) w' := fun c r w' => run_string_add_sum _ _ _ (by rw [ByteArray.size_append, ByteArray.size_append]; show S0.size + 1 + 1 + 2 ≤ _; omega)
        have hc2 := fun x => conv1d wq x
        refine wp_region_held_drew (S := (fun w' => w'.cell? ⟨w.heap.size, 0, none⟩ = some (.int .i64 side) ∧ w'.cell? ⟨w.heap.size + 1, 1, none⟩ = some (.slice (some ⟨b, off, none⟩) l.length cm) ∧ w'.cell? ⟨b, off + k * 3 + 2, none⟩ = some (.int .i64 (stAt l k).far))) (by kernel_rfl) ?hrg36S (fun hHeld => ?hrg36g)
        case hrg36S => (try dsimp only); (exact HS.out _ hw)
        refine wpAnyH_take (i := 0) (oi := _) (v := ?hrg37v) rfl (by kernel_rfl) (by kernel_rfl) (by kernel_rfl) (fun _ _ _ h => h) (Or.inl ⟨by rfl, ?hrg37y⟩) (by assumption) ?hrg37r
        case hrg37y => (intro w hSw; (try dsimp only at hSw); go_simp; all_goals (with_reducible rfl))
        (try simp only [Act.put]); (try simp only [List.getElem_toArray]); (try simp only [List.getElem_cons_succ]); (try simp only [List.getElem_cons_zero]); (try simp only [List.setIfInBounds_toArray]); (try simp only [List.set_cons_succ]); (try simp only [List.set_cons_zero])
        refine wpAnyH_take (i := 1) (oi := _) (v := ?hrg38v) rfl (by kernel_rfl) (by kernel_rfl) (by kernel_rfl) (fun _ _ _ h => h) (Or.inl ⟨by rfl, ?hrg38y⟩) (by assumption) ?hrg38r
        case hrg38y => (intro w hSw; (try dsimp only at hSw); go_simp; all_goals (with_reducible rfl))
        (try simp only [Act.put]); (try simp only [List.getElem_toArray]); (try simp only [List.getElem_cons_succ]); (try simp only [List.getElem_cons_zero]); (try simp only [List.setIfInBounds_toArray]); (try simp only [List.set_cons_succ]); (try simp only [List.set_cons_zero])
        refine wpAnyH_take (i := 2) (oi := _) (v := ?hrg39v) rfl (by kernel_rfl) (by kernel_rfl) (by kernel_rfl) (fun _ _ _ h => h) (Or.inl ⟨by rfl, ?hrg39y⟩) (by assumption) ?hrg39r
        case hrg39y => (intro w hSw; (try dsimp only at hSw); go_simp; all_goals (with_reducible rfl))
        (try simp only [Act.put]); (try simp only [List.getElem_toArray]); (try simp only [List.getElem_cons_succ]); (try simp only [List.getElem_cons_zero]); (try simp only [List.setIfInBounds_toArray]); (try simp only [List.set_cons_succ]); (try simp only [List.set_cons_zero])
        refine wpAnyH_take (i := 6) (oi := _) (v := ?hrg40v) rfl (by kernel_rfl) (by kernel_rfl) (by kernel_rfl) (fun _ _ _ h => h) (Or.inl ⟨by rfl, ?hrg40y⟩) (by assumption) ?hrg40r
        case hrg40y => (intro w hSw; (try dsimp only at hSw); go_simp; all_goals (with_reducible rfl))
        (try simp only [Act.put]); (try simp only [List.getElem_toArray]); (try simp only [List.getElem_cons_succ]); (try simp only [List.getElem_cons_zero]); (try simp only [List.setIfInBounds_toArray]); (try simp only [List.set_cons_succ]); (try simp only [List.set_cons_zero])
        refine wpAnyH_take (i := 7) (oi := _) (v := ?hrg41v) rfl (by kernel_rfl) (by kernel_rfl) (by kernel_rfl) (fun _ _ _ h => h) (Or.inl ⟨by rfl, ?hrg41y⟩) (by assumption) ?hrg41r
        case hrg41y => (intro w hSw; (try dsimp only at hSw); go_simp; all_goals (with_reducible rfl))
        (try simp only [Act.put]); (try simp only [List.getElem_toArray]); (try simp only [List.getElem_cons_succ]); (try simp only [List.getElem_cons_zero]); (try simp only [List.setIfInBounds_toArray]); (try simp only [List.set_cons_succ]); (try simp only [List.set_cons_zero])
        refine wpAnyH_take (i := 8) (oi := _) (v := ?hrg42v) rfl (by kernel_rfl) (by kernel_rfl) (by kernel_rfl) (fun _ _ _ h => h) (Or.inl ⟨by rfl, ?hrg42y⟩) (by assumption) ?hrg42r
        case hrg42y => (intro w hSw; (try dsimp only at hSw); go_simp; all_goals (with_reducible rfl))
        (try simp only [Act.put]); (try simp only [List.getElem_toArray]); (try simp only [List.getElem_cons_succ]); (try simp only [List.getElem_cons_zero]); (try simp only [List.setIfInBounds_toArray]); (try simp only [List.set_cons_succ]); (try simp only [List.set_cons_zero])
        refine wpAnyH_take (i := 9) (oi := _) (v := ?hrg43v) rfl (by kernel_rfl) (by kernel_rfl) (by kernel_rfl) (fun _ _ _ h => h) (Or.inl ⟨by rfl, ?hrg43y⟩) (by assumption) ?hrg43r
        case hrg43y => (intro w hSw; (try dsimp only at hSw); go_simp; all_goals (with_reducible rfl))
        (try simp only [Act.put]); (try simp only [List.getElem_toArray]); (try simp only [List.getElem_cons_succ]); (try simp only [List.getElem_cons_zero]); (try simp only [List.setIfInBounds_toArray]); (try simp only [List.set_cons_succ]); (try simp only [List.set_cons_zero])
        refine wpAnyH_take (i := 10) (oi := _) (v := ?hrg44v) rfl (by kernel_rfl) (by kernel_rfl) (by kernel_rfl) (fun _ _ _ h => h) (Or.inl ⟨by rfl, ?hrg44y⟩) (by assumption) ?hrg44r
        case hrg44y => (intro w hSw; (try dsimp only at hSw); go_simp; all_goals (with_reducible rfl))
        (try simp only [Act.put]); (try simp only [List.getElem_toArray]); (try simp only [List.getElem_cons_succ]); (try simp only [List.getElem_cons_zero]); (try simp only [List.setIfInBounds_toArray]); (try simp only [List.set_cons_succ]); (try simp only [List.set_cons_zero])
        refine wpAnyH_take (i := 11) (oi := _) (v := ?hrg45v) rfl (by kernel_rfl) (by kernel_rfl) (by kernel_rfl) (fun _ _ _ h => h) (Or.inl ⟨by rfl, ?hrg45y⟩) (by assumption) ?hrg45r
        case hrg45y => (intro w hSw; (try dsimp only at hSw); go_simp; all_goals (with_reducible rfl))
        (try simp only [Act.put]); (try simp only [List.getElem_toArray]); (try simp only [List.getElem_cons_succ]); (try simp only [List.getElem_cons_zero]); (try simp only [List.setIfInBounds_toArray]); (try simp only [List.set_cons_succ]); (try simp only [List.set_cons_zero])
        refine wpAnyH_take (i := 12) (oi := _) (v := ?hrg46v) rfl (by kernel_rfl) (by kernel_rfl) (by kernel_rfl) (fun _ _ _ h => h) (Or.inl ⟨by rfl, ?hrg46y⟩) (by assumption) ?hrg46r
        case hrg46y => (intro w hSw; (try dsimp only at hSw); go_simp; all_goals (with_reducible rfl))
        (try simp only [Act.put]); (try simp only [List.getElem_toArray]); (try simp only [List.getElem_cons_succ]); (try simp only [List.getElem_cons_zero]); (try simp only [List.setIfInBounds_toArray]); (try simp only [List.set_cons_succ]); (try simp only [List.set_cons_zero])
        refine wpAnyH_take (i := 13) (oi := _) (v := ?hrg47v) rfl (by kernel_rfl) (by kernel_rfl) (by kernel_rfl) (fun _ _ _ h => h) (Or.inl ⟨by rfl, ?hrg47y⟩) (by assumption) ?hrg47r
        case hrg47y => (intro w hSw; (try dsimp only at hSw); go_simp; all_goals (with_reducible rfl))
        (try simp only [Act.put]); (try simp only [List.getElem_toArray]); (try simp only [List.getElem_cons_succ]); (try simp only [List.getElem_cons_zero]); (try simp only [List.setIfInBounds_toArray]); (try simp only [List.set_cons_succ]); (try simp only [List.set_cons_zero])
        refine wpAnyH_ready (rs := [3, 14]) (by kernel_rfl) (by simp) ?_
        refine (AllReadyH.cons (o := _) rfl (fun K hK => ?hrg48_3) (AllReadyH.cons (o := _) rfl (fun K hK => ?hrg48_14) AllReadyH.nil))
        case' hrg48_3 =>
          go_simp
          refine hK.out _ _ ?hrg49S (fun hHeld => ?hrg49g)
          case hrg49S => (try dsimp only); (exact HS.out _ (below_of wq _).drew)
          clear hK K
          (try simp only [Act.put]); (try simp only [List.getElem_toArray]); (try simp only [List.getElem_cons_succ]); (try simp only [List.getElem_cons_zero]); (try simp only [List.setIfInBounds_toArray]); (try simp only [List.set_cons_succ]); (try simp only [List.set_cons_zero])
          refine wpAnyH_ready (rs := [4, 14]) (by kernel_rfl) (by simp) ?_
          refine (AllReadyH.cons (o := _) rfl (fun K hK => ?hrg50_4) (AllReadyH.cons (o := _) rfl (fun K hK => ?hrg50_14) AllReadyH.nil))
          case' hrg50_4 =>
            go_simp
            refine hK.out _ _ ?hrg51S (fun hHeld => ?hrg51g)
            case hrg51S => (try dsimp only); (exact HS.out _ (below_of wq _).drew)
            clear hK K
            (try simp only [Act.put]); (try simp only [List.getElem_toArray]); (try simp only [List.getElem_cons_succ]); (try simp only [List.getElem_cons_zero]); (try simp only [List.setIfInBounds_toArray]); (try simp only [List.set_cons_succ]); (try simp only [List.set_cons_zero])
            refine wpAnyH_take (i := 5) (oi := _) (v := ?hrg52v) rfl (by kernel_rfl) (by kernel_rfl) (by kernel_rfl) (fun _ _ _ h => h) (Or.inl ⟨by rfl, ?hrg52y⟩) (by assumption) ?hrg52r
            case hrg52y => (intro w hSw; (try dsimp only at hSw); go_simp; all_goals (with_reducible rfl))
            (try simp only [Act.put]); (try simp only [List.getElem_toArray]); (try simp only [List.getElem_cons_succ]); (try simp only [List.getElem_cons_zero]); (try simp only [List.setIfInBounds_toArray]); (try simp only [List.set_cons_succ]); (try simp only [List.set_cons_zero])
            refine wpAnyH_ready (rs := [14]) (by kernel_rfl) (by simp) ?_
            refine (AllReadyH.cons (o := _) rfl (fun K hK => ?hrg53_14) AllReadyH.nil)
            case' hrg53_14 =>
              go_simp; go_at_call 29; refine (l1Put_any _ _ _ HOB.out).mono ?_; rintro e w5 ⟨rfl, hb5⟩; have hw5 : Below wq.heap.size wq w5 := (below_of wq (.cells #[.int .u8 (nm)] 5)).drew.trans (hb5.mono (by simp)); have hc5 := conv_at (nm) w5 wq.heap.size ((Blk.below (Blk.drew (Blk.new wq #[.int .u8 (nm)] 5)) hb5 (by simp)).cell 0)
              refine hK.out _ _ ?hrg54S (fun hHeld => ?hrg54g)
              case hrg54S => (try dsimp only); (exact HS.out _ hw5)
              clear hK K
              (try simp only [Act.put]); (try simp only [List.getElem_toArray]); (try simp only [List.getElem_cons_succ]); (try simp only [List.getElem_cons_zero]); (try simp only [List.setIfInBounds_toArray]); (try simp only [List.set_cons_succ]); (try simp only [List.set_cons_zero])
              refine wpAnyH_take (i := 15) (oi := _) (v := ?hrg55v) rfl (by kernel_rfl) (by kernel_rfl) (by kernel_rfl) (fun _ _ _ h => h) (Or.inl ⟨by rfl, ?hrg55y⟩) (by assumption) ?hrg55r
              case hrg55y => (intro w hSw; (try dsimp only at hSw); go_simp; all_goals (with_reducible rfl))
              (try simp only [Act.put]); (try simp only [List.getElem_toArray]); (try simp only [List.getElem_cons_succ]); (try simp only [List.getElem_cons_zero]); (try simp only [List.setIfInBounds_toArray]); (try simp only [List.set_cons_succ]); (try simp only [List.set_cons_zero])
              refine wpAnyH_take (i := 16) (oi := _) (v := ?hrg56v) rfl (by kernel_rfl) (by kernel_rfl) (by kernel_rfl) (fun _ _ _ h => h) (Or.inl ⟨by rfl, ?hrg56y⟩) (by assumption) ?hrg56r
              case hrg56y => (intro w hSw; (try dsimp only at hSw); go_simp; all_goals (with_reducible rfl))
              (try simp only [Act.put]); (try simp only [List.getElem_toArray]); (try simp only [List.getElem_cons_succ]); (try simp only [List.getElem_cons_zero]); (try simp only [List.setIfInBounds_toArray]); (try simp only [List.set_cons_succ]); (try simp only [List.set_cons_zero])
              refine wpAnyH_done (by kernel_rfl) ?_ _
          case' hrg50_14 =>
            go_simp; go_at_call 29; refine (l1Put_any _ _ _ HOB.out).mono ?_; rintro e w5 ⟨rfl, hb5⟩; have hw5 : Below wq.heap.size wq w5 := (below_of wq (.cells #[.int .u8 (nm)] 5)).drew.trans (hb5.mono (by simp)); have hc5 := conv_at (nm) w5 wq.heap.size ((Blk.below (Blk.drew (Blk.new wq #[.int .u8 (nm)] 5)) hb5 (by simp)).cell 0)
            refine hK.out _ _ ?hrg57S (fun hHeld => ?hrg57g)
            case hrg57S => (try dsimp only); (exact HS.out _ hw5)
            clear hK K
            (try simp only [Act.put]); (try simp only [List.getElem_toArray]); (try simp only [List.getElem_cons_succ]); (try simp only [List.getElem_cons_zero]); (try simp only [List.setIfInBounds_toArray]); (try simp only [List.set_cons_succ]); (try simp only [List.set_cons_zero])
            refine wpAnyH_ready (rs := [4]) (by kernel_rfl) (by simp) ?_
            refine (AllReadyH.cons (o := _) rfl (fun K hK => ?hrg58_4) AllReadyH.nil)
            case' hrg58_4 =>
              go_simp
              refine hK.out _ _ ?hrg59S (fun hHeld => ?hrg59g)
              case hrg59S => (try dsimp only); (exact HS.out _ hw5)
              clear hK K
              (try simp only [Act.put]); (try simp only [List.getElem_toArray]); (try simp only [List.getElem_cons_succ]); (try simp only [List.getElem_cons_zero]); (try simp only [List.setIfInBounds_toArray]); (try simp only [List.set_cons_succ]); (try simp only [List.set_cons_zero])
              refine wpAnyH_take (i := 5) (oi := _) (v := ?hrg60v) rfl (by kernel_rfl) (by kernel_rfl) (by kernel_rfl) (fun _ _ _ h => h) (Or.inl ⟨by rfl, ?hrg60y⟩) (by assumption) ?hrg60r
              case hrg60y => (intro w hSw; (try dsimp only at hSw); go_simp; all_goals (with_reducible rfl))
              (try simp only [Act.put]); (try simp only [List.getElem_toArray]); (try simp only [List.getElem_cons_succ]); (try simp only [List.getElem_cons_zero]); (try simp only [List.setIfInBounds_toArray]); (try simp only [List.set_cons_succ]); (try simp only [List.set_cons_zero])
              refine wpAnyH_take (i := 15) (oi := _) (v := ?hrg61v) rfl (by kernel_rfl) (by kernel_rfl) (by kernel_rfl) (fun _ _ _ h => h) (Or.inl ⟨by rfl, ?hrg61y⟩) (by assumption) ?hrg61r
              case hrg61y => (intro w hSw; (try dsimp only at hSw); go_simp; all_goals (with_reducible rfl))
              (try simp only [Act.put]); (try simp only [List.getElem_toArray]); (try simp only [List.getElem_cons_succ]); (try simp only [List.getElem_cons_zero]); (try simp only [List.setIfInBounds_toArray]); (try simp only [List.set_cons_succ]); (try simp only [List.set_cons_zero])
              refine wpAnyH_take (i := 16) (oi := _) (v := ?hrg62v) rfl (by kernel_rfl) (by kernel_rfl) (by kernel_rfl) (fun _ _ _ h => h) (Or.inl ⟨by rfl, ?hrg62y⟩) (by assumption) ?hrg62r
              case hrg62y => (intro w hSw; (try dsimp only at hSw); go_simp; all_goals (with_reducible rfl))
              (try simp only [Act.put]); (try simp only [List.getElem_toArray]); (try simp only [List.getElem_cons_succ]); (try simp only [List.getElem_cons_zero]); (try simp only [List.setIfInBounds_toArray]); (try simp only [List.set_cons_succ]); (try simp only [List.set_cons_zero])
              refine wpAnyH_done (by kernel_rfl) ?_ _
        case' hrg48_14 =>
          go_simp; go_at_call 29; refine (l1Put_any _ _ _ HOB.out).mono ?_; rintro e w5 ⟨rfl, hb5⟩; have hw5 : Below wq.heap.size wq w5 := hw.trans (hb5.mono (Nat.le_refl _)); have hc3 := (fun x => conv1 w5 x)
          refine hK.out _ _ ?hrg63S (fun hHeld => ?hrg63g)
          case hrg63S => (try dsimp only); (exact HS.out _ hw5)
          clear hK K
          (try simp only [Act.put]); (try simp only [List.getElem_toArray]); (try simp only [List.getElem_cons_succ]); (try simp only [List.getElem_cons_zero]); (try simp only [List.setIfInBounds_toArray]); (try simp only [List.set_cons_succ]); (try simp only [List.set_cons_zero])
          refine wpAnyH_ready (rs := [3]) (by kernel_rfl) (by simp) ?_
          refine (AllReadyH.cons (o := _) rfl (fun K hK => ?hrg64_3) AllReadyH.nil)
          case' hrg64_3 =>
            go_simp
            refine hK.out _ _ ?hrg65S (fun hHeld => ?hrg65g)
            case hrg65S => (try dsimp only); (exact HS.out _ (hw5.alloc hw5.size _))
            clear hK K
            (try simp only [Act.put]); (try simp only [List.getElem_toArray]); (try simp only [List.getElem_cons_succ]); (try simp only [List.getElem_cons_zero]); (try simp only [List.setIfInBounds_toArray]); (try simp only [List.set_cons_succ]); (try simp only [List.set_cons_zero])
            refine wpAnyH_ready (rs := [4]) (by kernel_rfl) (by simp) ?_
            refine (AllReadyH.cons (o := _) rfl (fun K hK => ?hrg66_4) AllReadyH.nil)
            case' hrg66_4 =>
              go_simp
              refine hK.out _ _ ?hrg67S (fun hHeld => ?hrg67g)
              case hrg67S => (try dsimp only); (exact HS.out _ (hw5.alloc hw5.size _))
              clear hK K
              (try simp only [Act.put]); (try simp only [List.getElem_toArray]); (try simp only [List.getElem_cons_succ]); (try simp only [List.getElem_cons_zero]); (try simp only [List.setIfInBounds_toArray]); (try simp only [List.set_cons_succ]); (try simp only [List.set_cons_zero])
              refine wpAnyH_take (i := 5) (oi := _) (v := ?hrg68v) rfl (by kernel_rfl) (by kernel_rfl) (by kernel_rfl) (fun _ _ _ h => h) (Or.inl ⟨by rfl, ?hrg68y⟩) (by assumption) ?hrg68r
              case hrg68y => (intro w hSw; (try dsimp only at hSw); go_simp; all_goals (with_reducible rfl))
              (try simp only [Act.put]); (try simp only [List.getElem_toArray]); (try simp only [List.getElem_cons_succ]); (try simp only [List.getElem_cons_zero]); (try simp only [List.setIfInBounds_toArray]); (try simp only [List.set_cons_succ]); (try simp only [List.set_cons_zero])
              refine wpAnyH_take (i := 15) (oi := _) (v := ?hrg69v) rfl (by kernel_rfl) (by kernel_rfl) (by kernel_rfl) (fun _ _ _ h => h) (Or.inl ⟨by rfl, ?hrg69y⟩) (by assumption) ?hrg69r
              case hrg69y => (intro w hSw; (try dsimp only at hSw); go_simp; all_goals (with_reducible rfl))
              (try simp only [Act.put]); (try simp only [List.getElem_toArray]); (try simp only [List.getElem_cons_succ]); (try simp only [List.getElem_cons_zero]); (try simp only [List.setIfInBounds_toArray]); (try simp only [List.set_cons_succ]); (try simp only [List.set_cons_zero])
              refine wpAnyH_take (i := 16) (oi := _) (v := ?hrg70v) rfl (by kernel_rfl) (by kernel_rfl) (by kernel_rfl) (fun _ _ _ h => h) (Or.inl ⟨by rfl, ?hrg70y⟩) (by assumption) ?hrg70r
              case hrg70y => (intro w hSw; (try dsimp only at hSw); go_simp; all_goals (with_reducible rfl))
              (try simp only [Act.put]); (try simp only [List.getElem_toArray]); (try simp only [List.getElem_cons_succ]); (try simp only [List.getElem_cons_zero]); (try simp only [List.setIfInBounds_toArray]); (try simp only [List.set_cons_succ]); (try simp only [List.set_cons_zero])
              refine wpAnyH_done (by kernel_rfl) ?_ _
        all_goals
          go_wp2_with fail
          go_roundw
          case rel => exact ⟨k + 1, by omega, by go_num, congrArg Value.string HNX.out, HQ1.out.below (by first | exact hw5 | exact hw5.alloc hw5.size _) z1, HQ2.out.below (by first | exact hw5 | exact hw5.alloc hw5.size _) z2, HBE.out.trans (Below.mono (by first | exact hw5 | exact hw5.alloc hw5.size _) hz)⟩
          case measure => simp [intOf]; omega
    · obtain rfl : k = l.length := by omega
      go_wp2_with fail
      go_ret
      exact ⟨rfl, hbe⟩
end Go.Proofs.YtnjhcjjeehccbaaDoor.Ko
