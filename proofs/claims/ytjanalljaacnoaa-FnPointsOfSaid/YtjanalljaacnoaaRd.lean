/- The reader from which the model draws: open, pick. -/
import Derived.Test.YtjanalljaacnoaaBase
import Derived.Laws.Bits64
namespace Go.Proofs.Ytjanalljaacnoaa.Rd
open Go.ChangeShapes Go.WideShapes Go.ChangeAt Go.RowKit Base
set_option linter.unusedVariables false
set_option maxRecDepth 20000
attribute [local irreducible] wpQuiet

/-- only block g may have changed -/
structure But (g : Nat) (w w' : World) : Prop where
  os : w'.os = w.os
  tape : w'.tape = w.tape
  output : w'.output = w.output
  size : w.heap.size ≤ w'.heap.size
  block : ∀ k, k < w.heap.size → k ≠ g → w'.heap[k]? = w.heap[k]?
theorem But.trans {g : Nat} {a b c : World} (h : But g a b) (k : But g b c) : But g a c :=
  ⟨k.os.trans h.os, k.tape.trans h.tape, k.output.trans h.output, Nat.le_trans h.size k.size, fun i hi hg => (k.block i (Nat.lt_of_lt_of_le hi h.size) hg).trans (h.block i hi hg)⟩
theorem But.refl (g : Nat) (w : World) : But g w w := ⟨rfl, rfl, rfl, Nat.le_refl _, fun _ _ _ => rfl⟩
theorem But.of {g : Nat} {w w' : World} (h : Below w.heap.size w w') : But g w w' := ⟨h.os, h.tape, h.output, h.size, fun k hk _ => h.block k hk⟩
theorem But.setCell {g : Nat} {a w : World} (h : But g a w) (p : Addr) (u : Value) (hp : p.block = g) : But g a (w.setCell p u) :=
  h.trans ⟨rfl, rfl, rfl, by simp [World.setCell], fun k _ hg => Below.heap_setCell w p u k (by rw [hp]; exact hg)⟩
theorem But.below {g B : Nat} {w w' : World} (h : But g w w') (hB : B ≤ w.heap.size) (hg : B ≤ g) : Below B w w' := ⟨h.os, h.tape, h.output, h.size, fun k hk => h.block k (by omega) (by omega)⟩
theorem But.cell {g : Nat} {w w' : World} (h : But g w w') {b : Nat} (o : Nat) (hb : b < w.heap.size) (hg : b ≠ g) : w'.cell? ⟨b, o, none⟩ = w.cell? ⟨b, o, none⟩ := World.cell?_of_block (h.block b hb hg)

/-- a reader at block g that has been asked q times -/
def Rdr (w : World) (g q : Nat) : Prop := ∃ A n c, Blk w g #[.slice A n c, .int .i64 q] 80 ∧ n ≤ 2000 ∧
  (0 < n → ∃ b off, ∃ zf : Nat → Int, A = some ⟨b, off, none⟩ ∧ b < w.heap.size ∧ b ≠ g ∧ ∀ i, i < n → 0 ≤ zf i ∧ zf i ≤ 255 ∧ w.cell? ⟨b, off + i, none⟩ = some (.int .u8 (zf i)))
theorem Rdr.below {w w' : World} {g q : Nat} (h : Rdr w g q) (hb : Below w.heap.size w w') : Rdr w' g q := by
  obtain ⟨A, n, c, hk, hn, hc⟩ := h
  refine ⟨A, n, c, hk.below hb hk.lt, hn, fun h0 => ?_⟩
  obtain ⟨b, off, zf, rfl, hlt, hne, hz⟩ := hc h0
  exact ⟨b, off, zf, rfl, Nat.lt_of_lt_of_le hlt hb.size, hne, fun i hi => ⟨(hz i hi).1, (hz i hi).2.1, (hb.cell (p := ⟨b, off + i, none⟩) hlt).trans (hz i hi).2.2⟩⟩
theorem Rdr.lt {w : World} {g q : Nat} (h : Rdr w g q) : g < w.heap.size := by obtain ⟨A, n, c, hk, _⟩ := h; exact hk.lt

theorem xor_i64 (X : Int) (h0 : 0 ≤ X) (h1 : X ≤ 4611686018427387903) : ∃ y, 0 ≤ y ∧ y ≤ 9223372036854775807 ∧ bits .xor .i64 X (X / 64) = y := by
  obtain ⟨x, rfl⟩ := Int.eq_ofNat_of_zero_le h0
  have d : ((x : Int) / 64) = ((x / 64 : Nat) : Int) := by omega
  have hx : x < 2 ^ 62 := by omega
  have hl : x ^^^ (x / 64) < 2 ^ 62 := Nat.xor_lt_two_pow hx (by omega)
  refine ⟨((x ^^^ x / 64 : Nat) : Int), by omega, by omega, ?_⟩
  have e1 : (BitVec.ofInt 64 (x : Int)).toNat = x := by rw [BitVec.ofInt_natCast, BitVec.toNat_ofNat]; exact Nat.mod_eq_of_lt (by omega)
  have e2 : (BitVec.ofInt 64 ((x / 64 : Nat) : Int)).toNat = x / 64 := by rw [BitVec.ofInt_natCast, BitVec.toNat_ofNat]; exact Nat.mod_eq_of_lt (by omega)
  rw [d]
  show IntKind.i64.wrap ((BitVec.ofInt 64 (x : Int) ^^^ BitVec.ofInt 64 ((x / 64 : Nat) : Int)).toNat : Int) = _
  rw [BitVec.toNat_xor, e1, e2]
  exact IntWalk.i64_in _ (by omega)

/-- what a pick leaves -/
def PickPost (n : Int) (g q : Nat) (w w' : World) (e : Ending) : Prop := ∃ v, e = .returned (.int .i64 v) ∧ 0 ≤ v ∧ (v < n ∨ (n < 1 ∧ v = 0)) ∧ Rdr w' g (q + 1) ∧ But g w w'

set_option maxHeartbeats 4000000 in
theorem pick_any (g q : Nat) (n : Int) (w : World) (h : Rdr w g q) (hq : q < 1000000) (hn : n ≤ 1000000) :
    Calls Try.prog 51 #[.pointer (some ⟨g, 0, none⟩), .int .i64 n] w fun e w' => PickPost n g q w w' e := by
  obtain ⟨A, m, c, hk, hm, hc⟩ := h
  obtain ⟨⟨c0, c1⟩, f0, f1⟩ := hk.at2
  have e1 : (((q + 1 : Nat) : Int)) = (q : Int) + 1 := by omega
  have hR : Rdr (w.setCell ⟨g, 1, none⟩ (.int .i64 ((q : Int) + 1))) g (q + 1) := by
    refine ⟨A, m, c, by rw [e1]; exact hk.set 1 _, hm, fun h0 => ?_⟩
    obtain ⟨b, off, zf, rfl, hlt, hne, hz⟩ := hc h0
    exact ⟨b, off, zf, rfl, by rw [size_set]; exact hlt, hne, fun i hi => ⟨(hz i hi).1, (hz i hi).2.1, (((But.refl g w).setCell ⟨g, 1, none⟩ _ rfl).cell _ hlt hne).trans (hz i hi).2.2⟩⟩
  have hB : But g w (w.setCell ⟨g, 1, none⟩ (.int .i64 ((q : Int) + 1))) := (But.refl g w).setCell _ _ rfl
  have hB1 : Blk (w.setCell ⟨g, 1, none⟩ (.int .i64 ((q : Int) + 1))) g #[.slice A m c, .int .i64 ((q : Int) + 1)] 80 := hk.set 1 _
  have HR := Lib.hid hR
  have HB := Lib.hid hB
  clear hR hB e1
  by_cases h1 : n < 1
  · clear hc hk
    go_enter Try.func51, Try.ntmps51
    go_wp2_with fail
    go_ret
    exact ⟨0, rfl, by omega, .inr ⟨h1, rfl⟩, HR.out, HB.out⟩
  by_cases h2 : m = 0
  · subst h2
    clear hc hk
    have h1' : 1 ≤ n := by omega
    clear h1
    go_enter Try.func51, Try.ntmps51
    go_wp2_with fail
    go_ret
    exact ⟨0, rfl, by omega, .inl (by omega), HR.out, HB.out⟩
  obtain ⟨b, off, zf, rfl, hlt, hne, hz⟩ := hc (by omega)
  have h1' : 1 ≤ n := by omega
  have hd0 : decide (n < 1) = false := decide_eq_false h1
  have hm0 : ((m : Int) == 0) = false := by simp; omega
  have HZ : Hid (∀ i, i < m → 0 ≤ zf i ∧ zf i ≤ 255 ∧ w.cell? ⟨b, off + i, none⟩ = some (.int .u8 (zf i))) := Lib.hid hz
  have hlt2 : b < (w.setCell ⟨g, 1, none⟩ (.int .i64 ((q : Int) + 1))).heap.size := by rw [size_set]; exact hlt
  have HC := Lib.hid (fun i => HB.out.cell (b := b) i hlt hne)
  have hmp : (m : Int) ≠ 0 := fun h => h2 (Int.ofNat_inj.1 h)
  have hmp2 : (0 : Int) < (m : Int) := Int.natCast_pos.2 (Nat.pos_of_ne_zero h2)
  have hm00 : ¬ m = 0 := h2
  clear hc hk hz h1 h2
  by_cases hqm : q < m
  · obtain ⟨z1, z2, z3⟩ := HZ.out q hqm
    have hv1 : 0 ≤ zf q % n := Int.emod_nonneg _ (by omega)
    have hv2 : zf q % n < n := Int.emod_lt_of_pos _ (by omega)
    have HV := Lib.hid (And.intro hv1 hv2)
    clear hv1 hv2
    go_enter Try.func51, Try.ntmps51
    go_wp2_with fail
    go_ret
    exact ⟨zf q % n, rfl, HV.out.1, .inl HV.out.2, HR.out, HB.out⟩
  · have hi1 : 0 ≤ (q : Int) % (m : Int) := Int.emod_nonneg _ hmp
    have hi2 : (q : Int) % (m : Int) < (m : Int) := Int.emod_lt_of_pos _ hmp2
    have hi3 : 0 ≤ ((q : Int) * 7 + 3) % (m : Int) := Int.emod_nonneg _ hmp
    have hi4 : ((q : Int) * 7 + 3) % (m : Int) < (m : Int) := Int.emod_lt_of_pos _ hmp2
    have hd1 : 0 ≤ (q : Int) / (m : Int) := Int.ediv_nonneg (by omega) (by omega)
    have hd2 : (q : Int) / (m : Int) ≤ (q : Int) := Int.ediv_le_self _ (by omega)
    have hq1 : (q : Int).tmod (m : Int) = (q : Int) % (m : Int) := Int.tmod_eq_emod_of_nonneg (by omega)
    have hq2 : ((q : Int) * 7 + 3).tmod (m : Int) = ((q : Int) * 7 + 3) % (m : Int) := Int.tmod_eq_emod_of_nonneg (by omega)
    have hq3 : (q : Int).tdiv (m : Int) = (q : Int) / (m : Int) := Int.tdiv_eq_ediv_of_nonneg (by omega)
    obtain ⟨za1, za2, za3⟩ := HZ.out ((q : Int) % (m : Int)).toNat ((Int.toNat_lt hi1).2 hi2)
    obtain ⟨zb1, zb2, zb3⟩ := HZ.out (((q : Int) * 7 + 3) % (m : Int)).toNat ((Int.toNat_lt hi3).2 hi4)
    have za3 := (HC.out _).trans za3
    have zb3 := (HC.out _).trans zb3
    generalize zf ((q : Int) % (m : Int)).toNat = za at *
    generalize zf (((q : Int) * 7 + 3) % (m : Int)).toNat = zb at *
    generalize (q : Int) / (m : Int) = dq at *
    have WD := Lib.hid (show IntKind.i64.wrap dq = dq from IntWalk.i64_in _ (by omega))
    have W1' : IntKind.i64.wrap ((q : Int) * 7) = (q : Int) * 7 := IntWalk.i64_in _ (by omega)
    have W2' : IntKind.i64.wrap ((q : Int) * 7 + 3) = (q : Int) * 7 + 3 := IntWalk.i64_in _ (by omega)
    have W3' : IntKind.i64.wrap (za * 131) = za * 131 := IntWalk.i64_in _ (by omega)
    have W4' : IntKind.i64.wrap (zb * 1117) = zb * 1117 := IntWalk.i64_in _ (by omega)
    have W5' : IntKind.i64.wrap (za * 131 + zb * 1117) = za * 131 + zb * 1117 := IntWalk.i64_in _ (by omega)
    have W6' : IntKind.i64.wrap ((q : Int) * 29) = (q : Int) * 29 := IntWalk.i64_in _ (by omega)
    have W7' : IntKind.i64.wrap (za * 131 + zb * 1117 + (q : Int) * 29) = za * 131 + zb * 1117 + (q : Int) * 29 := IntWalk.i64_in _ (by omega)
    have W8' : IntKind.i64.wrap (dq * 53) = dq * 53 := IntWalk.i64_in _ (by omega)
    have W9' : IntKind.i64.wrap (za * 131 + zb * 1117 + (q : Int) * 29 + dq * 53) = za * 131 + zb * 1117 + (q : Int) * 29 + dq * 53 := IntWalk.i64_in _ (by omega)
    obtain ⟨y, y1, y2, y3⟩ := xor_i64 (za * 131 + zb * 1117 + (q : Int) * 29 + dq * 53) (by omega) (by omega)
    have hX : ∃ X, za * 131 + zb * 1117 + (q : Int) * 29 + dq * 53 = X := ⟨_, rfl⟩
    obtain ⟨X, hX⟩ := hX
    have hX0 : 0 ≤ X := by omega
    have hX1 : X ≤ 4611686018427387903 := by omega
    have HY3 := Lib.hid y3
    have HXX := Lib.hid hX
    have hv1 : 0 ≤ y % n := Int.emod_nonneg _ (by omega)
    have hv2 : y % n < n := Int.emod_lt_of_pos _ (by omega)
    have HV := Lib.hid (And.intro hv1 hv2)
    clear hX y3 hv1 hv2 hd1 hd2
    go_enter Try.func51, Try.ntmps51
    go_wp2_with fail
    generalize hW1 : w.setCell _ _ = W1 at *
    clear hW1 c0 c1 f0 f1
    obtain ⟨⟨c0, c1⟩, f0, f1⟩ := hB1.at2
    have hg1 := hB1.lt
    refine wp_region_below (W := W1) (by kernel_rfl) (by kernel_rfl) (Below.refl _ _) ?_
    repeat (first
      | (refine qs_skip (by rfl) ?_; simp only [Act.put, List.setIfInBounds_toArray, List.set_cons_zero, List.set_cons_succ])
      | (apply qs_take
         focus rfl
         focus (
           intro wq hwq
           obtain ⟨hcq, hfq⟩ := bcell hwq
           go_simp
           all_goals first
             | exact rfl
             | (exact ⟨trivial, rfl⟩))
         simp only [Act.put, List.setIfInBounds_toArray, List.set_cons_zero, List.set_cons_succ]))
    refine wpQuiet_nil ?_
    intro wq hwq
    have Wa : IntKind.i64.wrap za = za := IntWalk.i64_in _ (by omega)
    have Wb : IntKind.i64.wrap zb = zb := IntWalk.i64_in _ (by omega)
    have Wd := WD.out
    simp only [Wa, Wb, Wd, W3', W4', W5', W7', W8', HXX.out]
    have hxy : bits .xor .i64 X (X / 64) = y := by rw [← HXX.out]; exact HY3.out
    clear W1' W2' W3' W4' W5' W6' W7' W8' W9' Wa Wb Wd
    go_wp2_with fail
    go_ret
    exact ⟨y % n, rfl, HV.out.1, .inl HV.out.2, HR.out.below hwq, HB.out.trans (But.of hwq)⟩
def OpenPost (w w' : World) (e : Ending) : Prop := ∃ g, e = .returned (.pointer (some ⟨g, 0, none⟩)) ∧ w.heap.size ≤ g ∧ Rdr w' g 0 ∧ Below w.heap.size w w'
theorem row_plain {A : Option Addr} {n c : Nat} {zs : List Int} {w : World} (h : IsRow .u8 w A n c zs) (h0 : 0 < n) :
    ∃ b off, ∃ zf : Nat → Int, A = some ⟨b, off, none⟩ ∧ b < w.heap.size ∧ n ≤ c ∧ c ≤ maxLen ∧ ∀ i, i < n → 0 ≤ zf i ∧ zf i ≤ 255 ∧ w.cell? ⟨b, off + i, none⟩ = some (.int .u8 (zf i)) := by
  rcases h with ⟨_, rfl, _⟩ | ⟨x, rfl, hl, hm, hz, hc, hw⟩
  · omega
  · obtain ⟨b, off, spot⟩ := x
    have c0 := hc 0 (by omega)
    have hspot : spot = none := by simpa [Addr.add] using World.cell?_spot c0
    subst hspot
    have hb := World.block_lt_of_cell? w _ c0
    refine ⟨b, off, fun i => zs.getD i 0, rfl, by simpa [Addr.add] using hb, hl, hm, fun i hi => ?_⟩
    have hmem : zs.getD i 0 ∈ zs := by rw [List.getD_eq_getElem?_getD, List.getElem?_eq_getElem (by omega)]; exact List.getElem_mem _
    have hwf := hw _ hmem
    have hbd : 0 ≤ zs.getD i 0 ∧ zs.getD i 0 ≤ 255 := by
      generalize zs.getD i 0 = z at *
      have e1 : IntKind.u8.min = 0 := rfl
      have e2 : IntKind.u8.max = 255 := rfl
      simp [Lit.wf, e1, e2] at hwf
      omega
    exact ⟨hbd.1, hbd.2, by have := hc i (by omega); by_cases hi0 : i = 0 <;> simpa [Addr.add, hi0] using this⟩
set_option maxHeartbeats 1000000 in
theorem open_any (A : Option Addr) (n c : Nat) (zs : List Int) (w : World) (h : IsRow .u8 w A n c zs) (hn : n ≤ 1048576) :
    Calls Try.prog 49 #[.slice A n c] w fun e w' => OpenPost w w' e := by
  by_cases hbig : 2000 < n
  · obtain ⟨b, off, zf, rfl, hb, hnc, hcm, hz⟩ := row_plain h (by omega)
    have HZ := Lib.hid hz
    have hd : decide (2000 < (n : Int)) = true := decide_eq_true (by omega)
    have hc2 : (2000 : Int) ≤ (c : Int) := by omega
    have hc3 : 2000 ≤ c := by omega
    clear hz h
    go_enter Try.func49, Try.ntmps49
    go_wp2_with fail
    go_ret
    refine ⟨w.heap.size, rfl, Nat.le_refl _, ⟨_, 2000, _, Blk.new _ _ _, by omega, fun _ => ⟨b, off, zf, rfl, by simp; omega, by omega, fun i hi => ?_⟩⟩, below_of _ _⟩
    obtain ⟨z1, z2, z3⟩ := HZ.out i (by omega)
    exact ⟨z1, z2, ((below_of w _).cell (p := ⟨b, off + i, none⟩) hb).trans z3⟩
  · have hd : decide (2000 < (n : Int)) = false := decide_eq_false (by omega)
    have HH := Lib.hid h
    clear h
    go_enter Try.func49, Try.ntmps49
    go_wp2_with fail
    go_ret
    refine ⟨w.heap.size, rfl, Nat.le_refl _, ⟨_, n, _, Blk.new _ _ _, by omega, fun h0 => ?_⟩, below_of _ _⟩
    obtain ⟨b, off, zf, rfl, hb, hnc, hcm, hz⟩ := row_plain HH.out h0
    exact ⟨b, off, zf, rfl, by simp; omega, by omega, fun i hi => ⟨(hz i hi).1, (hz i hi).2.1, ((below_of w _).cell (p := ⟨b, off + i, none⟩) hb).trans (hz i hi).2.2⟩⟩
end Go.Proofs.Ytjanalljaacnoaa.Rd
