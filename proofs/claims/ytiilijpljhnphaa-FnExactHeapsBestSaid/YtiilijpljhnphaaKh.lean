/- HeapsBest: the model's and the program's. -/
import Derived.Test.YtiilijpljhnphaaKg
namespace Go.Proofs.Ytiilijpljhnphaa.Ko
open Go.ChangeShapes Go.WideShapes Go.ChangeAt Go.RowKit Base Sq In
set_option linter.unusedVariables false
set_option maxRecDepth 20000
attribute [local irreducible] wpQuiet

set_option maxHeartbeats 4000000 in
theorem l18Do_any (U : Option Addr) (cu : Nat) (z : List Int) (x y : Int) (w : World) (hU : IsInts w w.heap.size U z) (hz : heapsB z = true) (hm : MoveOk z (x, y)) :
    Calls Try.prog 67 #[.slice U z.length cu, .agg #[.int .i64 x, .int .i64 y]] w fun e w' => LenNew w w' (doH z (x, y)) e := by
  obtain ⟨i0, hi, hz0, hz1, hz2⟩ := info_parts infoInt
  obtain ⟨hx0, hxl, hy1, hy2⟩ : 0 ≤ x ∧ x.toNat < z.length ∧ 1 ≤ y ∧ y ≤ iAt z x.toNat := hm
  have hzl := heapsB_len hz
  obtain ⟨hr1, hr2⟩ := heapsB_in hz hxl
  obtain ⟨b, rfl⟩ := hU.some (by omega)
  have p0 := (Blk.new w #[.int .i64 x, .int .i64 y] 60).alloc (.cells #[] 3)
  have hb0 : Below w.heap.size w ((w.alloc (.cells #[.int .i64 x, .int .i64 y] 60)).alloc (.cells #[] 3)) := (by repeat (first | exact Below.refl _ _ | assumption | (refine Below.alloc ?_ (by first | omega | (simp; done) | (simp; omega)) _) | (refine Below.setCell ?_ (by first | omega | (simp; done) | (simp; omega)) _) | refine Below.drew ?_))
  have hB := Blk.new (w.alloc (.cells #[.int .i64 x, .int .i64 y] 60)) #[] 3
  simp only [World.size_alloc] at hB
  have HO := Lib.hid (Own.empty (base := w.heap.size + 1) (Nat.le_refl _) hB)
  have HLN := Lib.hid (show (nums z).length = z.length * 1 by rw [nums_len, Nat.mul_one])
  have HNW := Lib.hid (IsInts.news (hU.below hb0))
  have hmax : 0 + z.length ≤ maxLen := by unfold maxLen; omega
  have hzl2 : z.length ≤ 1048576 := by omega
  have hs0 : w.heap.size + 1 ≤ ((w.alloc (.cells #[.int .i64 x, .int .i64 y] 60)).alloc (.cells #[] 3)).heap.size := by simp
  have HB0 := Lib.hid hb0
  have HP0 := Lib.hid p0
  clear hB hb0 p0 hz hU
  go_enter Try.func67, Try.ntmps67
  go_wp2_with (at_builtin; refine wpList_append_own _ rfl _ _ 22 rfl (w.heap.size + 1) 3 i0 (.int .i64 0) 1 8 Try.underlying22 hi hz0 hz1 hz2 rfl (by decide) _ _ _ rfl HO.out ⟨b, 0, none⟩ z.length _ (nums z) rfl HLN.out HNW.out (nums_one z) (by first | exact hmax | (simp; exact hmax)) (by simp; omega) hs0 ?_; intro v' w7 hown' hgrow' hnil')
  have hbG := own_base (l := []) HO.out hgrow' (Below.refl (w.heap.size + 1) _) (Nat.le_refl _) hs0
  have hO7 : In.Own w7 (w.heap.size + 1) v' z := by
    have := hown'
    simp only [List.length_nil, Nat.zero_add] at this
    exact this
  have hbe : Below w.heap.size w w7 := HB0.out.trans (hbG.mono (by omega))
  have p7 := HP0.out.below hbG (by omega)
  obtain ⟨A7, c7, hv7⟩ := hO7.slice
  subst hv7
  obtain ⟨g, rfl, hgB, hgl, c1, f1, hput⟩ := own_put hO7 hxl
  obtain ⟨⟨e0, e1⟩, _⟩ := p7.at2
  have hne : w.heap.size ≠ g := by omega
  have q2 : x < (z.length : Int) := by omega
  have q3 : IntKind.i64.wrap (iAt z x.toNat - y) = iAt z x.toNat - y := IntWalk.i64_in _ (by omega)
  have HPUT := Lib.hid (hput (iAt z x.toNat - y))
  have HBE := Lib.hid hbe
  have hgw : w.heap.size ≤ g := by omega
  clear hown' hgrow' hnil' HO HLN HNW HB0 HP0 hbG hO7 hbe p7 hput hs0 hmax
  go_region_with fail
  all_goals
    go_wp2_with fail
    go_ret
    have hO := HPUT.out
    rw [show z.length = (doH z (x, y)).length from (doH_len z (x, y)).symm] at hO ⊢
    have hO2 : In.Own (w7.setCell ⟨g, x.toNat, none⟩ (.int .i64 (iAt z x.toNat - y))) (w.heap.size + 1) (.slice (some ⟨g, 0, none⟩) (doH z (x, y)).length c7) (doH z (x, y)) := hO
    obtain ⟨A9, c9, hv9, hn9⟩ := NewInts.of hO2
    simp only [Value.slice.injEq] at hv9
    obtain ⟨rfl, _, rfl⟩ := hv9
    exact ⟨_, _, rfl, hn9.low (by omega), (Below.setCell (p := ⟨g, x.toNat, none⟩) HBE.out hgw _).drew⟩
end Go.Proofs.Ytiilijpljhnphaa.Ko
