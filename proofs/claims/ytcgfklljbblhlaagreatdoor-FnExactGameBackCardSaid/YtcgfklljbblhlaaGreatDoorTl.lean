/- What the card's condition gives: the library's table of bits lies in its variable. -/
import Derived.Test.YtcgfklljbblhlaaGreatDoorY7
import Derived.ProofKit
import Derived.LaidMore
import Derived.OpenShut
import Derived.Stop.Joined
namespace Go.Proofs.YtcgfklljbblhlaaGreatDoor.Ko
open Go.ChangeShapes Go.WideShapes Go.ChangeAt Go.WideElems Go.RowKit Base
set_option linter.unusedVariables false
set_option maxRecDepth 20000

theorem gTab : Tryz.prog.globalNamed "math/bits.deBruijn64tab" = some 0 := by kernel_rfl
theorem tTab : (Tryz.prog.globals[0]?).map (·.type) = some 178 := by kernel_rfl
theorem datTab : (Rows.laid_math_bits_deBruijn64tab : DataW Unit) = .agg (Go.Lib.deBruijn64tab.map fun n : Nat => .lit (.int .u8 (n : Int))) := rfl
theorem tab_of_laid {W : World} (h : laidMetH Tryz.prog [("math/bits.deBruijn64tab", Rows.laid_math_bits_deBruijn64tab)] W) : TabAt W := by
  rw [MakeChecks.laidMetH_plain _ _ _ (by kernel_rfl)] at h
  obtain ⟨ps, ⟨g0, t0, cs0, f0, p0, q0, hg0, ht0, hv0, hd0, _⟩, _, _⟩ := h
  obtain rfl := Option.some.inj (gTab.symm.trans hg0)
  obtain rfl := Option.some.inj (tTab.symm.trans ht0)
  obtain ⟨xs, m1, rfl, hx1, hlen, hn3, hel⟩ := DataW.trod_array Tryz.underlying178 hd0
  rw [datTab] at hx1
  simp only [Prod.mk.injEq, DataW.agg.injEq] at hx1
  have c5 : Tryz.prog.cellsOf 5 = 1 := by kernel_rfl
  intro j hj
  have hc := World.var?_cell hg0 hv0 j
  have hj1 := hel j hj
  have hjx : j < xs.length := by omega
  rw [List.getElem?_eq_getElem hjx, c5, Nat.mul_one] at hj1
  obtain ⟨n, e1, e2, _⟩ := DataW.trod_int Tryz.underlying5 hj1
  have hd : (xs.map (·.1))[j]? = (Go.Lib.deBruijn64tab.map fun n : Nat => (DataW.lit (.int .u8 (n : Int)) : DataW Unit))[j]? := by rw [← hx1.1]
  rw [List.getElem?_map, List.getElem?_map, List.getElem?_eq_getElem hjx, e2] at hd
  have hjt : j < Go.Lib.deBruijn64tab.length := hj
  rw [List.getElem?_eq_getElem hjt] at hd
  simp only [Option.map_some, Option.some.injEq, DataW.lit.injEq, Lit.int.injEq, true_and] at hd
  rw [hc]
  have hcj : cs0.toList[j]? = some (.int .u8 n) := by
    have h0 := congrArg (fun l => l[0]?) e1
    simpa using h0
  rw [show cs0[j]? = some (.int .u8 n) from by simpa using hcj]
  rw [List.getD_eq_getElem?_getD, List.getElem?_eq_getElem hjt]
  simp [hd]
end Go.Proofs.YtcgfklljbblhlaaGreatDoor.Ko
