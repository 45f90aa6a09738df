/- The reader's choice of a number in a list. -/
import Derived.Test.YtjanalljaacnoaaRd
namespace Go.Proofs.Ytjanalljaacnoaa.Rd
open Go.ChangeShapes Go.WideShapes Go.ChangeAt Go.RowKit Base
set_option linter.unusedVariables false
set_option maxRecDepth 20000
attribute [local irreducible] wpQuiet

/-- a list of whole numbers in memory -/
def Nums (w : World) (b n : Nat) : Prop := ∀ i, i < n → ∃ z : Int, w.cell? ⟨b, i, none⟩ = some (.int .i64 z)
def OnePost (g q : Nat) (w w' : World) (e : Ending) : Prop := ∃ v, e = .returned (.int .i64 v) ∧ Rdr w' g (q + 1) ∧ But g w w'
theorem one_any (g q b n c : Nat) (w : World) (h : Rdr w g q) (hq : q < 1000000) (hn : 1 ≤ n) (hn2 : n ≤ 1000) (hb : b < w.heap.size) (hg : b ≠ g) (hz : Nums w b n) :
    Calls Try.prog 78 #[.pointer (some ⟨g, 0, none⟩), .slice (some ⟨b, 0, none⟩) n c] w fun e w' => OnePost g q w w' e := by
  have HZ := Lib.hid hz
  clear hz
  go_enter Try.func78, Try.ntmps78
  go_wp2_with fail
  refine (pick_any _ _ _ _ h hq (by omega)).mono ?_
  rintro e w' ⟨v, rfl, hv0, hv1, hr, hbut⟩
  have hv2 : v < (n : Int) := by omega
  obtain ⟨z, hzc⟩ := HZ.out v.toNat (by omega)
  have hzc := (hbut.cell _ hb hg).trans hzc
  clear h
  go_wp2_with fail
  go_ret
  exact ⟨z, rfl, hr, hbut⟩
end Go.Proofs.Ytjanalljaacnoaa.Rd
