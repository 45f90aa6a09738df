/- The reader's choice of a text in a list. -/
import Derived.Test.YtebbcndfdjhioaaDoorRd
namespace Go.Proofs.YtebbcndfdjhioaaDoor.Rd
open Go.ChangeShapes Go.WideShapes Go.ChangeAt Go.RowKit Base
set_option linter.unusedVariables false
set_option maxRecDepth 20000
attribute [local irreducible] wpQuiet

/-- a list of texts in memory, each of which is as said -/
def Strs (w : World) (b n : Nat) (P : ByteArray → Prop) : Prop := ∀ i, i < n → ∃ s : ByteArray, P s ∧ w.cell? ⟨b, i, none⟩ = some (.string s)
def OfPost (P : ByteArray → Prop) (g q : Nat) (w w' : World) (e : Ending) : Prop := ∃ s, P s ∧ e = .returned (.string s) ∧ Rdr w' g (q + 1) ∧ But g w w'
theorem of_any (P : ByteArray → Prop) (g q b n c : Nat) (w : World) (h : Rdr w g q) (hq : q < 1000000) (hn : 1 ≤ n) (hn2 : n ≤ 1000) (hb : b < w.heap.size) (hg : b ≠ g) (hz : Strs w b n P) :
    Calls Tryd.prog 30 #[.pointer (some ⟨g, 0, none⟩), .slice (some ⟨b, 0, none⟩) n c] w fun e w' => OfPost P g q w w' e := by
  have HZ := Lib.hid hz
  clear hz
  go_enter Tryd.func30, Tryd.ntmps30
  go_wp2_with fail
  refine (pick_any _ _ _ _ h hq (by omega)).mono ?_
  rintro e w' ⟨v, rfl, hv0, hv1, hr, hbut⟩
  have hv2 : v < (n : Int) := by omega
  obtain ⟨z, hp, hzc⟩ := HZ.out v.toNat (by omega)
  have hzc := (hbut.cell _ hb hg).trans hzc
  clear h
  go_wp2_with fail
  go_ret
  exact ⟨z, hp, rfl, hr, hbut⟩
end Go.Proofs.YtebbcndfdjhioaaDoor.Rd
