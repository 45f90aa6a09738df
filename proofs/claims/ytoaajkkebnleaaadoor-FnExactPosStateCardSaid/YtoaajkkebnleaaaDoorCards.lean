/-
  DERIVED. GIVEN WITH THE SEED: THE CARDS: each row of YtoaajkkebnleaaaDoorRows.lean that lists a variable, with what it lists TIED to the program's text (the seventh form; the later family's looks); each row that meets fmt, with fmt's text TOLD by the authors' own Lean function (tested against real Go, not proved from fmt's source: count such statements apart). THE CARD IS WHAT COUNTS. Prove the row's statement (the work); the ties are given (YtoaajkkebnleaaaDoorTie.lean); close each card by the builder's one call (the guide's Derived/Test/ToyasCard.lean, 'card_holds'). Laid BY PROGRAM, IN A SANDBOX (cutbox-door.mjs). By AI agents, Wed Nov 11 2026. No macro, syntax, notation, axiom, sorry.
-/
import Derived.Test.YtoaajkkebnleaaaDoorRows
import GoSem.ClaimSeven
namespace Go.Proofs.YtoaajkkebnleaaaDoor
namespace Rows

/-- THE TIED CARD OF 'laws.FnExactPosState'. -/
def fnExactPosStateCard : Claim7 := { stood := { row := fnExactPosStateRow, standIns := [], harness := (true, "fd85911d758c96ba6208253074a1cffcedf158da223e96231e62fa5aff0cdd2f"), looks := false }, kinds := [], alts := [], laidByText := true, laidKinds := [.data], laidTests := true, laidLooks := .later }
def FnExactPosStateCardSaid : Prop := Claim7.holds Tryd.pinned (.plain (OpenSpec.ofChange fnExactPosStateSpec)) fnExactPosStateCard

/-- THE SECOND FORM's CARD OF 'laws.FnExactPosState'. -/
def fnExactPosStateUptoCard : Claim7 := { stood := { row := fnExactPosStateUptoRow, standIns := [], harness := (true, "fd85911d758c96ba6208253074a1cffcedf158da223e96231e62fa5aff0cdd2f"), looks := false }, kinds := [], alts := [], laidByText := true, laidKinds := [.data], laidTests := true, laidLooks := .later }
def FnExactPosStateUptoCardSaid : Prop := Claim7.holds Tryd.pinned (.plain (OpenSpec.upto fnExactPosStateSpec)) fnExactPosStateUptoCard
end Rows
end Go.Proofs.YtoaajkkebnleaaaDoor
