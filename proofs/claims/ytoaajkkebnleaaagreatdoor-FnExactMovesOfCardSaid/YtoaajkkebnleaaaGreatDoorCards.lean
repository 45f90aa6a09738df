/-
  DERIVED. GIVEN WITH THE SEED: THE CARDS: each row of YtoaajkkebnleaaaGreatDoorRows.lean that lists a variable, with what it lists TIED to the program's text (the seventh form; the later family's looks); each row that meets fmt, with fmt's text TOLD by the authors' own Lean function (tested against real Go, not proved from fmt's source: count such statements apart). THE CARD IS WHAT COUNTS. Prove the row's statement (the work); the ties are given (YtoaajkkebnleaaaGreatDoorTie.lean); close each card by the builder's one call (the guide's Derived/Test/ToyasCard.lean, 'card_holds'). Laid BY PROGRAM, IN A SANDBOX (cutbox-door.mjs). By AI agents, Wed Nov 11 2026. No macro, syntax, notation, axiom, sorry.
-/
import Derived.Test.YtoaajkkebnleaaaGreatDoorRows
import GoSem.ClaimSeven
namespace Go.Proofs.YtoaajkkebnleaaaGreatDoor
namespace Rows

/-- THE TIED CARD OF 'laws.FnExactMovesOf'. -/
def fnExactMovesOfCard : Claim7 := { stood := { row := fnExactMovesOfRow, standIns := [], harness := (true, "223dd7eb75dd358bae99a403fd3265dd52d36b87ecc88f9a38a8138d022cc9a7"), looks := false }, kinds := [], alts := [], laidByText := true, laidKinds := [.data], laidTests := true, laidLooks := .later }
def FnExactMovesOfCardSaid : Prop := Claim7.holds Tryz.pinned (.plain (OpenSpec.ofChange fnExactMovesOfSpec)) fnExactMovesOfCard

/-- THE TIED CARD OF 'laws.FnExactSearchMany'. -/
def fnExactSearchManyCard : Claim7 := { stood := { row := fnExactSearchManyRow, standIns := [], harness := (true, "223dd7eb75dd358bae99a403fd3265dd52d36b87ecc88f9a38a8138d022cc9a7"), looks := false }, kinds := [], alts := [], laidByText := true, laidKinds := [.data], laidTests := true, laidLooks := .later }
def FnExactSearchManyCardSaid : Prop := Claim7.holds Tryz.pinned (.plain (OpenSpec.ofChange fnExactSearchManySpec)) fnExactSearchManyCard

/-- THE TIED CARD OF 'laws.FnExactSearchFull'. -/
def fnExactSearchFullCard : Claim7 := { stood := { row := fnExactSearchFullRow, standIns := [], harness := (true, "223dd7eb75dd358bae99a403fd3265dd52d36b87ecc88f9a38a8138d022cc9a7"), looks := false }, kinds := [], alts := [], laidByText := true, laidKinds := [.data], laidTests := true, laidLooks := .later }
def FnExactSearchFullCardSaid : Prop := Claim7.holds Tryz.pinned (.plain (OpenSpec.ofChange fnExactSearchFullSpec)) fnExactSearchFullCard

/-- THE TIED CARD OF 'laws.FnExactSearchCut'. -/
def fnExactSearchCutCard : Claim7 := { stood := { row := fnExactSearchCutRow, standIns := [], harness := (true, "223dd7eb75dd358bae99a403fd3265dd52d36b87ecc88f9a38a8138d022cc9a7"), looks := false }, kinds := [], alts := [], laidByText := true, laidKinds := [.data], laidTests := true, laidLooks := .later }
def FnExactSearchCutCardSaid : Prop := Claim7.holds Tryz.pinned (.plain (OpenSpec.ofChange fnExactSearchCutSpec)) fnExactSearchCutCard

/-- THE SECOND FORM's CARD OF 'laws.FnExactMovesOf'. -/
def fnExactMovesOfUptoCard : Claim7 := { stood := { row := fnExactMovesOfUptoRow, standIns := [], harness := (true, "223dd7eb75dd358bae99a403fd3265dd52d36b87ecc88f9a38a8138d022cc9a7"), looks := false }, kinds := [], alts := [], laidByText := true, laidKinds := [.data], laidTests := true, laidLooks := .later }
def FnExactMovesOfUptoCardSaid : Prop := Claim7.holds Tryz.pinned (.plain (OpenSpec.upto fnExactMovesOfSpec)) fnExactMovesOfUptoCard

/-- THE SECOND FORM's CARD OF 'laws.FnExactSearchMany'. -/
def fnExactSearchManyUptoCard : Claim7 := { stood := { row := fnExactSearchManyUptoRow, standIns := [], harness := (true, "223dd7eb75dd358bae99a403fd3265dd52d36b87ecc88f9a38a8138d022cc9a7"), looks := false }, kinds := [], alts := [], laidByText := true, laidKinds := [.data], laidTests := true, laidLooks := .later }
def FnExactSearchManyUptoCardSaid : Prop := Claim7.holds Tryz.pinned (.plain (OpenSpec.upto fnExactSearchManySpec)) fnExactSearchManyUptoCard

/-- THE SECOND FORM's CARD OF 'laws.FnExactSearchFull'. -/
def fnExactSearchFullUptoCard : Claim7 := { stood := { row := fnExactSearchFullUptoRow, standIns := [], harness := (true, "223dd7eb75dd358bae99a403fd3265dd52d36b87ecc88f9a38a8138d022cc9a7"), looks := false }, kinds := [], alts := [], laidByText := true, laidKinds := [.data], laidTests := true, laidLooks := .later }
def FnExactSearchFullUptoCardSaid : Prop := Claim7.holds Tryz.pinned (.plain (OpenSpec.upto fnExactSearchFullSpec)) fnExactSearchFullUptoCard

/-- THE SECOND FORM's CARD OF 'laws.FnExactSearchCut'. -/
def fnExactSearchCutUptoCard : Claim7 := { stood := { row := fnExactSearchCutUptoRow, standIns := [], harness := (true, "223dd7eb75dd358bae99a403fd3265dd52d36b87ecc88f9a38a8138d022cc9a7"), looks := false }, kinds := [], alts := [], laidByText := true, laidKinds := [.data], laidTests := true, laidLooks := .later }
def FnExactSearchCutUptoCardSaid : Prop := Claim7.holds Tryz.pinned (.plain (OpenSpec.upto fnExactSearchCutSpec)) fnExactSearchCutUptoCard
end Rows
end Go.Proofs.YtoaajkkebnleaaaGreatDoor
