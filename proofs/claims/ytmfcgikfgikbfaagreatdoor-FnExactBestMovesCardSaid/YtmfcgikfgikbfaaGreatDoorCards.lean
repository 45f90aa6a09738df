/-
  DERIVED. GIVEN WITH THE SEED: THE CARDS: each row of YtmfcgikfgikbfaaGreatDoorRows.lean that lists a variable, with what it lists TIED to the program's text (the seventh form; the later family's looks); each row that meets fmt, with fmt's text TOLD by the authors' own Lean function (tested against real Go, not proved from fmt's source: count such statements apart). THE CARD IS WHAT COUNTS. Prove the row's statement (the work); the ties are given (YtmfcgikfgikbfaaGreatDoorTie.lean); close each card by the builder's one call (the guide's Derived/Test/ToyasCard.lean, 'card_holds'). Laid BY PROGRAM, IN A SANDBOX (cutbox-door.mjs). By AI agents, Wed Nov 11 2026. No macro, syntax, notation, axiom, sorry.
-/
import Derived.Test.YtmfcgikfgikbfaaGreatDoorRows
import GoSem.ClaimSeven
namespace Go.Proofs.YtmfcgikfgikbfaaGreatDoor
namespace Rows

/-- THE TIED CARD OF 'laws.FnExactGenNew'. -/
def fnExactGenNewCard : Claim7 := { stood := { row := fnExactGenNewRow, standIns := [], harness := (true, "2031b4158a5f606823908416de3d514106ed73e3e55de2f8a296d0a89c72d598"), looks := false }, kinds := [], alts := [], laidByText := true, laidKinds := [.data], laidTests := true, laidLooks := .later }
def FnExactGenNewCardSaid : Prop := Claim7.holds Tryz.pinned (.plain (OpenSpec.ofChange fnExactGenNewSpec)) fnExactGenNewCard

/-- THE TIED CARD OF 'laws.FnExactCodeKids'. -/
def fnExactCodeKidsCard : Claim7 := { stood := { row := fnExactCodeKidsRow, standIns := [], harness := (true, "2031b4158a5f606823908416de3d514106ed73e3e55de2f8a296d0a89c72d598"), looks := false }, kinds := [], alts := [], laidByText := true, laidKinds := [.data], laidTests := true, laidLooks := .later }
def FnExactCodeKidsCardSaid : Prop := Claim7.holds Tryz.pinned (.plain (OpenSpec.ofChange fnExactCodeKidsSpec)) fnExactCodeKidsCard

/-- THE TIED CARD OF 'laws.FnExactBestMoves'. -/
def fnExactBestMovesCard : Claim7 := { stood := { row := fnExactBestMovesRow, standIns := [], harness := (true, "2031b4158a5f606823908416de3d514106ed73e3e55de2f8a296d0a89c72d598"), looks := false }, kinds := [], alts := [], laidByText := true, laidKinds := [.data], laidTests := true, laidLooks := .later }
def FnExactBestMovesCardSaid : Prop := Claim7.holds Tryz.pinned (.plain (OpenSpec.ofChange fnExactBestMovesSpec)) fnExactBestMovesCard

/-- THE SECOND FORM's CARD OF 'laws.FnExactGenNew'. -/
def fnExactGenNewUptoCard : Claim7 := { stood := { row := fnExactGenNewUptoRow, standIns := [], harness := (true, "2031b4158a5f606823908416de3d514106ed73e3e55de2f8a296d0a89c72d598"), looks := false }, kinds := [], alts := [], laidByText := true, laidKinds := [.data], laidTests := true, laidLooks := .later }
def FnExactGenNewUptoCardSaid : Prop := Claim7.holds Tryz.pinned (.plain (OpenSpec.upto fnExactGenNewSpec)) fnExactGenNewUptoCard

/-- THE SECOND FORM's CARD OF 'laws.FnExactCodeKids'. -/
def fnExactCodeKidsUptoCard : Claim7 := { stood := { row := fnExactCodeKidsUptoRow, standIns := [], harness := (true, "2031b4158a5f606823908416de3d514106ed73e3e55de2f8a296d0a89c72d598"), looks := false }, kinds := [], alts := [], laidByText := true, laidKinds := [.data], laidTests := true, laidLooks := .later }
def FnExactCodeKidsUptoCardSaid : Prop := Claim7.holds Tryz.pinned (.plain (OpenSpec.upto fnExactCodeKidsSpec)) fnExactCodeKidsUptoCard

/-- THE SECOND FORM's CARD OF 'laws.FnExactBestMoves'. -/
def fnExactBestMovesUptoCard : Claim7 := { stood := { row := fnExactBestMovesUptoRow, standIns := [], harness := (true, "2031b4158a5f606823908416de3d514106ed73e3e55de2f8a296d0a89c72d598"), looks := false }, kinds := [], alts := [], laidByText := true, laidKinds := [.data], laidTests := true, laidLooks := .later }
def FnExactBestMovesUptoCardSaid : Prop := Claim7.holds Tryz.pinned (.plain (OpenSpec.upto fnExactBestMovesSpec)) fnExactBestMovesUptoCard
end Rows
end Go.Proofs.YtmfcgikfgikbfaaGreatDoor
