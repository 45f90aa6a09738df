/-
  DERIVED. GIVEN WITH THE SEED: THE CARDS: each row of YtcgfklljbblhlaaGreatDoorRows.lean that lists a variable, with what it lists TIED to the program's text (the seventh form; the later family's looks); each row that meets fmt, with fmt's text TOLD by the authors' own Lean function (tested against real Go, not proved from fmt's source: count such statements apart). THE CARD IS WHAT COUNTS. Prove the row's statement (the work); the ties are given (YtcgfklljbblhlaaGreatDoorTie.lean); close each card by the builder's one call (the guide's Derived/Test/ToyasCard.lean, 'card_holds'). Laid BY PROGRAM, IN A SANDBOX (cutbox-door.mjs). By AI agents, Wed Nov 11 2026. No macro, syntax, notation, axiom, sorry.
-/
import Derived.Test.YtcgfklljbblhlaaGreatDoorRows
import GoSem.ClaimSeven
namespace Go.Proofs.YtcgfklljbblhlaaGreatDoor
namespace Rows

/-- THE TIED CARD OF 'laws.FnExactGamePos'. -/
def fnExactGamePosCard : Claim7 := { stood := { row := fnExactGamePosRow, standIns := [], harness := (true, "2b047e32d43f14861eeeef2cb42b98d595a1e1b4768ae58e462f47a6f3e89707"), looks := false }, kinds := [], alts := [], laidByText := true, laidKinds := [.data, .data, .data], laidTests := true, laidLooks := .later }
def FnExactGamePosCardSaid : Prop := Claim7.holds Tryz.pinned (.plain (OpenSpec.ofChange fnExactGamePosSpec)) fnExactGamePosCard

/-- THE TIED CARD OF 'laws.FnExactGameBack'. -/
def fnExactGameBackCard : Claim7 := { stood := { row := fnExactGameBackRow, standIns := [], harness := (true, "2b047e32d43f14861eeeef2cb42b98d595a1e1b4768ae58e462f47a6f3e89707"), looks := false }, kinds := [], alts := [], laidByText := true, laidKinds := [.data, .data, .data], laidTests := true, laidLooks := .later }
def FnExactGameBackCardSaid : Prop := Claim7.holds Tryz.pinned (.plain (OpenSpec.ofChange fnExactGameBackSpec)) fnExactGameBackCard

/-- THE TIED CARD OF 'laws.FnExactGameDo'. -/
def fnExactGameDoCard : Claim7 := { stood := { row := fnExactGameDoRow, standIns := [], harness := (true, "2b047e32d43f14861eeeef2cb42b98d595a1e1b4768ae58e462f47a6f3e89707"), looks := false }, kinds := [], alts := [], laidByText := true, laidKinds := [.data, .data, .data], laidTests := true, laidLooks := .later }
def FnExactGameDoCardSaid : Prop := Claim7.holds Tryz.pinned (.plain (OpenSpec.ofChange fnExactGameDoSpec)) fnExactGameDoCard

/-- THE SECOND FORM's CARD OF 'laws.FnExactGamePos'. -/
def fnExactGamePosUptoCard : Claim7 := { stood := { row := fnExactGamePosUptoRow, standIns := [], harness := (true, "2b047e32d43f14861eeeef2cb42b98d595a1e1b4768ae58e462f47a6f3e89707"), looks := false }, kinds := [], alts := [], laidByText := true, laidKinds := [.data, .data, .data], laidTests := true, laidLooks := .later }
def FnExactGamePosUptoCardSaid : Prop := Claim7.holds Tryz.pinned (.plain (OpenSpec.upto fnExactGamePosSpec)) fnExactGamePosUptoCard

/-- THE SECOND FORM's CARD OF 'laws.FnExactGameBack'. -/
def fnExactGameBackUptoCard : Claim7 := { stood := { row := fnExactGameBackUptoRow, standIns := [], harness := (true, "2b047e32d43f14861eeeef2cb42b98d595a1e1b4768ae58e462f47a6f3e89707"), looks := false }, kinds := [], alts := [], laidByText := true, laidKinds := [.data, .data, .data], laidTests := true, laidLooks := .later }
def FnExactGameBackUptoCardSaid : Prop := Claim7.holds Tryz.pinned (.plain (OpenSpec.upto fnExactGameBackSpec)) fnExactGameBackUptoCard

/-- THE SECOND FORM's CARD OF 'laws.FnExactGameDo'. -/
def fnExactGameDoUptoCard : Claim7 := { stood := { row := fnExactGameDoUptoRow, standIns := [], harness := (true, "2b047e32d43f14861eeeef2cb42b98d595a1e1b4768ae58e462f47a6f3e89707"), looks := false }, kinds := [], alts := [], laidByText := true, laidKinds := [.data, .data, .data], laidTests := true, laidLooks := .later }
def FnExactGameDoUptoCardSaid : Prop := Claim7.holds Tryz.pinned (.plain (OpenSpec.upto fnExactGameDoSpec)) fnExactGameDoUptoCard
end Rows
end Go.Proofs.YtcgfklljbblhlaaGreatDoor
