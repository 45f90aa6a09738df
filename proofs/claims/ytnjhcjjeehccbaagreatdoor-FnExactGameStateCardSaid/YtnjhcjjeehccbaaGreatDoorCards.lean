/-
  DERIVED. GIVEN WITH THE SEED: THE CARDS: each row of YtnjhcjjeehccbaaGreatDoorRows.lean that lists a variable, with what it lists TIED to the program's text (the seventh form; the later family's looks); each row that meets fmt, with fmt's text TOLD by the authors' own Lean function (tested against real Go, not proved from fmt's source: count such statements apart). THE CARD IS WHAT COUNTS. Prove the row's statement (the work); the ties are given (YtnjhcjjeehccbaaGreatDoorTie.lean); close each card by the builder's one call (the guide's Derived/Test/ToyasCard.lean, 'card_holds'). Laid BY PROGRAM, IN A SANDBOX (cutbox-door.mjs). By AI agents, Wed Nov 11 2026. No macro, syntax, notation, axiom, sorry.
-/
import Derived.Test.YtnjhcjjeehccbaaGreatDoorRows
import GoSem.ClaimSeven
namespace Go.Proofs.YtnjhcjjeehccbaaGreatDoor
namespace Rows

/-- THE TIED CARD OF 'laws.FnExactGameOk'. -/
def fnExactGameOkCard : Claim7 := { stood := { row := fnExactGameOkRow, standIns := [], harness := (true, "24d043ab3dade0353bd581fdb74da66197eb5efa3bdd03ca2f76d4f02df9bfd7"), looks := false }, kinds := [], alts := [], laidByText := true, laidKinds := [.data, .data, .data], laidTests := true, laidLooks := .later }
def FnExactGameOkCardSaid : Prop := Claim7.holds Tryz.pinned (.plain (OpenSpec.ofChange fnExactGameOkSpec)) fnExactGameOkCard

/-- THE TIED CARD OF 'laws.FnExactGamePos'. -/
def fnExactGamePosCard : Claim7 := { stood := { row := fnExactGamePosRow, standIns := [], harness := (true, "24d043ab3dade0353bd581fdb74da66197eb5efa3bdd03ca2f76d4f02df9bfd7"), looks := false }, kinds := [], alts := [], laidByText := true, laidKinds := [.data, .data, .data], laidTests := true, laidLooks := .later }
def FnExactGamePosCardSaid : Prop := Claim7.holds Tryz.pinned (.plain (OpenSpec.ofChange fnExactGamePosSpec)) fnExactGamePosCard

/-- THE TIED CARD OF 'laws.FnExactGameState'. -/
def fnExactGameStateCard : Claim7 := { stood := { row := fnExactGameStateRow, standIns := [], harness := (true, "24d043ab3dade0353bd581fdb74da66197eb5efa3bdd03ca2f76d4f02df9bfd7"), looks := false }, kinds := [], alts := [], laidByText := true, laidKinds := [.data, .data, .data], laidTests := true, laidLooks := .later }
def FnExactGameStateCardSaid : Prop := Claim7.holds Tryz.pinned (.plain (OpenSpec.ofChange fnExactGameStateSpec)) fnExactGameStateCard

/-- THE TIED CARD OF 'laws.FnExactGameDo'. -/
def fnExactGameDoCard : Claim7 := { stood := { row := fnExactGameDoRow, standIns := [], harness := (true, "24d043ab3dade0353bd581fdb74da66197eb5efa3bdd03ca2f76d4f02df9bfd7"), looks := false }, kinds := [], alts := [], laidByText := true, laidKinds := [.data, .data, .data], laidTests := true, laidLooks := .later }
def FnExactGameDoCardSaid : Prop := Claim7.holds Tryz.pinned (.plain (OpenSpec.ofChange fnExactGameDoSpec)) fnExactGameDoCard

/-- THE TIED CARD OF 'laws.FnExactGameBack'. -/
def fnExactGameBackCard : Claim7 := { stood := { row := fnExactGameBackRow, standIns := [], harness := (true, "24d043ab3dade0353bd581fdb74da66197eb5efa3bdd03ca2f76d4f02df9bfd7"), looks := false }, kinds := [], alts := [], laidByText := true, laidKinds := [.data, .data, .data], laidTests := true, laidLooks := .later }
def FnExactGameBackCardSaid : Prop := Claim7.holds Tryz.pinned (.plain (OpenSpec.ofChange fnExactGameBackSpec)) fnExactGameBackCard

/-- THE TIED CARD OF 'laws.FnExactGamePut'. -/
def fnExactGamePutCard : Claim7 := { stood := { row := fnExactGamePutRow, standIns := [], harness := (true, "24d043ab3dade0353bd581fdb74da66197eb5efa3bdd03ca2f76d4f02df9bfd7"), looks := false }, kinds := [], alts := [], laidByText := true, laidKinds := [.data, .data, .data], laidTests := true, laidLooks := .later }
def FnExactGamePutCardSaid : Prop := Claim7.holds Tryz.pinned (.plain (OpenSpec.ofChange fnExactGamePutSpec)) fnExactGamePutCard

/-- THE TIED CARD OF 'laws.FnExactWordPut'. -/
def fnExactWordPutCard : Claim7 := { stood := { row := fnExactWordPutRow, standIns := [], harness := (true, "24d043ab3dade0353bd581fdb74da66197eb5efa3bdd03ca2f76d4f02df9bfd7"), looks := false }, kinds := [], alts := [], laidByText := true, laidKinds := [.data, .data, .data], laidTests := true, laidLooks := .later }
def FnExactWordPutCardSaid : Prop := Claim7.holds Tryz.pinned (.plain (OpenSpec.ofChange fnExactWordPutSpec)) fnExactWordPutCard

/-- THE TIED CARD OF 'laws.FnExactWordGet'. -/
def fnExactWordGetCard : Claim7 := { stood := { row := fnExactWordGetRow, standIns := [], harness := (true, "24d043ab3dade0353bd581fdb74da66197eb5efa3bdd03ca2f76d4f02df9bfd7"), looks := false }, kinds := [], alts := [], laidByText := true, laidKinds := [.data, .data, .data], laidTests := true, laidLooks := .later }
def FnExactWordGetCardSaid : Prop := Claim7.holds Tryz.pinned (.plain (OpenSpec.ofChange fnExactWordGetSpec)) fnExactWordGetCard

/-- THE TIED CARD OF 'laws.FnExactBestLine'. -/
def fnExactBestLineCard : Claim7 := { stood := { row := fnExactBestLineRow, standIns := [], harness := (true, "24d043ab3dade0353bd581fdb74da66197eb5efa3bdd03ca2f76d4f02df9bfd7"), looks := false }, kinds := [], alts := [], laidByText := true, laidKinds := [.data], laidTests := true, laidLooks := .later }
def FnExactBestLineCardSaid : Prop := Claim7.holds Tryz.pinned (.plain (OpenSpec.ofChange fnExactBestLineSpec)) fnExactBestLineCard

/-- THE SECOND FORM's CARD OF 'laws.FnExactGameOk'. -/
def fnExactGameOkUptoCard : Claim7 := { stood := { row := fnExactGameOkUptoRow, standIns := [], harness := (true, "24d043ab3dade0353bd581fdb74da66197eb5efa3bdd03ca2f76d4f02df9bfd7"), looks := false }, kinds := [], alts := [], laidByText := true, laidKinds := [.data, .data, .data], laidTests := true, laidLooks := .later }
def FnExactGameOkUptoCardSaid : Prop := Claim7.holds Tryz.pinned (.plain (OpenSpec.upto fnExactGameOkSpec)) fnExactGameOkUptoCard

/-- THE SECOND FORM's CARD OF 'laws.FnExactGamePos'. -/
def fnExactGamePosUptoCard : Claim7 := { stood := { row := fnExactGamePosUptoRow, standIns := [], harness := (true, "24d043ab3dade0353bd581fdb74da66197eb5efa3bdd03ca2f76d4f02df9bfd7"), looks := false }, kinds := [], alts := [], laidByText := true, laidKinds := [.data, .data, .data], laidTests := true, laidLooks := .later }
def FnExactGamePosUptoCardSaid : Prop := Claim7.holds Tryz.pinned (.plain (OpenSpec.upto fnExactGamePosSpec)) fnExactGamePosUptoCard

/-- THE SECOND FORM's CARD OF 'laws.FnExactGameState'. -/
def fnExactGameStateUptoCard : Claim7 := { stood := { row := fnExactGameStateUptoRow, standIns := [], harness := (true, "24d043ab3dade0353bd581fdb74da66197eb5efa3bdd03ca2f76d4f02df9bfd7"), looks := false }, kinds := [], alts := [], laidByText := true, laidKinds := [.data, .data, .data], laidTests := true, laidLooks := .later }
def FnExactGameStateUptoCardSaid : Prop := Claim7.holds Tryz.pinned (.plain (OpenSpec.upto fnExactGameStateSpec)) fnExactGameStateUptoCard

/-- THE SECOND FORM's CARD OF 'laws.FnExactGameDo'. -/
def fnExactGameDoUptoCard : Claim7 := { stood := { row := fnExactGameDoUptoRow, standIns := [], harness := (true, "24d043ab3dade0353bd581fdb74da66197eb5efa3bdd03ca2f76d4f02df9bfd7"), looks := false }, kinds := [], alts := [], laidByText := true, laidKinds := [.data, .data, .data], laidTests := true, laidLooks := .later }
def FnExactGameDoUptoCardSaid : Prop := Claim7.holds Tryz.pinned (.plain (OpenSpec.upto fnExactGameDoSpec)) fnExactGameDoUptoCard

/-- THE SECOND FORM's CARD OF 'laws.FnExactGameBack'. -/
def fnExactGameBackUptoCard : Claim7 := { stood := { row := fnExactGameBackUptoRow, standIns := [], harness := (true, "24d043ab3dade0353bd581fdb74da66197eb5efa3bdd03ca2f76d4f02df9bfd7"), looks := false }, kinds := [], alts := [], laidByText := true, laidKinds := [.data, .data, .data], laidTests := true, laidLooks := .later }
def FnExactGameBackUptoCardSaid : Prop := Claim7.holds Tryz.pinned (.plain (OpenSpec.upto fnExactGameBackSpec)) fnExactGameBackUptoCard

/-- THE SECOND FORM's CARD OF 'laws.FnExactGamePut'. -/
def fnExactGamePutUptoCard : Claim7 := { stood := { row := fnExactGamePutUptoRow, standIns := [], harness := (true, "24d043ab3dade0353bd581fdb74da66197eb5efa3bdd03ca2f76d4f02df9bfd7"), looks := false }, kinds := [], alts := [], laidByText := true, laidKinds := [.data, .data, .data], laidTests := true, laidLooks := .later }
def FnExactGamePutUptoCardSaid : Prop := Claim7.holds Tryz.pinned (.plain (OpenSpec.upto fnExactGamePutSpec)) fnExactGamePutUptoCard

/-- THE SECOND FORM's CARD OF 'laws.FnExactWordPut'. -/
def fnExactWordPutUptoCard : Claim7 := { stood := { row := fnExactWordPutUptoRow, standIns := [], harness := (true, "24d043ab3dade0353bd581fdb74da66197eb5efa3bdd03ca2f76d4f02df9bfd7"), looks := false }, kinds := [], alts := [], laidByText := true, laidKinds := [.data, .data, .data], laidTests := true, laidLooks := .later }
def FnExactWordPutUptoCardSaid : Prop := Claim7.holds Tryz.pinned (.plain (OpenSpec.upto fnExactWordPutSpec)) fnExactWordPutUptoCard

/-- THE SECOND FORM's CARD OF 'laws.FnExactWordGet'. -/
def fnExactWordGetUptoCard : Claim7 := { stood := { row := fnExactWordGetUptoRow, standIns := [], harness := (true, "24d043ab3dade0353bd581fdb74da66197eb5efa3bdd03ca2f76d4f02df9bfd7"), looks := false }, kinds := [], alts := [], laidByText := true, laidKinds := [.data, .data, .data], laidTests := true, laidLooks := .later }
def FnExactWordGetUptoCardSaid : Prop := Claim7.holds Tryz.pinned (.plain (OpenSpec.upto fnExactWordGetSpec)) fnExactWordGetUptoCard

/-- THE SECOND FORM's CARD OF 'laws.FnExactBestLine'. -/
def fnExactBestLineUptoCard : Claim7 := { stood := { row := fnExactBestLineUptoRow, standIns := [], harness := (true, "24d043ab3dade0353bd581fdb74da66197eb5efa3bdd03ca2f76d4f02df9bfd7"), looks := false }, kinds := [], alts := [], laidByText := true, laidKinds := [.data], laidTests := true, laidLooks := .later }
def FnExactBestLineUptoCardSaid : Prop := Claim7.holds Tryz.pinned (.plain (OpenSpec.upto fnExactBestLineSpec)) fnExactBestLineUptoCard
end Rows
end Go.Proofs.YtnjhcjjeehccbaaGreatDoor
