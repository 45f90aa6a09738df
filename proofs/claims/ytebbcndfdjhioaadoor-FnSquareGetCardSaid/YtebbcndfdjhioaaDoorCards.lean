/-
  DERIVED. GIVEN WITH THE SEED: THE CARDS: each row of YtebbcndfdjhioaaDoorRows.lean that lists a variable, with what it lists TIED to the program's text (the seventh form; the later family's looks); each row that meets fmt, with fmt's text TOLD by the authors' own Lean function (tested against real Go, not proved from fmt's source: count such statements apart). THE CARD IS WHAT COUNTS. Prove the row's statement (the work); the ties are given (YtebbcndfdjhioaaDoorTie.lean); close each card by the builder's one call (the guide's Derived/Test/ToyasCard.lean, 'card_holds'). Laid BY PROGRAM, IN A SANDBOX (cutbox-door.mjs). By AI agents, Wed Nov 11 2026. No macro, syntax, notation, axiom, sorry.
-/
import Derived.Test.YtebbcndfdjhioaaDoorRows
import GoSem.ClaimSeven
namespace Go.Proofs.YtebbcndfdjhioaaDoor
namespace Rows

/-- THE TIED CARD OF 'laws.FnSquareGet'. -/
def fnSquareGetCard : Claim7 := { stood := { row := fnSquareGetRow, standIns := [], harness := (true, "bb77a4ab08098b35107b337b6d909878f79538d187d3de1de0460e6ebb881b95"), looks := false }, kinds := [], alts := [], laidByText := true, laidKinds := [.data, .data, .data], laidTests := true, laidLooks := .later }
def FnSquareGetCardSaid : Prop := Claim7.holds Tryd.pinned (.plain (OpenSpec.ofChange fnSquareGetSpec)) fnSquareGetCard

/-- THE TIED CARD OF 'laws.FnExactPackPut'. -/
def fnExactPackPutCard : Claim7 := { stood := { row := fnExactPackPutRow, standIns := [], harness := (true, "bb77a4ab08098b35107b337b6d909878f79538d187d3de1de0460e6ebb881b95"), looks := false }, kinds := [], alts := [], laidByText := true, laidKinds := [.data, .data, .data], laidTests := true, laidLooks := .later }
def FnExactPackPutCardSaid : Prop := Claim7.holds Tryd.pinned (.plain (OpenSpec.ofChange fnExactPackPutSpec)) fnExactPackPutCard

/-- THE TIED CARD OF 'laws.FnExactGenPut'. -/
def fnExactGenPutCard : Claim7 := { stood := { row := fnExactGenPutRow, standIns := [], harness := (true, "bb77a4ab08098b35107b337b6d909878f79538d187d3de1de0460e6ebb881b95"), looks := false }, kinds := [], alts := [], laidByText := true, laidKinds := [.data, .data, .data], laidTests := true, laidLooks := .later }
def FnExactGenPutCardSaid : Prop := Claim7.holds Tryd.pinned (.plain (OpenSpec.ofChange fnExactGenPutSpec)) fnExactGenPutCard

/-- THE TIED CARD OF 'laws.FnExactRulesPut'. -/
def fnExactRulesPutCard : Claim7 := { stood := { row := fnExactRulesPutRow, standIns := [], harness := (true, "bb77a4ab08098b35107b337b6d909878f79538d187d3de1de0460e6ebb881b95"), looks := false }, kinds := [], alts := [], laidByText := true, laidKinds := [.data, .data, .data], laidTests := true, laidLooks := .later }
def FnExactRulesPutCardSaid : Prop := Claim7.holds Tryd.pinned (.plain (OpenSpec.ofChange fnExactRulesPutSpec)) fnExactRulesPutCard

/-- THE SECOND FORM's CARD OF 'laws.FnSquareGet'. -/
def fnSquareGetUptoCard : Claim7 := { stood := { row := fnSquareGetUptoRow, standIns := [], harness := (true, "bb77a4ab08098b35107b337b6d909878f79538d187d3de1de0460e6ebb881b95"), looks := false }, kinds := [], alts := [], laidByText := true, laidKinds := [.data, .data, .data], laidTests := true, laidLooks := .later }
def FnSquareGetUptoCardSaid : Prop := Claim7.holds Tryd.pinned (.plain (OpenSpec.upto fnSquareGetSpec)) fnSquareGetUptoCard

/-- THE SECOND FORM's CARD OF 'laws.FnExactPackPut'. -/
def fnExactPackPutUptoCard : Claim7 := { stood := { row := fnExactPackPutUptoRow, standIns := [], harness := (true, "bb77a4ab08098b35107b337b6d909878f79538d187d3de1de0460e6ebb881b95"), looks := false }, kinds := [], alts := [], laidByText := true, laidKinds := [.data, .data, .data], laidTests := true, laidLooks := .later }
def FnExactPackPutUptoCardSaid : Prop := Claim7.holds Tryd.pinned (.plain (OpenSpec.upto fnExactPackPutSpec)) fnExactPackPutUptoCard

/-- THE SECOND FORM's CARD OF 'laws.FnExactGenPut'. -/
def fnExactGenPutUptoCard : Claim7 := { stood := { row := fnExactGenPutUptoRow, standIns := [], harness := (true, "bb77a4ab08098b35107b337b6d909878f79538d187d3de1de0460e6ebb881b95"), looks := false }, kinds := [], alts := [], laidByText := true, laidKinds := [.data, .data, .data], laidTests := true, laidLooks := .later }
def FnExactGenPutUptoCardSaid : Prop := Claim7.holds Tryd.pinned (.plain (OpenSpec.upto fnExactGenPutSpec)) fnExactGenPutUptoCard

/-- THE SECOND FORM's CARD OF 'laws.FnExactRulesPut'. -/
def fnExactRulesPutUptoCard : Claim7 := { stood := { row := fnExactRulesPutUptoRow, standIns := [], harness := (true, "bb77a4ab08098b35107b337b6d909878f79538d187d3de1de0460e6ebb881b95"), looks := false }, kinds := [], alts := [], laidByText := true, laidKinds := [.data, .data, .data], laidTests := true, laidLooks := .later }
def FnExactRulesPutUptoCardSaid : Prop := Claim7.holds Tryd.pinned (.plain (OpenSpec.upto fnExactRulesPutSpec)) fnExactRulesPutUptoCard
end Rows
end Go.Proofs.YtebbcndfdjhioaaDoor
