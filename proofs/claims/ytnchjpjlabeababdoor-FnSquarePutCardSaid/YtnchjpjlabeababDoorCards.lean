/-
  DERIVED. GIVEN WITH THE SEED: THE CARDS: each row of YtnchjpjlabeababDoorRows.lean that lists a variable, with what it lists TIED to the program's text (the seventh form; the later family's looks); each row that meets fmt, with fmt's text TOLD by the authors' own Lean function (tested against real Go, not proved from fmt's source: count such statements apart). THE CARD IS WHAT COUNTS. Prove the row's statement (the work); the ties are given (YtnchjpjlabeababDoorTie.lean); close each card by the builder's one call (the guide's Derived/Test/ToyasCard.lean, 'card_holds'). Laid BY PROGRAM, IN A SANDBOX (cutbox-door.mjs). By AI agents, Wed Nov 11 2026. No macro, syntax, notation, axiom, sorry.
-/
import Derived.Test.YtnchjpjlabeababDoorRows
import GoSem.ClaimSeven
namespace Go.Proofs.YtnchjpjlabeababDoor
namespace Rows

/-- THE TIED CARD OF 'laws.FnSquarePut'. -/
def fnSquarePutCard : Claim7 := { stood := { row := fnSquarePutRow, standIns := [], harness := (true, "ee23b2db3164077affa9fb32ee3c52dc512a895ead61cafc0c6d6c002224a57e"), looks := true }, kinds := [], alts := [], laidByText := true, laidKinds := [.data, .data, .data], laidTests := true, laidLooks := .later }
def FnSquarePutCardSaid : Prop := Claim7.holds Tryd.pinned (.plain (OpenSpec.ofChange fnSquarePutSpec)) fnSquarePutCard

/-- THE TIED CARD OF 'laws.FnSquareGet'. -/
def fnSquareGetCard : Claim7 := { stood := { row := fnSquareGetRow, standIns := [], harness := (true, "ee23b2db3164077affa9fb32ee3c52dc512a895ead61cafc0c6d6c002224a57e"), looks := true }, kinds := [], alts := [], laidByText := true, laidKinds := [.data, .data, .data], laidTests := true, laidLooks := .later }
def FnSquareGetCardSaid : Prop := Claim7.holds Tryd.pinned (.plain (OpenSpec.ofChange fnSquareGetSpec)) fnSquareGetCard

/-- THE TIED CARD OF 'laws.FnExactSquarePut'. -/
def fnExactSquarePutCard : Claim7 := { stood := { row := fnExactSquarePutRow, standIns := [], harness := (true, "ee23b2db3164077affa9fb32ee3c52dc512a895ead61cafc0c6d6c002224a57e"), looks := true }, kinds := [], alts := [], laidByText := true, laidKinds := [.data, .data, .data], laidTests := true, laidLooks := .later }
def FnExactSquarePutCardSaid : Prop := Claim7.holds Tryd.pinned (.plain (OpenSpec.ofChange fnExactSquarePutSpec)) fnExactSquarePutCard

/-- THE TIED CARD OF 'laws.FnExactRulesPut'. -/
def fnExactRulesPutCard : Claim7 := { stood := { row := fnExactRulesPutRow, standIns := [], harness := (true, "ee23b2db3164077affa9fb32ee3c52dc512a895ead61cafc0c6d6c002224a57e"), looks := true }, kinds := [], alts := [], laidByText := true, laidKinds := [.data, .data, .data], laidTests := true, laidLooks := .later }
def FnExactRulesPutCardSaid : Prop := Claim7.holds Tryd.pinned (.plain (OpenSpec.ofChange fnExactRulesPutSpec)) fnExactRulesPutCard

/-- THE TIED CARD OF 'laws.FnExactRulesGet'. -/
def fnExactRulesGetCard : Claim7 := { stood := { row := fnExactRulesGetRow, standIns := [], harness := (true, "ee23b2db3164077affa9fb32ee3c52dc512a895ead61cafc0c6d6c002224a57e"), looks := true }, kinds := [], alts := [], laidByText := true, laidKinds := [.data, .data, .data, .sentinel, .sentinel], laidTests := true, laidLooks := .later }
def FnExactRulesGetCardSaid : Prop := Claim7.holds Tryd.pinned (.plain (OpenSpec.ofChange fnExactRulesGetSpec)) fnExactRulesGetCard

/-- THE TIED CARD OF 'laws.FnExactPosPut'. -/
def fnExactPosPutCard : Claim7 := { stood := { row := fnExactPosPutRow, standIns := [], harness := (true, "ee23b2db3164077affa9fb32ee3c52dc512a895ead61cafc0c6d6c002224a57e"), looks := true }, kinds := [], alts := [], laidByText := true, laidKinds := [.data, .data, .data], laidTests := true, laidLooks := .later }
def FnExactPosPutCardSaid : Prop := Claim7.holds Tryd.pinned (.plain (OpenSpec.ofChange fnExactPosPutSpec)) fnExactPosPutCard

/-- THE SECOND FORM's CARD OF 'laws.FnSquarePut'. -/
def fnSquarePutUptoCard : Claim7 := { stood := { row := fnSquarePutUptoRow, standIns := [], harness := (true, "ee23b2db3164077affa9fb32ee3c52dc512a895ead61cafc0c6d6c002224a57e"), looks := true }, kinds := [], alts := [], laidByText := true, laidKinds := [.data, .data, .data], laidTests := true, laidLooks := .later }
def FnSquarePutUptoCardSaid : Prop := Claim7.holds Tryd.pinned (.plain (OpenSpec.upto fnSquarePutSpec)) fnSquarePutUptoCard

/-- THE SECOND FORM's CARD OF 'laws.FnSquareGet'. -/
def fnSquareGetUptoCard : Claim7 := { stood := { row := fnSquareGetUptoRow, standIns := [], harness := (true, "ee23b2db3164077affa9fb32ee3c52dc512a895ead61cafc0c6d6c002224a57e"), looks := true }, kinds := [], alts := [], laidByText := true, laidKinds := [.data, .data, .data], laidTests := true, laidLooks := .later }
def FnSquareGetUptoCardSaid : Prop := Claim7.holds Tryd.pinned (.plain (OpenSpec.upto fnSquareGetSpec)) fnSquareGetUptoCard

/-- THE SECOND FORM's CARD OF 'laws.FnExactSquarePut'. -/
def fnExactSquarePutUptoCard : Claim7 := { stood := { row := fnExactSquarePutUptoRow, standIns := [], harness := (true, "ee23b2db3164077affa9fb32ee3c52dc512a895ead61cafc0c6d6c002224a57e"), looks := true }, kinds := [], alts := [], laidByText := true, laidKinds := [.data, .data, .data], laidTests := true, laidLooks := .later }
def FnExactSquarePutUptoCardSaid : Prop := Claim7.holds Tryd.pinned (.plain (OpenSpec.upto fnExactSquarePutSpec)) fnExactSquarePutUptoCard

/-- THE SECOND FORM's CARD OF 'laws.FnExactRulesPut'. -/
def fnExactRulesPutUptoCard : Claim7 := { stood := { row := fnExactRulesPutUptoRow, standIns := [], harness := (true, "ee23b2db3164077affa9fb32ee3c52dc512a895ead61cafc0c6d6c002224a57e"), looks := true }, kinds := [], alts := [], laidByText := true, laidKinds := [.data, .data, .data], laidTests := true, laidLooks := .later }
def FnExactRulesPutUptoCardSaid : Prop := Claim7.holds Tryd.pinned (.plain (OpenSpec.upto fnExactRulesPutSpec)) fnExactRulesPutUptoCard

/-- THE SECOND FORM's CARD OF 'laws.FnExactRulesGet'. -/
def fnExactRulesGetUptoCard : Claim7 := { stood := { row := fnExactRulesGetUptoRow, standIns := [], harness := (true, "ee23b2db3164077affa9fb32ee3c52dc512a895ead61cafc0c6d6c002224a57e"), looks := true }, kinds := [], alts := [], laidByText := true, laidKinds := [.data, .data, .data, .sentinel, .sentinel], laidTests := true, laidLooks := .later }
def FnExactRulesGetUptoCardSaid : Prop := Claim7.holds Tryd.pinned (.plain (OpenSpec.upto fnExactRulesGetSpec)) fnExactRulesGetUptoCard

/-- THE SECOND FORM's CARD OF 'laws.FnExactPosPut'. -/
def fnExactPosPutUptoCard : Claim7 := { stood := { row := fnExactPosPutUptoRow, standIns := [], harness := (true, "ee23b2db3164077affa9fb32ee3c52dc512a895ead61cafc0c6d6c002224a57e"), looks := true }, kinds := [], alts := [], laidByText := true, laidKinds := [.data, .data, .data], laidTests := true, laidLooks := .later }
def FnExactPosPutUptoCardSaid : Prop := Claim7.holds Tryd.pinned (.plain (OpenSpec.upto fnExactPosPutSpec)) fnExactPosPutUptoCard
end Rows
end Go.Proofs.YtnchjpjlabeababDoor
