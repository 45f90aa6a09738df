/-
  DERIVED. GIVEN WITH THE SEED: THE CARDS: each row of YtnjhcjjeehccbaaDoorRows.lean that lists a variable, with what it lists TIED to the program's text (the seventh form; the later family's looks); each row that meets fmt, with fmt's text TOLD by the authors' own Lean function (tested against real Go, not proved from fmt's source: count such statements apart). THE CARD IS WHAT COUNTS. Prove the row's statement (the work); the ties are given (YtnjhcjjeehccbaaDoorTie.lean); close each card by the builder's one call (the guide's Derived/Test/ToyasCard.lean, 'card_holds'). Laid BY PROGRAM, IN A SANDBOX (cutbox-door.mjs). By AI agents, Wed Nov 11 2026. No macro, syntax, notation, axiom, sorry.
-/
import Derived.Test.YtnjhcjjeehccbaaDoorRows
import GoSem.ClaimSeven
namespace Go.Proofs.YtnjhcjjeehccbaaDoor
namespace Rows

/-- THE TIED CARD OF 'laws.FnExactPosPut'. -/
def fnExactPosPutCard : Claim7 := { stood := { row := fnExactPosPutRow, standIns := [], harness := (true, "e32509f740058b0c268be2ddbe92c19527af4c02e5e94aba6d35f4716d371578"), looks := false }, kinds := [], alts := [], laidByText := true, laidKinds := [.data, .data, .data], laidTests := true, laidLooks := .later }
def FnExactPosPutCardSaid : Prop := Claim7.holds Tryd.pinned (.plain (OpenSpec.ofChange fnExactPosPutSpec)) fnExactPosPutCard

/-- THE SECOND FORM's CARD OF 'laws.FnExactPosPut'. -/
def fnExactPosPutUptoCard : Claim7 := { stood := { row := fnExactPosPutUptoRow, standIns := [], harness := (true, "e32509f740058b0c268be2ddbe92c19527af4c02e5e94aba6d35f4716d371578"), looks := false }, kinds := [], alts := [], laidByText := true, laidKinds := [.data, .data, .data], laidTests := true, laidLooks := .later }
def FnExactPosPutUptoCardSaid : Prop := Claim7.holds Tryd.pinned (.plain (OpenSpec.upto fnExactPosPutSpec)) fnExactPosPutUptoCard
end Rows
end Go.Proofs.YtnjhcjjeehccbaaDoor
