/-
  No cell of these rows narrows 'for every input' (looked for: loops, veiled, ifaces, maps, wideKeys, modest, calm, conditions, laid).
  DERIVED. THE GIVEN ROWS OF THIS SEAT. 3 by the template 'for every input the law returns true; each argument reads behind the call as it read before'; 0 by the template 'total and deterministic' (their statements: YtnchjpjlabeababTotals.lean).
  GIVEN WITH THE SEED: the statements are not yours to turn. If you find one false, say at which input.
  Laid BY PROGRAM, IN A SANDBOX (cutbox-rows.mjs): the forced cells as the released guide's own fill.sh prints them over the translation a63d48cacf9b5bda… (all of the seat's roots in one cut). By AI agents, Wed Nov 11 2026. No macro, syntax, notation, axiom, sorry.
-/
import Derived.Test.YtnchjpjlabeababChecked
import GoSem.Claim
import GoSem.ClaimJoined
import GoSem.ClaimMapViews
import Derived.JoinedTies
import Derived.KernelRfl
namespace Go.Proofs.Ytnchjpjlabeabab
/- THE CELL 'sum', in the pinned program and in every row, IS THE sha256 OF THE DUMP (.gsa) THAT YtnchjpjlabeababProg.lean LOADS. Nothing in Lean hashes anything: it is a label: what it is worth is what the hold of that sum in a sandbox is worth. -/
noncomputable def Try.pinned : Pinned := { name := "ytnchjpjlabeabab", sum := "a63d48cacf9b5bdad43074e1a9c6fbc80839b843991aeb264421523f264a4664", checked := Try.checked }
namespace Rows
def none {H : Type} : Left H := { results := [], args := [] }

/-- 'laws.FnExactTurnSwap': WHATEVER THE INPUT: true; the input reads as it did. -/
def fnExactTurnSwapSpec : ChangeSpec := { name := "fnExactTurnSwap", fn := fun _ => fun
  | [d1, d2] => { results := [.lit (.bool true)], args := [d1, d2] }
  | _ => none }
def fnExactTurnSwapRow : OpenClaim := { program := "ytnchjpjlabeabab", sum := "a63d48cacf9b5bdad43074e1a9c6fbc80839b843991aeb264421523f264a4664", func := "loop.example/zugzwang/laws.FnExactTurnSwap", spec := "fnExactTurnSwap", unfollowed := true, recurses := true, apart := false }
def FnExactTurnSwapSaid : Prop := fnExactTurnSwapRow.holds Try.pinned (OpenSpec.ofChange fnExactTurnSwapSpec)

/-- ITS FALSE NEIGHBOUR: 'it returns false'. Refute it at one input. -/
def fnExactTurnSwapWrong : ChangeSpec := { name := "fnExactTurnSwap", fn := fun _ => fun
  | [d1, d2] => { results := [.lit (.bool false)], args := [d1, d2] }
  | _ => none }
def FnExactTurnSwapWrongFalsely : Prop := fnExactTurnSwapRow.holds Try.pinned (OpenSpec.ofChange fnExactTurnSwapWrong)

/-- 'laws.FnSquareGo': WHATEVER THE INPUT: true; the input reads as it did. -/
def fnSquareGoSpec : ChangeSpec := { name := "fnSquareGo", fn := fun _ => fun
  | [d] => { results := [.lit (.bool true)], args := [d] }
  | _ => none }
def fnSquareGoRow : OpenClaim := { program := "ytnchjpjlabeabab", sum := "a63d48cacf9b5bdad43074e1a9c6fbc80839b843991aeb264421523f264a4664", func := "loop.example/zugzwang/laws.FnSquareGo", spec := "fnSquareGo", apart := false }
def FnSquareGoSaid : Prop := fnSquareGoRow.holds Try.pinned (OpenSpec.ofChange fnSquareGoSpec)

/-- ITS FALSE NEIGHBOUR: 'it returns false'. Refute it at one input. -/
def fnSquareGoWrong : ChangeSpec := { name := "fnSquareGo", fn := fun _ => fun
  | [d] => { results := [.lit (.bool false)], args := [d] }
  | _ => none }
def FnSquareGoWrongFalsely : Prop := fnSquareGoRow.holds Try.pinned (OpenSpec.ofChange fnSquareGoWrong)

/-- 'laws.FnSquareTurn': WHATEVER THE INPUT: true; the input reads as it did. -/
def fnSquareTurnSpec : ChangeSpec := { name := "fnSquareTurn", fn := fun _ => fun
  | [d] => { results := [.lit (.bool true)], args := [d] }
  | _ => none }
def fnSquareTurnRow : OpenClaim := { program := "ytnchjpjlabeabab", sum := "a63d48cacf9b5bdad43074e1a9c6fbc80839b843991aeb264421523f264a4664", func := "loop.example/zugzwang/laws.FnSquareTurn", spec := "fnSquareTurn", apart := false }
def FnSquareTurnSaid : Prop := fnSquareTurnRow.holds Try.pinned (OpenSpec.ofChange fnSquareTurnSpec)

/-- ITS FALSE NEIGHBOUR: 'it returns false'. Refute it at one input. -/
def fnSquareTurnWrong : ChangeSpec := { name := "fnSquareTurn", fn := fun _ => fun
  | [d] => { results := [.lit (.bool false)], args := [d] }
  | _ => none }
def FnSquareTurnWrongFalsely : Prop := fnSquareTurnRow.holds Try.pinned (OpenSpec.ofChange fnSquareTurnWrong)

/- THE SECOND FORM. 'bulk': how many values and letters a reading holds, each counted each time it is reached (what is shared counts as often as it is met; a slice's spare places count too). A statement '..UptoSaid' is the law's where the arguments, and the package variables that the reading takes, are together of bulk at most 1048576: NARROWER than '..Said'. Prove '..Said' where nothing that the law and all that it calls make is longer than what came in: it says more and counts as full. Else prove '..UptoSaid'. A law counts once. -/
mutual
def uptoBulk {H : Type} : DataW H → Nat
  | .lit (.string bytes) => bytes.length + 1
  | .lit _ => 1
  | .nil => 1
  | .ptr d => uptoBulk d + 1
  | .slice elems spare => uptoBulkAll elems + uptoBulkAll spare + 1
  | .agg parts => uptoBulkAll parts + 1
  | .iface _ d => uptoBulk d + 1
  | .map entries => uptoBulkEntries entries + 1
  | .held _ => 1
def uptoBulkAll {H : Type} : List (DataW H) → Nat
  | [] => 0
  | d :: r => uptoBulk d + uptoBulkAll r
def uptoBulkEntries {H : Type} : List (Lit × DataW H) → Nat
  | [] => 0
  | x :: r => uptoBulkEntry x + uptoBulkEntries r
def uptoBulkEntry {H : Type} : Lit × DataW H → Nat
  | (.string bytes, d) => bytes.length + uptoBulk d + 1
  | (_, d) => uptoBulk d + 1
 end
def uptoSmall : (H : Type) → List (DataW H) → Bool := fun _ ds => decide (uptoBulkAll ds ≤ 1048576)
def OpenSpec.upto (s : _root_.Go.ChangeSpec) : _root_.Go.OpenSpec := { _root_.Go.OpenSpec.ofChange s with cond := some uptoSmall }

/-- 'laws.FnExactTurnSwap', WHERE WHAT IT READS IS OF BULK AT MOST 1048576: true; the input reads as it did. -/
def fnExactTurnSwapUptoRow : OpenClaim := { program := "ytnchjpjlabeabab", sum := "a63d48cacf9b5bdad43074e1a9c6fbc80839b843991aeb264421523f264a4664", func := "loop.example/zugzwang/laws.FnExactTurnSwap", spec := "fnExactTurnSwap", unfollowed := true, recurses := true, apart := false, narrowed := true }
def FnExactTurnSwapUptoSaid : Prop := fnExactTurnSwapUptoRow.holds Try.pinned (OpenSpec.upto fnExactTurnSwapSpec)

/-- 'laws.FnSquareGo', WHERE WHAT IT READS IS OF BULK AT MOST 1048576: true; the input reads as it did. -/
def fnSquareGoUptoRow : OpenClaim := { program := "ytnchjpjlabeabab", sum := "a63d48cacf9b5bdad43074e1a9c6fbc80839b843991aeb264421523f264a4664", func := "loop.example/zugzwang/laws.FnSquareGo", spec := "fnSquareGo", apart := false, narrowed := true }
def FnSquareGoUptoSaid : Prop := fnSquareGoUptoRow.holds Try.pinned (OpenSpec.upto fnSquareGoSpec)

/-- 'laws.FnSquareTurn', WHERE WHAT IT READS IS OF BULK AT MOST 1048576: true; the input reads as it did. -/
def fnSquareTurnUptoRow : OpenClaim := { program := "ytnchjpjlabeabab", sum := "a63d48cacf9b5bdad43074e1a9c6fbc80839b843991aeb264421523f264a4664", func := "loop.example/zugzwang/laws.FnSquareTurn", spec := "fnSquareTurn", apart := false, narrowed := true }
def FnSquareTurnUptoSaid : Prop := fnSquareTurnUptoRow.holds Try.pinned (OpenSpec.upto fnSquareTurnSpec)

end Rows
end Go.Proofs.Ytnchjpjlabeabab
