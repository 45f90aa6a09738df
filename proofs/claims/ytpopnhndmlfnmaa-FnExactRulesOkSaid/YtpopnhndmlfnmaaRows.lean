/-
  No cell of these rows narrows 'for every input' (looked for: loops, veiled, ifaces, maps, wideKeys, modest, calm, conditions, laid).
  DERIVED. THE GIVEN ROWS OF THIS SEAT. 8 by the template 'for every input the law returns true; each argument reads behind the call as it read before'; 0 by the template 'total and deterministic' (their statements: YtpopnhndmlfnmaaTotals.lean).
  GIVEN WITH THE SEED: the statements are not yours to turn. If you find one false, say at which input.
  Laid BY PROGRAM, IN A SANDBOX (cutbox-rows.mjs): the forced cells as the released guide's own fill.sh prints them over the translation 541041f730f2bf10… (all of the seat's roots in one cut). By AI agents, Wed Nov 11 2026. No macro, syntax, notation, axiom, sorry.
-/
import Derived.Test.YtpopnhndmlfnmaaChecked
import GoSem.Claim
import GoSem.ClaimJoined
import GoSem.ClaimMapViews
import Derived.JoinedTies
import Derived.KernelRfl
namespace Go.Proofs.Ytpopnhndmlfnmaa
/- THE CELL 'sum', in the pinned program and in every row, IS THE sha256 OF THE DUMP (.gsa) THAT YtpopnhndmlfnmaaProg.lean LOADS. Nothing in Lean hashes anything: it is a label: what it is worth is what the hold of that sum in a sandbox is worth. -/
noncomputable def Try.pinned : Pinned := { name := "ytpopnhndmlfnmaa", sum := "541041f730f2bf108691155d409c96c5f90fa64564642f01d868d31363f0924e", checked := Try.checked }
namespace Rows
def none {H : Type} : Left H := { results := [], args := [] }

/-- 'laws.FnSquareGo': WHATEVER THE INPUT: true; the input reads as it did. -/
def fnSquareGoSpec : ChangeSpec := { name := "fnSquareGo", fn := fun _ => fun
  | [d] => { results := [.lit (.bool true)], args := [d] }
  | _ => none }
def fnSquareGoRow : OpenClaim := { program := "ytpopnhndmlfnmaa", sum := "541041f730f2bf108691155d409c96c5f90fa64564642f01d868d31363f0924e", func := "loop.example/zugzwang/laws.FnSquareGo", spec := "fnSquareGo", apart := false }
def FnSquareGoSaid : Prop := fnSquareGoRow.holds Try.pinned (OpenSpec.ofChange fnSquareGoSpec)

/-- ITS FALSE NEIGHBOUR: 'it returns false'. Refute it at one input. -/
def fnSquareGoWrong : ChangeSpec := { name := "fnSquareGo", fn := fun _ => fun
  | [d] => { results := [.lit (.bool false)], args := [d] }
  | _ => none }
def FnSquareGoWrongFalsely : Prop := fnSquareGoRow.holds Try.pinned (OpenSpec.ofChange fnSquareGoWrong)

/-- 'laws.FnSquareTurn': WHATEVER THE INPUT: true; the input reads as it did. -/
def fnSquareTurnSpec : ChangeSpec := { name := "fnSquareTurn", fn := fun _ => fun
  | [d] => { results := [.lit (.bool true)], args := [d] }
  | _ => none }
def fnSquareTurnRow : OpenClaim := { program := "ytpopnhndmlfnmaa", sum := "541041f730f2bf108691155d409c96c5f90fa64564642f01d868d31363f0924e", func := "loop.example/zugzwang/laws.FnSquareTurn", spec := "fnSquareTurn", apart := false }
def FnSquareTurnSaid : Prop := fnSquareTurnRow.holds Try.pinned (OpenSpec.ofChange fnSquareTurnSpec)

/-- ITS FALSE NEIGHBOUR: 'it returns false'. Refute it at one input. -/
def fnSquareTurnWrong : ChangeSpec := { name := "fnSquareTurn", fn := fun _ => fun
  | [d] => { results := [.lit (.bool false)], args := [d] }
  | _ => none }
def FnSquareTurnWrongFalsely : Prop := fnSquareTurnRow.holds Try.pinned (OpenSpec.ofChange fnSquareTurnWrong)

/-- 'laws.FnExactSquareOk': WHATEVER THE INPUT: true; the input reads as it did. -/
def fnExactSquareOkSpec : ChangeSpec := { name := "fnExactSquareOk", fn := fun _ => fun
  | [d1, d2] => { results := [.lit (.bool true)], args := [d1, d2] }
  | _ => none }
def fnExactSquareOkRow : OpenClaim := { program := "ytpopnhndmlfnmaa", sum := "541041f730f2bf108691155d409c96c5f90fa64564642f01d868d31363f0924e", func := "loop.example/zugzwang/laws.FnExactSquareOk", spec := "fnExactSquareOk", apart := false }
def FnExactSquareOkSaid : Prop := fnExactSquareOkRow.holds Try.pinned (OpenSpec.ofChange fnExactSquareOkSpec)

/-- ITS FALSE NEIGHBOUR: 'it returns false'. Refute it at one input. -/
def fnExactSquareOkWrong : ChangeSpec := { name := "fnExactSquareOk", fn := fun _ => fun
  | [d1, d2] => { results := [.lit (.bool false)], args := [d1, d2] }
  | _ => none }
def FnExactSquareOkWrongFalsely : Prop := fnExactSquareOkRow.holds Try.pinned (OpenSpec.ofChange fnExactSquareOkWrong)

/-- 'laws.FnExactSquareGet': WHATEVER THE INPUT: true; the input reads as it did. -/
def fnExactSquareGetSpec : ChangeSpec := { name := "fnExactSquareGet", fn := fun _ => fun
  | [d1, d2] => { results := [.lit (.bool true)], args := [d1, d2] }
  | _ => none }
def fnExactSquareGetRow : OpenClaim := { program := "ytpopnhndmlfnmaa", sum := "541041f730f2bf108691155d409c96c5f90fa64564642f01d868d31363f0924e", func := "loop.example/zugzwang/laws.FnExactSquareGet", spec := "fnExactSquareGet", apart := false }
def FnExactSquareGetSaid : Prop := fnExactSquareGetRow.holds Try.pinned (OpenSpec.ofChange fnExactSquareGetSpec)

/-- ITS FALSE NEIGHBOUR: 'it returns false'. Refute it at one input. -/
def fnExactSquareGetWrong : ChangeSpec := { name := "fnExactSquareGet", fn := fun _ => fun
  | [d1, d2] => { results := [.lit (.bool false)], args := [d1, d2] }
  | _ => none }
def FnExactSquareGetWrongFalsely : Prop := fnExactSquareGetRow.holds Try.pinned (OpenSpec.ofChange fnExactSquareGetWrong)

/-- 'laws.FnExactSquareGo': WHATEVER THE INPUT: true; the input reads as it did. -/
def fnExactSquareGoSpec : ChangeSpec := { name := "fnExactSquareGo", fn := fun _ => fun
  | [d1, d2, d3, d4] => { results := [.lit (.bool true)], args := [d1, d2, d3, d4] }
  | _ => none }
def fnExactSquareGoRow : OpenClaim := { program := "ytpopnhndmlfnmaa", sum := "541041f730f2bf108691155d409c96c5f90fa64564642f01d868d31363f0924e", func := "loop.example/zugzwang/laws.FnExactSquareGo", spec := "fnExactSquareGo", apart := false }
def FnExactSquareGoSaid : Prop := fnExactSquareGoRow.holds Try.pinned (OpenSpec.ofChange fnExactSquareGoSpec)

/-- ITS FALSE NEIGHBOUR: 'it returns false'. Refute it at one input. -/
def fnExactSquareGoWrong : ChangeSpec := { name := "fnExactSquareGo", fn := fun _ => fun
  | [d1, d2, d3, d4] => { results := [.lit (.bool false)], args := [d1, d2, d3, d4] }
  | _ => none }
def FnExactSquareGoWrongFalsely : Prop := fnExactSquareGoRow.holds Try.pinned (OpenSpec.ofChange fnExactSquareGoWrong)

/-- 'laws.FnExactSquareTurn': WHATEVER THE INPUT: true; the input reads as it did. -/
def fnExactSquareTurnSpec : ChangeSpec := { name := "fnExactSquareTurn", fn := fun _ => fun
  | [d1, d2, d3] => { results := [.lit (.bool true)], args := [d1, d2, d3] }
  | _ => none }
def fnExactSquareTurnRow : OpenClaim := { program := "ytpopnhndmlfnmaa", sum := "541041f730f2bf108691155d409c96c5f90fa64564642f01d868d31363f0924e", func := "loop.example/zugzwang/laws.FnExactSquareTurn", spec := "fnExactSquareTurn", apart := false }
def FnExactSquareTurnSaid : Prop := fnExactSquareTurnRow.holds Try.pinned (OpenSpec.ofChange fnExactSquareTurnSpec)

/-- ITS FALSE NEIGHBOUR: 'it returns false'. Refute it at one input. -/
def fnExactSquareTurnWrong : ChangeSpec := { name := "fnExactSquareTurn", fn := fun _ => fun
  | [d1, d2, d3] => { results := [.lit (.bool false)], args := [d1, d2, d3] }
  | _ => none }
def FnExactSquareTurnWrongFalsely : Prop := fnExactSquareTurnRow.holds Try.pinned (OpenSpec.ofChange fnExactSquareTurnWrong)

/-- 'laws.FnExactKindOk': WHATEVER THE INPUT: true; the input reads as it did. -/
def fnExactKindOkSpec : ChangeSpec := { name := "fnExactKindOk", fn := fun _ => fun
  | [d] => { results := [.lit (.bool true)], args := [d] }
  | _ => none }
def fnExactKindOkRow : OpenClaim := { program := "ytpopnhndmlfnmaa", sum := "541041f730f2bf108691155d409c96c5f90fa64564642f01d868d31363f0924e", func := "loop.example/zugzwang/laws.FnExactKindOk", spec := "fnExactKindOk", apart := false }
def FnExactKindOkSaid : Prop := fnExactKindOkRow.holds Try.pinned (OpenSpec.ofChange fnExactKindOkSpec)

/-- ITS FALSE NEIGHBOUR: 'it returns false'. Refute it at one input. -/
def fnExactKindOkWrong : ChangeSpec := { name := "fnExactKindOk", fn := fun _ => fun
  | [d] => { results := [.lit (.bool false)], args := [d] }
  | _ => none }
def FnExactKindOkWrongFalsely : Prop := fnExactKindOkRow.holds Try.pinned (OpenSpec.ofChange fnExactKindOkWrong)

/-- 'laws.FnExactRulesOk': WHATEVER THE INPUT: true; the input reads as it did. -/
def fnExactRulesOkSpec : ChangeSpec := { name := "fnExactRulesOk", fn := fun _ => fun
  | [d] => { results := [.lit (.bool true)], args := [d] }
  | _ => none }
def fnExactRulesOkRow : OpenClaim := { program := "ytpopnhndmlfnmaa", sum := "541041f730f2bf108691155d409c96c5f90fa64564642f01d868d31363f0924e", func := "loop.example/zugzwang/laws.FnExactRulesOk", spec := "fnExactRulesOk", apart := false }
def FnExactRulesOkSaid : Prop := fnExactRulesOkRow.holds Try.pinned (OpenSpec.ofChange fnExactRulesOkSpec)

/-- ITS FALSE NEIGHBOUR: 'it returns false'. Refute it at one input. -/
def fnExactRulesOkWrong : ChangeSpec := { name := "fnExactRulesOk", fn := fun _ => fun
  | [d] => { results := [.lit (.bool false)], args := [d] }
  | _ => none }
def FnExactRulesOkWrongFalsely : Prop := fnExactRulesOkRow.holds Try.pinned (OpenSpec.ofChange fnExactRulesOkWrong)

/- THE SECOND FORM. 'bulk': how many values and letters a reading holds, each counted each time it is reached (what is shared counts as often as it is met; a slice's spare places count too). A statement '..UptoSaid' is the law's where the arguments, and the package variables that the reading takes, are together of bulk at most 1048576: NARROWER than '..Said'. Prove '..Said' where nothing that the law and all that it calls make is longer than what came in: it says more and counts as full. Else prove '..UptoSaid'. A law counts once. -/
mutual
def uptoBulk {H : Type} : DataW H → Nat
  | .lit (.string bytes) => bytes.length + 1
  | .lit _ => 1
  | .nil => 1
  | .ptr d => uptoBulk d + 1
  | .slice elems spare => uptoBulkAll elems + uptoBulkAll spare + 1
  | .agg parts => uptoBulkAll parts + 1
  | .iface _ d => uptoBulk d + 1
  | .map entries => uptoBulkEntries entries + 1
  | .held _ => 1
def uptoBulkAll {H : Type} : List (DataW H) → Nat
  | [] => 0
  | d :: r => uptoBulk d + uptoBulkAll r
def uptoBulkEntries {H : Type} : List (Lit × DataW H) → Nat
  | [] => 0
  | x :: r => uptoBulkEntry x + uptoBulkEntries r
def uptoBulkEntry {H : Type} : Lit × DataW H → Nat
  | (.string bytes, d) => bytes.length + uptoBulk d + 1
  | (_, d) => uptoBulk d + 1
 end
def uptoSmall : (H : Type) → List (DataW H) → Bool := fun _ ds => decide (uptoBulkAll ds ≤ 1048576)
def OpenSpec.upto (s : _root_.Go.ChangeSpec) : _root_.Go.OpenSpec := { _root_.Go.OpenSpec.ofChange s with cond := some uptoSmall }

/-- 'laws.FnSquareGo', WHERE WHAT IT READS IS OF BULK AT MOST 1048576: true; the input reads as it did. -/
def fnSquareGoUptoRow : OpenClaim := { program := "ytpopnhndmlfnmaa", sum := "541041f730f2bf108691155d409c96c5f90fa64564642f01d868d31363f0924e", func := "loop.example/zugzwang/laws.FnSquareGo", spec := "fnSquareGo", apart := false, narrowed := true }
def FnSquareGoUptoSaid : Prop := fnSquareGoUptoRow.holds Try.pinned (OpenSpec.upto fnSquareGoSpec)

/-- 'laws.FnSquareTurn', WHERE WHAT IT READS IS OF BULK AT MOST 1048576: true; the input reads as it did. -/
def fnSquareTurnUptoRow : OpenClaim := { program := "ytpopnhndmlfnmaa", sum := "541041f730f2bf108691155d409c96c5f90fa64564642f01d868d31363f0924e", func := "loop.example/zugzwang/laws.FnSquareTurn", spec := "fnSquareTurn", apart := false, narrowed := true }
def FnSquareTurnUptoSaid : Prop := fnSquareTurnUptoRow.holds Try.pinned (OpenSpec.upto fnSquareTurnSpec)

/-- 'laws.FnExactSquareOk', WHERE WHAT IT READS IS OF BULK AT MOST 1048576: true; the input reads as it did. -/
def fnExactSquareOkUptoRow : OpenClaim := { program := "ytpopnhndmlfnmaa", sum := "541041f730f2bf108691155d409c96c5f90fa64564642f01d868d31363f0924e", func := "loop.example/zugzwang/laws.FnExactSquareOk", spec := "fnExactSquareOk", apart := false, narrowed := true }
def FnExactSquareOkUptoSaid : Prop := fnExactSquareOkUptoRow.holds Try.pinned (OpenSpec.upto fnExactSquareOkSpec)

/-- 'laws.FnExactSquareGet', WHERE WHAT IT READS IS OF BULK AT MOST 1048576: true; the input reads as it did. -/
def fnExactSquareGetUptoRow : OpenClaim := { program := "ytpopnhndmlfnmaa", sum := "541041f730f2bf108691155d409c96c5f90fa64564642f01d868d31363f0924e", func := "loop.example/zugzwang/laws.FnExactSquareGet", spec := "fnExactSquareGet", apart := false, narrowed := true }
def FnExactSquareGetUptoSaid : Prop := fnExactSquareGetUptoRow.holds Try.pinned (OpenSpec.upto fnExactSquareGetSpec)

/-- 'laws.FnExactSquareGo', WHERE WHAT IT READS IS OF BULK AT MOST 1048576: true; the input reads as it did. -/
def fnExactSquareGoUptoRow : OpenClaim := { program := "ytpopnhndmlfnmaa", sum := "541041f730f2bf108691155d409c96c5f90fa64564642f01d868d31363f0924e", func := "loop.example/zugzwang/laws.FnExactSquareGo", spec := "fnExactSquareGo", apart := false, narrowed := true }
def FnExactSquareGoUptoSaid : Prop := fnExactSquareGoUptoRow.holds Try.pinned (OpenSpec.upto fnExactSquareGoSpec)

/-- 'laws.FnExactSquareTurn', WHERE WHAT IT READS IS OF BULK AT MOST 1048576: true; the input reads as it did. -/
def fnExactSquareTurnUptoRow : OpenClaim := { program := "ytpopnhndmlfnmaa", sum := "541041f730f2bf108691155d409c96c5f90fa64564642f01d868d31363f0924e", func := "loop.example/zugzwang/laws.FnExactSquareTurn", spec := "fnExactSquareTurn", apart := false, narrowed := true }
def FnExactSquareTurnUptoSaid : Prop := fnExactSquareTurnUptoRow.holds Try.pinned (OpenSpec.upto fnExactSquareTurnSpec)

/-- 'laws.FnExactKindOk', WHERE WHAT IT READS IS OF BULK AT MOST 1048576: true; the input reads as it did. -/
def fnExactKindOkUptoRow : OpenClaim := { program := "ytpopnhndmlfnmaa", sum := "541041f730f2bf108691155d409c96c5f90fa64564642f01d868d31363f0924e", func := "loop.example/zugzwang/laws.FnExactKindOk", spec := "fnExactKindOk", apart := false, narrowed := true }
def FnExactKindOkUptoSaid : Prop := fnExactKindOkUptoRow.holds Try.pinned (OpenSpec.upto fnExactKindOkSpec)

/-- 'laws.FnExactRulesOk', WHERE WHAT IT READS IS OF BULK AT MOST 1048576: true; the input reads as it did. -/
def fnExactRulesOkUptoRow : OpenClaim := { program := "ytpopnhndmlfnmaa", sum := "541041f730f2bf108691155d409c96c5f90fa64564642f01d868d31363f0924e", func := "loop.example/zugzwang/laws.FnExactRulesOk", spec := "fnExactRulesOk", apart := false, narrowed := true }
def FnExactRulesOkUptoSaid : Prop := fnExactRulesOkUptoRow.holds Try.pinned (OpenSpec.upto fnExactRulesOkSpec)

end Rows
end Go.Proofs.Ytpopnhndmlfnmaa
