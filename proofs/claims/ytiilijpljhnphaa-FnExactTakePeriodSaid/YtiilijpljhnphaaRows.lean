/-
  No cell of these rows narrows 'for every input' (looked for: loops, veiled, ifaces, maps, wideKeys, modest, calm, conditions, laid).
  DERIVED. THE GIVEN ROWS OF THIS SEAT. 12 by the template 'for every input the law returns true; each argument reads behind the call as it read before'; 0 by the template 'total and deterministic' (their statements: YtiilijpljhnphaaTotals.lean).
  GIVEN WITH THE SEED: the statements are not yours to turn. If you find one false, say at which input.
  Laid BY PROGRAM, IN A SANDBOX (cutbox-rows.mjs): the forced cells as the released guide's own fill.sh prints them over the translation 76fcbfea4e12d422… (all of the seat's roots in one cut). By AI agents, Wed Nov 11 2026. No macro, syntax, notation, axiom, sorry.
-/
import Derived.Test.YtiilijpljhnphaaChecked
import GoSem.Claim
import GoSem.ClaimJoined
import GoSem.ClaimMapViews
import Derived.JoinedTies
import Derived.KernelRfl
namespace Go.Proofs.Ytiilijpljhnphaa
/- THE CELL 'sum', in the pinned program and in every row, IS THE sha256 OF THE DUMP (.gsa) THAT YtiilijpljhnphaaProg.lean LOADS. Nothing in Lean hashes anything: it is a label: what it is worth is what the hold of that sum in a sandbox is worth. -/
noncomputable def Try.pinned : Pinned := { name := "ytiilijpljhnphaa", sum := "76fcbfea4e12d42240bfd51081589cdf86b7ebf6a32fc2ed97ead9a40b61677f", checked := Try.checked }
namespace Rows
def none {H : Type} : Left H := { results := [], args := [] }

/-- 'laws.FnExactTakeOk': WHATEVER THE INPUT: true; the input reads as it did. -/
def fnExactTakeOkSpec : ChangeSpec := { name := "fnExactTakeOk", fn := fun _ => fun
  | [d] => { results := [.lit (.bool true)], args := [d] }
  | _ => none }
def fnExactTakeOkRow : OpenClaim := { program := "ytiilijpljhnphaa", sum := "76fcbfea4e12d42240bfd51081589cdf86b7ebf6a32fc2ed97ead9a40b61677f", func := "loop.example/zugzwang/laws.FnExactTakeOk", spec := "fnExactTakeOk", apart := false }
def FnExactTakeOkSaid : Prop := fnExactTakeOkRow.holds Try.pinned (OpenSpec.ofChange fnExactTakeOkSpec)

/-- ITS FALSE NEIGHBOUR: 'it returns false'. Refute it at one input. -/
def fnExactTakeOkWrong : ChangeSpec := { name := "fnExactTakeOk", fn := fun _ => fun
  | [d] => { results := [.lit (.bool false)], args := [d] }
  | _ => none }
def FnExactTakeOkWrongFalsely : Prop := fnExactTakeOkRow.holds Try.pinned (OpenSpec.ofChange fnExactTakeOkWrong)

/-- 'laws.FnExactTakeAll': WHATEVER THE INPUT: true; the input reads as it did. -/
def fnExactTakeAllSpec : ChangeSpec := { name := "fnExactTakeAll", fn := fun _ => fun
  | [d1, d2] => { results := [.lit (.bool true)], args := [d1, d2] }
  | _ => none }
def fnExactTakeAllRow : OpenClaim := { program := "ytiilijpljhnphaa", sum := "76fcbfea4e12d42240bfd51081589cdf86b7ebf6a32fc2ed97ead9a40b61677f", func := "loop.example/zugzwang/laws.FnExactTakeAll", spec := "fnExactTakeAll", unfollowed := true, recurses := true, apart := false }
def FnExactTakeAllSaid : Prop := fnExactTakeAllRow.holds Try.pinned (OpenSpec.ofChange fnExactTakeAllSpec)

/-- ITS FALSE NEIGHBOUR: 'it returns false'. Refute it at one input. -/
def fnExactTakeAllWrong : ChangeSpec := { name := "fnExactTakeAll", fn := fun _ => fun
  | [d1, d2] => { results := [.lit (.bool false)], args := [d1, d2] }
  | _ => none }
def FnExactTakeAllWrongFalsely : Prop := fnExactTakeAllRow.holds Try.pinned (OpenSpec.ofChange fnExactTakeAllWrong)

/-- 'laws.FnExactHeapsVal': WHATEVER THE INPUT: true; the input reads as it did. -/
def fnExactHeapsValSpec : ChangeSpec := { name := "fnExactHeapsVal", fn := fun _ => fun
  | [d1, d2] => { results := [.lit (.bool true)], args := [d1, d2] }
  | _ => none }
def fnExactHeapsValRow : OpenClaim := { program := "ytiilijpljhnphaa", sum := "76fcbfea4e12d42240bfd51081589cdf86b7ebf6a32fc2ed97ead9a40b61677f", func := "loop.example/zugzwang/laws.FnExactHeapsVal", spec := "fnExactHeapsVal", unfollowed := true, recurses := true, apart := false }
def FnExactHeapsValSaid : Prop := fnExactHeapsValRow.holds Try.pinned (OpenSpec.ofChange fnExactHeapsValSpec)

/-- ITS FALSE NEIGHBOUR: 'it returns false'. Refute it at one input. -/
def fnExactHeapsValWrong : ChangeSpec := { name := "fnExactHeapsVal", fn := fun _ => fun
  | [d1, d2] => { results := [.lit (.bool false)], args := [d1, d2] }
  | _ => none }
def FnExactHeapsValWrongFalsely : Prop := fnExactHeapsValRow.holds Try.pinned (OpenSpec.ofChange fnExactHeapsValWrong)

/-- 'laws.FnExactHeapsMoves': WHATEVER THE INPUT: true; the input reads as it did. -/
def fnExactHeapsMovesSpec : ChangeSpec := { name := "fnExactHeapsMoves", fn := fun _ => fun
  | [d1, d2] => { results := [.lit (.bool true)], args := [d1, d2] }
  | _ => none }
def fnExactHeapsMovesRow : OpenClaim := { program := "ytiilijpljhnphaa", sum := "76fcbfea4e12d42240bfd51081589cdf86b7ebf6a32fc2ed97ead9a40b61677f", func := "loop.example/zugzwang/laws.FnExactHeapsMoves", spec := "fnExactHeapsMoves", apart := false }
def FnExactHeapsMovesSaid : Prop := fnExactHeapsMovesRow.holds Try.pinned (OpenSpec.ofChange fnExactHeapsMovesSpec)

/-- ITS FALSE NEIGHBOUR: 'it returns false'. Refute it at one input. -/
def fnExactHeapsMovesWrong : ChangeSpec := { name := "fnExactHeapsMoves", fn := fun _ => fun
  | [d1, d2] => { results := [.lit (.bool false)], args := [d1, d2] }
  | _ => none }
def FnExactHeapsMovesWrongFalsely : Prop := fnExactHeapsMovesRow.holds Try.pinned (OpenSpec.ofChange fnExactHeapsMovesWrong)

/-- 'laws.FnExactHeapsBest': WHATEVER THE INPUT: true; the input reads as it did. -/
def fnExactHeapsBestSpec : ChangeSpec := { name := "fnExactHeapsBest", fn := fun _ => fun
  | [d1, d2] => { results := [.lit (.bool true)], args := [d1, d2] }
  | _ => none }
def fnExactHeapsBestRow : OpenClaim := { program := "ytiilijpljhnphaa", sum := "76fcbfea4e12d42240bfd51081589cdf86b7ebf6a32fc2ed97ead9a40b61677f", func := "loop.example/zugzwang/laws.FnExactHeapsBest", spec := "fnExactHeapsBest", unfollowed := true, recurses := true, apart := false }
def FnExactHeapsBestSaid : Prop := fnExactHeapsBestRow.holds Try.pinned (OpenSpec.ofChange fnExactHeapsBestSpec)

/-- ITS FALSE NEIGHBOUR: 'it returns false'. Refute it at one input. -/
def fnExactHeapsBestWrong : ChangeSpec := { name := "fnExactHeapsBest", fn := fun _ => fun
  | [d1, d2] => { results := [.lit (.bool false)], args := [d1, d2] }
  | _ => none }
def FnExactHeapsBestWrongFalsely : Prop := fnExactHeapsBestRow.holds Try.pinned (OpenSpec.ofChange fnExactHeapsBestWrong)

/-- 'laws.FnExactTakePeriod': WHATEVER THE INPUT: true; the input reads as it did. -/
def fnExactTakePeriodSpec : ChangeSpec := { name := "fnExactTakePeriod", fn := fun _ => fun
  | [d] => { results := [.lit (.bool true)], args := [d] }
  | _ => none }
def fnExactTakePeriodRow : OpenClaim := { program := "ytiilijpljhnphaa", sum := "76fcbfea4e12d42240bfd51081589cdf86b7ebf6a32fc2ed97ead9a40b61677f", func := "loop.example/zugzwang/laws.FnExactTakePeriod", spec := "fnExactTakePeriod", unfollowed := true, recurses := true, apart := false }
def FnExactTakePeriodSaid : Prop := fnExactTakePeriodRow.holds Try.pinned (OpenSpec.ofChange fnExactTakePeriodSpec)

/-- ITS FALSE NEIGHBOUR: 'it returns false'. Refute it at one input. -/
def fnExactTakePeriodWrong : ChangeSpec := { name := "fnExactTakePeriod", fn := fun _ => fun
  | [d] => { results := [.lit (.bool false)], args := [d] }
  | _ => none }
def FnExactTakePeriodWrongFalsely : Prop := fnExactTakePeriodRow.holds Try.pinned (OpenSpec.ofChange fnExactTakePeriodWrong)

/-- 'laws.FnExactOctalOk': WHATEVER THE INPUT: true; the input reads as it did. -/
def fnExactOctalOkSpec : ChangeSpec := { name := "fnExactOctalOk", fn := fun _ => fun
  | [d] => { results := [.lit (.bool true)], args := [d] }
  | _ => none }
def fnExactOctalOkRow : OpenClaim := { program := "ytiilijpljhnphaa", sum := "76fcbfea4e12d42240bfd51081589cdf86b7ebf6a32fc2ed97ead9a40b61677f", func := "loop.example/zugzwang/laws.FnExactOctalOk", spec := "fnExactOctalOk", apart := false }
def FnExactOctalOkSaid : Prop := fnExactOctalOkRow.holds Try.pinned (OpenSpec.ofChange fnExactOctalOkSpec)

/-- ITS FALSE NEIGHBOUR: 'it returns false'. Refute it at one input. -/
def fnExactOctalOkWrong : ChangeSpec := { name := "fnExactOctalOk", fn := fun _ => fun
  | [d] => { results := [.lit (.bool false)], args := [d] }
  | _ => none }
def FnExactOctalOkWrongFalsely : Prop := fnExactOctalOkRow.holds Try.pinned (OpenSpec.ofChange fnExactOctalOkWrong)

/-- 'laws.FnExactOctalMoves': WHATEVER THE INPUT: true; the input reads as it did. -/
def fnExactOctalMovesSpec : ChangeSpec := { name := "fnExactOctalMoves", fn := fun _ => fun
  | [d1, d2] => { results := [.lit (.bool true)], args := [d1, d2] }
  | _ => none }
def fnExactOctalMovesRow : OpenClaim := { program := "ytiilijpljhnphaa", sum := "76fcbfea4e12d42240bfd51081589cdf86b7ebf6a32fc2ed97ead9a40b61677f", func := "loop.example/zugzwang/laws.FnExactOctalMoves", spec := "fnExactOctalMoves", unfollowed := true, recurses := true, apart := false }
def FnExactOctalMovesSaid : Prop := fnExactOctalMovesRow.holds Try.pinned (OpenSpec.ofChange fnExactOctalMovesSpec)

/-- ITS FALSE NEIGHBOUR: 'it returns false'. Refute it at one input. -/
def fnExactOctalMovesWrong : ChangeSpec := { name := "fnExactOctalMoves", fn := fun _ => fun
  | [d1, d2] => { results := [.lit (.bool false)], args := [d1, d2] }
  | _ => none }
def FnExactOctalMovesWrongFalsely : Prop := fnExactOctalMovesRow.holds Try.pinned (OpenSpec.ofChange fnExactOctalMovesWrong)

/-- 'laws.FnExactOctalAll': WHATEVER THE INPUT: true; the input reads as it did. -/
def fnExactOctalAllSpec : ChangeSpec := { name := "fnExactOctalAll", fn := fun _ => fun
  | [d1, d2] => { results := [.lit (.bool true)], args := [d1, d2] }
  | _ => none }
def fnExactOctalAllRow : OpenClaim := { program := "ytiilijpljhnphaa", sum := "76fcbfea4e12d42240bfd51081589cdf86b7ebf6a32fc2ed97ead9a40b61677f", func := "loop.example/zugzwang/laws.FnExactOctalAll", spec := "fnExactOctalAll", unfollowed := true, recurses := true, apart := false }
def FnExactOctalAllSaid : Prop := fnExactOctalAllRow.holds Try.pinned (OpenSpec.ofChange fnExactOctalAllSpec)

/-- ITS FALSE NEIGHBOUR: 'it returns false'. Refute it at one input. -/
def fnExactOctalAllWrong : ChangeSpec := { name := "fnExactOctalAll", fn := fun _ => fun
  | [d1, d2] => { results := [.lit (.bool false)], args := [d1, d2] }
  | _ => none }
def FnExactOctalAllWrongFalsely : Prop := fnExactOctalAllRow.holds Try.pinned (OpenSpec.ofChange fnExactOctalAllWrong)

/-- 'laws.FnExactResultsOk': WHATEVER THE INPUT: true; the input reads as it did. -/
def fnExactResultsOkSpec : ChangeSpec := { name := "fnExactResultsOk", fn := fun _ => fun
  | [d1, d2] => { results := [.lit (.bool true)], args := [d1, d2] }
  | _ => none }
def fnExactResultsOkRow : OpenClaim := { program := "ytiilijpljhnphaa", sum := "76fcbfea4e12d42240bfd51081589cdf86b7ebf6a32fc2ed97ead9a40b61677f", func := "loop.example/zugzwang/laws.FnExactResultsOk", spec := "fnExactResultsOk", apart := false }
def FnExactResultsOkSaid : Prop := fnExactResultsOkRow.holds Try.pinned (OpenSpec.ofChange fnExactResultsOkSpec)

/-- ITS FALSE NEIGHBOUR: 'it returns false'. Refute it at one input. -/
def fnExactResultsOkWrong : ChangeSpec := { name := "fnExactResultsOk", fn := fun _ => fun
  | [d1, d2] => { results := [.lit (.bool false)], args := [d1, d2] }
  | _ => none }
def FnExactResultsOkWrongFalsely : Prop := fnExactResultsOkRow.holds Try.pinned (OpenSpec.ofChange fnExactResultsOkWrong)

/-- 'laws.FnExactPointsOf': WHATEVER THE INPUT: true; the input reads as it did. -/
def fnExactPointsOfSpec : ChangeSpec := { name := "fnExactPointsOf", fn := fun _ => fun
  | [d1, d2] => { results := [.lit (.bool true)], args := [d1, d2] }
  | _ => none }
def fnExactPointsOfRow : OpenClaim := { program := "ytiilijpljhnphaa", sum := "76fcbfea4e12d42240bfd51081589cdf86b7ebf6a32fc2ed97ead9a40b61677f", func := "loop.example/zugzwang/laws.FnExactPointsOf", spec := "fnExactPointsOf", apart := false }
def FnExactPointsOfSaid : Prop := fnExactPointsOfRow.holds Try.pinned (OpenSpec.ofChange fnExactPointsOfSpec)

/-- ITS FALSE NEIGHBOUR: 'it returns false'. Refute it at one input. -/
def fnExactPointsOfWrong : ChangeSpec := { name := "fnExactPointsOf", fn := fun _ => fun
  | [d1, d2] => { results := [.lit (.bool false)], args := [d1, d2] }
  | _ => none }
def FnExactPointsOfWrongFalsely : Prop := fnExactPointsOfRow.holds Try.pinned (OpenSpec.ofChange fnExactPointsOfWrong)

/-- 'laws.FnExactRoundAll': WHATEVER THE INPUT: true; the input reads as it did. -/
def fnExactRoundAllSpec : ChangeSpec := { name := "fnExactRoundAll", fn := fun _ => fun
  | [d] => { results := [.lit (.bool true)], args := [d] }
  | _ => none }
def fnExactRoundAllRow : OpenClaim := { program := "ytiilijpljhnphaa", sum := "76fcbfea4e12d42240bfd51081589cdf86b7ebf6a32fc2ed97ead9a40b61677f", func := "loop.example/zugzwang/laws.FnExactRoundAll", spec := "fnExactRoundAll", apart := false }
def FnExactRoundAllSaid : Prop := fnExactRoundAllRow.holds Try.pinned (OpenSpec.ofChange fnExactRoundAllSpec)

/-- ITS FALSE NEIGHBOUR: 'it returns false'. Refute it at one input. -/
def fnExactRoundAllWrong : ChangeSpec := { name := "fnExactRoundAll", fn := fun _ => fun
  | [d] => { results := [.lit (.bool false)], args := [d] }
  | _ => none }
def FnExactRoundAllWrongFalsely : Prop := fnExactRoundAllRow.holds Try.pinned (OpenSpec.ofChange fnExactRoundAllWrong)

/- THE SECOND FORM. 'bulk': how many values and letters a reading holds, each counted each time it is reached (what is shared counts as often as it is met; a slice's spare places count too). A statement '..UptoSaid' is the law's where the arguments, and the package variables that the reading takes, are together of bulk at most 1048576: NARROWER than '..Said'. Prove '..Said' where nothing that the law and all that it calls make is longer than what came in: it says more and counts as full. Else prove '..UptoSaid'. A law counts once. -/
mutual
def uptoBulk {H : Type} : DataW H → Nat
  | .lit (.string bytes) => bytes.length + 1
  | .lit _ => 1
  | .nil => 1
  | .ptr d => uptoBulk d + 1
  | .slice elems spare => uptoBulkAll elems + uptoBulkAll spare + 1
  | .agg parts => uptoBulkAll parts + 1
  | .iface _ d => uptoBulk d + 1
  | .map entries => uptoBulkEntries entries + 1
  | .held _ => 1
def uptoBulkAll {H : Type} : List (DataW H) → Nat
  | [] => 0
  | d :: r => uptoBulk d + uptoBulkAll r
def uptoBulkEntries {H : Type} : List (Lit × DataW H) → Nat
  | [] => 0
  | x :: r => uptoBulkEntry x + uptoBulkEntries r
def uptoBulkEntry {H : Type} : Lit × DataW H → Nat
  | (.string bytes, d) => bytes.length + uptoBulk d + 1
  | (_, d) => uptoBulk d + 1
 end
def uptoSmall : (H : Type) → List (DataW H) → Bool := fun _ ds => decide (uptoBulkAll ds ≤ 1048576)
def OpenSpec.upto (s : _root_.Go.ChangeSpec) : _root_.Go.OpenSpec := { _root_.Go.OpenSpec.ofChange s with cond := some uptoSmall }

/-- 'laws.FnExactTakeOk', WHERE WHAT IT READS IS OF BULK AT MOST 1048576: true; the input reads as it did. -/
def fnExactTakeOkUptoRow : OpenClaim := { program := "ytiilijpljhnphaa", sum := "76fcbfea4e12d42240bfd51081589cdf86b7ebf6a32fc2ed97ead9a40b61677f", func := "loop.example/zugzwang/laws.FnExactTakeOk", spec := "fnExactTakeOk", apart := false, narrowed := true }
def FnExactTakeOkUptoSaid : Prop := fnExactTakeOkUptoRow.holds Try.pinned (OpenSpec.upto fnExactTakeOkSpec)

/-- 'laws.FnExactTakeAll', WHERE WHAT IT READS IS OF BULK AT MOST 1048576: true; the input reads as it did. -/
def fnExactTakeAllUptoRow : OpenClaim := { program := "ytiilijpljhnphaa", sum := "76fcbfea4e12d42240bfd51081589cdf86b7ebf6a32fc2ed97ead9a40b61677f", func := "loop.example/zugzwang/laws.FnExactTakeAll", spec := "fnExactTakeAll", unfollowed := true, recurses := true, apart := false, narrowed := true }
def FnExactTakeAllUptoSaid : Prop := fnExactTakeAllUptoRow.holds Try.pinned (OpenSpec.upto fnExactTakeAllSpec)

/-- 'laws.FnExactHeapsVal', WHERE WHAT IT READS IS OF BULK AT MOST 1048576: true; the input reads as it did. -/
def fnExactHeapsValUptoRow : OpenClaim := { program := "ytiilijpljhnphaa", sum := "76fcbfea4e12d42240bfd51081589cdf86b7ebf6a32fc2ed97ead9a40b61677f", func := "loop.example/zugzwang/laws.FnExactHeapsVal", spec := "fnExactHeapsVal", unfollowed := true, recurses := true, apart := false, narrowed := true }
def FnExactHeapsValUptoSaid : Prop := fnExactHeapsValUptoRow.holds Try.pinned (OpenSpec.upto fnExactHeapsValSpec)

/-- 'laws.FnExactHeapsMoves', WHERE WHAT IT READS IS OF BULK AT MOST 1048576: true; the input reads as it did. -/
def fnExactHeapsMovesUptoRow : OpenClaim := { program := "ytiilijpljhnphaa", sum := "76fcbfea4e12d42240bfd51081589cdf86b7ebf6a32fc2ed97ead9a40b61677f", func := "loop.example/zugzwang/laws.FnExactHeapsMoves", spec := "fnExactHeapsMoves", apart := false, narrowed := true }
def FnExactHeapsMovesUptoSaid : Prop := fnExactHeapsMovesUptoRow.holds Try.pinned (OpenSpec.upto fnExactHeapsMovesSpec)

/-- 'laws.FnExactHeapsBest', WHERE WHAT IT READS IS OF BULK AT MOST 1048576: true; the input reads as it did. -/
def fnExactHeapsBestUptoRow : OpenClaim := { program := "ytiilijpljhnphaa", sum := "76fcbfea4e12d42240bfd51081589cdf86b7ebf6a32fc2ed97ead9a40b61677f", func := "loop.example/zugzwang/laws.FnExactHeapsBest", spec := "fnExactHeapsBest", unfollowed := true, recurses := true, apart := false, narrowed := true }
def FnExactHeapsBestUptoSaid : Prop := fnExactHeapsBestUptoRow.holds Try.pinned (OpenSpec.upto fnExactHeapsBestSpec)

/-- 'laws.FnExactTakePeriod', WHERE WHAT IT READS IS OF BULK AT MOST 1048576: true; the input reads as it did. -/
def fnExactTakePeriodUptoRow : OpenClaim := { program := "ytiilijpljhnphaa", sum := "76fcbfea4e12d42240bfd51081589cdf86b7ebf6a32fc2ed97ead9a40b61677f", func := "loop.example/zugzwang/laws.FnExactTakePeriod", spec := "fnExactTakePeriod", unfollowed := true, recurses := true, apart := false, narrowed := true }
def FnExactTakePeriodUptoSaid : Prop := fnExactTakePeriodUptoRow.holds Try.pinned (OpenSpec.upto fnExactTakePeriodSpec)

/-- 'laws.FnExactOctalOk', WHERE WHAT IT READS IS OF BULK AT MOST 1048576: true; the input reads as it did. -/
def fnExactOctalOkUptoRow : OpenClaim := { program := "ytiilijpljhnphaa", sum := "76fcbfea4e12d42240bfd51081589cdf86b7ebf6a32fc2ed97ead9a40b61677f", func := "loop.example/zugzwang/laws.FnExactOctalOk", spec := "fnExactOctalOk", apart := false, narrowed := true }
def FnExactOctalOkUptoSaid : Prop := fnExactOctalOkUptoRow.holds Try.pinned (OpenSpec.upto fnExactOctalOkSpec)

/-- 'laws.FnExactOctalMoves', WHERE WHAT IT READS IS OF BULK AT MOST 1048576: true; the input reads as it did. -/
def fnExactOctalMovesUptoRow : OpenClaim := { program := "ytiilijpljhnphaa", sum := "76fcbfea4e12d42240bfd51081589cdf86b7ebf6a32fc2ed97ead9a40b61677f", func := "loop.example/zugzwang/laws.FnExactOctalMoves", spec := "fnExactOctalMoves", unfollowed := true, recurses := true, apart := false, narrowed := true }
def FnExactOctalMovesUptoSaid : Prop := fnExactOctalMovesUptoRow.holds Try.pinned (OpenSpec.upto fnExactOctalMovesSpec)

/-- 'laws.FnExactOctalAll', WHERE WHAT IT READS IS OF BULK AT MOST 1048576: true; the input reads as it did. -/
def fnExactOctalAllUptoRow : OpenClaim := { program := "ytiilijpljhnphaa", sum := "76fcbfea4e12d42240bfd51081589cdf86b7ebf6a32fc2ed97ead9a40b61677f", func := "loop.example/zugzwang/laws.FnExactOctalAll", spec := "fnExactOctalAll", unfollowed := true, recurses := true, apart := false, narrowed := true }
def FnExactOctalAllUptoSaid : Prop := fnExactOctalAllUptoRow.holds Try.pinned (OpenSpec.upto fnExactOctalAllSpec)

/-- 'laws.FnExactResultsOk', WHERE WHAT IT READS IS OF BULK AT MOST 1048576: true; the input reads as it did. -/
def fnExactResultsOkUptoRow : OpenClaim := { program := "ytiilijpljhnphaa", sum := "76fcbfea4e12d42240bfd51081589cdf86b7ebf6a32fc2ed97ead9a40b61677f", func := "loop.example/zugzwang/laws.FnExactResultsOk", spec := "fnExactResultsOk", apart := false, narrowed := true }
def FnExactResultsOkUptoSaid : Prop := fnExactResultsOkUptoRow.holds Try.pinned (OpenSpec.upto fnExactResultsOkSpec)

/-- 'laws.FnExactPointsOf', WHERE WHAT IT READS IS OF BULK AT MOST 1048576: true; the input reads as it did. -/
def fnExactPointsOfUptoRow : OpenClaim := { program := "ytiilijpljhnphaa", sum := "76fcbfea4e12d42240bfd51081589cdf86b7ebf6a32fc2ed97ead9a40b61677f", func := "loop.example/zugzwang/laws.FnExactPointsOf", spec := "fnExactPointsOf", apart := false, narrowed := true }
def FnExactPointsOfUptoSaid : Prop := fnExactPointsOfUptoRow.holds Try.pinned (OpenSpec.upto fnExactPointsOfSpec)

/-- 'laws.FnExactRoundAll', WHERE WHAT IT READS IS OF BULK AT MOST 1048576: true; the input reads as it did. -/
def fnExactRoundAllUptoRow : OpenClaim := { program := "ytiilijpljhnphaa", sum := "76fcbfea4e12d42240bfd51081589cdf86b7ebf6a32fc2ed97ead9a40b61677f", func := "loop.example/zugzwang/laws.FnExactRoundAll", spec := "fnExactRoundAll", apart := false, narrowed := true }
def FnExactRoundAllUptoSaid : Prop := fnExactRoundAllUptoRow.holds Try.pinned (OpenSpec.upto fnExactRoundAllSpec)

end Rows
end Go.Proofs.Ytiilijpljhnphaa
