/-
  No cell of these rows narrows 'for every input' (looked for: loops, veiled, ifaces, maps, wideKeys, modest, calm, conditions, laid).
  DERIVED. THE GIVEN ROWS OF THIS SEAT. 10 by the template 'for every input the law returns true; each argument reads behind the call as it read before'; 0 by the template 'total and deterministic' (their statements: YtjanalljaacnoaaTotals.lean).
  GIVEN WITH THE SEED: the statements are not yours to turn. If you find one false, say at which input.
  Laid BY PROGRAM, IN A SANDBOX (cutbox-rows.mjs): the forced cells as the released guide's own fill.sh prints them over the translation c17ebaa0faae23e7… (all of the seat's roots in one cut). By AI agents, Wed Nov 11 2026. No macro, syntax, notation, axiom, sorry.
-/
import Derived.Test.YtjanalljaacnoaaChecked
import GoSem.Claim
import GoSem.ClaimJoined
import GoSem.ClaimMapViews
import Derived.JoinedTies
import Derived.KernelRfl
namespace Go.Proofs.Ytjanalljaacnoaa
/- THE CELL 'sum', in the pinned program and in every row, IS THE sha256 OF THE DUMP (.gsa) THAT YtjanalljaacnoaaProg.lean LOADS. Nothing in Lean hashes anything: it is a label: what it is worth is what the hold of that sum in a sandbox is worth. -/
noncomputable def Try.pinned : Pinned := { name := "ytjanalljaacnoaa", sum := "c17ebaa0faae23e7210798c4ae14eae18a987834bf06dcea6ed6a14ff5e51446", checked := Try.checked }
namespace Rows
def none {H : Type} : Left H := { results := [], args := [] }

/-- 'laws.FnTakeAll': WHATEVER THE INPUT: true; the input reads as it did. -/
def fnTakeAllSpec : ChangeSpec := { name := "fnTakeAll", fn := fun _ => fun
  | [d] => { results := [.lit (.bool true)], args := [d] }
  | _ => none }
def fnTakeAllRow : OpenClaim := { program := "ytjanalljaacnoaa", sum := "c17ebaa0faae23e7210798c4ae14eae18a987834bf06dcea6ed6a14ff5e51446", func := "loop.example/zugzwang/laws.FnTakeAll", spec := "fnTakeAll", unfollowed := true, recurses := true, apart := false }
def FnTakeAllSaid : Prop := fnTakeAllRow.holds Try.pinned (OpenSpec.ofChange fnTakeAllSpec)

/-- ITS FALSE NEIGHBOUR: 'it returns false'. Refute it at one input. -/
def fnTakeAllWrong : ChangeSpec := { name := "fnTakeAll", fn := fun _ => fun
  | [d] => { results := [.lit (.bool false)], args := [d] }
  | _ => none }
def FnTakeAllWrongFalsely : Prop := fnTakeAllRow.holds Try.pinned (OpenSpec.ofChange fnTakeAllWrong)

/-- 'laws.FnHeapsVal': WHATEVER THE INPUT: true; the input reads as it did. -/
def fnHeapsValSpec : ChangeSpec := { name := "fnHeapsVal", fn := fun _ => fun
  | [d1, d2] => { results := [.lit (.bool true)], args := [d1, d2] }
  | _ => none }
def fnHeapsValRow : OpenClaim := { program := "ytjanalljaacnoaa", sum := "c17ebaa0faae23e7210798c4ae14eae18a987834bf06dcea6ed6a14ff5e51446", func := "loop.example/zugzwang/laws.FnHeapsVal", spec := "fnHeapsVal", unfollowed := true, recurses := true, apart := false }
def FnHeapsValSaid : Prop := fnHeapsValRow.holds Try.pinned (OpenSpec.ofChange fnHeapsValSpec)

/-- ITS FALSE NEIGHBOUR: 'it returns false'. Refute it at one input. -/
def fnHeapsValWrong : ChangeSpec := { name := "fnHeapsVal", fn := fun _ => fun
  | [d1, d2] => { results := [.lit (.bool false)], args := [d1, d2] }
  | _ => none }
def FnHeapsValWrongFalsely : Prop := fnHeapsValRow.holds Try.pinned (OpenSpec.ofChange fnHeapsValWrong)

/-- 'laws.FnHeapsMoves': WHATEVER THE INPUT: true; the input reads as it did. -/
def fnHeapsMovesSpec : ChangeSpec := { name := "fnHeapsMoves", fn := fun _ => fun
  | [d] => { results := [.lit (.bool true)], args := [d] }
  | _ => none }
def fnHeapsMovesRow : OpenClaim := { program := "ytjanalljaacnoaa", sum := "c17ebaa0faae23e7210798c4ae14eae18a987834bf06dcea6ed6a14ff5e51446", func := "loop.example/zugzwang/laws.FnHeapsMoves", spec := "fnHeapsMoves", unfollowed := true, recurses := true, apart := false }
def FnHeapsMovesSaid : Prop := fnHeapsMovesRow.holds Try.pinned (OpenSpec.ofChange fnHeapsMovesSpec)

/-- ITS FALSE NEIGHBOUR: 'it returns false'. Refute it at one input. -/
def fnHeapsMovesWrong : ChangeSpec := { name := "fnHeapsMoves", fn := fun _ => fun
  | [d] => { results := [.lit (.bool false)], args := [d] }
  | _ => none }
def FnHeapsMovesWrongFalsely : Prop := fnHeapsMovesRow.holds Try.pinned (OpenSpec.ofChange fnHeapsMovesWrong)

/-- 'laws.FnHeapsBest': WHATEVER THE INPUT: true; the input reads as it did. -/
def fnHeapsBestSpec : ChangeSpec := { name := "fnHeapsBest", fn := fun _ => fun
  | [d] => { results := [.lit (.bool true)], args := [d] }
  | _ => none }
def fnHeapsBestRow : OpenClaim := { program := "ytjanalljaacnoaa", sum := "c17ebaa0faae23e7210798c4ae14eae18a987834bf06dcea6ed6a14ff5e51446", func := "loop.example/zugzwang/laws.FnHeapsBest", spec := "fnHeapsBest", unfollowed := true, recurses := true, apart := false }
def FnHeapsBestSaid : Prop := fnHeapsBestRow.holds Try.pinned (OpenSpec.ofChange fnHeapsBestSpec)

/-- ITS FALSE NEIGHBOUR: 'it returns false'. Refute it at one input. -/
def fnHeapsBestWrong : ChangeSpec := { name := "fnHeapsBest", fn := fun _ => fun
  | [d] => { results := [.lit (.bool false)], args := [d] }
  | _ => none }
def FnHeapsBestWrongFalsely : Prop := fnHeapsBestRow.holds Try.pinned (OpenSpec.ofChange fnHeapsBestWrong)

/-- 'laws.FnTakePeriod': WHATEVER THE INPUT: true; the input reads as it did. -/
def fnTakePeriodSpec : ChangeSpec := { name := "fnTakePeriod", fn := fun _ => fun
  | [d] => { results := [.lit (.bool true)], args := [d] }
  | _ => none }
def fnTakePeriodRow : OpenClaim := { program := "ytjanalljaacnoaa", sum := "c17ebaa0faae23e7210798c4ae14eae18a987834bf06dcea6ed6a14ff5e51446", func := "loop.example/zugzwang/laws.FnTakePeriod", spec := "fnTakePeriod", unfollowed := true, recurses := true, apart := false }
def FnTakePeriodSaid : Prop := fnTakePeriodRow.holds Try.pinned (OpenSpec.ofChange fnTakePeriodSpec)

/-- ITS FALSE NEIGHBOUR: 'it returns false'. Refute it at one input. -/
def fnTakePeriodWrong : ChangeSpec := { name := "fnTakePeriod", fn := fun _ => fun
  | [d] => { results := [.lit (.bool false)], args := [d] }
  | _ => none }
def FnTakePeriodWrongFalsely : Prop := fnTakePeriodRow.holds Try.pinned (OpenSpec.ofChange fnTakePeriodWrong)

/-- 'laws.FnOctalAll': WHATEVER THE INPUT: true; the input reads as it did. -/
def fnOctalAllSpec : ChangeSpec := { name := "fnOctalAll", fn := fun _ => fun
  | [d] => { results := [.lit (.bool true)], args := [d] }
  | _ => none }
def fnOctalAllRow : OpenClaim := { program := "ytjanalljaacnoaa", sum := "c17ebaa0faae23e7210798c4ae14eae18a987834bf06dcea6ed6a14ff5e51446", func := "loop.example/zugzwang/laws.FnOctalAll", spec := "fnOctalAll", unfollowed := true, recurses := true, apart := false }
def FnOctalAllSaid : Prop := fnOctalAllRow.holds Try.pinned (OpenSpec.ofChange fnOctalAllSpec)

/-- ITS FALSE NEIGHBOUR: 'it returns false'. Refute it at one input. -/
def fnOctalAllWrong : ChangeSpec := { name := "fnOctalAll", fn := fun _ => fun
  | [d] => { results := [.lit (.bool false)], args := [d] }
  | _ => none }
def FnOctalAllWrongFalsely : Prop := fnOctalAllRow.holds Try.pinned (OpenSpec.ofChange fnOctalAllWrong)

/-- 'laws.FnOctalMoves': WHATEVER THE INPUT: true; the input reads as it did. -/
def fnOctalMovesSpec : ChangeSpec := { name := "fnOctalMoves", fn := fun _ => fun
  | [d] => { results := [.lit (.bool true)], args := [d] }
  | _ => none }
def fnOctalMovesRow : OpenClaim := { program := "ytjanalljaacnoaa", sum := "c17ebaa0faae23e7210798c4ae14eae18a987834bf06dcea6ed6a14ff5e51446", func := "loop.example/zugzwang/laws.FnOctalMoves", spec := "fnOctalMoves", unfollowed := true, recurses := true, apart := false }
def FnOctalMovesSaid : Prop := fnOctalMovesRow.holds Try.pinned (OpenSpec.ofChange fnOctalMovesSpec)

/-- ITS FALSE NEIGHBOUR: 'it returns false'. Refute it at one input. -/
def fnOctalMovesWrong : ChangeSpec := { name := "fnOctalMoves", fn := fun _ => fun
  | [d] => { results := [.lit (.bool false)], args := [d] }
  | _ => none }
def FnOctalMovesWrongFalsely : Prop := fnOctalMovesRow.holds Try.pinned (OpenSpec.ofChange fnOctalMovesWrong)

/-- 'laws.FnOctalTake': WHATEVER THE INPUT: true; the input reads as it did. -/
def fnOctalTakeSpec : ChangeSpec := { name := "fnOctalTake", fn := fun _ => fun
  | [d] => { results := [.lit (.bool true)], args := [d] }
  | _ => none }
def fnOctalTakeRow : OpenClaim := { program := "ytjanalljaacnoaa", sum := "c17ebaa0faae23e7210798c4ae14eae18a987834bf06dcea6ed6a14ff5e51446", func := "loop.example/zugzwang/laws.FnOctalTake", spec := "fnOctalTake", unfollowed := true, recurses := true, apart := false }
def FnOctalTakeSaid : Prop := fnOctalTakeRow.holds Try.pinned (OpenSpec.ofChange fnOctalTakeSpec)

/-- ITS FALSE NEIGHBOUR: 'it returns false'. Refute it at one input. -/
def fnOctalTakeWrong : ChangeSpec := { name := "fnOctalTake", fn := fun _ => fun
  | [d] => { results := [.lit (.bool false)], args := [d] }
  | _ => none }
def FnOctalTakeWrongFalsely : Prop := fnOctalTakeRow.holds Try.pinned (OpenSpec.ofChange fnOctalTakeWrong)

/-- 'laws.FnPointsOf': WHATEVER THE INPUT: true; the input reads as it did. -/
def fnPointsOfSpec : ChangeSpec := { name := "fnPointsOf", fn := fun _ => fun
  | [d] => { results := [.lit (.bool true)], args := [d] }
  | _ => none }
def fnPointsOfRow : OpenClaim := { program := "ytjanalljaacnoaa", sum := "c17ebaa0faae23e7210798c4ae14eae18a987834bf06dcea6ed6a14ff5e51446", func := "loop.example/zugzwang/laws.FnPointsOf", spec := "fnPointsOf", apart := false }
def FnPointsOfSaid : Prop := fnPointsOfRow.holds Try.pinned (OpenSpec.ofChange fnPointsOfSpec)

/-- ITS FALSE NEIGHBOUR: 'it returns false'. Refute it at one input. -/
def fnPointsOfWrong : ChangeSpec := { name := "fnPointsOf", fn := fun _ => fun
  | [d] => { results := [.lit (.bool false)], args := [d] }
  | _ => none }
def FnPointsOfWrongFalsely : Prop := fnPointsOfRow.holds Try.pinned (OpenSpec.ofChange fnPointsOfWrong)

/-- 'laws.FnRoundAll': WHATEVER THE INPUT: true; the input reads as it did. -/
def fnRoundAllSpec : ChangeSpec := { name := "fnRoundAll", fn := fun _ => fun
  | [d] => { results := [.lit (.bool true)], args := [d] }
  | _ => none }
def fnRoundAllRow : OpenClaim := { program := "ytjanalljaacnoaa", sum := "c17ebaa0faae23e7210798c4ae14eae18a987834bf06dcea6ed6a14ff5e51446", func := "loop.example/zugzwang/laws.FnRoundAll", spec := "fnRoundAll", apart := false }
def FnRoundAllSaid : Prop := fnRoundAllRow.holds Try.pinned (OpenSpec.ofChange fnRoundAllSpec)

/-- ITS FALSE NEIGHBOUR: 'it returns false'. Refute it at one input. -/
def fnRoundAllWrong : ChangeSpec := { name := "fnRoundAll", fn := fun _ => fun
  | [d] => { results := [.lit (.bool false)], args := [d] }
  | _ => none }
def FnRoundAllWrongFalsely : Prop := fnRoundAllRow.holds Try.pinned (OpenSpec.ofChange fnRoundAllWrong)

/- THE SECOND FORM. 'bulk': how many values and letters a reading holds, each counted each time it is reached (what is shared counts as often as it is met; a slice's spare places count too). A statement '..UptoSaid' is the law's where the arguments, and the package variables that the reading takes, are together of bulk at most 1048576: NARROWER than '..Said'. Prove '..Said' where nothing that the law and all that it calls make is longer than what came in: it says more and counts as full. Else prove '..UptoSaid'. A law counts once. -/
mutual
def uptoBulk {H : Type} : DataW H → Nat
  | .lit (.string bytes) => bytes.length + 1
  | .lit _ => 1
  | .nil => 1
  | .ptr d => uptoBulk d + 1
  | .slice elems spare => uptoBulkAll elems + uptoBulkAll spare + 1
  | .agg parts => uptoBulkAll parts + 1
  | .iface _ d => uptoBulk d + 1
  | .map entries => uptoBulkEntries entries + 1
  | .held _ => 1
def uptoBulkAll {H : Type} : List (DataW H) → Nat
  | [] => 0
  | d :: r => uptoBulk d + uptoBulkAll r
def uptoBulkEntries {H : Type} : List (Lit × DataW H) → Nat
  | [] => 0
  | x :: r => uptoBulkEntry x + uptoBulkEntries r
def uptoBulkEntry {H : Type} : Lit × DataW H → Nat
  | (.string bytes, d) => bytes.length + uptoBulk d + 1
  | (_, d) => uptoBulk d + 1
 end
def uptoSmall : (H : Type) → List (DataW H) → Bool := fun _ ds => decide (uptoBulkAll ds ≤ 1048576)
def OpenSpec.upto (s : _root_.Go.ChangeSpec) : _root_.Go.OpenSpec := { _root_.Go.OpenSpec.ofChange s with cond := some uptoSmall }

/-- 'laws.FnTakeAll', WHERE WHAT IT READS IS OF BULK AT MOST 1048576: true; the input reads as it did. -/
def fnTakeAllUptoRow : OpenClaim := { program := "ytjanalljaacnoaa", sum := "c17ebaa0faae23e7210798c4ae14eae18a987834bf06dcea6ed6a14ff5e51446", func := "loop.example/zugzwang/laws.FnTakeAll", spec := "fnTakeAll", unfollowed := true, recurses := true, apart := false, narrowed := true }
def FnTakeAllUptoSaid : Prop := fnTakeAllUptoRow.holds Try.pinned (OpenSpec.upto fnTakeAllSpec)

/-- 'laws.FnHeapsVal', WHERE WHAT IT READS IS OF BULK AT MOST 1048576: true; the input reads as it did. -/
def fnHeapsValUptoRow : OpenClaim := { program := "ytjanalljaacnoaa", sum := "c17ebaa0faae23e7210798c4ae14eae18a987834bf06dcea6ed6a14ff5e51446", func := "loop.example/zugzwang/laws.FnHeapsVal", spec := "fnHeapsVal", unfollowed := true, recurses := true, apart := false, narrowed := true }
def FnHeapsValUptoSaid : Prop := fnHeapsValUptoRow.holds Try.pinned (OpenSpec.upto fnHeapsValSpec)

/-- 'laws.FnHeapsMoves', WHERE WHAT IT READS IS OF BULK AT MOST 1048576: true; the input reads as it did. -/
def fnHeapsMovesUptoRow : OpenClaim := { program := "ytjanalljaacnoaa", sum := "c17ebaa0faae23e7210798c4ae14eae18a987834bf06dcea6ed6a14ff5e51446", func := "loop.example/zugzwang/laws.FnHeapsMoves", spec := "fnHeapsMoves", unfollowed := true, recurses := true, apart := false, narrowed := true }
def FnHeapsMovesUptoSaid : Prop := fnHeapsMovesUptoRow.holds Try.pinned (OpenSpec.upto fnHeapsMovesSpec)

/-- 'laws.FnHeapsBest', WHERE WHAT IT READS IS OF BULK AT MOST 1048576: true; the input reads as it did. -/
def fnHeapsBestUptoRow : OpenClaim := { program := "ytjanalljaacnoaa", sum := "c17ebaa0faae23e7210798c4ae14eae18a987834bf06dcea6ed6a14ff5e51446", func := "loop.example/zugzwang/laws.FnHeapsBest", spec := "fnHeapsBest", unfollowed := true, recurses := true, apart := false, narrowed := true }
def FnHeapsBestUptoSaid : Prop := fnHeapsBestUptoRow.holds Try.pinned (OpenSpec.upto fnHeapsBestSpec)

/-- 'laws.FnTakePeriod', WHERE WHAT IT READS IS OF BULK AT MOST 1048576: true; the input reads as it did. -/
def fnTakePeriodUptoRow : OpenClaim := { program := "ytjanalljaacnoaa", sum := "c17ebaa0faae23e7210798c4ae14eae18a987834bf06dcea6ed6a14ff5e51446", func := "loop.example/zugzwang/laws.FnTakePeriod", spec := "fnTakePeriod", unfollowed := true, recurses := true, apart := false, narrowed := true }
def FnTakePeriodUptoSaid : Prop := fnTakePeriodUptoRow.holds Try.pinned (OpenSpec.upto fnTakePeriodSpec)

/-- 'laws.FnOctalAll', WHERE WHAT IT READS IS OF BULK AT MOST 1048576: true; the input reads as it did. -/
def fnOctalAllUptoRow : OpenClaim := { program := "ytjanalljaacnoaa", sum := "c17ebaa0faae23e7210798c4ae14eae18a987834bf06dcea6ed6a14ff5e51446", func := "loop.example/zugzwang/laws.FnOctalAll", spec := "fnOctalAll", unfollowed := true, recurses := true, apart := false, narrowed := true }
def FnOctalAllUptoSaid : Prop := fnOctalAllUptoRow.holds Try.pinned (OpenSpec.upto fnOctalAllSpec)

/-- 'laws.FnOctalMoves', WHERE WHAT IT READS IS OF BULK AT MOST 1048576: true; the input reads as it did. -/
def fnOctalMovesUptoRow : OpenClaim := { program := "ytjanalljaacnoaa", sum := "c17ebaa0faae23e7210798c4ae14eae18a987834bf06dcea6ed6a14ff5e51446", func := "loop.example/zugzwang/laws.FnOctalMoves", spec := "fnOctalMoves", unfollowed := true, recurses := true, apart := false, narrowed := true }
def FnOctalMovesUptoSaid : Prop := fnOctalMovesUptoRow.holds Try.pinned (OpenSpec.upto fnOctalMovesSpec)

/-- 'laws.FnOctalTake', WHERE WHAT IT READS IS OF BULK AT MOST 1048576: true; the input reads as it did. -/
def fnOctalTakeUptoRow : OpenClaim := { program := "ytjanalljaacnoaa", sum := "c17ebaa0faae23e7210798c4ae14eae18a987834bf06dcea6ed6a14ff5e51446", func := "loop.example/zugzwang/laws.FnOctalTake", spec := "fnOctalTake", unfollowed := true, recurses := true, apart := false, narrowed := true }
def FnOctalTakeUptoSaid : Prop := fnOctalTakeUptoRow.holds Try.pinned (OpenSpec.upto fnOctalTakeSpec)

/-- 'laws.FnPointsOf', WHERE WHAT IT READS IS OF BULK AT MOST 1048576: true; the input reads as it did. -/
def fnPointsOfUptoRow : OpenClaim := { program := "ytjanalljaacnoaa", sum := "c17ebaa0faae23e7210798c4ae14eae18a987834bf06dcea6ed6a14ff5e51446", func := "loop.example/zugzwang/laws.FnPointsOf", spec := "fnPointsOf", apart := false, narrowed := true }
def FnPointsOfUptoSaid : Prop := fnPointsOfUptoRow.holds Try.pinned (OpenSpec.upto fnPointsOfSpec)

/-- 'laws.FnRoundAll', WHERE WHAT IT READS IS OF BULK AT MOST 1048576: true; the input reads as it did. -/
def fnRoundAllUptoRow : OpenClaim := { program := "ytjanalljaacnoaa", sum := "c17ebaa0faae23e7210798c4ae14eae18a987834bf06dcea6ed6a14ff5e51446", func := "loop.example/zugzwang/laws.FnRoundAll", spec := "fnRoundAll", apart := false, narrowed := true }
def FnRoundAllUptoSaid : Prop := fnRoundAllUptoRow.holds Try.pinned (OpenSpec.upto fnRoundAllSpec)

end Rows
end Go.Proofs.Ytjanalljaacnoaa
