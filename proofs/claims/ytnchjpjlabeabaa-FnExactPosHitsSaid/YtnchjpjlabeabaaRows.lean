/-
  No cell of these rows narrows 'for every input' (looked for: loops, veiled, ifaces, maps, wideKeys, modest, calm, conditions, laid).
  DERIVED. THE GIVEN ROWS OF THIS SEAT. 6 by the template 'for every input the law returns true; each argument reads behind the call as it read before'; 0 by the template 'total and deterministic' (their statements: YtnchjpjlabeabaaTotals.lean).
  GIVEN WITH THE SEED: the statements are not yours to turn. If you find one false, say at which input.
  Laid BY PROGRAM, IN A SANDBOX (cutbox-rows.mjs): the forced cells as the released guide's own fill.sh prints them over the translation f338bfed691bd789… (all of the seat's roots in one cut). By AI agents, Wed Nov 11 2026. No macro, syntax, notation, axiom, sorry.
-/
import Derived.Test.YtnchjpjlabeabaaChecked
import GoSem.Claim
import GoSem.ClaimJoined
import GoSem.ClaimMapViews
import Derived.JoinedTies
import Derived.KernelRfl
namespace Go.Proofs.Ytnchjpjlabeabaa
/- THE CELL 'sum', in the pinned program and in every row, IS THE sha256 OF THE DUMP (.gsa) THAT YtnchjpjlabeabaaProg.lean LOADS. Nothing in Lean hashes anything: it is a label: what it is worth is what the hold of that sum in a sandbox is worth. -/
noncomputable def Try.pinned : Pinned := { name := "ytnchjpjlabeabaa", sum := "f338bfed691bd78952b6b8dc31aa27e4260d74664eb87fdb6ede233eba7a089a", checked := Try.checked }
namespace Rows
def none {H : Type} : Left H := { results := [], args := [] }

/-- 'laws.FnExactRulesEven': WHATEVER THE INPUT: true; the input reads as it did. -/
def fnExactRulesEvenSpec : ChangeSpec := { name := "fnExactRulesEven", fn := fun _ => fun
  | [d1, d2] => { results := [.lit (.bool true)], args := [d1, d2] }
  | _ => none }
def fnExactRulesEvenRow : OpenClaim := { program := "ytnchjpjlabeabaa", sum := "f338bfed691bd78952b6b8dc31aa27e4260d74664eb87fdb6ede233eba7a089a", func := "loop.example/zugzwang/laws.FnExactRulesEven", spec := "fnExactRulesEven", apart := false }
def FnExactRulesEvenSaid : Prop := fnExactRulesEvenRow.holds Try.pinned (OpenSpec.ofChange fnExactRulesEvenSpec)

/-- ITS FALSE NEIGHBOUR: 'it returns false'. Refute it at one input. -/
def fnExactRulesEvenWrong : ChangeSpec := { name := "fnExactRulesEven", fn := fun _ => fun
  | [d1, d2] => { results := [.lit (.bool false)], args := [d1, d2] }
  | _ => none }
def FnExactRulesEvenWrongFalsely : Prop := fnExactRulesEvenRow.holds Try.pinned (OpenSpec.ofChange fnExactRulesEvenWrong)

/-- 'laws.FnExactPosOk': WHATEVER THE INPUT: true; the input reads as it did. -/
def fnExactPosOkSpec : ChangeSpec := { name := "fnExactPosOk", fn := fun _ => fun
  | [d1, d2] => { results := [.lit (.bool true)], args := [d1, d2] }
  | _ => none }
def fnExactPosOkRow : OpenClaim := { program := "ytnchjpjlabeabaa", sum := "f338bfed691bd78952b6b8dc31aa27e4260d74664eb87fdb6ede233eba7a089a", func := "loop.example/zugzwang/laws.FnExactPosOk", spec := "fnExactPosOk", unfollowed := true, recurses := true, apart := false }
def FnExactPosOkSaid : Prop := fnExactPosOkRow.holds Try.pinned (OpenSpec.ofChange fnExactPosOkSpec)

/-- ITS FALSE NEIGHBOUR: 'it returns false'. Refute it at one input. -/
def fnExactPosOkWrong : ChangeSpec := { name := "fnExactPosOk", fn := fun _ => fun
  | [d1, d2] => { results := [.lit (.bool false)], args := [d1, d2] }
  | _ => none }
def FnExactPosOkWrongFalsely : Prop := fnExactPosOkRow.holds Try.pinned (OpenSpec.ofChange fnExactPosOkWrong)

/-- 'laws.FnExactPosCheck': WHATEVER THE INPUT: true; the input reads as it did. -/
def fnExactPosCheckSpec : ChangeSpec := { name := "fnExactPosCheck", fn := fun _ => fun
  | [d1, d2] => { results := [.lit (.bool true)], args := [d1, d2] }
  | _ => none }
def fnExactPosCheckRow : OpenClaim := { program := "ytnchjpjlabeabaa", sum := "f338bfed691bd78952b6b8dc31aa27e4260d74664eb87fdb6ede233eba7a089a", func := "loop.example/zugzwang/laws.FnExactPosCheck", spec := "fnExactPosCheck", unfollowed := true, recurses := true, apart := false }
def FnExactPosCheckSaid : Prop := fnExactPosCheckRow.holds Try.pinned (OpenSpec.ofChange fnExactPosCheckSpec)

/-- ITS FALSE NEIGHBOUR: 'it returns false'. Refute it at one input. -/
def fnExactPosCheckWrong : ChangeSpec := { name := "fnExactPosCheck", fn := fun _ => fun
  | [d1, d2] => { results := [.lit (.bool false)], args := [d1, d2] }
  | _ => none }
def FnExactPosCheckWrongFalsely : Prop := fnExactPosCheckRow.holds Try.pinned (OpenSpec.ofChange fnExactPosCheckWrong)

/-- 'laws.FnExactPosHits': WHATEVER THE INPUT: true; the input reads as it did. -/
def fnExactPosHitsSpec : ChangeSpec := { name := "fnExactPosHits", fn := fun _ => fun
  | [d1, d2, d3] => { results := [.lit (.bool true)], args := [d1, d2, d3] }
  | _ => none }
def fnExactPosHitsRow : OpenClaim := { program := "ytnchjpjlabeabaa", sum := "f338bfed691bd78952b6b8dc31aa27e4260d74664eb87fdb6ede233eba7a089a", func := "loop.example/zugzwang/laws.FnExactPosHits", spec := "fnExactPosHits", unfollowed := true, recurses := true, apart := false }
def FnExactPosHitsSaid : Prop := fnExactPosHitsRow.holds Try.pinned (OpenSpec.ofChange fnExactPosHitsSpec)

/-- ITS FALSE NEIGHBOUR: 'it returns false'. Refute it at one input. -/
def fnExactPosHitsWrong : ChangeSpec := { name := "fnExactPosHits", fn := fun _ => fun
  | [d1, d2, d3] => { results := [.lit (.bool false)], args := [d1, d2, d3] }
  | _ => none }
def FnExactPosHitsWrongFalsely : Prop := fnExactPosHitsRow.holds Try.pinned (OpenSpec.ofChange fnExactPosHitsWrong)

/-- 'laws.FnExactMoveDo': WHATEVER THE INPUT: true; the input reads as it did. -/
def fnExactMoveDoSpec : ChangeSpec := { name := "fnExactMoveDo", fn := fun _ => fun
  | [d1, d2, d3] => { results := [.lit (.bool true)], args := [d1, d2, d3] }
  | _ => none }
def fnExactMoveDoRow : OpenClaim := { program := "ytnchjpjlabeabaa", sum := "f338bfed691bd78952b6b8dc31aa27e4260d74664eb87fdb6ede233eba7a089a", func := "loop.example/zugzwang/laws.FnExactMoveDo", spec := "fnExactMoveDo", unfollowed := true, recurses := true, apart := false }
def FnExactMoveDoSaid : Prop := fnExactMoveDoRow.holds Try.pinned (OpenSpec.ofChange fnExactMoveDoSpec)

/-- ITS FALSE NEIGHBOUR: 'it returns false'. Refute it at one input. -/
def fnExactMoveDoWrong : ChangeSpec := { name := "fnExactMoveDo", fn := fun _ => fun
  | [d1, d2, d3] => { results := [.lit (.bool false)], args := [d1, d2, d3] }
  | _ => none }
def FnExactMoveDoWrongFalsely : Prop := fnExactMoveDoRow.holds Try.pinned (OpenSpec.ofChange fnExactMoveDoWrong)

/-- 'laws.FnExactMoveTakes': WHATEVER THE INPUT: true; the input reads as it did. -/
def fnExactMoveTakesSpec : ChangeSpec := { name := "fnExactMoveTakes", fn := fun _ => fun
  | [d1, d2, d3] => { results := [.lit (.bool true)], args := [d1, d2, d3] }
  | _ => none }
def fnExactMoveTakesRow : OpenClaim := { program := "ytnchjpjlabeabaa", sum := "f338bfed691bd78952b6b8dc31aa27e4260d74664eb87fdb6ede233eba7a089a", func := "loop.example/zugzwang/laws.FnExactMoveTakes", spec := "fnExactMoveTakes", unfollowed := true, recurses := true, apart := false }
def FnExactMoveTakesSaid : Prop := fnExactMoveTakesRow.holds Try.pinned (OpenSpec.ofChange fnExactMoveTakesSpec)

/-- ITS FALSE NEIGHBOUR: 'it returns false'. Refute it at one input. -/
def fnExactMoveTakesWrong : ChangeSpec := { name := "fnExactMoveTakes", fn := fun _ => fun
  | [d1, d2, d3] => { results := [.lit (.bool false)], args := [d1, d2, d3] }
  | _ => none }
def FnExactMoveTakesWrongFalsely : Prop := fnExactMoveTakesRow.holds Try.pinned (OpenSpec.ofChange fnExactMoveTakesWrong)

/- THE SECOND FORM. 'bulk': how many values and letters a reading holds, each counted each time it is reached (what is shared counts as often as it is met; a slice's spare places count too). A statement '..UptoSaid' is the law's where the arguments, and the package variables that the reading takes, are together of bulk at most 1048576: NARROWER than '..Said'. Prove '..Said' where nothing that the law and all that it calls make is longer than what came in: it says more and counts as full. Else prove '..UptoSaid'. A law counts once. -/
mutual
def uptoBulk {H : Type} : DataW H → Nat
  | .lit (.string bytes) => bytes.length + 1
  | .lit _ => 1
  | .nil => 1
  | .ptr d => uptoBulk d + 1
  | .slice elems spare => uptoBulkAll elems + uptoBulkAll spare + 1
  | .agg parts => uptoBulkAll parts + 1
  | .iface _ d => uptoBulk d + 1
  | .map entries => uptoBulkEntries entries + 1
  | .held _ => 1
def uptoBulkAll {H : Type} : List (DataW H) → Nat
  | [] => 0
  | d :: r => uptoBulk d + uptoBulkAll r
def uptoBulkEntries {H : Type} : List (Lit × DataW H) → Nat
  | [] => 0
  | x :: r => uptoBulkEntry x + uptoBulkEntries r
def uptoBulkEntry {H : Type} : Lit × DataW H → Nat
  | (.string bytes, d) => bytes.length + uptoBulk d + 1
  | (_, d) => uptoBulk d + 1
 end
def uptoSmall : (H : Type) → List (DataW H) → Bool := fun _ ds => decide (uptoBulkAll ds ≤ 1048576)
def OpenSpec.upto (s : _root_.Go.ChangeSpec) : _root_.Go.OpenSpec := { _root_.Go.OpenSpec.ofChange s with cond := some uptoSmall }

/-- 'laws.FnExactRulesEven', WHERE WHAT IT READS IS OF BULK AT MOST 1048576: true; the input reads as it did. -/
def fnExactRulesEvenUptoRow : OpenClaim := { program := "ytnchjpjlabeabaa", sum := "f338bfed691bd78952b6b8dc31aa27e4260d74664eb87fdb6ede233eba7a089a", func := "loop.example/zugzwang/laws.FnExactRulesEven", spec := "fnExactRulesEven", apart := false, narrowed := true }
def FnExactRulesEvenUptoSaid : Prop := fnExactRulesEvenUptoRow.holds Try.pinned (OpenSpec.upto fnExactRulesEvenSpec)

/-- 'laws.FnExactPosOk', WHERE WHAT IT READS IS OF BULK AT MOST 1048576: true; the input reads as it did. -/
def fnExactPosOkUptoRow : OpenClaim := { program := "ytnchjpjlabeabaa", sum := "f338bfed691bd78952b6b8dc31aa27e4260d74664eb87fdb6ede233eba7a089a", func := "loop.example/zugzwang/laws.FnExactPosOk", spec := "fnExactPosOk", unfollowed := true, recurses := true, apart := false, narrowed := true }
def FnExactPosOkUptoSaid : Prop := fnExactPosOkUptoRow.holds Try.pinned (OpenSpec.upto fnExactPosOkSpec)

/-- 'laws.FnExactPosCheck', WHERE WHAT IT READS IS OF BULK AT MOST 1048576: true; the input reads as it did. -/
def fnExactPosCheckUptoRow : OpenClaim := { program := "ytnchjpjlabeabaa", sum := "f338bfed691bd78952b6b8dc31aa27e4260d74664eb87fdb6ede233eba7a089a", func := "loop.example/zugzwang/laws.FnExactPosCheck", spec := "fnExactPosCheck", unfollowed := true, recurses := true, apart := false, narrowed := true }
def FnExactPosCheckUptoSaid : Prop := fnExactPosCheckUptoRow.holds Try.pinned (OpenSpec.upto fnExactPosCheckSpec)

/-- 'laws.FnExactPosHits', WHERE WHAT IT READS IS OF BULK AT MOST 1048576: true; the input reads as it did. -/
def fnExactPosHitsUptoRow : OpenClaim := { program := "ytnchjpjlabeabaa", sum := "f338bfed691bd78952b6b8dc31aa27e4260d74664eb87fdb6ede233eba7a089a", func := "loop.example/zugzwang/laws.FnExactPosHits", spec := "fnExactPosHits", unfollowed := true, recurses := true, apart := false, narrowed := true }
def FnExactPosHitsUptoSaid : Prop := fnExactPosHitsUptoRow.holds Try.pinned (OpenSpec.upto fnExactPosHitsSpec)

/-- 'laws.FnExactMoveDo', WHERE WHAT IT READS IS OF BULK AT MOST 1048576: true; the input reads as it did. -/
def fnExactMoveDoUptoRow : OpenClaim := { program := "ytnchjpjlabeabaa", sum := "f338bfed691bd78952b6b8dc31aa27e4260d74664eb87fdb6ede233eba7a089a", func := "loop.example/zugzwang/laws.FnExactMoveDo", spec := "fnExactMoveDo", unfollowed := true, recurses := true, apart := false, narrowed := true }
def FnExactMoveDoUptoSaid : Prop := fnExactMoveDoUptoRow.holds Try.pinned (OpenSpec.upto fnExactMoveDoSpec)

/-- 'laws.FnExactMoveTakes', WHERE WHAT IT READS IS OF BULK AT MOST 1048576: true; the input reads as it did. -/
def fnExactMoveTakesUptoRow : OpenClaim := { program := "ytnchjpjlabeabaa", sum := "f338bfed691bd78952b6b8dc31aa27e4260d74664eb87fdb6ede233eba7a089a", func := "loop.example/zugzwang/laws.FnExactMoveTakes", spec := "fnExactMoveTakes", unfollowed := true, recurses := true, apart := false, narrowed := true }
def FnExactMoveTakesUptoSaid : Prop := fnExactMoveTakesUptoRow.holds Try.pinned (OpenSpec.upto fnExactMoveTakesSpec)

end Rows
end Go.Proofs.Ytnchjpjlabeabaa
