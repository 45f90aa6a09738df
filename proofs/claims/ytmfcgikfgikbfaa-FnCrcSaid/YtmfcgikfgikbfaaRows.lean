/-
  No cell of these rows narrows 'for every input' (looked for: loops, veiled, ifaces, maps, wideKeys, modest, calm, conditions, laid).
  DERIVED. THE GIVEN ROWS OF THIS SEAT. 4 by the template 'for every input the law returns true; each argument reads behind the call as it read before'; 0 by the template 'total and deterministic' (their statements: YtmfcgikfgikbfaaTotals.lean).
  GIVEN WITH THE SEED: the statements are not yours to turn. If you find one false, say at which input.
  Laid BY PROGRAM, IN A SANDBOX (cutbox-rows.mjs): the forced cells as the released guide's own fill.sh prints them over the translation 53f4dcfe97355da7… (all of the seat's roots in one cut). By AI agents, Wed Nov 11 2026. No macro, syntax, notation, axiom, sorry.
-/
import Derived.Test.YtmfcgikfgikbfaaChecked
import GoSem.Claim
import GoSem.ClaimJoined
import GoSem.ClaimMapViews
import Derived.JoinedTies
import Derived.KernelRfl
namespace Go.Proofs.Ytmfcgikfgikbfaa
/- THE CELL 'sum', in the pinned program and in every row, IS THE sha256 OF THE DUMP (.gsa) THAT YtmfcgikfgikbfaaProg.lean LOADS. Nothing in Lean hashes anything: it is a label: what it is worth is what the hold of that sum in a sandbox is worth. -/
noncomputable def Try.pinned : Pinned := { name := "ytmfcgikfgikbfaa", sum := "53f4dcfe97355da77208f5a8ac588646ca8045f9d085cab12505ed9f226a3bcd", checked := Try.checked }
namespace Rows
def none {H : Type} : Left H := { results := [], args := [] }

/-- 'laws.FnExactTableVal': WHATEVER THE INPUT: true; the input reads as it did. -/
def fnExactTableValSpec : ChangeSpec := { name := "fnExactTableVal", fn := fun _ => fun
  | [d1, d2, d3, d4] => { results := [.lit (.bool true)], args := [d1, d2, d3, d4] }
  | _ => none }
def fnExactTableValRow : OpenClaim := { program := "ytmfcgikfgikbfaa", sum := "53f4dcfe97355da77208f5a8ac588646ca8045f9d085cab12505ed9f226a3bcd", func := "loop.example/zugzwang/laws.FnExactTableVal", spec := "fnExactTableVal", unfollowed := true, recurses := true, apart := false }
def FnExactTableValSaid : Prop := fnExactTableValRow.holds Try.pinned (OpenSpec.ofChange fnExactTableValSpec)

/-- ITS FALSE NEIGHBOUR: 'it returns false'. Refute it at one input. -/
def fnExactTableValWrong : ChangeSpec := { name := "fnExactTableVal", fn := fun _ => fun
  | [d1, d2, d3, d4] => { results := [.lit (.bool false)], args := [d1, d2, d3, d4] }
  | _ => none }
def FnExactTableValWrongFalsely : Prop := fnExactTableValRow.holds Try.pinned (OpenSpec.ofChange fnExactTableValWrong)

/-- 'laws.FnExactGenOk': WHATEVER THE INPUT: true; the input reads as it did. -/
def fnExactGenOkSpec : ChangeSpec := { name := "fnExactGenOk", fn := fun _ => fun
  | [d1, d2, d3] => { results := [.lit (.bool true)], args := [d1, d2, d3] }
  | _ => none }
def fnExactGenOkRow : OpenClaim := { program := "ytmfcgikfgikbfaa", sum := "53f4dcfe97355da77208f5a8ac588646ca8045f9d085cab12505ed9f226a3bcd", func := "loop.example/zugzwang/laws.FnExactGenOk", spec := "fnExactGenOk", unfollowed := true, recurses := true, apart := false }
def FnExactGenOkSaid : Prop := fnExactGenOkRow.holds Try.pinned (OpenSpec.ofChange fnExactGenOkSpec)

/-- ITS FALSE NEIGHBOUR: 'it returns false'. Refute it at one input. -/
def fnExactGenOkWrong : ChangeSpec := { name := "fnExactGenOk", fn := fun _ => fun
  | [d1, d2, d3] => { results := [.lit (.bool false)], args := [d1, d2, d3] }
  | _ => none }
def FnExactGenOkWrongFalsely : Prop := fnExactGenOkRow.holds Try.pinned (OpenSpec.ofChange fnExactGenOkWrong)

/-- 'laws.FnExactCrc': WHATEVER THE INPUT: true; the input reads as it did. -/
def fnExactCrcSpec : ChangeSpec := { name := "fnExactCrc", fn := fun _ => fun
  | [d] => { results := [.lit (.bool true)], args := [d] }
  | _ => none }
def fnExactCrcRow : OpenClaim := { program := "ytmfcgikfgikbfaa", sum := "53f4dcfe97355da77208f5a8ac588646ca8045f9d085cab12505ed9f226a3bcd", func := "loop.example/zugzwang/laws.FnExactCrc", spec := "fnExactCrc", apart := false }
def FnExactCrcSaid : Prop := fnExactCrcRow.holds Try.pinned (OpenSpec.ofChange fnExactCrcSpec)

/-- ITS FALSE NEIGHBOUR: 'it returns false'. Refute it at one input. -/
def fnExactCrcWrong : ChangeSpec := { name := "fnExactCrc", fn := fun _ => fun
  | [d] => { results := [.lit (.bool false)], args := [d] }
  | _ => none }
def FnExactCrcWrongFalsely : Prop := fnExactCrcRow.holds Try.pinned (OpenSpec.ofChange fnExactCrcWrong)

/-- 'laws.FnCrc': WHATEVER THE INPUT: true; the input reads as it did. -/
def fnCrcSpec : ChangeSpec := { name := "fnCrc", fn := fun _ => fun
  | [d1, d2] => { results := [.lit (.bool true)], args := [d1, d2] }
  | _ => none }
def fnCrcRow : OpenClaim := { program := "ytmfcgikfgikbfaa", sum := "53f4dcfe97355da77208f5a8ac588646ca8045f9d085cab12505ed9f226a3bcd", func := "loop.example/zugzwang/laws.FnCrc", spec := "fnCrc", apart := false }
def FnCrcSaid : Prop := fnCrcRow.holds Try.pinned (OpenSpec.ofChange fnCrcSpec)

/-- ITS FALSE NEIGHBOUR: 'it returns false'. Refute it at one input. -/
def fnCrcWrong : ChangeSpec := { name := "fnCrc", fn := fun _ => fun
  | [d1, d2] => { results := [.lit (.bool false)], args := [d1, d2] }
  | _ => none }
def FnCrcWrongFalsely : Prop := fnCrcRow.holds Try.pinned (OpenSpec.ofChange fnCrcWrong)

/- THE SECOND FORM. 'bulk': how many values and letters a reading holds, each counted each time it is reached (what is shared counts as often as it is met; a slice's spare places count too). A statement '..UptoSaid' is the law's where the arguments, and the package variables that the reading takes, are together of bulk at most 1048576: NARROWER than '..Said'. Prove '..Said' where nothing that the law and all that it calls make is longer than what came in: it says more and counts as full. Else prove '..UptoSaid'. A law counts once. -/
mutual
def uptoBulk {H : Type} : DataW H → Nat
  | .lit (.string bytes) => bytes.length + 1
  | .lit _ => 1
  | .nil => 1
  | .ptr d => uptoBulk d + 1
  | .slice elems spare => uptoBulkAll elems + uptoBulkAll spare + 1
  | .agg parts => uptoBulkAll parts + 1
  | .iface _ d => uptoBulk d + 1
  | .map entries => uptoBulkEntries entries + 1
  | .held _ => 1
def uptoBulkAll {H : Type} : List (DataW H) → Nat
  | [] => 0
  | d :: r => uptoBulk d + uptoBulkAll r
def uptoBulkEntries {H : Type} : List (Lit × DataW H) → Nat
  | [] => 0
  | x :: r => uptoBulkEntry x + uptoBulkEntries r
def uptoBulkEntry {H : Type} : Lit × DataW H → Nat
  | (.string bytes, d) => bytes.length + uptoBulk d + 1
  | (_, d) => uptoBulk d + 1
 end
def uptoSmall : (H : Type) → List (DataW H) → Bool := fun _ ds => decide (uptoBulkAll ds ≤ 1048576)
def OpenSpec.upto (s : _root_.Go.ChangeSpec) : _root_.Go.OpenSpec := { _root_.Go.OpenSpec.ofChange s with cond := some uptoSmall }

/-- 'laws.FnExactTableVal', WHERE WHAT IT READS IS OF BULK AT MOST 1048576: true; the input reads as it did. -/
def fnExactTableValUptoRow : OpenClaim := { program := "ytmfcgikfgikbfaa", sum := "53f4dcfe97355da77208f5a8ac588646ca8045f9d085cab12505ed9f226a3bcd", func := "loop.example/zugzwang/laws.FnExactTableVal", spec := "fnExactTableVal", unfollowed := true, recurses := true, apart := false, narrowed := true }
def FnExactTableValUptoSaid : Prop := fnExactTableValUptoRow.holds Try.pinned (OpenSpec.upto fnExactTableValSpec)

/-- 'laws.FnExactGenOk', WHERE WHAT IT READS IS OF BULK AT MOST 1048576: true; the input reads as it did. -/
def fnExactGenOkUptoRow : OpenClaim := { program := "ytmfcgikfgikbfaa", sum := "53f4dcfe97355da77208f5a8ac588646ca8045f9d085cab12505ed9f226a3bcd", func := "loop.example/zugzwang/laws.FnExactGenOk", spec := "fnExactGenOk", unfollowed := true, recurses := true, apart := false, narrowed := true }
def FnExactGenOkUptoSaid : Prop := fnExactGenOkUptoRow.holds Try.pinned (OpenSpec.upto fnExactGenOkSpec)

/-- 'laws.FnExactCrc', WHERE WHAT IT READS IS OF BULK AT MOST 1048576: true; the input reads as it did. -/
def fnExactCrcUptoRow : OpenClaim := { program := "ytmfcgikfgikbfaa", sum := "53f4dcfe97355da77208f5a8ac588646ca8045f9d085cab12505ed9f226a3bcd", func := "loop.example/zugzwang/laws.FnExactCrc", spec := "fnExactCrc", apart := false, narrowed := true }
def FnExactCrcUptoSaid : Prop := fnExactCrcUptoRow.holds Try.pinned (OpenSpec.upto fnExactCrcSpec)

/-- 'laws.FnCrc', WHERE WHAT IT READS IS OF BULK AT MOST 1048576: true; the input reads as it did. -/
def fnCrcUptoRow : OpenClaim := { program := "ytmfcgikfgikbfaa", sum := "53f4dcfe97355da77208f5a8ac588646ca8045f9d085cab12505ed9f226a3bcd", func := "loop.example/zugzwang/laws.FnCrc", spec := "fnCrc", apart := false, narrowed := true }
def FnCrcUptoSaid : Prop := fnCrcUptoRow.holds Try.pinned (OpenSpec.upto fnCrcSpec)

end Rows
end Go.Proofs.Ytmfcgikfgikbfaa
