/-
  No cell of these rows narrows 'for every input' (looked for: loops, veiled, ifaces, maps, wideKeys, modest, calm, conditions, laid).
  DERIVED. THE GIVEN ROWS OF THIS SEAT. 2 by the template 'for every input the law returns true; each argument reads behind the call as it read before'; 0 by the template 'total and deterministic' (their statements: YtmfcgikfgikbfaaGreatTotals.lean).
  GIVEN WITH THE SEED: the statements are not yours to turn. If you find one false, say at which input.
  Laid BY PROGRAM, IN A SANDBOX (cutbox-rows.mjs): the forced cells as the released guide's own fill.sh prints them over the translation cefabdb1c67001f9… (all of the seat's roots in one cut). By AI agents, Wed Nov 11 2026. No macro, syntax, notation, axiom, sorry.
-/
import Derived.Test.YtmfcgikfgikbfaaGreatChecked
import GoSem.Claim
import GoSem.ClaimJoined
import GoSem.ClaimMapViews
import Derived.JoinedTies
import Derived.KernelRfl
namespace Go.Proofs.YtmfcgikfgikbfaaGreat
/- THE CELL 'sum', in the pinned program and in every row, IS THE sha256 OF THE DUMP (.gsa) THAT YtmfcgikfgikbfaaGreatProg.lean LOADS. Nothing in Lean hashes anything: it is a label: what it is worth is what the hold of that sum in a sandbox is worth. -/
noncomputable def Tryz.pinned : Pinned := { name := "ytmfcgikfgikbfaagreat", sum := "cefabdb1c67001f9bc7581c73113811dec7e31a3d2e0404933b66f2cd98ed313", checked := Tryz.checked }
namespace Rows
def none {H : Type} : Left H := { results := [], args := [] }

/-- 'laws.FnExactCodePos': WHATEVER THE INPUT: true; the input reads as it did. -/
def fnExactCodePosSpec : ChangeSpec := { name := "fnExactCodePos", fn := fun _ => fun
  | [d1, d2, d3] => { results := [.lit (.bool true)], args := [d1, d2, d3] }
  | _ => none }
def fnExactCodePosRow : OpenClaim := { program := "ytmfcgikfgikbfaagreat", sum := "cefabdb1c67001f9bc7581c73113811dec7e31a3d2e0404933b66f2cd98ed313", func := "loop.example/zugzwang/laws.FnExactCodePos", spec := "fnExactCodePos", unfollowed := true, recurses := true, apart := false }
def FnExactCodePosSaid : Prop := fnExactCodePosRow.holds Tryz.pinned (OpenSpec.ofChange fnExactCodePosSpec)

/-- ITS FALSE NEIGHBOUR: 'it returns false'. Refute it at one input. -/
def fnExactCodePosWrong : ChangeSpec := { name := "fnExactCodePos", fn := fun _ => fun
  | [d1, d2, d3] => { results := [.lit (.bool false)], args := [d1, d2, d3] }
  | _ => none }
def FnExactCodePosWrongFalsely : Prop := fnExactCodePosRow.holds Tryz.pinned (OpenSpec.ofChange fnExactCodePosWrong)

/-- 'laws.FnExactTurnLeast': WHATEVER THE INPUT: true; the input reads as it did. -/
def fnExactTurnLeastSpec : ChangeSpec := { name := "fnExactTurnLeast", fn := fun _ => fun
  | [d1, d2] => { results := [.lit (.bool true)], args := [d1, d2] }
  | _ => none }
def fnExactTurnLeastRow : OpenClaim := { program := "ytmfcgikfgikbfaagreat", sum := "cefabdb1c67001f9bc7581c73113811dec7e31a3d2e0404933b66f2cd98ed313", func := "loop.example/zugzwang/laws.FnExactTurnLeast", spec := "fnExactTurnLeast", unfollowed := true, recurses := true, apart := false }
def FnExactTurnLeastSaid : Prop := fnExactTurnLeastRow.holds Tryz.pinned (OpenSpec.ofChange fnExactTurnLeastSpec)

/-- ITS FALSE NEIGHBOUR: 'it returns false'. Refute it at one input. -/
def fnExactTurnLeastWrong : ChangeSpec := { name := "fnExactTurnLeast", fn := fun _ => fun
  | [d1, d2] => { results := [.lit (.bool false)], args := [d1, d2] }
  | _ => none }
def FnExactTurnLeastWrongFalsely : Prop := fnExactTurnLeastRow.holds Tryz.pinned (OpenSpec.ofChange fnExactTurnLeastWrong)

/- THE SECOND FORM. 'bulk': how many values and letters a reading holds, each counted each time it is reached (what is shared counts as often as it is met; a slice's spare places count too). A statement '..UptoSaid' is the law's where the arguments, and the package variables that the reading takes, are together of bulk at most 1048576: NARROWER than '..Said'. Prove '..Said' where nothing that the law and all that it calls make is longer than what came in: it says more and counts as full. Else prove '..UptoSaid'. A law counts once. -/
mutual
def uptoBulk {H : Type} : DataW H → Nat
  | .lit (.string bytes) => bytes.length + 1
  | .lit _ => 1
  | .nil => 1
  | .ptr d => uptoBulk d + 1
  | .slice elems spare => uptoBulkAll elems + uptoBulkAll spare + 1
  | .agg parts => uptoBulkAll parts + 1
  | .iface _ d => uptoBulk d + 1
  | .map entries => uptoBulkEntries entries + 1
  | .held _ => 1
def uptoBulkAll {H : Type} : List (DataW H) → Nat
  | [] => 0
  | d :: r => uptoBulk d + uptoBulkAll r
def uptoBulkEntries {H : Type} : List (Lit × DataW H) → Nat
  | [] => 0
  | x :: r => uptoBulkEntry x + uptoBulkEntries r
def uptoBulkEntry {H : Type} : Lit × DataW H → Nat
  | (.string bytes, d) => bytes.length + uptoBulk d + 1
  | (_, d) => uptoBulk d + 1
 end
def uptoSmall : (H : Type) → List (DataW H) → Bool := fun _ ds => decide (uptoBulkAll ds ≤ 1048576)
def OpenSpec.upto (s : _root_.Go.ChangeSpec) : _root_.Go.OpenSpec := { _root_.Go.OpenSpec.ofChange s with cond := some uptoSmall }

/-- 'laws.FnExactCodePos', WHERE WHAT IT READS IS OF BULK AT MOST 1048576: true; the input reads as it did. -/
def fnExactCodePosUptoRow : OpenClaim := { program := "ytmfcgikfgikbfaagreat", sum := "cefabdb1c67001f9bc7581c73113811dec7e31a3d2e0404933b66f2cd98ed313", func := "loop.example/zugzwang/laws.FnExactCodePos", spec := "fnExactCodePos", unfollowed := true, recurses := true, apart := false, narrowed := true }
def FnExactCodePosUptoSaid : Prop := fnExactCodePosUptoRow.holds Tryz.pinned (OpenSpec.upto fnExactCodePosSpec)

/-- 'laws.FnExactTurnLeast', WHERE WHAT IT READS IS OF BULK AT MOST 1048576: true; the input reads as it did. -/
def fnExactTurnLeastUptoRow : OpenClaim := { program := "ytmfcgikfgikbfaagreat", sum := "cefabdb1c67001f9bc7581c73113811dec7e31a3d2e0404933b66f2cd98ed313", func := "loop.example/zugzwang/laws.FnExactTurnLeast", spec := "fnExactTurnLeast", unfollowed := true, recurses := true, apart := false, narrowed := true }
def FnExactTurnLeastUptoSaid : Prop := fnExactTurnLeastUptoRow.holds Tryz.pinned (OpenSpec.upto fnExactTurnLeastSpec)

end Rows
end Go.Proofs.YtmfcgikfgikbfaaGreat
