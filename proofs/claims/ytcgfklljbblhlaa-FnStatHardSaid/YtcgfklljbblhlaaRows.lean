/-
  No cell of these rows narrows 'for every input' (looked for: loops, veiled, ifaces, maps, wideKeys, modest, calm, conditions, laid).
  DERIVED. THE GIVEN ROWS OF THIS SEAT. 5 by the template 'for every input the law returns true; each argument reads behind the call as it read before'; 0 by the template 'total and deterministic' (their statements: YtcgfklljbblhlaaTotals.lean).
  GIVEN WITH THE SEED: the statements are not yours to turn. If you find one false, say at which input.
  Laid BY PROGRAM, IN A SANDBOX (cutbox-rows.mjs): the forced cells as the released guide's own fill.sh prints them over the translation 83a22d5eadd744f1… (all of the seat's roots in one cut). By AI agents, Wed Nov 11 2026. No macro, syntax, notation, axiom, sorry.
-/
import Derived.Test.YtcgfklljbblhlaaChecked
import GoSem.Claim
import GoSem.ClaimJoined
import GoSem.ClaimMapViews
import Derived.JoinedTies
import Derived.KernelRfl
namespace Go.Proofs.Ytcgfklljbblhlaa
/- THE CELL 'sum', in the pinned program and in every row, IS THE sha256 OF THE DUMP (.gsa) THAT YtcgfklljbblhlaaProg.lean LOADS. Nothing in Lean hashes anything: it is a label: what it is worth is what the hold of that sum in a sandbox is worth. -/
noncomputable def Try.pinned : Pinned := { name := "ytcgfklljbblhlaa", sum := "83a22d5eadd744f1c572af76f527ccd190dbc4ebd8467693db81e69f9abce061", checked := Try.checked }
namespace Rows
def none {H : Type} : Left H := { results := [], args := [] }

/-- 'laws.FnExactStatOf': WHATEVER THE INPUT: true; the input reads as it did. -/
def fnExactStatOfSpec : ChangeSpec := { name := "fnExactStatOf", fn := fun _ => fun
  | [d] => { results := [.lit (.bool true)], args := [d] }
  | _ => none }
def fnExactStatOfRow : OpenClaim := { program := "ytcgfklljbblhlaa", sum := "83a22d5eadd744f1c572af76f527ccd190dbc4ebd8467693db81e69f9abce061", func := "loop.example/zugzwang/laws.FnExactStatOf", spec := "fnExactStatOf", unfollowed := true, recurses := true, apart := false }
def FnExactStatOfSaid : Prop := fnExactStatOfRow.holds Try.pinned (OpenSpec.ofChange fnExactStatOfSpec)

/-- ITS FALSE NEIGHBOUR: 'it returns false'. Refute it at one input. -/
def fnExactStatOfWrong : ChangeSpec := { name := "fnExactStatOf", fn := fun _ => fun
  | [d] => { results := [.lit (.bool false)], args := [d] }
  | _ => none }
def FnExactStatOfWrongFalsely : Prop := fnExactStatOfRow.holds Try.pinned (OpenSpec.ofChange fnExactStatOfWrong)

/-- 'laws.FnExactStatHard': WHATEVER THE INPUT: true; the input reads as it did. -/
def fnExactStatHardSpec : ChangeSpec := { name := "fnExactStatHard", fn := fun _ => fun
  | [d] => { results := [.lit (.bool true)], args := [d] }
  | _ => none }
def fnExactStatHardRow : OpenClaim := { program := "ytcgfklljbblhlaa", sum := "83a22d5eadd744f1c572af76f527ccd190dbc4ebd8467693db81e69f9abce061", func := "loop.example/zugzwang/laws.FnExactStatHard", spec := "fnExactStatHard", unfollowed := true, recurses := true, apart := false }
def FnExactStatHardSaid : Prop := fnExactStatHardRow.holds Try.pinned (OpenSpec.ofChange fnExactStatHardSpec)

/-- ITS FALSE NEIGHBOUR: 'it returns false'. Refute it at one input. -/
def fnExactStatHardWrong : ChangeSpec := { name := "fnExactStatHard", fn := fun _ => fun
  | [d] => { results := [.lit (.bool false)], args := [d] }
  | _ => none }
def FnExactStatHardWrongFalsely : Prop := fnExactStatHardRow.holds Try.pinned (OpenSpec.ofChange fnExactStatHardWrong)

/-- 'laws.FnStatOf': WHATEVER THE INPUT: true; the input reads as it did. -/
def fnStatOfSpec : ChangeSpec := { name := "fnStatOf", fn := fun _ => fun
  | [d] => { results := [.lit (.bool true)], args := [d] }
  | _ => none }
def fnStatOfRow : OpenClaim := { program := "ytcgfklljbblhlaa", sum := "83a22d5eadd744f1c572af76f527ccd190dbc4ebd8467693db81e69f9abce061", func := "loop.example/zugzwang/laws.FnStatOf", spec := "fnStatOf", unfollowed := true, recurses := true, apart := false }
def FnStatOfSaid : Prop := fnStatOfRow.holds Try.pinned (OpenSpec.ofChange fnStatOfSpec)

/-- ITS FALSE NEIGHBOUR: 'it returns false'. Refute it at one input. -/
def fnStatOfWrong : ChangeSpec := { name := "fnStatOf", fn := fun _ => fun
  | [d] => { results := [.lit (.bool false)], args := [d] }
  | _ => none }
def FnStatOfWrongFalsely : Prop := fnStatOfRow.holds Try.pinned (OpenSpec.ofChange fnStatOfWrong)

/-- 'laws.FnStatHard': WHATEVER THE INPUT: true; the input reads as it did. -/
def fnStatHardSpec : ChangeSpec := { name := "fnStatHard", fn := fun _ => fun
  | [d] => { results := [.lit (.bool true)], args := [d] }
  | _ => none }
def fnStatHardRow : OpenClaim := { program := "ytcgfklljbblhlaa", sum := "83a22d5eadd744f1c572af76f527ccd190dbc4ebd8467693db81e69f9abce061", func := "loop.example/zugzwang/laws.FnStatHard", spec := "fnStatHard", unfollowed := true, recurses := true, apart := false }
def FnStatHardSaid : Prop := fnStatHardRow.holds Try.pinned (OpenSpec.ofChange fnStatHardSpec)

/-- ITS FALSE NEIGHBOUR: 'it returns false'. Refute it at one input. -/
def fnStatHardWrong : ChangeSpec := { name := "fnStatHard", fn := fun _ => fun
  | [d] => { results := [.lit (.bool false)], args := [d] }
  | _ => none }
def FnStatHardWrongFalsely : Prop := fnStatHardRow.holds Try.pinned (OpenSpec.ofChange fnStatHardWrong)

/-- 'laws.FnExactPassPos': WHATEVER THE INPUT: true; the input reads as it did. -/
def fnExactPassPosSpec : ChangeSpec := { name := "fnExactPassPos", fn := fun _ => fun
  | [d1, d2] => { results := [.lit (.bool true)], args := [d1, d2] }
  | _ => none }
def fnExactPassPosRow : OpenClaim := { program := "ytcgfklljbblhlaa", sum := "83a22d5eadd744f1c572af76f527ccd190dbc4ebd8467693db81e69f9abce061", func := "loop.example/zugzwang/laws.FnExactPassPos", spec := "fnExactPassPos", unfollowed := true, recurses := true, apart := false }
def FnExactPassPosSaid : Prop := fnExactPassPosRow.holds Try.pinned (OpenSpec.ofChange fnExactPassPosSpec)

/-- ITS FALSE NEIGHBOUR: 'it returns false'. Refute it at one input. -/
def fnExactPassPosWrong : ChangeSpec := { name := "fnExactPassPos", fn := fun _ => fun
  | [d1, d2] => { results := [.lit (.bool false)], args := [d1, d2] }
  | _ => none }
def FnExactPassPosWrongFalsely : Prop := fnExactPassPosRow.holds Try.pinned (OpenSpec.ofChange fnExactPassPosWrong)

/- THE SECOND FORM. 'bulk': how many values and letters a reading holds, each counted each time it is reached (what is shared counts as often as it is met; a slice's spare places count too). A statement '..UptoSaid' is the law's where the arguments, and the package variables that the reading takes, are together of bulk at most 1048576: NARROWER than '..Said'. Prove '..Said' where nothing that the law and all that it calls make is longer than what came in: it says more and counts as full. Else prove '..UptoSaid'. A law counts once. -/
mutual
def uptoBulk {H : Type} : DataW H → Nat
  | .lit (.string bytes) => bytes.length + 1
  | .lit _ => 1
  | .nil => 1
  | .ptr d => uptoBulk d + 1
  | .slice elems spare => uptoBulkAll elems + uptoBulkAll spare + 1
  | .agg parts => uptoBulkAll parts + 1
  | .iface _ d => uptoBulk d + 1
  | .map entries => uptoBulkEntries entries + 1
  | .held _ => 1
def uptoBulkAll {H : Type} : List (DataW H) → Nat
  | [] => 0
  | d :: r => uptoBulk d + uptoBulkAll r
def uptoBulkEntries {H : Type} : List (Lit × DataW H) → Nat
  | [] => 0
  | x :: r => uptoBulkEntry x + uptoBulkEntries r
def uptoBulkEntry {H : Type} : Lit × DataW H → Nat
  | (.string bytes, d) => bytes.length + uptoBulk d + 1
  | (_, d) => uptoBulk d + 1
 end
def uptoSmall : (H : Type) → List (DataW H) → Bool := fun _ ds => decide (uptoBulkAll ds ≤ 1048576)
def OpenSpec.upto (s : _root_.Go.ChangeSpec) : _root_.Go.OpenSpec := { _root_.Go.OpenSpec.ofChange s with cond := some uptoSmall }

/-- 'laws.FnExactStatOf', WHERE WHAT IT READS IS OF BULK AT MOST 1048576: true; the input reads as it did. -/
def fnExactStatOfUptoRow : OpenClaim := { program := "ytcgfklljbblhlaa", sum := "83a22d5eadd744f1c572af76f527ccd190dbc4ebd8467693db81e69f9abce061", func := "loop.example/zugzwang/laws.FnExactStatOf", spec := "fnExactStatOf", unfollowed := true, recurses := true, apart := false, narrowed := true }
def FnExactStatOfUptoSaid : Prop := fnExactStatOfUptoRow.holds Try.pinned (OpenSpec.upto fnExactStatOfSpec)

/-- 'laws.FnExactStatHard', WHERE WHAT IT READS IS OF BULK AT MOST 1048576: true; the input reads as it did. -/
def fnExactStatHardUptoRow : OpenClaim := { program := "ytcgfklljbblhlaa", sum := "83a22d5eadd744f1c572af76f527ccd190dbc4ebd8467693db81e69f9abce061", func := "loop.example/zugzwang/laws.FnExactStatHard", spec := "fnExactStatHard", unfollowed := true, recurses := true, apart := false, narrowed := true }
def FnExactStatHardUptoSaid : Prop := fnExactStatHardUptoRow.holds Try.pinned (OpenSpec.upto fnExactStatHardSpec)

/-- 'laws.FnStatOf', WHERE WHAT IT READS IS OF BULK AT MOST 1048576: true; the input reads as it did. -/
def fnStatOfUptoRow : OpenClaim := { program := "ytcgfklljbblhlaa", sum := "83a22d5eadd744f1c572af76f527ccd190dbc4ebd8467693db81e69f9abce061", func := "loop.example/zugzwang/laws.FnStatOf", spec := "fnStatOf", unfollowed := true, recurses := true, apart := false, narrowed := true }
def FnStatOfUptoSaid : Prop := fnStatOfUptoRow.holds Try.pinned (OpenSpec.upto fnStatOfSpec)

/-- 'laws.FnStatHard', WHERE WHAT IT READS IS OF BULK AT MOST 1048576: true; the input reads as it did. -/
def fnStatHardUptoRow : OpenClaim := { program := "ytcgfklljbblhlaa", sum := "83a22d5eadd744f1c572af76f527ccd190dbc4ebd8467693db81e69f9abce061", func := "loop.example/zugzwang/laws.FnStatHard", spec := "fnStatHard", unfollowed := true, recurses := true, apart := false, narrowed := true }
def FnStatHardUptoSaid : Prop := fnStatHardUptoRow.holds Try.pinned (OpenSpec.upto fnStatHardSpec)

/-- 'laws.FnExactPassPos', WHERE WHAT IT READS IS OF BULK AT MOST 1048576: true; the input reads as it did. -/
def fnExactPassPosUptoRow : OpenClaim := { program := "ytcgfklljbblhlaa", sum := "83a22d5eadd744f1c572af76f527ccd190dbc4ebd8467693db81e69f9abce061", func := "loop.example/zugzwang/laws.FnExactPassPos", spec := "fnExactPassPos", unfollowed := true, recurses := true, apart := false, narrowed := true }
def FnExactPassPosUptoSaid : Prop := fnExactPassPosUptoRow.holds Try.pinned (OpenSpec.upto fnExactPassPosSpec)

end Rows
end Go.Proofs.Ytcgfklljbblhlaa
