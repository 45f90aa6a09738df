/-
  NARROWER THAN 'FOR EVERY INPUT', by the rows' own cells (each row's printed sentence says how): FnExactGameOk: laid · FnExactGamePos: laid · FnExactGameState: laid · FnExactGameDo: laid · FnExactGameBack: laid · FnExactGamePut: laid · FnExactWordPut: laid · FnExactWordGet: laid · FnExactBestLine: laid.
  DERIVED. THE GIVEN ROWS OF THIS SEAT. 9 by the template 'for every input the law returns true; each argument reads behind the call as it read before'; 0 by the template 'total and deterministic' (their statements: YtnjhcjjeehccbaaGreatDoorTotals.lean).
  GIVEN WITH THE SEED: the statements are not yours to turn. If you find one false, say at which input.
  Laid BY PROGRAM, IN A SANDBOX (cutbox-rows.mjs): the forced cells as the released guide's own fill.sh prints them over the translation 261d1b45ecf41c8c… (all of the seat's roots in one cut). By AI agents, Wed Nov 11 2026. No macro, syntax, notation, axiom, sorry.
-/
import Derived.Test.YtnjhcjjeehccbaaGreatDoorChecked
import GoSem.Claim
import GoSem.ClaimJoined
import GoSem.ClaimMapViews
import Derived.JoinedTies
import Derived.KernelRfl
namespace Go.Proofs.YtnjhcjjeehccbaaGreatDoor
/- THE CELL 'sum', in the pinned program and in every row, IS THE sha256 OF THE DUMP (.gsa) THAT YtnjhcjjeehccbaaGreatDoorProg.lean LOADS. Nothing in Lean hashes anything: it is a label: what it is worth is what the hold of that sum in a sandbox is worth. -/
noncomputable def Tryz.pinned : Pinned := { name := "ytnjhcjjeehccbaagreatdoor", sum := "261d1b45ecf41c8c630c4e53a1edced4312b7aa5ac833f2dc9db8544b0b34736", checked := Tryz.checked }
namespace Rows
def none {H : Type} : Left H := { results := [], args := [] }

/- WHAT THE LISTED PACKAGE-LEVEL VARIABLES READ AS WHEN THE CALL BEGINS. Each datum BY PROGRAM (the guide's laid-datum.mjs) off the statement by which the dump's own 'gosem.cut.vars' lays the variable. In a bare row this is a premise. The card (YtnjhcjjeehccbaaGreatDoorCards.lean) ties it to the program's text. -/
def laid_math_bits_deBruijn32tab {H : Type} : DataW H := .agg [.lit (.int .u8 0), .lit (.int .u8 1), .lit (.int .u8 28), .lit (.int .u8 2), .lit (.int .u8 29), .lit (.int .u8 14), .lit (.int .u8 24), .lit (.int .u8 3), .lit (.int .u8 30), .lit (.int .u8 22), .lit (.int .u8 20), .lit (.int .u8 15), .lit (.int .u8 25), .lit (.int .u8 17), .lit (.int .u8 4), .lit (.int .u8 8), .lit (.int .u8 31), .lit (.int .u8 27), .lit (.int .u8 13), .lit (.int .u8 23), .lit (.int .u8 21), .lit (.int .u8 19), .lit (.int .u8 16), .lit (.int .u8 7), .lit (.int .u8 26), .lit (.int .u8 12), .lit (.int .u8 18), .lit (.int .u8 6), .lit (.int .u8 11), .lit (.int .u8 5), .lit (.int .u8 10), .lit (.int .u8 9)]
def laid_math_bits_deBruijn64tab {H : Type} : DataW H := .agg [.lit (.int .u8 0), .lit (.int .u8 1), .lit (.int .u8 56), .lit (.int .u8 2), .lit (.int .u8 57), .lit (.int .u8 49), .lit (.int .u8 28), .lit (.int .u8 3), .lit (.int .u8 61), .lit (.int .u8 58), .lit (.int .u8 42), .lit (.int .u8 50), .lit (.int .u8 38), .lit (.int .u8 29), .lit (.int .u8 17), .lit (.int .u8 4), .lit (.int .u8 62), .lit (.int .u8 47), .lit (.int .u8 59), .lit (.int .u8 36), .lit (.int .u8 45), .lit (.int .u8 43), .lit (.int .u8 51), .lit (.int .u8 22), .lit (.int .u8 53), .lit (.int .u8 39), .lit (.int .u8 33), .lit (.int .u8 30), .lit (.int .u8 24), .lit (.int .u8 18), .lit (.int .u8 12), .lit (.int .u8 5), .lit (.int .u8 63), .lit (.int .u8 55), .lit (.int .u8 48), .lit (.int .u8 27), .lit (.int .u8 60), .lit (.int .u8 41), .lit (.int .u8 37), .lit (.int .u8 16), .lit (.int .u8 46), .lit (.int .u8 35), .lit (.int .u8 44), .lit (.int .u8 21), .lit (.int .u8 52), .lit (.int .u8 32), .lit (.int .u8 23), .lit (.int .u8 11), .lit (.int .u8 54), .lit (.int .u8 26), .lit (.int .u8 40), .lit (.int .u8 15), .lit (.int .u8 34), .lit (.int .u8 20), .lit (.int .u8 31), .lit (.int .u8 10), .lit (.int .u8 25), .lit (.int .u8 14), .lit (.int .u8 19), .lit (.int .u8 9), .lit (.int .u8 13), .lit (.int .u8 8), .lit (.int .u8 7), .lit (.int .u8 6)]
def laid_internal_strconv_uint64pow10 {H : Type} : DataW H := .agg [.lit (.int .u64 1), .lit (.int .u64 10), .lit (.int .u64 100), .lit (.int .u64 1000), .lit (.int .u64 10000), .lit (.int .u64 100000), .lit (.int .u64 1000000), .lit (.int .u64 10000000), .lit (.int .u64 100000000), .lit (.int .u64 1000000000), .lit (.int .u64 10000000000), .lit (.int .u64 100000000000), .lit (.int .u64 1000000000000), .lit (.int .u64 10000000000000), .lit (.int .u64 100000000000000), .lit (.int .u64 1000000000000000), .lit (.int .u64 10000000000000000), .lit (.int .u64 100000000000000000), .lit (.int .u64 1000000000000000000), .lit (.int .u64 10000000000000000000)]

/-- 'laws.FnExactGameOk': WHATEVER THE INPUT: true; the input reads as it did. -/
def fnExactGameOkSpec : ChangeSpec := { name := "fnExactGameOk", fn := fun _ => fun
  | [d1, d2] => { results := [.lit (.bool true)], args := [d1, d2] }
  | _ => none }
def fnExactGameOkRow : OpenClaim := { program := "ytnjhcjjeehccbaagreatdoor", sum := "261d1b45ecf41c8c630c4e53a1edced4312b7aa5ac833f2dc9db8544b0b34736", func := "loop.example/zugzwang/laws.FnExactGameOk", spec := "fnExactGameOk", inPlace := ["internal/abi.NoEscape"], unfollowed := true, recurses := true, named := ["internal/strconv.uint64pow10", "math/bits.deBruijn32tab", "math/bits.deBruijn64tab"], apart := false, laid := [("math/bits.deBruijn32tab", laid_math_bits_deBruijn32tab), ("math/bits.deBruijn64tab", laid_math_bits_deBruijn64tab), ("internal/strconv.uint64pow10", laid_internal_strconv_uint64pow10)] }
def FnExactGameOkSaid : Prop := fnExactGameOkRow.holds Tryz.pinned (OpenSpec.ofChange fnExactGameOkSpec)

/-- ITS FALSE NEIGHBOUR: 'it returns false'. Refute it at one input. -/
def fnExactGameOkWrong : ChangeSpec := { name := "fnExactGameOk", fn := fun _ => fun
  | [d1, d2] => { results := [.lit (.bool false)], args := [d1, d2] }
  | _ => none }
def FnExactGameOkWrongFalsely : Prop := fnExactGameOkRow.holds Tryz.pinned (OpenSpec.ofChange fnExactGameOkWrong)

/-- 'laws.FnExactGamePos': WHATEVER THE INPUT: true; the input reads as it did. -/
def fnExactGamePosSpec : ChangeSpec := { name := "fnExactGamePos", fn := fun _ => fun
  | [d1, d2] => { results := [.lit (.bool true)], args := [d1, d2] }
  | _ => none }
def fnExactGamePosRow : OpenClaim := { program := "ytnjhcjjeehccbaagreatdoor", sum := "261d1b45ecf41c8c630c4e53a1edced4312b7aa5ac833f2dc9db8544b0b34736", func := "loop.example/zugzwang/laws.FnExactGamePos", spec := "fnExactGamePos", inPlace := ["internal/abi.NoEscape"], unfollowed := true, recurses := true, named := ["internal/strconv.uint64pow10", "math/bits.deBruijn32tab", "math/bits.deBruijn64tab"], apart := false, laid := [("math/bits.deBruijn32tab", laid_math_bits_deBruijn32tab), ("math/bits.deBruijn64tab", laid_math_bits_deBruijn64tab), ("internal/strconv.uint64pow10", laid_internal_strconv_uint64pow10)] }
def FnExactGamePosSaid : Prop := fnExactGamePosRow.holds Tryz.pinned (OpenSpec.ofChange fnExactGamePosSpec)

/-- ITS FALSE NEIGHBOUR: 'it returns false'. Refute it at one input. -/
def fnExactGamePosWrong : ChangeSpec := { name := "fnExactGamePos", fn := fun _ => fun
  | [d1, d2] => { results := [.lit (.bool false)], args := [d1, d2] }
  | _ => none }
def FnExactGamePosWrongFalsely : Prop := fnExactGamePosRow.holds Tryz.pinned (OpenSpec.ofChange fnExactGamePosWrong)

/-- 'laws.FnExactGameState': WHATEVER THE INPUT: true; the input reads as it did. -/
def fnExactGameStateSpec : ChangeSpec := { name := "fnExactGameState", fn := fun _ => fun
  | [d1, d2] => { results := [.lit (.bool true)], args := [d1, d2] }
  | _ => none }
def fnExactGameStateRow : OpenClaim := { program := "ytnjhcjjeehccbaagreatdoor", sum := "261d1b45ecf41c8c630c4e53a1edced4312b7aa5ac833f2dc9db8544b0b34736", func := "loop.example/zugzwang/laws.FnExactGameState", spec := "fnExactGameState", inPlace := ["internal/abi.NoEscape"], unfollowed := true, recurses := true, named := ["internal/strconv.uint64pow10", "math/bits.deBruijn32tab", "math/bits.deBruijn64tab"], apart := false, laid := [("math/bits.deBruijn32tab", laid_math_bits_deBruijn32tab), ("math/bits.deBruijn64tab", laid_math_bits_deBruijn64tab), ("internal/strconv.uint64pow10", laid_internal_strconv_uint64pow10)] }
def FnExactGameStateSaid : Prop := fnExactGameStateRow.holds Tryz.pinned (OpenSpec.ofChange fnExactGameStateSpec)

/-- ITS FALSE NEIGHBOUR: 'it returns false'. Refute it at one input. -/
def fnExactGameStateWrong : ChangeSpec := { name := "fnExactGameState", fn := fun _ => fun
  | [d1, d2] => { results := [.lit (.bool false)], args := [d1, d2] }
  | _ => none }
def FnExactGameStateWrongFalsely : Prop := fnExactGameStateRow.holds Tryz.pinned (OpenSpec.ofChange fnExactGameStateWrong)

/-- 'laws.FnExactGameDo': WHATEVER THE INPUT: true; the input reads as it did. -/
def fnExactGameDoSpec : ChangeSpec := { name := "fnExactGameDo", fn := fun _ => fun
  | [d1, d2, d3] => { results := [.lit (.bool true)], args := [d1, d2, d3] }
  | _ => none }
def fnExactGameDoRow : OpenClaim := { program := "ytnjhcjjeehccbaagreatdoor", sum := "261d1b45ecf41c8c630c4e53a1edced4312b7aa5ac833f2dc9db8544b0b34736", func := "loop.example/zugzwang/laws.FnExactGameDo", spec := "fnExactGameDo", inPlace := ["internal/abi.NoEscape"], unfollowed := true, recurses := true, named := ["internal/strconv.uint64pow10", "math/bits.deBruijn32tab", "math/bits.deBruijn64tab"], apart := false, laid := [("math/bits.deBruijn32tab", laid_math_bits_deBruijn32tab), ("math/bits.deBruijn64tab", laid_math_bits_deBruijn64tab), ("internal/strconv.uint64pow10", laid_internal_strconv_uint64pow10)] }
def FnExactGameDoSaid : Prop := fnExactGameDoRow.holds Tryz.pinned (OpenSpec.ofChange fnExactGameDoSpec)

/-- ITS FALSE NEIGHBOUR: 'it returns false'. Refute it at one input. -/
def fnExactGameDoWrong : ChangeSpec := { name := "fnExactGameDo", fn := fun _ => fun
  | [d1, d2, d3] => { results := [.lit (.bool false)], args := [d1, d2, d3] }
  | _ => none }
def FnExactGameDoWrongFalsely : Prop := fnExactGameDoRow.holds Tryz.pinned (OpenSpec.ofChange fnExactGameDoWrong)

/-- 'laws.FnExactGameBack': WHATEVER THE INPUT: true; the input reads as it did. -/
def fnExactGameBackSpec : ChangeSpec := { name := "fnExactGameBack", fn := fun _ => fun
  | [d1, d2] => { results := [.lit (.bool true)], args := [d1, d2] }
  | _ => none }
def fnExactGameBackRow : OpenClaim := { program := "ytnjhcjjeehccbaagreatdoor", sum := "261d1b45ecf41c8c630c4e53a1edced4312b7aa5ac833f2dc9db8544b0b34736", func := "loop.example/zugzwang/laws.FnExactGameBack", spec := "fnExactGameBack", inPlace := ["internal/abi.NoEscape"], unfollowed := true, recurses := true, named := ["internal/strconv.uint64pow10", "math/bits.deBruijn32tab", "math/bits.deBruijn64tab"], apart := false, laid := [("math/bits.deBruijn32tab", laid_math_bits_deBruijn32tab), ("math/bits.deBruijn64tab", laid_math_bits_deBruijn64tab), ("internal/strconv.uint64pow10", laid_internal_strconv_uint64pow10)] }
def FnExactGameBackSaid : Prop := fnExactGameBackRow.holds Tryz.pinned (OpenSpec.ofChange fnExactGameBackSpec)

/-- ITS FALSE NEIGHBOUR: 'it returns false'. Refute it at one input. -/
def fnExactGameBackWrong : ChangeSpec := { name := "fnExactGameBack", fn := fun _ => fun
  | [d1, d2] => { results := [.lit (.bool false)], args := [d1, d2] }
  | _ => none }
def FnExactGameBackWrongFalsely : Prop := fnExactGameBackRow.holds Tryz.pinned (OpenSpec.ofChange fnExactGameBackWrong)

/-- 'laws.FnExactGamePut': WHATEVER THE INPUT: true; the input reads as it did. -/
def fnExactGamePutSpec : ChangeSpec := { name := "fnExactGamePut", fn := fun _ => fun
  | [d1, d2] => { results := [.lit (.bool true)], args := [d1, d2] }
  | _ => none }
def fnExactGamePutRow : OpenClaim := { program := "ytnjhcjjeehccbaagreatdoor", sum := "261d1b45ecf41c8c630c4e53a1edced4312b7aa5ac833f2dc9db8544b0b34736", func := "loop.example/zugzwang/laws.FnExactGamePut", spec := "fnExactGamePut", inPlace := ["internal/abi.NoEscape"], unfollowed := true, recurses := true, named := ["internal/strconv.uint64pow10", "math/bits.deBruijn32tab", "math/bits.deBruijn64tab"], apart := false, laid := [("math/bits.deBruijn32tab", laid_math_bits_deBruijn32tab), ("math/bits.deBruijn64tab", laid_math_bits_deBruijn64tab), ("internal/strconv.uint64pow10", laid_internal_strconv_uint64pow10)] }
def FnExactGamePutSaid : Prop := fnExactGamePutRow.holds Tryz.pinned (OpenSpec.ofChange fnExactGamePutSpec)

/-- ITS FALSE NEIGHBOUR: 'it returns false'. Refute it at one input. -/
def fnExactGamePutWrong : ChangeSpec := { name := "fnExactGamePut", fn := fun _ => fun
  | [d1, d2] => { results := [.lit (.bool false)], args := [d1, d2] }
  | _ => none }
def FnExactGamePutWrongFalsely : Prop := fnExactGamePutRow.holds Tryz.pinned (OpenSpec.ofChange fnExactGamePutWrong)

/-- 'laws.FnExactWordPut': WHATEVER THE INPUT: true; the input reads as it did. -/
def fnExactWordPutSpec : ChangeSpec := { name := "fnExactWordPut", fn := fun _ => fun
  | [d1, d2, d3] => { results := [.lit (.bool true)], args := [d1, d2, d3] }
  | _ => none }
def fnExactWordPutRow : OpenClaim := { program := "ytnjhcjjeehccbaagreatdoor", sum := "261d1b45ecf41c8c630c4e53a1edced4312b7aa5ac833f2dc9db8544b0b34736", func := "loop.example/zugzwang/laws.FnExactWordPut", spec := "fnExactWordPut", unfollowed := true, recurses := true, named := ["math/bits.deBruijn64tab", "internal/strconv.uint64pow10", "math/bits.deBruijn32tab"], apart := false, laid := [("math/bits.deBruijn32tab", laid_math_bits_deBruijn32tab), ("math/bits.deBruijn64tab", laid_math_bits_deBruijn64tab), ("internal/strconv.uint64pow10", laid_internal_strconv_uint64pow10)] }
def FnExactWordPutSaid : Prop := fnExactWordPutRow.holds Tryz.pinned (OpenSpec.ofChange fnExactWordPutSpec)

/-- ITS FALSE NEIGHBOUR: 'it returns false'. Refute it at one input. -/
def fnExactWordPutWrong : ChangeSpec := { name := "fnExactWordPut", fn := fun _ => fun
  | [d1, d2, d3] => { results := [.lit (.bool false)], args := [d1, d2, d3] }
  | _ => none }
def FnExactWordPutWrongFalsely : Prop := fnExactWordPutRow.holds Tryz.pinned (OpenSpec.ofChange fnExactWordPutWrong)

/-- 'laws.FnExactWordGet': WHATEVER THE INPUT: true; the input reads as it did. -/
def fnExactWordGetSpec : ChangeSpec := { name := "fnExactWordGet", fn := fun _ => fun
  | [d1, d2, d3] => { results := [.lit (.bool true)], args := [d1, d2, d3] }
  | _ => none }
def fnExactWordGetRow : OpenClaim := { program := "ytnjhcjjeehccbaagreatdoor", sum := "261d1b45ecf41c8c630c4e53a1edced4312b7aa5ac833f2dc9db8544b0b34736", func := "loop.example/zugzwang/laws.FnExactWordGet", spec := "fnExactWordGet", unfollowed := true, recurses := true, named := ["math/bits.deBruijn64tab", "internal/strconv.uint64pow10", "math/bits.deBruijn32tab"], apart := false, laid := [("math/bits.deBruijn32tab", laid_math_bits_deBruijn32tab), ("math/bits.deBruijn64tab", laid_math_bits_deBruijn64tab), ("internal/strconv.uint64pow10", laid_internal_strconv_uint64pow10)] }
def FnExactWordGetSaid : Prop := fnExactWordGetRow.holds Tryz.pinned (OpenSpec.ofChange fnExactWordGetSpec)

/-- ITS FALSE NEIGHBOUR: 'it returns false'. Refute it at one input. -/
def fnExactWordGetWrong : ChangeSpec := { name := "fnExactWordGet", fn := fun _ => fun
  | [d1, d2, d3] => { results := [.lit (.bool false)], args := [d1, d2, d3] }
  | _ => none }
def FnExactWordGetWrongFalsely : Prop := fnExactWordGetRow.holds Tryz.pinned (OpenSpec.ofChange fnExactWordGetWrong)

/-- 'laws.FnExactBestLine': WHATEVER THE INPUT: true; the input reads as it did. -/
def fnExactBestLineSpec : ChangeSpec := { name := "fnExactBestLine", fn := fun _ => fun
  | [d1, d2, d3, d4] => { results := [.lit (.bool true)], args := [d1, d2, d3, d4] }
  | _ => none }
def fnExactBestLineRow : OpenClaim := { program := "ytnjhcjjeehccbaagreatdoor", sum := "261d1b45ecf41c8c630c4e53a1edced4312b7aa5ac833f2dc9db8544b0b34736", func := "loop.example/zugzwang/laws.FnExactBestLine", spec := "fnExactBestLine", unfollowed := true, recurses := true, named := ["math/bits.deBruijn64tab"], apart := false, laid := [("math/bits.deBruijn64tab", laid_math_bits_deBruijn64tab)] }
def FnExactBestLineSaid : Prop := fnExactBestLineRow.holds Tryz.pinned (OpenSpec.ofChange fnExactBestLineSpec)

/-- ITS FALSE NEIGHBOUR: 'it returns false'. Refute it at one input. -/
def fnExactBestLineWrong : ChangeSpec := { name := "fnExactBestLine", fn := fun _ => fun
  | [d1, d2, d3, d4] => { results := [.lit (.bool false)], args := [d1, d2, d3, d4] }
  | _ => none }
def FnExactBestLineWrongFalsely : Prop := fnExactBestLineRow.holds Tryz.pinned (OpenSpec.ofChange fnExactBestLineWrong)

/- THE SECOND FORM. 'bulk': how many values and letters a reading holds, each counted each time it is reached (what is shared counts as often as it is met; a slice's spare places count too). A statement '..UptoSaid' is the law's where the arguments, and the package variables that the reading takes, are together of bulk at most 1048576: NARROWER than '..Said'. Prove '..Said' where nothing that the law and all that it calls make is longer than what came in: it says more and counts as full. Else prove '..UptoSaid'. A law counts once. -/
mutual
def uptoBulk {H : Type} : DataW H → Nat
  | .lit (.string bytes) => bytes.length + 1
  | .lit _ => 1
  | .nil => 1
  | .ptr d => uptoBulk d + 1
  | .slice elems spare => uptoBulkAll elems + uptoBulkAll spare + 1
  | .agg parts => uptoBulkAll parts + 1
  | .iface _ d => uptoBulk d + 1
  | .map entries => uptoBulkEntries entries + 1
  | .held _ => 1
def uptoBulkAll {H : Type} : List (DataW H) → Nat
  | [] => 0
  | d :: r => uptoBulk d + uptoBulkAll r
def uptoBulkEntries {H : Type} : List (Lit × DataW H) → Nat
  | [] => 0
  | x :: r => uptoBulkEntry x + uptoBulkEntries r
def uptoBulkEntry {H : Type} : Lit × DataW H → Nat
  | (.string bytes, d) => bytes.length + uptoBulk d + 1
  | (_, d) => uptoBulk d + 1
 end
def uptoSmall : (H : Type) → List (DataW H) → Bool := fun _ ds => decide (uptoBulkAll ds ≤ 1048576)
def OpenSpec.upto (s : _root_.Go.ChangeSpec) : _root_.Go.OpenSpec := { _root_.Go.OpenSpec.ofChange s with cond := some uptoSmall }

/-- 'laws.FnExactGameOk', WHERE WHAT IT READS IS OF BULK AT MOST 1048576: true; the input reads as it did. -/
def fnExactGameOkUptoRow : OpenClaim := { program := "ytnjhcjjeehccbaagreatdoor", sum := "261d1b45ecf41c8c630c4e53a1edced4312b7aa5ac833f2dc9db8544b0b34736", func := "loop.example/zugzwang/laws.FnExactGameOk", spec := "fnExactGameOk", inPlace := ["internal/abi.NoEscape"], unfollowed := true, recurses := true, named := ["internal/strconv.uint64pow10", "math/bits.deBruijn32tab", "math/bits.deBruijn64tab"], apart := false, laid := [("math/bits.deBruijn32tab", laid_math_bits_deBruijn32tab), ("math/bits.deBruijn64tab", laid_math_bits_deBruijn64tab), ("internal/strconv.uint64pow10", laid_internal_strconv_uint64pow10)], narrowed := true }
def FnExactGameOkUptoSaid : Prop := fnExactGameOkUptoRow.holds Tryz.pinned (OpenSpec.upto fnExactGameOkSpec)

/-- 'laws.FnExactGamePos', WHERE WHAT IT READS IS OF BULK AT MOST 1048576: true; the input reads as it did. -/
def fnExactGamePosUptoRow : OpenClaim := { program := "ytnjhcjjeehccbaagreatdoor", sum := "261d1b45ecf41c8c630c4e53a1edced4312b7aa5ac833f2dc9db8544b0b34736", func := "loop.example/zugzwang/laws.FnExactGamePos", spec := "fnExactGamePos", inPlace := ["internal/abi.NoEscape"], unfollowed := true, recurses := true, named := ["internal/strconv.uint64pow10", "math/bits.deBruijn32tab", "math/bits.deBruijn64tab"], apart := false, laid := [("math/bits.deBruijn32tab", laid_math_bits_deBruijn32tab), ("math/bits.deBruijn64tab", laid_math_bits_deBruijn64tab), ("internal/strconv.uint64pow10", laid_internal_strconv_uint64pow10)], narrowed := true }
def FnExactGamePosUptoSaid : Prop := fnExactGamePosUptoRow.holds Tryz.pinned (OpenSpec.upto fnExactGamePosSpec)

/-- 'laws.FnExactGameState', WHERE WHAT IT READS IS OF BULK AT MOST 1048576: true; the input reads as it did. -/
def fnExactGameStateUptoRow : OpenClaim := { program := "ytnjhcjjeehccbaagreatdoor", sum := "261d1b45ecf41c8c630c4e53a1edced4312b7aa5ac833f2dc9db8544b0b34736", func := "loop.example/zugzwang/laws.FnExactGameState", spec := "fnExactGameState", inPlace := ["internal/abi.NoEscape"], unfollowed := true, recurses := true, named := ["internal/strconv.uint64pow10", "math/bits.deBruijn32tab", "math/bits.deBruijn64tab"], apart := false, laid := [("math/bits.deBruijn32tab", laid_math_bits_deBruijn32tab), ("math/bits.deBruijn64tab", laid_math_bits_deBruijn64tab), ("internal/strconv.uint64pow10", laid_internal_strconv_uint64pow10)], narrowed := true }
def FnExactGameStateUptoSaid : Prop := fnExactGameStateUptoRow.holds Tryz.pinned (OpenSpec.upto fnExactGameStateSpec)

/-- 'laws.FnExactGameDo', WHERE WHAT IT READS IS OF BULK AT MOST 1048576: true; the input reads as it did. -/
def fnExactGameDoUptoRow : OpenClaim := { program := "ytnjhcjjeehccbaagreatdoor", sum := "261d1b45ecf41c8c630c4e53a1edced4312b7aa5ac833f2dc9db8544b0b34736", func := "loop.example/zugzwang/laws.FnExactGameDo", spec := "fnExactGameDo", inPlace := ["internal/abi.NoEscape"], unfollowed := true, recurses := true, named := ["internal/strconv.uint64pow10", "math/bits.deBruijn32tab", "math/bits.deBruijn64tab"], apart := false, laid := [("math/bits.deBruijn32tab", laid_math_bits_deBruijn32tab), ("math/bits.deBruijn64tab", laid_math_bits_deBruijn64tab), ("internal/strconv.uint64pow10", laid_internal_strconv_uint64pow10)], narrowed := true }
def FnExactGameDoUptoSaid : Prop := fnExactGameDoUptoRow.holds Tryz.pinned (OpenSpec.upto fnExactGameDoSpec)

/-- 'laws.FnExactGameBack', WHERE WHAT IT READS IS OF BULK AT MOST 1048576: true; the input reads as it did. -/
def fnExactGameBackUptoRow : OpenClaim := { program := "ytnjhcjjeehccbaagreatdoor", sum := "261d1b45ecf41c8c630c4e53a1edced4312b7aa5ac833f2dc9db8544b0b34736", func := "loop.example/zugzwang/laws.FnExactGameBack", spec := "fnExactGameBack", inPlace := ["internal/abi.NoEscape"], unfollowed := true, recurses := true, named := ["internal/strconv.uint64pow10", "math/bits.deBruijn32tab", "math/bits.deBruijn64tab"], apart := false, laid := [("math/bits.deBruijn32tab", laid_math_bits_deBruijn32tab), ("math/bits.deBruijn64tab", laid_math_bits_deBruijn64tab), ("internal/strconv.uint64pow10", laid_internal_strconv_uint64pow10)], narrowed := true }
def FnExactGameBackUptoSaid : Prop := fnExactGameBackUptoRow.holds Tryz.pinned (OpenSpec.upto fnExactGameBackSpec)

/-- 'laws.FnExactGamePut', WHERE WHAT IT READS IS OF BULK AT MOST 1048576: true; the input reads as it did. -/
def fnExactGamePutUptoRow : OpenClaim := { program := "ytnjhcjjeehccbaagreatdoor", sum := "261d1b45ecf41c8c630c4e53a1edced4312b7aa5ac833f2dc9db8544b0b34736", func := "loop.example/zugzwang/laws.FnExactGamePut", spec := "fnExactGamePut", inPlace := ["internal/abi.NoEscape"], unfollowed := true, recurses := true, named := ["internal/strconv.uint64pow10", "math/bits.deBruijn32tab", "math/bits.deBruijn64tab"], apart := false, laid := [("math/bits.deBruijn32tab", laid_math_bits_deBruijn32tab), ("math/bits.deBruijn64tab", laid_math_bits_deBruijn64tab), ("internal/strconv.uint64pow10", laid_internal_strconv_uint64pow10)], narrowed := true }
def FnExactGamePutUptoSaid : Prop := fnExactGamePutUptoRow.holds Tryz.pinned (OpenSpec.upto fnExactGamePutSpec)

/-- 'laws.FnExactWordPut', WHERE WHAT IT READS IS OF BULK AT MOST 1048576: true; the input reads as it did. -/
def fnExactWordPutUptoRow : OpenClaim := { program := "ytnjhcjjeehccbaagreatdoor", sum := "261d1b45ecf41c8c630c4e53a1edced4312b7aa5ac833f2dc9db8544b0b34736", func := "loop.example/zugzwang/laws.FnExactWordPut", spec := "fnExactWordPut", unfollowed := true, recurses := true, named := ["math/bits.deBruijn64tab", "internal/strconv.uint64pow10", "math/bits.deBruijn32tab"], apart := false, laid := [("math/bits.deBruijn32tab", laid_math_bits_deBruijn32tab), ("math/bits.deBruijn64tab", laid_math_bits_deBruijn64tab), ("internal/strconv.uint64pow10", laid_internal_strconv_uint64pow10)], narrowed := true }
def FnExactWordPutUptoSaid : Prop := fnExactWordPutUptoRow.holds Tryz.pinned (OpenSpec.upto fnExactWordPutSpec)

/-- 'laws.FnExactWordGet', WHERE WHAT IT READS IS OF BULK AT MOST 1048576: true; the input reads as it did. -/
def fnExactWordGetUptoRow : OpenClaim := { program := "ytnjhcjjeehccbaagreatdoor", sum := "261d1b45ecf41c8c630c4e53a1edced4312b7aa5ac833f2dc9db8544b0b34736", func := "loop.example/zugzwang/laws.FnExactWordGet", spec := "fnExactWordGet", unfollowed := true, recurses := true, named := ["math/bits.deBruijn64tab", "internal/strconv.uint64pow10", "math/bits.deBruijn32tab"], apart := false, laid := [("math/bits.deBruijn32tab", laid_math_bits_deBruijn32tab), ("math/bits.deBruijn64tab", laid_math_bits_deBruijn64tab), ("internal/strconv.uint64pow10", laid_internal_strconv_uint64pow10)], narrowed := true }
def FnExactWordGetUptoSaid : Prop := fnExactWordGetUptoRow.holds Tryz.pinned (OpenSpec.upto fnExactWordGetSpec)

/-- 'laws.FnExactBestLine', WHERE WHAT IT READS IS OF BULK AT MOST 1048576: true; the input reads as it did. -/
def fnExactBestLineUptoRow : OpenClaim := { program := "ytnjhcjjeehccbaagreatdoor", sum := "261d1b45ecf41c8c630c4e53a1edced4312b7aa5ac833f2dc9db8544b0b34736", func := "loop.example/zugzwang/laws.FnExactBestLine", spec := "fnExactBestLine", unfollowed := true, recurses := true, named := ["math/bits.deBruijn64tab"], apart := false, laid := [("math/bits.deBruijn64tab", laid_math_bits_deBruijn64tab)], narrowed := true }
def FnExactBestLineUptoSaid : Prop := fnExactBestLineUptoRow.holds Tryz.pinned (OpenSpec.upto fnExactBestLineSpec)

end Rows
end Go.Proofs.YtnjhcjjeehccbaaGreatDoor
