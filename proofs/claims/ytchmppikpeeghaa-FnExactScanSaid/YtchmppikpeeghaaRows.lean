/-
  NARROWER THAN 'FOR EVERY INPUT', by the rows' own cells (each row's printed sentence says how): FnExactTreeOk: loops · FnExactTreeBytes: loops · FnExactTreeData: loops · FnExactTreeSize: loops · FnExactTreeDepth: loops · FnExactCountKind: loops · FnExactTreeNames: loops.
  DERIVED. THE GIVEN ROWS OF THIS SEAT. 11 by the template 'for every input the law returns true; each argument reads behind the call as it read before'; 0 by the template 'total and deterministic' (their statements: YtchmppikpeeghaaTotals.lean).
  GIVEN WITH THE SEED: the statements are not yours to turn. If you find one false, say at which input.
  Laid BY PROGRAM, IN A SANDBOX (cutbox-rows.mjs): the forced cells as the released guide's own fill.sh prints them over the translation d23d5e6264648c1b… (all of the seat's roots in one cut). By AI agents, Wed Nov 11 2026. No macro, syntax, notation, axiom, sorry.
-/
import Derived.Test.YtchmppikpeeghaaChecked
import GoSem.Claim
import GoSem.ClaimJoined
import GoSem.ClaimMapViews
import Derived.JoinedTies
import Derived.KernelRfl
namespace Go.Proofs.Ytchmppikpeeghaa
/- THE CELL 'sum', in the pinned program and in every row, IS THE sha256 OF THE DUMP (.gsa) THAT YtchmppikpeeghaaProg.lean LOADS. Nothing in Lean hashes anything: it is a label: what it is worth is what the hold of that sum in a sandbox is worth. -/
noncomputable def Try.pinned : Pinned := { name := "ytchmppikpeeghaa", sum := "d23d5e6264648c1bdaa22e4fe055a60121acba97e5af5a2caef5b84d2221799f", checked := Try.checked }
namespace Rows
def none {H : Type} : Left H := { results := [], args := [] }

/-- 'laws.FnExactTreeOk': WHATEVER THE INPUT: true; the input reads as it did. -/
def fnExactTreeOkSpec : ChangeSpec := { name := "fnExactTreeOk", fn := fun _ => fun
  | [d] => { results := [.lit (.bool true)], args := [d] }
  | _ => none }
def fnExactTreeOkRow : OpenClaim := { program := "ytchmppikpeeghaa", sum := "d23d5e6264648c1bdaa22e4fe055a60121acba97e5af5a2caef5b84d2221799f", func := "loop.example/g00538/laws.FnExactTreeOk", spec := "fnExactTreeOk", inPlace := ["internal/bytealg.Compare", "internal/bytealg.IndexByteString"], unfollowed := true, recurses := true, loops := true, apart := false }
def FnExactTreeOkSaid : Prop := fnExactTreeOkRow.holds Try.pinned (OpenSpec.ofChange fnExactTreeOkSpec)

/-- ITS FALSE NEIGHBOUR: 'it returns false'. Refute it at one input. -/
def fnExactTreeOkWrong : ChangeSpec := { name := "fnExactTreeOk", fn := fun _ => fun
  | [d] => { results := [.lit (.bool false)], args := [d] }
  | _ => none }
def FnExactTreeOkWrongFalsely : Prop := fnExactTreeOkRow.holds Try.pinned (OpenSpec.ofChange fnExactTreeOkWrong)

/-- 'laws.FnExactTreeBytes': WHATEVER THE INPUT: true; the input reads as it did. -/
def fnExactTreeBytesSpec : ChangeSpec := { name := "fnExactTreeBytes", fn := fun _ => fun
  | [d] => { results := [.lit (.bool true)], args := [d] }
  | _ => none }
def fnExactTreeBytesRow : OpenClaim := { program := "ytchmppikpeeghaa", sum := "d23d5e6264648c1bdaa22e4fe055a60121acba97e5af5a2caef5b84d2221799f", func := "loop.example/g00538/laws.FnExactTreeBytes", spec := "fnExactTreeBytes", inPlace := ["internal/bytealg.Compare", "internal/bytealg.IndexByteString"], unfollowed := true, recurses := true, loops := true, apart := false }
def FnExactTreeBytesSaid : Prop := fnExactTreeBytesRow.holds Try.pinned (OpenSpec.ofChange fnExactTreeBytesSpec)

/-- ITS FALSE NEIGHBOUR: 'it returns false'. Refute it at one input. -/
def fnExactTreeBytesWrong : ChangeSpec := { name := "fnExactTreeBytes", fn := fun _ => fun
  | [d] => { results := [.lit (.bool false)], args := [d] }
  | _ => none }
def FnExactTreeBytesWrongFalsely : Prop := fnExactTreeBytesRow.holds Try.pinned (OpenSpec.ofChange fnExactTreeBytesWrong)

/-- 'laws.FnExactTreeData': WHATEVER THE INPUT: true; the input reads as it did. -/
def fnExactTreeDataSpec : ChangeSpec := { name := "fnExactTreeData", fn := fun _ => fun
  | [d] => { results := [.lit (.bool true)], args := [d] }
  | _ => none }
def fnExactTreeDataRow : OpenClaim := { program := "ytchmppikpeeghaa", sum := "d23d5e6264648c1bdaa22e4fe055a60121acba97e5af5a2caef5b84d2221799f", func := "loop.example/g00538/laws.FnExactTreeData", spec := "fnExactTreeData", inPlace := ["internal/bytealg.Compare", "internal/bytealg.IndexByteString"], unfollowed := true, recurses := true, loops := true, apart := false }
def FnExactTreeDataSaid : Prop := fnExactTreeDataRow.holds Try.pinned (OpenSpec.ofChange fnExactTreeDataSpec)

/-- ITS FALSE NEIGHBOUR: 'it returns false'. Refute it at one input. -/
def fnExactTreeDataWrong : ChangeSpec := { name := "fnExactTreeData", fn := fun _ => fun
  | [d] => { results := [.lit (.bool false)], args := [d] }
  | _ => none }
def FnExactTreeDataWrongFalsely : Prop := fnExactTreeDataRow.holds Try.pinned (OpenSpec.ofChange fnExactTreeDataWrong)

/-- 'laws.FnExactTreeSize': WHATEVER THE INPUT: true; the input reads as it did. -/
def fnExactTreeSizeSpec : ChangeSpec := { name := "fnExactTreeSize", fn := fun _ => fun
  | [d] => { results := [.lit (.bool true)], args := [d] }
  | _ => none }
def fnExactTreeSizeRow : OpenClaim := { program := "ytchmppikpeeghaa", sum := "d23d5e6264648c1bdaa22e4fe055a60121acba97e5af5a2caef5b84d2221799f", func := "loop.example/g00538/laws.FnExactTreeSize", spec := "fnExactTreeSize", inPlace := ["internal/bytealg.Compare", "internal/bytealg.IndexByteString"], unfollowed := true, recurses := true, loops := true, apart := false }
def FnExactTreeSizeSaid : Prop := fnExactTreeSizeRow.holds Try.pinned (OpenSpec.ofChange fnExactTreeSizeSpec)

/-- ITS FALSE NEIGHBOUR: 'it returns false'. Refute it at one input. -/
def fnExactTreeSizeWrong : ChangeSpec := { name := "fnExactTreeSize", fn := fun _ => fun
  | [d] => { results := [.lit (.bool false)], args := [d] }
  | _ => none }
def FnExactTreeSizeWrongFalsely : Prop := fnExactTreeSizeRow.holds Try.pinned (OpenSpec.ofChange fnExactTreeSizeWrong)

/-- 'laws.FnExactTreeDepth': WHATEVER THE INPUT: true; the input reads as it did. -/
def fnExactTreeDepthSpec : ChangeSpec := { name := "fnExactTreeDepth", fn := fun _ => fun
  | [d] => { results := [.lit (.bool true)], args := [d] }
  | _ => none }
def fnExactTreeDepthRow : OpenClaim := { program := "ytchmppikpeeghaa", sum := "d23d5e6264648c1bdaa22e4fe055a60121acba97e5af5a2caef5b84d2221799f", func := "loop.example/g00538/laws.FnExactTreeDepth", spec := "fnExactTreeDepth", inPlace := ["internal/bytealg.Compare", "internal/bytealg.IndexByteString"], unfollowed := true, recurses := true, loops := true, apart := false }
def FnExactTreeDepthSaid : Prop := fnExactTreeDepthRow.holds Try.pinned (OpenSpec.ofChange fnExactTreeDepthSpec)

/-- ITS FALSE NEIGHBOUR: 'it returns false'. Refute it at one input. -/
def fnExactTreeDepthWrong : ChangeSpec := { name := "fnExactTreeDepth", fn := fun _ => fun
  | [d] => { results := [.lit (.bool false)], args := [d] }
  | _ => none }
def FnExactTreeDepthWrongFalsely : Prop := fnExactTreeDepthRow.holds Try.pinned (OpenSpec.ofChange fnExactTreeDepthWrong)

/-- 'laws.FnExactCountKind': WHATEVER THE INPUT: true; the input reads as it did. -/
def fnExactCountKindSpec : ChangeSpec := { name := "fnExactCountKind", fn := fun _ => fun
  | [d1, d2] => { results := [.lit (.bool true)], args := [d1, d2] }
  | _ => none }
def fnExactCountKindRow : OpenClaim := { program := "ytchmppikpeeghaa", sum := "d23d5e6264648c1bdaa22e4fe055a60121acba97e5af5a2caef5b84d2221799f", func := "loop.example/g00538/laws.FnExactCountKind", spec := "fnExactCountKind", inPlace := ["internal/bytealg.Compare", "internal/bytealg.IndexByteString"], unfollowed := true, recurses := true, loops := true, apart := false }
def FnExactCountKindSaid : Prop := fnExactCountKindRow.holds Try.pinned (OpenSpec.ofChange fnExactCountKindSpec)

/-- ITS FALSE NEIGHBOUR: 'it returns false'. Refute it at one input. -/
def fnExactCountKindWrong : ChangeSpec := { name := "fnExactCountKind", fn := fun _ => fun
  | [d1, d2] => { results := [.lit (.bool false)], args := [d1, d2] }
  | _ => none }
def FnExactCountKindWrongFalsely : Prop := fnExactCountKindRow.holds Try.pinned (OpenSpec.ofChange fnExactCountKindWrong)

/-- 'laws.FnExactTreeNames': WHATEVER THE INPUT: true; the input reads as it did. -/
def fnExactTreeNamesSpec : ChangeSpec := { name := "fnExactTreeNames", fn := fun _ => fun
  | [d] => { results := [.lit (.bool true)], args := [d] }
  | _ => none }
def fnExactTreeNamesRow : OpenClaim := { program := "ytchmppikpeeghaa", sum := "d23d5e6264648c1bdaa22e4fe055a60121acba97e5af5a2caef5b84d2221799f", func := "loop.example/g00538/laws.FnExactTreeNames", spec := "fnExactTreeNames", inPlace := ["internal/bytealg.Compare", "internal/bytealg.IndexByteString"], unfollowed := true, recurses := true, loops := true, apart := false }
def FnExactTreeNamesSaid : Prop := fnExactTreeNamesRow.holds Try.pinned (OpenSpec.ofChange fnExactTreeNamesSpec)

/-- ITS FALSE NEIGHBOUR: 'it returns false'. Refute it at one input. -/
def fnExactTreeNamesWrong : ChangeSpec := { name := "fnExactTreeNames", fn := fun _ => fun
  | [d] => { results := [.lit (.bool false)], args := [d] }
  | _ => none }
def FnExactTreeNamesWrongFalsely : Prop := fnExactTreeNamesRow.holds Try.pinned (OpenSpec.ofChange fnExactTreeNamesWrong)

/-- 'laws.FnExactMentions': WHATEVER THE INPUT: true; the input reads as it did. -/
def fnExactMentionsSpec : ChangeSpec := { name := "fnExactMentions", fn := fun _ => fun
  | [d1, d2] => { results := [.lit (.bool true)], args := [d1, d2] }
  | _ => none }
def fnExactMentionsRow : OpenClaim := { program := "ytchmppikpeeghaa", sum := "d23d5e6264648c1bdaa22e4fe055a60121acba97e5af5a2caef5b84d2221799f", func := "loop.example/g00538/laws.FnExactMentions", spec := "fnExactMentions", inPlace := ["internal/bytealg.IndexByteString", "internal/bytealg.IndexString", "internal/bytealg.IndexByte", "internal/bytealg.Index"], named := ["internal/bytealg.MaxLen"], apart := false }
def FnExactMentionsSaid : Prop := fnExactMentionsRow.holds Try.pinned (OpenSpec.ofChange fnExactMentionsSpec)

/-- ITS FALSE NEIGHBOUR: 'it returns false'. Refute it at one input. -/
def fnExactMentionsWrong : ChangeSpec := { name := "fnExactMentions", fn := fun _ => fun
  | [d1, d2] => { results := [.lit (.bool false)], args := [d1, d2] }
  | _ => none }
def FnExactMentionsWrongFalsely : Prop := fnExactMentionsRow.holds Try.pinned (OpenSpec.ofChange fnExactMentionsWrong)

/-- 'laws.FnExactScan': WHATEVER THE INPUT: true; the input reads as it did. -/
def fnExactScanSpec : ChangeSpec := { name := "fnExactScan", fn := fun _ => fun
  | [d1, d2] => { results := [.lit (.bool true)], args := [d1, d2] }
  | _ => none }
def fnExactScanRow : OpenClaim := { program := "ytchmppikpeeghaa", sum := "d23d5e6264648c1bdaa22e4fe055a60121acba97e5af5a2caef5b84d2221799f", func := "loop.example/g00538/laws.FnExactScan", spec := "fnExactScan", inPlace := ["internal/bytealg.Compare", "internal/bytealg.IndexByteString", "internal/bytealg.IndexString"], unfollowed := true, recurses := true, named := ["internal/bytealg.MaxLen"], apart := false }
def FnExactScanSaid : Prop := fnExactScanRow.holds Try.pinned (OpenSpec.ofChange fnExactScanSpec)

/-- ITS FALSE NEIGHBOUR: 'it returns false'. Refute it at one input. -/
def fnExactScanWrong : ChangeSpec := { name := "fnExactScan", fn := fun _ => fun
  | [d1, d2] => { results := [.lit (.bool false)], args := [d1, d2] }
  | _ => none }
def FnExactScanWrongFalsely : Prop := fnExactScanRow.holds Try.pinned (OpenSpec.ofChange fnExactScanWrong)

/-- 'laws.FnExactFill': WHATEVER THE INPUT: true; the input reads as it did. -/
def fnExactFillSpec : ChangeSpec := { name := "fnExactFill", fn := fun _ => fun
  | [d1, d2] => { results := [.lit (.bool true)], args := [d1, d2] }
  | _ => none }
def fnExactFillRow : OpenClaim := { program := "ytchmppikpeeghaa", sum := "d23d5e6264648c1bdaa22e4fe055a60121acba97e5af5a2caef5b84d2221799f", func := "loop.example/g00538/laws.FnExactFill", spec := "fnExactFill", inPlace := ["internal/bytealg.IndexByteString", "internal/bytealg.IndexString"], unfollowed := true, recurses := true, named := ["internal/bytealg.MaxLen"], apart := false }
def FnExactFillSaid : Prop := fnExactFillRow.holds Try.pinned (OpenSpec.ofChange fnExactFillSpec)

/-- ITS FALSE NEIGHBOUR: 'it returns false'. Refute it at one input. -/
def fnExactFillWrong : ChangeSpec := { name := "fnExactFill", fn := fun _ => fun
  | [d1, d2] => { results := [.lit (.bool false)], args := [d1, d2] }
  | _ => none }
def FnExactFillWrongFalsely : Prop := fnExactFillRow.holds Try.pinned (OpenSpec.ofChange fnExactFillWrong)

/-- 'laws.FnExactSorted': WHATEVER THE INPUT: true; the input reads as it did. -/
def fnExactSortedSpec : ChangeSpec := { name := "fnExactSorted", fn := fun _ => fun
  | [d] => { results := [.lit (.bool true)], args := [d] }
  | _ => none }
def fnExactSortedRow : OpenClaim := { program := "ytchmppikpeeghaa", sum := "d23d5e6264648c1bdaa22e4fe055a60121acba97e5af5a2caef5b84d2221799f", func := "loop.example/g00538/laws.FnExactSorted", spec := "fnExactSorted", inPlace := ["internal/bytealg.Compare", "internal/bytealg.IndexByteString", "internal/bytealg.IndexString"], unfollowed := true, recurses := true, named := ["internal/bytealg.MaxLen"], apart := false }
def FnExactSortedSaid : Prop := fnExactSortedRow.holds Try.pinned (OpenSpec.ofChange fnExactSortedSpec)

/-- ITS FALSE NEIGHBOUR: 'it returns false'. Refute it at one input. -/
def fnExactSortedWrong : ChangeSpec := { name := "fnExactSorted", fn := fun _ => fun
  | [d] => { results := [.lit (.bool false)], args := [d] }
  | _ => none }
def FnExactSortedWrongFalsely : Prop := fnExactSortedRow.holds Try.pinned (OpenSpec.ofChange fnExactSortedWrong)

/- THE SECOND FORM. 'bulk': how many values and letters a reading holds, each counted each time it is reached (what is shared counts as often as it is met; a slice's spare places count too). A statement '..UptoSaid' is the law's where the arguments, and the package variables that the reading takes, are together of bulk at most 1048576: NARROWER than '..Said'. Prove '..Said' where nothing that the law and all that it calls make is longer than what came in: it says more and counts as full. Else prove '..UptoSaid'. A law counts once. -/
mutual
def uptoBulk {H : Type} : DataW H → Nat
  | .lit (.string bytes) => bytes.length + 1
  | .lit _ => 1
  | .nil => 1
  | .ptr d => uptoBulk d + 1
  | .slice elems spare => uptoBulkAll elems + uptoBulkAll spare + 1
  | .agg parts => uptoBulkAll parts + 1
  | .iface _ d => uptoBulk d + 1
  | .map entries => uptoBulkEntries entries + 1
  | .held _ => 1
def uptoBulkAll {H : Type} : List (DataW H) → Nat
  | [] => 0
  | d :: r => uptoBulk d + uptoBulkAll r
def uptoBulkEntries {H : Type} : List (Lit × DataW H) → Nat
  | [] => 0
  | x :: r => uptoBulkEntry x + uptoBulkEntries r
def uptoBulkEntry {H : Type} : Lit × DataW H → Nat
  | (.string bytes, d) => bytes.length + uptoBulk d + 1
  | (_, d) => uptoBulk d + 1
 end
def uptoSmall : (H : Type) → List (DataW H) → Bool := fun _ ds => decide (uptoBulkAll ds ≤ 1048576)
def OpenSpec.upto (s : _root_.Go.ChangeSpec) : _root_.Go.OpenSpec := { _root_.Go.OpenSpec.ofChange s with cond := some uptoSmall }

/-- 'laws.FnExactTreeOk', WHERE WHAT IT READS IS OF BULK AT MOST 1048576: true; the input reads as it did. -/
def fnExactTreeOkUptoRow : OpenClaim := { program := "ytchmppikpeeghaa", sum := "d23d5e6264648c1bdaa22e4fe055a60121acba97e5af5a2caef5b84d2221799f", func := "loop.example/g00538/laws.FnExactTreeOk", spec := "fnExactTreeOk", inPlace := ["internal/bytealg.Compare", "internal/bytealg.IndexByteString"], unfollowed := true, recurses := true, loops := true, apart := false, narrowed := true }
def FnExactTreeOkUptoSaid : Prop := fnExactTreeOkUptoRow.holds Try.pinned (OpenSpec.upto fnExactTreeOkSpec)

/-- 'laws.FnExactTreeBytes', WHERE WHAT IT READS IS OF BULK AT MOST 1048576: true; the input reads as it did. -/
def fnExactTreeBytesUptoRow : OpenClaim := { program := "ytchmppikpeeghaa", sum := "d23d5e6264648c1bdaa22e4fe055a60121acba97e5af5a2caef5b84d2221799f", func := "loop.example/g00538/laws.FnExactTreeBytes", spec := "fnExactTreeBytes", inPlace := ["internal/bytealg.Compare", "internal/bytealg.IndexByteString"], unfollowed := true, recurses := true, loops := true, apart := false, narrowed := true }
def FnExactTreeBytesUptoSaid : Prop := fnExactTreeBytesUptoRow.holds Try.pinned (OpenSpec.upto fnExactTreeBytesSpec)

/-- 'laws.FnExactTreeData', WHERE WHAT IT READS IS OF BULK AT MOST 1048576: true; the input reads as it did. -/
def fnExactTreeDataUptoRow : OpenClaim := { program := "ytchmppikpeeghaa", sum := "d23d5e6264648c1bdaa22e4fe055a60121acba97e5af5a2caef5b84d2221799f", func := "loop.example/g00538/laws.FnExactTreeData", spec := "fnExactTreeData", inPlace := ["internal/bytealg.Compare", "internal/bytealg.IndexByteString"], unfollowed := true, recurses := true, loops := true, apart := false, narrowed := true }
def FnExactTreeDataUptoSaid : Prop := fnExactTreeDataUptoRow.holds Try.pinned (OpenSpec.upto fnExactTreeDataSpec)

/-- 'laws.FnExactTreeSize', WHERE WHAT IT READS IS OF BULK AT MOST 1048576: true; the input reads as it did. -/
def fnExactTreeSizeUptoRow : OpenClaim := { program := "ytchmppikpeeghaa", sum := "d23d5e6264648c1bdaa22e4fe055a60121acba97e5af5a2caef5b84d2221799f", func := "loop.example/g00538/laws.FnExactTreeSize", spec := "fnExactTreeSize", inPlace := ["internal/bytealg.Compare", "internal/bytealg.IndexByteString"], unfollowed := true, recurses := true, loops := true, apart := false, narrowed := true }
def FnExactTreeSizeUptoSaid : Prop := fnExactTreeSizeUptoRow.holds Try.pinned (OpenSpec.upto fnExactTreeSizeSpec)

/-- 'laws.FnExactTreeDepth', WHERE WHAT IT READS IS OF BULK AT MOST 1048576: true; the input reads as it did. -/
def fnExactTreeDepthUptoRow : OpenClaim := { program := "ytchmppikpeeghaa", sum := "d23d5e6264648c1bdaa22e4fe055a60121acba97e5af5a2caef5b84d2221799f", func := "loop.example/g00538/laws.FnExactTreeDepth", spec := "fnExactTreeDepth", inPlace := ["internal/bytealg.Compare", "internal/bytealg.IndexByteString"], unfollowed := true, recurses := true, loops := true, apart := false, narrowed := true }
def FnExactTreeDepthUptoSaid : Prop := fnExactTreeDepthUptoRow.holds Try.pinned (OpenSpec.upto fnExactTreeDepthSpec)

/-- 'laws.FnExactCountKind', WHERE WHAT IT READS IS OF BULK AT MOST 1048576: true; the input reads as it did. -/
def fnExactCountKindUptoRow : OpenClaim := { program := "ytchmppikpeeghaa", sum := "d23d5e6264648c1bdaa22e4fe055a60121acba97e5af5a2caef5b84d2221799f", func := "loop.example/g00538/laws.FnExactCountKind", spec := "fnExactCountKind", inPlace := ["internal/bytealg.Compare", "internal/bytealg.IndexByteString"], unfollowed := true, recurses := true, loops := true, apart := false, narrowed := true }
def FnExactCountKindUptoSaid : Prop := fnExactCountKindUptoRow.holds Try.pinned (OpenSpec.upto fnExactCountKindSpec)

/-- 'laws.FnExactTreeNames', WHERE WHAT IT READS IS OF BULK AT MOST 1048576: true; the input reads as it did. -/
def fnExactTreeNamesUptoRow : OpenClaim := { program := "ytchmppikpeeghaa", sum := "d23d5e6264648c1bdaa22e4fe055a60121acba97e5af5a2caef5b84d2221799f", func := "loop.example/g00538/laws.FnExactTreeNames", spec := "fnExactTreeNames", inPlace := ["internal/bytealg.Compare", "internal/bytealg.IndexByteString"], unfollowed := true, recurses := true, loops := true, apart := false, narrowed := true }
def FnExactTreeNamesUptoSaid : Prop := fnExactTreeNamesUptoRow.holds Try.pinned (OpenSpec.upto fnExactTreeNamesSpec)

/-- 'laws.FnExactMentions', WHERE WHAT IT READS IS OF BULK AT MOST 1048576: true; the input reads as it did. -/
def fnExactMentionsUptoRow : OpenClaim := { program := "ytchmppikpeeghaa", sum := "d23d5e6264648c1bdaa22e4fe055a60121acba97e5af5a2caef5b84d2221799f", func := "loop.example/g00538/laws.FnExactMentions", spec := "fnExactMentions", inPlace := ["internal/bytealg.IndexByteString", "internal/bytealg.IndexString", "internal/bytealg.IndexByte", "internal/bytealg.Index"], named := ["internal/bytealg.MaxLen"], apart := false, narrowed := true }
def FnExactMentionsUptoSaid : Prop := fnExactMentionsUptoRow.holds Try.pinned (OpenSpec.upto fnExactMentionsSpec)

/-- 'laws.FnExactScan', WHERE WHAT IT READS IS OF BULK AT MOST 1048576: true; the input reads as it did. -/
def fnExactScanUptoRow : OpenClaim := { program := "ytchmppikpeeghaa", sum := "d23d5e6264648c1bdaa22e4fe055a60121acba97e5af5a2caef5b84d2221799f", func := "loop.example/g00538/laws.FnExactScan", spec := "fnExactScan", inPlace := ["internal/bytealg.Compare", "internal/bytealg.IndexByteString", "internal/bytealg.IndexString"], unfollowed := true, recurses := true, named := ["internal/bytealg.MaxLen"], apart := false, narrowed := true }
def FnExactScanUptoSaid : Prop := fnExactScanUptoRow.holds Try.pinned (OpenSpec.upto fnExactScanSpec)

/-- 'laws.FnExactFill', WHERE WHAT IT READS IS OF BULK AT MOST 1048576: true; the input reads as it did. -/
def fnExactFillUptoRow : OpenClaim := { program := "ytchmppikpeeghaa", sum := "d23d5e6264648c1bdaa22e4fe055a60121acba97e5af5a2caef5b84d2221799f", func := "loop.example/g00538/laws.FnExactFill", spec := "fnExactFill", inPlace := ["internal/bytealg.IndexByteString", "internal/bytealg.IndexString"], unfollowed := true, recurses := true, named := ["internal/bytealg.MaxLen"], apart := false, narrowed := true }
def FnExactFillUptoSaid : Prop := fnExactFillUptoRow.holds Try.pinned (OpenSpec.upto fnExactFillSpec)

/-- 'laws.FnExactSorted', WHERE WHAT IT READS IS OF BULK AT MOST 1048576: true; the input reads as it did. -/
def fnExactSortedUptoRow : OpenClaim := { program := "ytchmppikpeeghaa", sum := "d23d5e6264648c1bdaa22e4fe055a60121acba97e5af5a2caef5b84d2221799f", func := "loop.example/g00538/laws.FnExactSorted", spec := "fnExactSorted", inPlace := ["internal/bytealg.Compare", "internal/bytealg.IndexByteString", "internal/bytealg.IndexString"], unfollowed := true, recurses := true, named := ["internal/bytealg.MaxLen"], apart := false, narrowed := true }
def FnExactSortedUptoSaid : Prop := fnExactSortedUptoRow.holds Try.pinned (OpenSpec.upto fnExactSortedSpec)

end Rows
end Go.Proofs.Ytchmppikpeeghaa
