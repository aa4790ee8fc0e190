/-
  NARROWER THAN 'FOR EVERY INPUT', by the rows' own cells (each row's printed sentence says how): FnExactTreeOk: loops · FnExactTreeBytes: loops · FnExactTreeAt: loops · FnExactTreePut: loops · FnExactTreeData: loops · FnExactTreeSize: loops.
  DERIVED. THE GIVEN ROWS OF THIS SEAT. 8 by the template 'for every input the law returns true; each argument reads behind the call as it read before'; 0 by the template 'total and deterministic' (their statements: YtindjacbocfniaaTotals.lean).
  GIVEN WITH THE SEED: the statements are not yours to turn. If you find one false, say at which input.
  Laid BY PROGRAM, IN A SANDBOX (cutbox-rows.mjs): the forced cells as the released guide's own fill.sh prints them over the translation faa04eae729742c7… (all of the seat's roots in one cut). By AI agents, Wed Nov 11 2026. No macro, syntax, notation, axiom, sorry.
-/
import Derived.Test.YtindjacbocfniaaChecked
import GoSem.Claim
import GoSem.ClaimJoined
import GoSem.ClaimMapViews
import Derived.JoinedTies
import Derived.KernelRfl
namespace Go.Proofs.Ytindjacbocfniaa
/- THE CELL 'sum', in the pinned program and in every row, IS THE sha256 OF THE DUMP (.gsa) THAT YtindjacbocfniaaProg.lean LOADS. Nothing in Lean hashes anything: it is a label: what it is worth is what the hold of that sum in a sandbox is worth. -/
noncomputable def Try.pinned : Pinned := { name := "ytindjacbocfniaa", sum := "faa04eae729742c7c9cc0dbd247959024b3189865701453ef3a970bb3c3a7cd6", checked := Try.checked }
namespace Rows
def none {H : Type} : Left H := { results := [], args := [] }

/-- 'laws.FnExactEntryOk': WHATEVER THE INPUT: true; the input reads as it did. -/
def fnExactEntryOkSpec : ChangeSpec := { name := "fnExactEntryOk", fn := fun _ => fun
  | [d] => { results := [.lit (.bool true)], args := [d] }
  | _ => none }
def fnExactEntryOkRow : OpenClaim := { program := "ytindjacbocfniaa", sum := "faa04eae729742c7c9cc0dbd247959024b3189865701453ef3a970bb3c3a7cd6", func := "loop.example/g00538/laws.FnExactEntryOk", spec := "fnExactEntryOk", inPlace := ["internal/bytealg.IndexByteString"], apart := false }
def FnExactEntryOkSaid : Prop := fnExactEntryOkRow.holds Try.pinned (OpenSpec.ofChange fnExactEntryOkSpec)

/-- ITS FALSE NEIGHBOUR: 'it returns false'. Refute it at one input. -/
def fnExactEntryOkWrong : ChangeSpec := { name := "fnExactEntryOk", fn := fun _ => fun
  | [d] => { results := [.lit (.bool false)], args := [d] }
  | _ => none }
def FnExactEntryOkWrongFalsely : Prop := fnExactEntryOkRow.holds Try.pinned (OpenSpec.ofChange fnExactEntryOkWrong)

/-- 'laws.FnExactTreeOk': WHATEVER THE INPUT: true; the input reads as it did. -/
def fnExactTreeOkSpec : ChangeSpec := { name := "fnExactTreeOk", fn := fun _ => fun
  | [d] => { results := [.lit (.bool true)], args := [d] }
  | _ => none }
def fnExactTreeOkRow : OpenClaim := { program := "ytindjacbocfniaa", sum := "faa04eae729742c7c9cc0dbd247959024b3189865701453ef3a970bb3c3a7cd6", func := "loop.example/g00538/laws.FnExactTreeOk", spec := "fnExactTreeOk", inPlace := ["internal/bytealg.IndexByteString", "internal/bytealg.Compare"], unfollowed := true, recurses := true, loops := true, apart := false }
def FnExactTreeOkSaid : Prop := fnExactTreeOkRow.holds Try.pinned (OpenSpec.ofChange fnExactTreeOkSpec)

/-- ITS FALSE NEIGHBOUR: 'it returns false'. Refute it at one input. -/
def fnExactTreeOkWrong : ChangeSpec := { name := "fnExactTreeOk", fn := fun _ => fun
  | [d] => { results := [.lit (.bool false)], args := [d] }
  | _ => none }
def FnExactTreeOkWrongFalsely : Prop := fnExactTreeOkRow.holds Try.pinned (OpenSpec.ofChange fnExactTreeOkWrong)

/-- 'laws.FnExactTreeBytes': WHATEVER THE INPUT: true; the input reads as it did. -/
def fnExactTreeBytesSpec : ChangeSpec := { name := "fnExactTreeBytes", fn := fun _ => fun
  | [d] => { results := [.lit (.bool true)], args := [d] }
  | _ => none }
def fnExactTreeBytesRow : OpenClaim := { program := "ytindjacbocfniaa", sum := "faa04eae729742c7c9cc0dbd247959024b3189865701453ef3a970bb3c3a7cd6", func := "loop.example/g00538/laws.FnExactTreeBytes", spec := "fnExactTreeBytes", inPlace := ["internal/bytealg.IndexByteString", "internal/bytealg.Compare"], unfollowed := true, recurses := true, loops := true, apart := false }
def FnExactTreeBytesSaid : Prop := fnExactTreeBytesRow.holds Try.pinned (OpenSpec.ofChange fnExactTreeBytesSpec)

/-- ITS FALSE NEIGHBOUR: 'it returns false'. Refute it at one input. -/
def fnExactTreeBytesWrong : ChangeSpec := { name := "fnExactTreeBytes", fn := fun _ => fun
  | [d] => { results := [.lit (.bool false)], args := [d] }
  | _ => none }
def FnExactTreeBytesWrongFalsely : Prop := fnExactTreeBytesRow.holds Try.pinned (OpenSpec.ofChange fnExactTreeBytesWrong)

/-- 'laws.FnExactTreeRead': WHATEVER THE INPUT: true; the input reads as it did. -/
def fnExactTreeReadSpec : ChangeSpec := { name := "fnExactTreeRead", fn := fun _ => fun
  | [d] => { results := [.lit (.bool true)], args := [d] }
  | _ => none }
def fnExactTreeReadRow : OpenClaim := { program := "ytindjacbocfniaa", sum := "faa04eae729742c7c9cc0dbd247959024b3189865701453ef3a970bb3c3a7cd6", func := "loop.example/g00538/laws.FnExactTreeRead", spec := "fnExactTreeRead", inPlace := ["internal/bytealg.IndexByteString", "internal/bytealg.Compare"], unfollowed := true, recurses := true, apart := false }
def FnExactTreeReadSaid : Prop := fnExactTreeReadRow.holds Try.pinned (OpenSpec.ofChange fnExactTreeReadSpec)

/-- ITS FALSE NEIGHBOUR: 'it returns false'. Refute it at one input. -/
def fnExactTreeReadWrong : ChangeSpec := { name := "fnExactTreeRead", fn := fun _ => fun
  | [d] => { results := [.lit (.bool false)], args := [d] }
  | _ => none }
def FnExactTreeReadWrongFalsely : Prop := fnExactTreeReadRow.holds Try.pinned (OpenSpec.ofChange fnExactTreeReadWrong)

/-- 'laws.FnExactTreeAt': WHATEVER THE INPUT: true; the input reads as it did. -/
def fnExactTreeAtSpec : ChangeSpec := { name := "fnExactTreeAt", fn := fun _ => fun
  | [d1, d2] => { results := [.lit (.bool true)], args := [d1, d2] }
  | _ => none }
def fnExactTreeAtRow : OpenClaim := { program := "ytindjacbocfniaa", sum := "faa04eae729742c7c9cc0dbd247959024b3189865701453ef3a970bb3c3a7cd6", func := "loop.example/g00538/laws.FnExactTreeAt", spec := "fnExactTreeAt", inPlace := ["internal/bytealg.IndexByteString", "internal/bytealg.Compare"], unfollowed := true, recurses := true, loops := true, apart := false }
def FnExactTreeAtSaid : Prop := fnExactTreeAtRow.holds Try.pinned (OpenSpec.ofChange fnExactTreeAtSpec)

/-- ITS FALSE NEIGHBOUR: 'it returns false'. Refute it at one input. -/
def fnExactTreeAtWrong : ChangeSpec := { name := "fnExactTreeAt", fn := fun _ => fun
  | [d1, d2] => { results := [.lit (.bool false)], args := [d1, d2] }
  | _ => none }
def FnExactTreeAtWrongFalsely : Prop := fnExactTreeAtRow.holds Try.pinned (OpenSpec.ofChange fnExactTreeAtWrong)

/-- 'laws.FnExactTreePut': WHATEVER THE INPUT: true; the input reads as it did. -/
def fnExactTreePutSpec : ChangeSpec := { name := "fnExactTreePut", fn := fun _ => fun
  | [d1, d2, d3] => { results := [.lit (.bool true)], args := [d1, d2, d3] }
  | _ => none }
def fnExactTreePutRow : OpenClaim := { program := "ytindjacbocfniaa", sum := "faa04eae729742c7c9cc0dbd247959024b3189865701453ef3a970bb3c3a7cd6", func := "loop.example/g00538/laws.FnExactTreePut", spec := "fnExactTreePut", inPlace := ["internal/bytealg.IndexByteString", "internal/bytealg.Compare", "slices.overlaps[[]byte]", "slices.overlaps[loop.example/g00538/impl.Tree]"], unfollowed := true, recurses := true, loops := true, apart := false }
def FnExactTreePutSaid : Prop := fnExactTreePutRow.holds Try.pinned (OpenSpec.ofChange fnExactTreePutSpec)

/-- ITS FALSE NEIGHBOUR: 'it returns false'. Refute it at one input. -/
def fnExactTreePutWrong : ChangeSpec := { name := "fnExactTreePut", fn := fun _ => fun
  | [d1, d2, d3] => { results := [.lit (.bool false)], args := [d1, d2, d3] }
  | _ => none }
def FnExactTreePutWrongFalsely : Prop := fnExactTreePutRow.holds Try.pinned (OpenSpec.ofChange fnExactTreePutWrong)

/-- 'laws.FnExactTreeData': WHATEVER THE INPUT: true; the input reads as it did. -/
def fnExactTreeDataSpec : ChangeSpec := { name := "fnExactTreeData", fn := fun _ => fun
  | [d] => { results := [.lit (.bool true)], args := [d] }
  | _ => none }
def fnExactTreeDataRow : OpenClaim := { program := "ytindjacbocfniaa", sum := "faa04eae729742c7c9cc0dbd247959024b3189865701453ef3a970bb3c3a7cd6", func := "loop.example/g00538/laws.FnExactTreeData", spec := "fnExactTreeData", inPlace := ["internal/bytealg.IndexByteString", "internal/bytealg.Compare"], unfollowed := true, recurses := true, loops := true, apart := false }
def FnExactTreeDataSaid : Prop := fnExactTreeDataRow.holds Try.pinned (OpenSpec.ofChange fnExactTreeDataSpec)

/-- ITS FALSE NEIGHBOUR: 'it returns false'. Refute it at one input. -/
def fnExactTreeDataWrong : ChangeSpec := { name := "fnExactTreeData", fn := fun _ => fun
  | [d] => { results := [.lit (.bool false)], args := [d] }
  | _ => none }
def FnExactTreeDataWrongFalsely : Prop := fnExactTreeDataRow.holds Try.pinned (OpenSpec.ofChange fnExactTreeDataWrong)

/-- 'laws.FnExactTreeSize': WHATEVER THE INPUT: true; the input reads as it did. -/
def fnExactTreeSizeSpec : ChangeSpec := { name := "fnExactTreeSize", fn := fun _ => fun
  | [d] => { results := [.lit (.bool true)], args := [d] }
  | _ => none }
def fnExactTreeSizeRow : OpenClaim := { program := "ytindjacbocfniaa", sum := "faa04eae729742c7c9cc0dbd247959024b3189865701453ef3a970bb3c3a7cd6", func := "loop.example/g00538/laws.FnExactTreeSize", spec := "fnExactTreeSize", inPlace := ["internal/bytealg.IndexByteString", "internal/bytealg.Compare"], unfollowed := true, recurses := true, loops := true, apart := false }
def FnExactTreeSizeSaid : Prop := fnExactTreeSizeRow.holds Try.pinned (OpenSpec.ofChange fnExactTreeSizeSpec)

/-- ITS FALSE NEIGHBOUR: 'it returns false'. Refute it at one input. -/
def fnExactTreeSizeWrong : ChangeSpec := { name := "fnExactTreeSize", fn := fun _ => fun
  | [d] => { results := [.lit (.bool false)], args := [d] }
  | _ => none }
def FnExactTreeSizeWrongFalsely : Prop := fnExactTreeSizeRow.holds Try.pinned (OpenSpec.ofChange fnExactTreeSizeWrong)

/- THE SECOND FORM. 'bulk': how many values and letters a reading holds, each counted each time it is reached (what is shared counts as often as it is met; a slice's spare places count too). A statement '..UptoSaid' is the law's where the arguments, and the package variables that the reading takes, are together of bulk at most 1048576: NARROWER than '..Said'. Prove '..Said' where nothing that the law and all that it calls make is longer than what came in: it says more and counts as full. Else prove '..UptoSaid'. A law counts once. -/
mutual
def uptoBulk {H : Type} : DataW H → Nat
  | .lit (.string bytes) => bytes.length + 1
  | .lit _ => 1
  | .nil => 1
  | .ptr d => uptoBulk d + 1
  | .slice elems spare => uptoBulkAll elems + uptoBulkAll spare + 1
  | .agg parts => uptoBulkAll parts + 1
  | .iface _ d => uptoBulk d + 1
  | .map entries => uptoBulkEntries entries + 1
  | .held _ => 1
def uptoBulkAll {H : Type} : List (DataW H) → Nat
  | [] => 0
  | d :: r => uptoBulk d + uptoBulkAll r
def uptoBulkEntries {H : Type} : List (Lit × DataW H) → Nat
  | [] => 0
  | x :: r => uptoBulkEntry x + uptoBulkEntries r
def uptoBulkEntry {H : Type} : Lit × DataW H → Nat
  | (.string bytes, d) => bytes.length + uptoBulk d + 1
  | (_, d) => uptoBulk d + 1
 end
def uptoSmall : (H : Type) → List (DataW H) → Bool := fun _ ds => decide (uptoBulkAll ds ≤ 1048576)
def OpenSpec.upto (s : _root_.Go.ChangeSpec) : _root_.Go.OpenSpec := { _root_.Go.OpenSpec.ofChange s with cond := some uptoSmall }

/-- 'laws.FnExactEntryOk', WHERE WHAT IT READS IS OF BULK AT MOST 1048576: true; the input reads as it did. -/
def fnExactEntryOkUptoRow : OpenClaim := { program := "ytindjacbocfniaa", sum := "faa04eae729742c7c9cc0dbd247959024b3189865701453ef3a970bb3c3a7cd6", func := "loop.example/g00538/laws.FnExactEntryOk", spec := "fnExactEntryOk", inPlace := ["internal/bytealg.IndexByteString"], apart := false, narrowed := true }
def FnExactEntryOkUptoSaid : Prop := fnExactEntryOkUptoRow.holds Try.pinned (OpenSpec.upto fnExactEntryOkSpec)

/-- 'laws.FnExactTreeOk', WHERE WHAT IT READS IS OF BULK AT MOST 1048576: true; the input reads as it did. -/
def fnExactTreeOkUptoRow : OpenClaim := { program := "ytindjacbocfniaa", sum := "faa04eae729742c7c9cc0dbd247959024b3189865701453ef3a970bb3c3a7cd6", func := "loop.example/g00538/laws.FnExactTreeOk", spec := "fnExactTreeOk", inPlace := ["internal/bytealg.IndexByteString", "internal/bytealg.Compare"], unfollowed := true, recurses := true, loops := true, apart := false, narrowed := true }
def FnExactTreeOkUptoSaid : Prop := fnExactTreeOkUptoRow.holds Try.pinned (OpenSpec.upto fnExactTreeOkSpec)

/-- 'laws.FnExactTreeBytes', WHERE WHAT IT READS IS OF BULK AT MOST 1048576: true; the input reads as it did. -/
def fnExactTreeBytesUptoRow : OpenClaim := { program := "ytindjacbocfniaa", sum := "faa04eae729742c7c9cc0dbd247959024b3189865701453ef3a970bb3c3a7cd6", func := "loop.example/g00538/laws.FnExactTreeBytes", spec := "fnExactTreeBytes", inPlace := ["internal/bytealg.IndexByteString", "internal/bytealg.Compare"], unfollowed := true, recurses := true, loops := true, apart := false, narrowed := true }
def FnExactTreeBytesUptoSaid : Prop := fnExactTreeBytesUptoRow.holds Try.pinned (OpenSpec.upto fnExactTreeBytesSpec)

/-- 'laws.FnExactTreeRead', WHERE WHAT IT READS IS OF BULK AT MOST 1048576: true; the input reads as it did. -/
def fnExactTreeReadUptoRow : OpenClaim := { program := "ytindjacbocfniaa", sum := "faa04eae729742c7c9cc0dbd247959024b3189865701453ef3a970bb3c3a7cd6", func := "loop.example/g00538/laws.FnExactTreeRead", spec := "fnExactTreeRead", inPlace := ["internal/bytealg.IndexByteString", "internal/bytealg.Compare"], unfollowed := true, recurses := true, apart := false, narrowed := true }
def FnExactTreeReadUptoSaid : Prop := fnExactTreeReadUptoRow.holds Try.pinned (OpenSpec.upto fnExactTreeReadSpec)

/-- 'laws.FnExactTreeAt', WHERE WHAT IT READS IS OF BULK AT MOST 1048576: true; the input reads as it did. -/
def fnExactTreeAtUptoRow : OpenClaim := { program := "ytindjacbocfniaa", sum := "faa04eae729742c7c9cc0dbd247959024b3189865701453ef3a970bb3c3a7cd6", func := "loop.example/g00538/laws.FnExactTreeAt", spec := "fnExactTreeAt", inPlace := ["internal/bytealg.IndexByteString", "internal/bytealg.Compare"], unfollowed := true, recurses := true, loops := true, apart := false, narrowed := true }
def FnExactTreeAtUptoSaid : Prop := fnExactTreeAtUptoRow.holds Try.pinned (OpenSpec.upto fnExactTreeAtSpec)

/-- 'laws.FnExactTreePut', WHERE WHAT IT READS IS OF BULK AT MOST 1048576: true; the input reads as it did. -/
def fnExactTreePutUptoRow : OpenClaim := { program := "ytindjacbocfniaa", sum := "faa04eae729742c7c9cc0dbd247959024b3189865701453ef3a970bb3c3a7cd6", func := "loop.example/g00538/laws.FnExactTreePut", spec := "fnExactTreePut", inPlace := ["internal/bytealg.IndexByteString", "internal/bytealg.Compare", "slices.overlaps[[]byte]", "slices.overlaps[loop.example/g00538/impl.Tree]"], unfollowed := true, recurses := true, loops := true, apart := false, narrowed := true }
def FnExactTreePutUptoSaid : Prop := fnExactTreePutUptoRow.holds Try.pinned (OpenSpec.upto fnExactTreePutSpec)

/-- 'laws.FnExactTreeData', WHERE WHAT IT READS IS OF BULK AT MOST 1048576: true; the input reads as it did. -/
def fnExactTreeDataUptoRow : OpenClaim := { program := "ytindjacbocfniaa", sum := "faa04eae729742c7c9cc0dbd247959024b3189865701453ef3a970bb3c3a7cd6", func := "loop.example/g00538/laws.FnExactTreeData", spec := "fnExactTreeData", inPlace := ["internal/bytealg.IndexByteString", "internal/bytealg.Compare"], unfollowed := true, recurses := true, loops := true, apart := false, narrowed := true }
def FnExactTreeDataUptoSaid : Prop := fnExactTreeDataUptoRow.holds Try.pinned (OpenSpec.upto fnExactTreeDataSpec)

/-- 'laws.FnExactTreeSize', WHERE WHAT IT READS IS OF BULK AT MOST 1048576: true; the input reads as it did. -/
def fnExactTreeSizeUptoRow : OpenClaim := { program := "ytindjacbocfniaa", sum := "faa04eae729742c7c9cc0dbd247959024b3189865701453ef3a970bb3c3a7cd6", func := "loop.example/g00538/laws.FnExactTreeSize", spec := "fnExactTreeSize", inPlace := ["internal/bytealg.IndexByteString", "internal/bytealg.Compare"], unfollowed := true, recurses := true, loops := true, apart := false, narrowed := true }
def FnExactTreeSizeUptoSaid : Prop := fnExactTreeSizeUptoRow.holds Try.pinned (OpenSpec.upto fnExactTreeSizeSpec)

end Rows
end Go.Proofs.Ytindjacbocfniaa
