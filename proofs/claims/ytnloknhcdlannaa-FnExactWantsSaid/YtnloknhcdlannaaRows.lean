/-
  No cell of these rows narrows 'for every input' (looked for: loops, veiled, ifaces, maps, wideKeys, modest, calm, conditions, laid).
  DERIVED. THE GIVEN ROWS OF THIS SEAT. 6 by the template 'for every input the law returns true; each argument reads behind the call as it read before'; 0 by the template 'total and deterministic' (their statements: YtnloknhcdlannaaTotals.lean).
  GIVEN WITH THE SEED: the statements are not yours to turn. If you find one false, say at which input.
  Laid BY PROGRAM, IN A SANDBOX (cutbox-rows.mjs): the forced cells as the released guide's own fill.sh prints them over the translation 01b8490d0544a6c5… (all of the seat's roots in one cut). By AI agents, Wed Nov 11 2026. No macro, syntax, notation, axiom, sorry.
-/
import Derived.Test.YtnloknhcdlannaaChecked
import GoSem.Claim
import GoSem.ClaimJoined
import GoSem.ClaimMapViews
import Derived.JoinedTies
import Derived.KernelRfl
namespace Go.Proofs.Ytnloknhcdlannaa
/- THE CELL 'sum', in the pinned program and in every row, IS THE sha256 OF THE DUMP (.gsa) THAT YtnloknhcdlannaaProg.lean LOADS. Nothing in Lean hashes anything: it is a label: what it is worth is what the hold of that sum in a sandbox is worth. -/
noncomputable def Try.pinned : Pinned := { name := "ytnloknhcdlannaa", sum := "01b8490d0544a6c57cf2c1b3832ba164cff8c1edb2d5d98996313a78fedbbc0a", checked := Try.checked }
namespace Rows
def none {H : Type} : Left H := { results := [], args := [] }

/-- 'laws.FnExactOpOk': WHATEVER THE INPUT: true; the input reads as it did. -/
def fnExactOpOkSpec : ChangeSpec := { name := "fnExactOpOk", fn := fun _ => fun
  | [d1, d2] => { results := [.lit (.bool true)], args := [d1, d2] }
  | _ => none }
def fnExactOpOkRow : OpenClaim := { program := "ytnloknhcdlannaa", sum := "01b8490d0544a6c57cf2c1b3832ba164cff8c1edb2d5d98996313a78fedbbc0a", func := "loop.example/g00538/laws.FnExactOpOk", spec := "fnExactOpOk", inPlace := ["internal/bytealg.IndexByteString"], unfollowed := true, recurses := true, apart := false }
def FnExactOpOkSaid : Prop := fnExactOpOkRow.holds Try.pinned (OpenSpec.ofChange fnExactOpOkSpec)

/-- ITS FALSE NEIGHBOUR: 'it returns false'. Refute it at one input. -/
def fnExactOpOkWrong : ChangeSpec := { name := "fnExactOpOk", fn := fun _ => fun
  | [d1, d2] => { results := [.lit (.bool false)], args := [d1, d2] }
  | _ => none }
def FnExactOpOkWrongFalsely : Prop := fnExactOpOkRow.holds Try.pinned (OpenSpec.ofChange fnExactOpOkWrong)

/-- 'laws.FnExactDrvOk': WHATEVER THE INPUT: true; the input reads as it did. -/
def fnExactDrvOkSpec : ChangeSpec := { name := "fnExactDrvOk", fn := fun _ => fun
  | [d] => { results := [.lit (.bool true)], args := [d] }
  | _ => none }
def fnExactDrvOkRow : OpenClaim := { program := "ytnloknhcdlannaa", sum := "01b8490d0544a6c57cf2c1b3832ba164cff8c1edb2d5d98996313a78fedbbc0a", func := "loop.example/g00538/laws.FnExactDrvOk", spec := "fnExactDrvOk", inPlace := ["internal/bytealg.IndexByteString", "internal/bytealg.IndexString", "internal/bytealg.Compare"], unfollowed := true, recurses := true, named := ["internal/bytealg.MaxLen"], apart := false }
def FnExactDrvOkSaid : Prop := fnExactDrvOkRow.holds Try.pinned (OpenSpec.ofChange fnExactDrvOkSpec)

/-- ITS FALSE NEIGHBOUR: 'it returns false'. Refute it at one input. -/
def fnExactDrvOkWrong : ChangeSpec := { name := "fnExactDrvOk", fn := fun _ => fun
  | [d] => { results := [.lit (.bool false)], args := [d] }
  | _ => none }
def FnExactDrvOkWrongFalsely : Prop := fnExactDrvOkRow.holds Try.pinned (OpenSpec.ofChange fnExactDrvOkWrong)

/-- 'laws.FnExactDrvBytes': WHATEVER THE INPUT: true; the input reads as it did. -/
def fnExactDrvBytesSpec : ChangeSpec := { name := "fnExactDrvBytes", fn := fun _ => fun
  | [d] => { results := [.lit (.bool true)], args := [d] }
  | _ => none }
def fnExactDrvBytesRow : OpenClaim := { program := "ytnloknhcdlannaa", sum := "01b8490d0544a6c57cf2c1b3832ba164cff8c1edb2d5d98996313a78fedbbc0a", func := "loop.example/g00538/laws.FnExactDrvBytes", spec := "fnExactDrvBytes", inPlace := ["internal/bytealg.IndexByteString", "internal/bytealg.IndexString", "internal/bytealg.Compare"], unfollowed := true, recurses := true, named := ["internal/bytealg.MaxLen"], apart := false }
def FnExactDrvBytesSaid : Prop := fnExactDrvBytesRow.holds Try.pinned (OpenSpec.ofChange fnExactDrvBytesSpec)

/-- ITS FALSE NEIGHBOUR: 'it returns false'. Refute it at one input. -/
def fnExactDrvBytesWrong : ChangeSpec := { name := "fnExactDrvBytes", fn := fun _ => fun
  | [d] => { results := [.lit (.bool false)], args := [d] }
  | _ => none }
def FnExactDrvBytesWrongFalsely : Prop := fnExactDrvBytesRow.holds Try.pinned (OpenSpec.ofChange fnExactDrvBytesWrong)

/-- 'laws.FnExactDrvRead': WHATEVER THE INPUT: true; the input reads as it did. -/
def fnExactDrvReadSpec : ChangeSpec := { name := "fnExactDrvRead", fn := fun _ => fun
  | [d] => { results := [.lit (.bool true)], args := [d] }
  | _ => none }
def fnExactDrvReadRow : OpenClaim := { program := "ytnloknhcdlannaa", sum := "01b8490d0544a6c57cf2c1b3832ba164cff8c1edb2d5d98996313a78fedbbc0a", func := "loop.example/g00538/laws.FnExactDrvRead", spec := "fnExactDrvRead", inPlace := ["internal/bytealg.IndexByteString", "internal/bytealg.IndexString", "internal/bytealg.Compare"], unfollowed := true, recurses := true, named := ["internal/bytealg.MaxLen"], apart := false }
def FnExactDrvReadSaid : Prop := fnExactDrvReadRow.holds Try.pinned (OpenSpec.ofChange fnExactDrvReadSpec)

/-- ITS FALSE NEIGHBOUR: 'it returns false'. Refute it at one input. -/
def fnExactDrvReadWrong : ChangeSpec := { name := "fnExactDrvRead", fn := fun _ => fun
  | [d] => { results := [.lit (.bool false)], args := [d] }
  | _ => none }
def FnExactDrvReadWrongFalsely : Prop := fnExactDrvReadRow.holds Try.pinned (OpenSpec.ofChange fnExactDrvReadWrong)

/-- 'laws.FnExactCountOps': WHATEVER THE INPUT: true; the input reads as it did. -/
def fnExactCountOpsSpec : ChangeSpec := { name := "fnExactCountOps", fn := fun _ => fun
  | [d1, d2] => { results := [.lit (.bool true)], args := [d1, d2] }
  | _ => none }
def fnExactCountOpsRow : OpenClaim := { program := "ytnloknhcdlannaa", sum := "01b8490d0544a6c57cf2c1b3832ba164cff8c1edb2d5d98996313a78fedbbc0a", func := "loop.example/g00538/laws.FnExactCountOps", spec := "fnExactCountOps", inPlace := ["internal/bytealg.IndexByteString", "internal/bytealg.IndexString", "internal/bytealg.Compare"], unfollowed := true, recurses := true, named := ["internal/bytealg.MaxLen"], apart := false }
def FnExactCountOpsSaid : Prop := fnExactCountOpsRow.holds Try.pinned (OpenSpec.ofChange fnExactCountOpsSpec)

/-- ITS FALSE NEIGHBOUR: 'it returns false'. Refute it at one input. -/
def fnExactCountOpsWrong : ChangeSpec := { name := "fnExactCountOps", fn := fun _ => fun
  | [d1, d2] => { results := [.lit (.bool false)], args := [d1, d2] }
  | _ => none }
def FnExactCountOpsWrongFalsely : Prop := fnExactCountOpsRow.holds Try.pinned (OpenSpec.ofChange fnExactCountOpsWrong)

/-- 'laws.FnExactWants': WHATEVER THE INPUT: true; the input reads as it did. -/
def fnExactWantsSpec : ChangeSpec := { name := "fnExactWants", fn := fun _ => fun
  | [d] => { results := [.lit (.bool true)], args := [d] }
  | _ => none }
def fnExactWantsRow : OpenClaim := { program := "ytnloknhcdlannaa", sum := "01b8490d0544a6c57cf2c1b3832ba164cff8c1edb2d5d98996313a78fedbbc0a", func := "loop.example/g00538/laws.FnExactWants", spec := "fnExactWants", inPlace := ["internal/bytealg.IndexByteString", "internal/bytealg.IndexString", "internal/bytealg.Compare"], unfollowed := true, recurses := true, named := ["internal/bytealg.MaxLen"], apart := false }
def FnExactWantsSaid : Prop := fnExactWantsRow.holds Try.pinned (OpenSpec.ofChange fnExactWantsSpec)

/-- ITS FALSE NEIGHBOUR: 'it returns false'. Refute it at one input. -/
def fnExactWantsWrong : ChangeSpec := { name := "fnExactWants", fn := fun _ => fun
  | [d] => { results := [.lit (.bool false)], args := [d] }
  | _ => none }
def FnExactWantsWrongFalsely : Prop := fnExactWantsRow.holds Try.pinned (OpenSpec.ofChange fnExactWantsWrong)

/- THE SECOND FORM. 'bulk': how many values and letters a reading holds, each counted each time it is reached (what is shared counts as often as it is met; a slice's spare places count too). A statement '..UptoSaid' is the law's where the arguments, and the package variables that the reading takes, are together of bulk at most 1048576: NARROWER than '..Said'. Prove '..Said' where nothing that the law and all that it calls make is longer than what came in: it says more and counts as full. Else prove '..UptoSaid'. A law counts once. -/
mutual
def uptoBulk {H : Type} : DataW H → Nat
  | .lit (.string bytes) => bytes.length + 1
  | .lit _ => 1
  | .nil => 1
  | .ptr d => uptoBulk d + 1
  | .slice elems spare => uptoBulkAll elems + uptoBulkAll spare + 1
  | .agg parts => uptoBulkAll parts + 1
  | .iface _ d => uptoBulk d + 1
  | .map entries => uptoBulkEntries entries + 1
  | .held _ => 1
def uptoBulkAll {H : Type} : List (DataW H) → Nat
  | [] => 0
  | d :: r => uptoBulk d + uptoBulkAll r
def uptoBulkEntries {H : Type} : List (Lit × DataW H) → Nat
  | [] => 0
  | x :: r => uptoBulkEntry x + uptoBulkEntries r
def uptoBulkEntry {H : Type} : Lit × DataW H → Nat
  | (.string bytes, d) => bytes.length + uptoBulk d + 1
  | (_, d) => uptoBulk d + 1
 end
def uptoSmall : (H : Type) → List (DataW H) → Bool := fun _ ds => decide (uptoBulkAll ds ≤ 1048576)
def OpenSpec.upto (s : _root_.Go.ChangeSpec) : _root_.Go.OpenSpec := { _root_.Go.OpenSpec.ofChange s with cond := some uptoSmall }

/-- 'laws.FnExactOpOk', WHERE WHAT IT READS IS OF BULK AT MOST 1048576: true; the input reads as it did. -/
def fnExactOpOkUptoRow : OpenClaim := { program := "ytnloknhcdlannaa", sum := "01b8490d0544a6c57cf2c1b3832ba164cff8c1edb2d5d98996313a78fedbbc0a", func := "loop.example/g00538/laws.FnExactOpOk", spec := "fnExactOpOk", inPlace := ["internal/bytealg.IndexByteString"], unfollowed := true, recurses := true, apart := false, narrowed := true }
def FnExactOpOkUptoSaid : Prop := fnExactOpOkUptoRow.holds Try.pinned (OpenSpec.upto fnExactOpOkSpec)

/-- 'laws.FnExactDrvOk', WHERE WHAT IT READS IS OF BULK AT MOST 1048576: true; the input reads as it did. -/
def fnExactDrvOkUptoRow : OpenClaim := { program := "ytnloknhcdlannaa", sum := "01b8490d0544a6c57cf2c1b3832ba164cff8c1edb2d5d98996313a78fedbbc0a", func := "loop.example/g00538/laws.FnExactDrvOk", spec := "fnExactDrvOk", inPlace := ["internal/bytealg.IndexByteString", "internal/bytealg.IndexString", "internal/bytealg.Compare"], unfollowed := true, recurses := true, named := ["internal/bytealg.MaxLen"], apart := false, narrowed := true }
def FnExactDrvOkUptoSaid : Prop := fnExactDrvOkUptoRow.holds Try.pinned (OpenSpec.upto fnExactDrvOkSpec)

/-- 'laws.FnExactDrvBytes', WHERE WHAT IT READS IS OF BULK AT MOST 1048576: true; the input reads as it did. -/
def fnExactDrvBytesUptoRow : OpenClaim := { program := "ytnloknhcdlannaa", sum := "01b8490d0544a6c57cf2c1b3832ba164cff8c1edb2d5d98996313a78fedbbc0a", func := "loop.example/g00538/laws.FnExactDrvBytes", spec := "fnExactDrvBytes", inPlace := ["internal/bytealg.IndexByteString", "internal/bytealg.IndexString", "internal/bytealg.Compare"], unfollowed := true, recurses := true, named := ["internal/bytealg.MaxLen"], apart := false, narrowed := true }
def FnExactDrvBytesUptoSaid : Prop := fnExactDrvBytesUptoRow.holds Try.pinned (OpenSpec.upto fnExactDrvBytesSpec)

/-- 'laws.FnExactDrvRead', WHERE WHAT IT READS IS OF BULK AT MOST 1048576: true; the input reads as it did. -/
def fnExactDrvReadUptoRow : OpenClaim := { program := "ytnloknhcdlannaa", sum := "01b8490d0544a6c57cf2c1b3832ba164cff8c1edb2d5d98996313a78fedbbc0a", func := "loop.example/g00538/laws.FnExactDrvRead", spec := "fnExactDrvRead", inPlace := ["internal/bytealg.IndexByteString", "internal/bytealg.IndexString", "internal/bytealg.Compare"], unfollowed := true, recurses := true, named := ["internal/bytealg.MaxLen"], apart := false, narrowed := true }
def FnExactDrvReadUptoSaid : Prop := fnExactDrvReadUptoRow.holds Try.pinned (OpenSpec.upto fnExactDrvReadSpec)

/-- 'laws.FnExactCountOps', WHERE WHAT IT READS IS OF BULK AT MOST 1048576: true; the input reads as it did. -/
def fnExactCountOpsUptoRow : OpenClaim := { program := "ytnloknhcdlannaa", sum := "01b8490d0544a6c57cf2c1b3832ba164cff8c1edb2d5d98996313a78fedbbc0a", func := "loop.example/g00538/laws.FnExactCountOps", spec := "fnExactCountOps", inPlace := ["internal/bytealg.IndexByteString", "internal/bytealg.IndexString", "internal/bytealg.Compare"], unfollowed := true, recurses := true, named := ["internal/bytealg.MaxLen"], apart := false, narrowed := true }
def FnExactCountOpsUptoSaid : Prop := fnExactCountOpsUptoRow.holds Try.pinned (OpenSpec.upto fnExactCountOpsSpec)

/-- 'laws.FnExactWants', WHERE WHAT IT READS IS OF BULK AT MOST 1048576: true; the input reads as it did. -/
def fnExactWantsUptoRow : OpenClaim := { program := "ytnloknhcdlannaa", sum := "01b8490d0544a6c57cf2c1b3832ba164cff8c1edb2d5d98996313a78fedbbc0a", func := "loop.example/g00538/laws.FnExactWants", spec := "fnExactWants", inPlace := ["internal/bytealg.IndexByteString", "internal/bytealg.IndexString", "internal/bytealg.Compare"], unfollowed := true, recurses := true, named := ["internal/bytealg.MaxLen"], apart := false, narrowed := true }
def FnExactWantsUptoSaid : Prop := fnExactWantsUptoRow.holds Try.pinned (OpenSpec.upto fnExactWantsSpec)

end Rows
end Go.Proofs.Ytnloknhcdlannaa
