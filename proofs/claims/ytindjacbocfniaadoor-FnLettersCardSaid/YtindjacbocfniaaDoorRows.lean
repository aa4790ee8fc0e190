/-
  NARROWER THAN 'FOR EVERY INPUT', by the rows' own cells (each row's printed sentence says how): FnExactSha256: laid · FnExactNameOf: laid · FnLetters: laid · FnExactTreeText: loops, laid.
  DERIVED. THE GIVEN ROWS OF THIS SEAT. 4 by the template 'for every input the law returns true; each argument reads behind the call as it read before'; 0 by the template 'total and deterministic' (their statements: YtindjacbocfniaaDoorTotals.lean).
  GIVEN WITH THE SEED: the statements are not yours to turn. If you find one false, say at which input.
  Laid BY PROGRAM, IN A SANDBOX (cutbox-rows.mjs): the forced cells as the released guide's own fill.sh prints them over the translation fd457cd7b109c7f7… (all of the seat's roots in one cut). By AI agents, Wed Nov 11 2026. No macro, syntax, notation, axiom, sorry.
-/
import Derived.Test.YtindjacbocfniaaDoorChecked
import GoSem.Claim
import GoSem.ClaimJoined
import GoSem.ClaimMapViews
import Derived.JoinedTies
import Derived.KernelRfl
namespace Go.Proofs.YtindjacbocfniaaDoor
/- THE CELL 'sum', in the pinned program and in every row, IS THE sha256 OF THE DUMP (.gsa) THAT YtindjacbocfniaaDoorProg.lean LOADS. Nothing in Lean hashes anything: it is a label: what it is worth is what the hold of that sum in a sandbox is worth. -/
noncomputable def Tryd.pinned : Pinned := { name := "ytindjacbocfniaadoor", sum := "fd457cd7b109c7f7140cda039d28b8b32bf3e3d94c7d7efa5fa7a0665830bb94", checked := Tryd.checked }
namespace Rows
def none {H : Type} : Left H := { results := [], args := [] }

/- WHAT THE LISTED PACKAGE-LEVEL VARIABLES READ AS WHEN THE CALL BEGINS. Each datum BY PROGRAM (the guide's laid-datum.mjs) off the statement by which the dump's own 'gosem.cut.vars' lays the variable. In a bare row this is a premise. The card (YtindjacbocfniaaDoorCards.lean) ties it to the program's text. -/
def laid_loop_example_g00538_impl_roundKeys {H : Type} : DataW H := .agg [.lit (.int .u32 1116352408), .lit (.int .u32 1899447441), .lit (.int .u32 3049323471), .lit (.int .u32 3921009573), .lit (.int .u32 961987163), .lit (.int .u32 1508970993), .lit (.int .u32 2453635748), .lit (.int .u32 2870763221), .lit (.int .u32 3624381080), .lit (.int .u32 310598401), .lit (.int .u32 607225278), .lit (.int .u32 1426881987), .lit (.int .u32 1925078388), .lit (.int .u32 2162078206), .lit (.int .u32 2614888103), .lit (.int .u32 3248222580), .lit (.int .u32 3835390401), .lit (.int .u32 4022224774), .lit (.int .u32 264347078), .lit (.int .u32 604807628), .lit (.int .u32 770255983), .lit (.int .u32 1249150122), .lit (.int .u32 1555081692), .lit (.int .u32 1996064986), .lit (.int .u32 2554220882), .lit (.int .u32 2821834349), .lit (.int .u32 2952996808), .lit (.int .u32 3210313671), .lit (.int .u32 3336571891), .lit (.int .u32 3584528711), .lit (.int .u32 113926993), .lit (.int .u32 338241895), .lit (.int .u32 666307205), .lit (.int .u32 773529912), .lit (.int .u32 1294757372), .lit (.int .u32 1396182291), .lit (.int .u32 1695183700), .lit (.int .u32 1986661051), .lit (.int .u32 2177026350), .lit (.int .u32 2456956037), .lit (.int .u32 2730485921), .lit (.int .u32 2820302411), .lit (.int .u32 3259730800), .lit (.int .u32 3345764771), .lit (.int .u32 3516065817), .lit (.int .u32 3600352804), .lit (.int .u32 4094571909), .lit (.int .u32 275423344), .lit (.int .u32 430227734), .lit (.int .u32 506948616), .lit (.int .u32 659060556), .lit (.int .u32 883997877), .lit (.int .u32 958139571), .lit (.int .u32 1322822218), .lit (.int .u32 1537002063), .lit (.int .u32 1747873779), .lit (.int .u32 1955562222), .lit (.int .u32 2024104815), .lit (.int .u32 2227730452), .lit (.int .u32 2361852424), .lit (.int .u32 2428436474), .lit (.int .u32 2756734187), .lit (.int .u32 3204031479), .lit (.int .u32 3329325298)]
def laid_loop_example_g00538_impl_kindWords {H : Type} : DataW H := .agg [.lit (.string [102, 105, 108, 101]), .lit (.string [114, 117, 110]), .lit (.string [100, 105, 114]), .lit (.string [108, 105, 110, 107])]

/-- 'laws.FnExactSha256': WHATEVER THE INPUT: true; the input reads as it did. -/
def fnExactSha256Spec : ChangeSpec := { name := "fnExactSha256", vars := ["loop.example/g00538/impl.roundKeys"], fn := fun _ => fun
  | [d, g1] => { results := [.lit (.bool true)], args := [d], vars := [g1] }
  | _ => none }
def fnExactSha256Row : OpenClaim := { program := "ytindjacbocfniaadoor", sum := "fd457cd7b109c7f7140cda039d28b8b32bf3e3d94c7d7efa5fa7a0665830bb94", func := "loop.example/g00538/laws.FnExactSha256", spec := "fnExactSha256", named := ["loop.example/g00538/impl.roundKeys"], apart := false, laid := [("loop.example/g00538/impl.roundKeys", laid_loop_example_g00538_impl_roundKeys)] }
def FnExactSha256Said : Prop := fnExactSha256Row.holds Tryd.pinned (OpenSpec.ofChange fnExactSha256Spec)

/-- ITS FALSE NEIGHBOUR: 'it returns false'. Refute it at one input. -/
def fnExactSha256Wrong : ChangeSpec := { name := "fnExactSha256", vars := ["loop.example/g00538/impl.roundKeys"], fn := fun _ => fun
  | [d, g1] => { results := [.lit (.bool false)], args := [d], vars := [g1] }
  | _ => none }
def FnExactSha256WrongFalsely : Prop := fnExactSha256Row.holds Tryd.pinned (OpenSpec.ofChange fnExactSha256Wrong)

/-- 'laws.FnExactNameOf': WHATEVER THE INPUT: true; the input reads as it did. -/
def fnExactNameOfSpec : ChangeSpec := { name := "fnExactNameOf", vars := ["loop.example/g00538/impl.roundKeys"], fn := fun _ => fun
  | [d1, d2, g1] => { results := [.lit (.bool true)], args := [d1, d2], vars := [g1] }
  | _ => none }
def fnExactNameOfRow : OpenClaim := { program := "ytindjacbocfniaadoor", sum := "fd457cd7b109c7f7140cda039d28b8b32bf3e3d94c7d7efa5fa7a0665830bb94", func := "loop.example/g00538/laws.FnExactNameOf", spec := "fnExactNameOf", named := ["loop.example/g00538/impl.roundKeys"], apart := false, laid := [("loop.example/g00538/impl.roundKeys", laid_loop_example_g00538_impl_roundKeys)] }
def FnExactNameOfSaid : Prop := fnExactNameOfRow.holds Tryd.pinned (OpenSpec.ofChange fnExactNameOfSpec)

/-- ITS FALSE NEIGHBOUR: 'it returns false'. Refute it at one input. -/
def fnExactNameOfWrong : ChangeSpec := { name := "fnExactNameOf", vars := ["loop.example/g00538/impl.roundKeys"], fn := fun _ => fun
  | [d1, d2, g1] => { results := [.lit (.bool false)], args := [d1, d2], vars := [g1] }
  | _ => none }
def FnExactNameOfWrongFalsely : Prop := fnExactNameOfRow.holds Tryd.pinned (OpenSpec.ofChange fnExactNameOfWrong)

/-- 'laws.FnLetters': WHATEVER THE INPUT: true; the input reads as it did. -/
def fnLettersSpec : ChangeSpec := { name := "fnLetters", vars := ["loop.example/g00538/impl.roundKeys"], fn := fun _ => fun
  | [d, g1] => { results := [.lit (.bool true)], args := [d], vars := [g1] }
  | _ => none }
def fnLettersRow : OpenClaim := { program := "ytindjacbocfniaadoor", sum := "fd457cd7b109c7f7140cda039d28b8b32bf3e3d94c7d7efa5fa7a0665830bb94", func := "loop.example/g00538/laws.FnLetters", spec := "fnLetters", inPlace := ["internal/bytealg.IndexByteString", "internal/bytealg.IndexString"], named := ["loop.example/g00538/impl.roundKeys", "internal/bytealg.MaxLen"], apart := false, laid := [("loop.example/g00538/impl.roundKeys", laid_loop_example_g00538_impl_roundKeys)] }
def FnLettersSaid : Prop := fnLettersRow.holds Tryd.pinned (OpenSpec.ofChange fnLettersSpec)

/-- ITS FALSE NEIGHBOUR: 'it returns false'. Refute it at one input. -/
def fnLettersWrong : ChangeSpec := { name := "fnLetters", vars := ["loop.example/g00538/impl.roundKeys"], fn := fun _ => fun
  | [d, g1] => { results := [.lit (.bool false)], args := [d], vars := [g1] }
  | _ => none }
def FnLettersWrongFalsely : Prop := fnLettersRow.holds Tryd.pinned (OpenSpec.ofChange fnLettersWrong)

/-- 'laws.FnExactTreeText': WHATEVER THE INPUT: true; the input reads as it did. -/
def fnExactTreeTextSpec : ChangeSpec := { name := "fnExactTreeText", vars := ["loop.example/g00538/impl.kindWords"], fn := fun _ => fun
  | [d, g1] => { results := [.lit (.bool true)], args := [d], vars := [g1] }
  | _ => none }
def fnExactTreeTextRow : OpenClaim := { program := "ytindjacbocfniaadoor", sum := "fd457cd7b109c7f7140cda039d28b8b32bf3e3d94c7d7efa5fa7a0665830bb94", func := "loop.example/g00538/laws.FnExactTreeText", spec := "fnExactTreeText", inPlace := ["internal/bytealg.IndexByteString", "internal/bytealg.Compare"], unfollowed := true, recurses := true, named := ["loop.example/g00538/impl.kindWords"], loops := true, apart := false, laid := [("loop.example/g00538/impl.kindWords", laid_loop_example_g00538_impl_kindWords)] }
def FnExactTreeTextSaid : Prop := fnExactTreeTextRow.holds Tryd.pinned (OpenSpec.ofChange fnExactTreeTextSpec)

/-- ITS FALSE NEIGHBOUR: 'it returns false'. Refute it at one input. -/
def fnExactTreeTextWrong : ChangeSpec := { name := "fnExactTreeText", vars := ["loop.example/g00538/impl.kindWords"], fn := fun _ => fun
  | [d, g1] => { results := [.lit (.bool false)], args := [d], vars := [g1] }
  | _ => none }
def FnExactTreeTextWrongFalsely : Prop := fnExactTreeTextRow.holds Tryd.pinned (OpenSpec.ofChange fnExactTreeTextWrong)

/- THE SECOND FORM. 'bulk': how many values and letters a reading holds, each counted each time it is reached (what is shared counts as often as it is met; a slice's spare places count too). A statement '..UptoSaid' is the law's where the arguments, and the package variables that the reading takes, are together of bulk at most 1048576: NARROWER than '..Said'. Prove '..Said' where nothing that the law and all that it calls make is longer than what came in: it says more and counts as full. Else prove '..UptoSaid'. A law counts once. -/
mutual
def uptoBulk {H : Type} : DataW H → Nat
  | .lit (.string bytes) => bytes.length + 1
  | .lit _ => 1
  | .nil => 1
  | .ptr d => uptoBulk d + 1
  | .slice elems spare => uptoBulkAll elems + uptoBulkAll spare + 1
  | .agg parts => uptoBulkAll parts + 1
  | .iface _ d => uptoBulk d + 1
  | .map entries => uptoBulkEntries entries + 1
  | .held _ => 1
def uptoBulkAll {H : Type} : List (DataW H) → Nat
  | [] => 0
  | d :: r => uptoBulk d + uptoBulkAll r
def uptoBulkEntries {H : Type} : List (Lit × DataW H) → Nat
  | [] => 0
  | x :: r => uptoBulkEntry x + uptoBulkEntries r
def uptoBulkEntry {H : Type} : Lit × DataW H → Nat
  | (.string bytes, d) => bytes.length + uptoBulk d + 1
  | (_, d) => uptoBulk d + 1
 end
def uptoSmall : (H : Type) → List (DataW H) → Bool := fun _ ds => decide (uptoBulkAll ds ≤ 1048576)
def OpenSpec.upto (s : _root_.Go.ChangeSpec) : _root_.Go.OpenSpec := { _root_.Go.OpenSpec.ofChange s with cond := some uptoSmall }

/-- 'laws.FnExactSha256', WHERE WHAT IT READS IS OF BULK AT MOST 1048576: true; the input reads as it did. -/
def fnExactSha256UptoRow : OpenClaim := { program := "ytindjacbocfniaadoor", sum := "fd457cd7b109c7f7140cda039d28b8b32bf3e3d94c7d7efa5fa7a0665830bb94", func := "loop.example/g00538/laws.FnExactSha256", spec := "fnExactSha256", named := ["loop.example/g00538/impl.roundKeys"], apart := false, laid := [("loop.example/g00538/impl.roundKeys", laid_loop_example_g00538_impl_roundKeys)], narrowed := true }
def FnExactSha256UptoSaid : Prop := fnExactSha256UptoRow.holds Tryd.pinned (OpenSpec.upto fnExactSha256Spec)

/-- 'laws.FnExactNameOf', WHERE WHAT IT READS IS OF BULK AT MOST 1048576: true; the input reads as it did. -/
def fnExactNameOfUptoRow : OpenClaim := { program := "ytindjacbocfniaadoor", sum := "fd457cd7b109c7f7140cda039d28b8b32bf3e3d94c7d7efa5fa7a0665830bb94", func := "loop.example/g00538/laws.FnExactNameOf", spec := "fnExactNameOf", named := ["loop.example/g00538/impl.roundKeys"], apart := false, laid := [("loop.example/g00538/impl.roundKeys", laid_loop_example_g00538_impl_roundKeys)], narrowed := true }
def FnExactNameOfUptoSaid : Prop := fnExactNameOfUptoRow.holds Tryd.pinned (OpenSpec.upto fnExactNameOfSpec)

/-- 'laws.FnLetters', WHERE WHAT IT READS IS OF BULK AT MOST 1048576: true; the input reads as it did. -/
def fnLettersUptoRow : OpenClaim := { program := "ytindjacbocfniaadoor", sum := "fd457cd7b109c7f7140cda039d28b8b32bf3e3d94c7d7efa5fa7a0665830bb94", func := "loop.example/g00538/laws.FnLetters", spec := "fnLetters", inPlace := ["internal/bytealg.IndexByteString", "internal/bytealg.IndexString"], named := ["loop.example/g00538/impl.roundKeys", "internal/bytealg.MaxLen"], apart := false, laid := [("loop.example/g00538/impl.roundKeys", laid_loop_example_g00538_impl_roundKeys)], narrowed := true }
def FnLettersUptoSaid : Prop := fnLettersUptoRow.holds Tryd.pinned (OpenSpec.upto fnLettersSpec)

/-- 'laws.FnExactTreeText', WHERE WHAT IT READS IS OF BULK AT MOST 1048576: true; the input reads as it did. -/
def fnExactTreeTextUptoRow : OpenClaim := { program := "ytindjacbocfniaadoor", sum := "fd457cd7b109c7f7140cda039d28b8b32bf3e3d94c7d7efa5fa7a0665830bb94", func := "loop.example/g00538/laws.FnExactTreeText", spec := "fnExactTreeText", inPlace := ["internal/bytealg.IndexByteString", "internal/bytealg.Compare"], unfollowed := true, recurses := true, named := ["loop.example/g00538/impl.kindWords"], loops := true, apart := false, laid := [("loop.example/g00538/impl.kindWords", laid_loop_example_g00538_impl_kindWords)], narrowed := true }
def FnExactTreeTextUptoSaid : Prop := fnExactTreeTextUptoRow.holds Tryd.pinned (OpenSpec.upto fnExactTreeTextSpec)

end Rows
end Go.Proofs.YtindjacbocfniaaDoor
