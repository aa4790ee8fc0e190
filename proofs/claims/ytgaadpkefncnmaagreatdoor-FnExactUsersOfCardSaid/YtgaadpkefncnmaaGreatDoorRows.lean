/-
  NARROWER THAN 'FOR EVERY INPUT', by the rows' own cells (each row's printed sentence says how): FnExactObjNames: loops, laid · FnExactRefsOf: loops, laid · FnExactUsersOf: loops, laid · FnExactClosure: loops, laid · FnExactFind: loops, laid · FnExactAddRoot: loops, laid · FnExactDropRoot: loops, laid · FnExactStoreText: loops, laid · FnExactEngineOk: loops, laid · FnExactCountGoals: loops, laid · FnExactGoalAt: loops, laid · FnExactOver: loops, laid.
  DERIVED. THE GIVEN ROWS OF THIS SEAT. 12 by the template 'for every input the law returns true; each argument reads behind the call as it read before'; 0 by the template 'total and deterministic' (their statements: YtgaadpkefncnmaaGreatDoorTotals.lean).
  GIVEN WITH THE SEED: the statements are not yours to turn. If you find one false, say at which input.
  Laid BY PROGRAM, IN A SANDBOX (cutbox-rows.mjs): the forced cells as the released guide's own fill.sh prints them over the translation df3238b1f9614029… (all of the seat's roots in one cut). By AI agents, Wed Nov 11 2026. No macro, syntax, notation, axiom, sorry.
-/
import Derived.Test.YtgaadpkefncnmaaGreatDoorChecked
import GoSem.Claim
import GoSem.ClaimJoined
import GoSem.ClaimMapViews
import Derived.JoinedTies
import Derived.KernelRfl
namespace Go.Proofs.YtgaadpkefncnmaaGreatDoor
/- THE CELL 'sum', in the pinned program and in every row, IS THE sha256 OF THE DUMP (.gsa) THAT YtgaadpkefncnmaaGreatDoorProg.lean LOADS. Nothing in Lean hashes anything: it is a label: what it is worth is what the hold of that sum in a sandbox is worth. -/
noncomputable def Tryz.pinned : Pinned := { name := "ytgaadpkefncnmaagreatdoor", sum := "df3238b1f961402991ab56df312f5adf1ac9cf0b7d0e132b87c525f6f9a99cdc", checked := Tryz.checked }
namespace Rows
def none {H : Type} : Left H := { results := [], args := [] }

/- WHAT THE LISTED PACKAGE-LEVEL VARIABLES READ AS WHEN THE CALL BEGINS. Each datum BY PROGRAM (the guide's laid-datum.mjs) off the statement by which the dump's own 'gosem.cut.vars' lays the variable. In a bare row this is a premise. The card (YtgaadpkefncnmaaGreatDoorCards.lean) ties it to the program's text. -/
def laid_loop_example_g00538_impl_roundKeys {H : Type} : DataW H := .agg [.lit (.int .u32 1116352408), .lit (.int .u32 1899447441), .lit (.int .u32 3049323471), .lit (.int .u32 3921009573), .lit (.int .u32 961987163), .lit (.int .u32 1508970993), .lit (.int .u32 2453635748), .lit (.int .u32 2870763221), .lit (.int .u32 3624381080), .lit (.int .u32 310598401), .lit (.int .u32 607225278), .lit (.int .u32 1426881987), .lit (.int .u32 1925078388), .lit (.int .u32 2162078206), .lit (.int .u32 2614888103), .lit (.int .u32 3248222580), .lit (.int .u32 3835390401), .lit (.int .u32 4022224774), .lit (.int .u32 264347078), .lit (.int .u32 604807628), .lit (.int .u32 770255983), .lit (.int .u32 1249150122), .lit (.int .u32 1555081692), .lit (.int .u32 1996064986), .lit (.int .u32 2554220882), .lit (.int .u32 2821834349), .lit (.int .u32 2952996808), .lit (.int .u32 3210313671), .lit (.int .u32 3336571891), .lit (.int .u32 3584528711), .lit (.int .u32 113926993), .lit (.int .u32 338241895), .lit (.int .u32 666307205), .lit (.int .u32 773529912), .lit (.int .u32 1294757372), .lit (.int .u32 1396182291), .lit (.int .u32 1695183700), .lit (.int .u32 1986661051), .lit (.int .u32 2177026350), .lit (.int .u32 2456956037), .lit (.int .u32 2730485921), .lit (.int .u32 2820302411), .lit (.int .u32 3259730800), .lit (.int .u32 3345764771), .lit (.int .u32 3516065817), .lit (.int .u32 3600352804), .lit (.int .u32 4094571909), .lit (.int .u32 275423344), .lit (.int .u32 430227734), .lit (.int .u32 506948616), .lit (.int .u32 659060556), .lit (.int .u32 883997877), .lit (.int .u32 958139571), .lit (.int .u32 1322822218), .lit (.int .u32 1537002063), .lit (.int .u32 1747873779), .lit (.int .u32 1955562222), .lit (.int .u32 2024104815), .lit (.int .u32 2227730452), .lit (.int .u32 2361852424), .lit (.int .u32 2428436474), .lit (.int .u32 2756734187), .lit (.int .u32 3204031479), .lit (.int .u32 3329325298)]
def laid_loop_example_g00538_impl_objWords {H : Type} : DataW H := .agg [.lit (.string [116, 101, 120, 116]), .lit (.string [116, 114, 101, 101]), .lit (.string [111, 117, 116, 112, 117, 116])]

/-- 'laws.FnExactObjNames': WHATEVER THE INPUT: true; the input reads as it did. -/
def fnExactObjNamesSpec : ChangeSpec := { name := "fnExactObjNames", vars := ["loop.example/g00538/impl.roundKeys"], fn := fun _ => fun
  | [d, g1] => { results := [.lit (.bool true)], args := [d], vars := [g1] }
  | _ => none }
def fnExactObjNamesRow : OpenClaim := { program := "ytgaadpkefncnmaagreatdoor", sum := "df3238b1f961402991ab56df312f5adf1ac9cf0b7d0e132b87c525f6f9a99cdc", func := "loop.example/g00538/laws.FnExactObjNames", spec := "fnExactObjNames", inPlace := ["internal/bytealg.IndexByteString", "internal/bytealg.Compare", "internal/bytealg.IndexString"], unfollowed := true, recurses := true, named := ["loop.example/g00538/impl.roundKeys", "internal/bytealg.MaxLen"], loops := true, apart := false, laid := [("loop.example/g00538/impl.roundKeys", laid_loop_example_g00538_impl_roundKeys)] }
def FnExactObjNamesSaid : Prop := fnExactObjNamesRow.holds Tryz.pinned (OpenSpec.ofChange fnExactObjNamesSpec)

/-- ITS FALSE NEIGHBOUR: 'it returns false'. Refute it at one input. -/
def fnExactObjNamesWrong : ChangeSpec := { name := "fnExactObjNames", vars := ["loop.example/g00538/impl.roundKeys"], fn := fun _ => fun
  | [d, g1] => { results := [.lit (.bool false)], args := [d], vars := [g1] }
  | _ => none }
def FnExactObjNamesWrongFalsely : Prop := fnExactObjNamesRow.holds Tryz.pinned (OpenSpec.ofChange fnExactObjNamesWrong)

/-- 'laws.FnExactRefsOf': WHATEVER THE INPUT: true; the input reads as it did. -/
def fnExactRefsOfSpec : ChangeSpec := { name := "fnExactRefsOf", vars := ["loop.example/g00538/impl.roundKeys"], fn := fun _ => fun
  | [d1, d2, g1] => { results := [.lit (.bool true)], args := [d1, d2], vars := [g1] }
  | _ => none }
def fnExactRefsOfRow : OpenClaim := { program := "ytgaadpkefncnmaagreatdoor", sum := "df3238b1f961402991ab56df312f5adf1ac9cf0b7d0e132b87c525f6f9a99cdc", func := "loop.example/g00538/laws.FnExactRefsOf", spec := "fnExactRefsOf", inPlace := ["internal/bytealg.IndexByteString", "internal/bytealg.Compare", "internal/bytealg.IndexString"], unfollowed := true, recurses := true, named := ["loop.example/g00538/impl.roundKeys", "internal/bytealg.MaxLen"], loops := true, apart := false, laid := [("loop.example/g00538/impl.roundKeys", laid_loop_example_g00538_impl_roundKeys)] }
def FnExactRefsOfSaid : Prop := fnExactRefsOfRow.holds Tryz.pinned (OpenSpec.ofChange fnExactRefsOfSpec)

/-- ITS FALSE NEIGHBOUR: 'it returns false'. Refute it at one input. -/
def fnExactRefsOfWrong : ChangeSpec := { name := "fnExactRefsOf", vars := ["loop.example/g00538/impl.roundKeys"], fn := fun _ => fun
  | [d1, d2, g1] => { results := [.lit (.bool false)], args := [d1, d2], vars := [g1] }
  | _ => none }
def FnExactRefsOfWrongFalsely : Prop := fnExactRefsOfRow.holds Tryz.pinned (OpenSpec.ofChange fnExactRefsOfWrong)

/-- 'laws.FnExactUsersOf': WHATEVER THE INPUT: true; the input reads as it did. -/
def fnExactUsersOfSpec : ChangeSpec := { name := "fnExactUsersOf", vars := ["loop.example/g00538/impl.roundKeys"], fn := fun _ => fun
  | [d1, d2, g1] => { results := [.lit (.bool true)], args := [d1, d2], vars := [g1] }
  | _ => none }
def fnExactUsersOfRow : OpenClaim := { program := "ytgaadpkefncnmaagreatdoor", sum := "df3238b1f961402991ab56df312f5adf1ac9cf0b7d0e132b87c525f6f9a99cdc", func := "loop.example/g00538/laws.FnExactUsersOf", spec := "fnExactUsersOf", inPlace := ["internal/bytealg.IndexByteString", "internal/bytealg.Compare", "internal/bytealg.IndexString"], unfollowed := true, recurses := true, named := ["loop.example/g00538/impl.roundKeys", "internal/bytealg.MaxLen"], loops := true, apart := false, laid := [("loop.example/g00538/impl.roundKeys", laid_loop_example_g00538_impl_roundKeys)] }
def FnExactUsersOfSaid : Prop := fnExactUsersOfRow.holds Tryz.pinned (OpenSpec.ofChange fnExactUsersOfSpec)

/-- ITS FALSE NEIGHBOUR: 'it returns false'. Refute it at one input. -/
def fnExactUsersOfWrong : ChangeSpec := { name := "fnExactUsersOf", vars := ["loop.example/g00538/impl.roundKeys"], fn := fun _ => fun
  | [d1, d2, g1] => { results := [.lit (.bool false)], args := [d1, d2], vars := [g1] }
  | _ => none }
def FnExactUsersOfWrongFalsely : Prop := fnExactUsersOfRow.holds Tryz.pinned (OpenSpec.ofChange fnExactUsersOfWrong)

/-- 'laws.FnExactClosure': WHATEVER THE INPUT: true; the input reads as it did. -/
def fnExactClosureSpec : ChangeSpec := { name := "fnExactClosure", vars := ["loop.example/g00538/impl.roundKeys"], fn := fun _ => fun
  | [d1, d2, g1] => { results := [.lit (.bool true)], args := [d1, d2], vars := [g1] }
  | _ => none }
def fnExactClosureRow : OpenClaim := { program := "ytgaadpkefncnmaagreatdoor", sum := "df3238b1f961402991ab56df312f5adf1ac9cf0b7d0e132b87c525f6f9a99cdc", func := "loop.example/g00538/laws.FnExactClosure", spec := "fnExactClosure", inPlace := ["internal/bytealg.IndexByteString", "internal/bytealg.Compare", "internal/bytealg.IndexString"], unfollowed := true, recurses := true, named := ["loop.example/g00538/impl.roundKeys", "internal/bytealg.MaxLen"], loops := true, apart := false, laid := [("loop.example/g00538/impl.roundKeys", laid_loop_example_g00538_impl_roundKeys)] }
def FnExactClosureSaid : Prop := fnExactClosureRow.holds Tryz.pinned (OpenSpec.ofChange fnExactClosureSpec)

/-- ITS FALSE NEIGHBOUR: 'it returns false'. Refute it at one input. -/
def fnExactClosureWrong : ChangeSpec := { name := "fnExactClosure", vars := ["loop.example/g00538/impl.roundKeys"], fn := fun _ => fun
  | [d1, d2, g1] => { results := [.lit (.bool false)], args := [d1, d2], vars := [g1] }
  | _ => none }
def FnExactClosureWrongFalsely : Prop := fnExactClosureRow.holds Tryz.pinned (OpenSpec.ofChange fnExactClosureWrong)

/-- 'laws.FnExactFind': WHATEVER THE INPUT: true; the input reads as it did. -/
def fnExactFindSpec : ChangeSpec := { name := "fnExactFind", vars := ["loop.example/g00538/impl.roundKeys"], fn := fun _ => fun
  | [d1, d2, g1] => { results := [.lit (.bool true)], args := [d1, d2], vars := [g1] }
  | _ => none }
def fnExactFindRow : OpenClaim := { program := "ytgaadpkefncnmaagreatdoor", sum := "df3238b1f961402991ab56df312f5adf1ac9cf0b7d0e132b87c525f6f9a99cdc", func := "loop.example/g00538/laws.FnExactFind", spec := "fnExactFind", inPlace := ["internal/bytealg.IndexByteString", "internal/bytealg.Compare", "internal/bytealg.IndexString"], unfollowed := true, recurses := true, named := ["loop.example/g00538/impl.roundKeys", "internal/bytealg.MaxLen"], loops := true, apart := false, laid := [("loop.example/g00538/impl.roundKeys", laid_loop_example_g00538_impl_roundKeys)] }
def FnExactFindSaid : Prop := fnExactFindRow.holds Tryz.pinned (OpenSpec.ofChange fnExactFindSpec)

/-- ITS FALSE NEIGHBOUR: 'it returns false'. Refute it at one input. -/
def fnExactFindWrong : ChangeSpec := { name := "fnExactFind", vars := ["loop.example/g00538/impl.roundKeys"], fn := fun _ => fun
  | [d1, d2, g1] => { results := [.lit (.bool false)], args := [d1, d2], vars := [g1] }
  | _ => none }
def FnExactFindWrongFalsely : Prop := fnExactFindRow.holds Tryz.pinned (OpenSpec.ofChange fnExactFindWrong)

/-- 'laws.FnExactAddRoot': WHATEVER THE INPUT: true; the input reads as it did. -/
def fnExactAddRootSpec : ChangeSpec := { name := "fnExactAddRoot", vars := ["loop.example/g00538/impl.roundKeys"], fn := fun _ => fun
  | [d1, d2, g1] => { results := [.lit (.bool true)], args := [d1, d2], vars := [g1] }
  | _ => none }
def fnExactAddRootRow : OpenClaim := { program := "ytgaadpkefncnmaagreatdoor", sum := "df3238b1f961402991ab56df312f5adf1ac9cf0b7d0e132b87c525f6f9a99cdc", func := "loop.example/g00538/laws.FnExactAddRoot", spec := "fnExactAddRoot", inPlace := ["internal/bytealg.IndexByteString", "internal/bytealg.Compare", "internal/bytealg.IndexString"], unfollowed := true, recurses := true, named := ["loop.example/g00538/impl.roundKeys", "internal/bytealg.MaxLen"], loops := true, apart := false, laid := [("loop.example/g00538/impl.roundKeys", laid_loop_example_g00538_impl_roundKeys)] }
def FnExactAddRootSaid : Prop := fnExactAddRootRow.holds Tryz.pinned (OpenSpec.ofChange fnExactAddRootSpec)

/-- ITS FALSE NEIGHBOUR: 'it returns false'. Refute it at one input. -/
def fnExactAddRootWrong : ChangeSpec := { name := "fnExactAddRoot", vars := ["loop.example/g00538/impl.roundKeys"], fn := fun _ => fun
  | [d1, d2, g1] => { results := [.lit (.bool false)], args := [d1, d2], vars := [g1] }
  | _ => none }
def FnExactAddRootWrongFalsely : Prop := fnExactAddRootRow.holds Tryz.pinned (OpenSpec.ofChange fnExactAddRootWrong)

/-- 'laws.FnExactDropRoot': WHATEVER THE INPUT: true; the input reads as it did. -/
def fnExactDropRootSpec : ChangeSpec := { name := "fnExactDropRoot", vars := ["loop.example/g00538/impl.roundKeys"], fn := fun _ => fun
  | [d1, d2, g1] => { results := [.lit (.bool true)], args := [d1, d2], vars := [g1] }
  | _ => none }
def fnExactDropRootRow : OpenClaim := { program := "ytgaadpkefncnmaagreatdoor", sum := "df3238b1f961402991ab56df312f5adf1ac9cf0b7d0e132b87c525f6f9a99cdc", func := "loop.example/g00538/laws.FnExactDropRoot", spec := "fnExactDropRoot", inPlace := ["internal/bytealg.IndexByteString", "internal/bytealg.Compare", "internal/bytealg.IndexString"], unfollowed := true, recurses := true, named := ["loop.example/g00538/impl.roundKeys", "internal/bytealg.MaxLen"], loops := true, apart := false, laid := [("loop.example/g00538/impl.roundKeys", laid_loop_example_g00538_impl_roundKeys)] }
def FnExactDropRootSaid : Prop := fnExactDropRootRow.holds Tryz.pinned (OpenSpec.ofChange fnExactDropRootSpec)

/-- ITS FALSE NEIGHBOUR: 'it returns false'. Refute it at one input. -/
def fnExactDropRootWrong : ChangeSpec := { name := "fnExactDropRoot", vars := ["loop.example/g00538/impl.roundKeys"], fn := fun _ => fun
  | [d1, d2, g1] => { results := [.lit (.bool false)], args := [d1, d2], vars := [g1] }
  | _ => none }
def FnExactDropRootWrongFalsely : Prop := fnExactDropRootRow.holds Tryz.pinned (OpenSpec.ofChange fnExactDropRootWrong)

/-- 'laws.FnExactStoreText': WHATEVER THE INPUT: true; the input reads as it did. -/
def fnExactStoreTextSpec : ChangeSpec := { name := "fnExactStoreText", vars := ["loop.example/g00538/impl.objWords", "loop.example/g00538/impl.roundKeys"], fn := fun _ => fun
  | [d, g1, g2] => { results := [.lit (.bool true)], args := [d], vars := [g1, g2] }
  | _ => none }
def fnExactStoreTextRow : OpenClaim := { program := "ytgaadpkefncnmaagreatdoor", sum := "df3238b1f961402991ab56df312f5adf1ac9cf0b7d0e132b87c525f6f9a99cdc", func := "loop.example/g00538/laws.FnExactStoreText", spec := "fnExactStoreText", inPlace := ["internal/bytealg.IndexByteString", "internal/bytealg.Compare", "internal/bytealg.IndexString", "internal/bytealg.MakeNoZero"], unfollowed := true, recurses := true, named := ["loop.example/g00538/impl.objWords", "loop.example/g00538/impl.roundKeys", "internal/bytealg.MaxLen"], loops := true, apart := false, laid := [("loop.example/g00538/impl.roundKeys", laid_loop_example_g00538_impl_roundKeys), ("loop.example/g00538/impl.objWords", laid_loop_example_g00538_impl_objWords)] }
def FnExactStoreTextSaid : Prop := fnExactStoreTextRow.holds Tryz.pinned (OpenSpec.ofChange fnExactStoreTextSpec)

/-- ITS FALSE NEIGHBOUR: 'it returns false'. Refute it at one input. -/
def fnExactStoreTextWrong : ChangeSpec := { name := "fnExactStoreText", vars := ["loop.example/g00538/impl.objWords", "loop.example/g00538/impl.roundKeys"], fn := fun _ => fun
  | [d, g1, g2] => { results := [.lit (.bool false)], args := [d], vars := [g1, g2] }
  | _ => none }
def FnExactStoreTextWrongFalsely : Prop := fnExactStoreTextRow.holds Tryz.pinned (OpenSpec.ofChange fnExactStoreTextWrong)

/-- 'laws.FnExactEngineOk': WHATEVER THE INPUT: true; the input reads as it did. -/
def fnExactEngineOkSpec : ChangeSpec := { name := "fnExactEngineOk", vars := ["loop.example/g00538/impl.roundKeys"], fn := fun _ => fun
  | [d, g1] => { results := [.lit (.bool true)], args := [d], vars := [g1] }
  | _ => none }
def fnExactEngineOkRow : OpenClaim := { program := "ytgaadpkefncnmaagreatdoor", sum := "df3238b1f961402991ab56df312f5adf1ac9cf0b7d0e132b87c525f6f9a99cdc", func := "loop.example/g00538/laws.FnExactEngineOk", spec := "fnExactEngineOk", inPlace := ["internal/bytealg.IndexByteString", "internal/bytealg.Compare", "internal/bytealg.IndexString"], unfollowed := true, recurses := true, named := ["loop.example/g00538/impl.roundKeys", "internal/bytealg.MaxLen"], loops := true, apart := false, laid := [("loop.example/g00538/impl.roundKeys", laid_loop_example_g00538_impl_roundKeys)] }
def FnExactEngineOkSaid : Prop := fnExactEngineOkRow.holds Tryz.pinned (OpenSpec.ofChange fnExactEngineOkSpec)

/-- ITS FALSE NEIGHBOUR: 'it returns false'. Refute it at one input. -/
def fnExactEngineOkWrong : ChangeSpec := { name := "fnExactEngineOk", vars := ["loop.example/g00538/impl.roundKeys"], fn := fun _ => fun
  | [d, g1] => { results := [.lit (.bool false)], args := [d], vars := [g1] }
  | _ => none }
def FnExactEngineOkWrongFalsely : Prop := fnExactEngineOkRow.holds Tryz.pinned (OpenSpec.ofChange fnExactEngineOkWrong)

/-- 'laws.FnExactCountGoals': WHATEVER THE INPUT: true; the input reads as it did. -/
def fnExactCountGoalsSpec : ChangeSpec := { name := "fnExactCountGoals", vars := ["loop.example/g00538/impl.roundKeys"], fn := fun _ => fun
  | [d1, d2, g1] => { results := [.lit (.bool true)], args := [d1, d2], vars := [g1] }
  | _ => none }
def fnExactCountGoalsRow : OpenClaim := { program := "ytgaadpkefncnmaagreatdoor", sum := "df3238b1f961402991ab56df312f5adf1ac9cf0b7d0e132b87c525f6f9a99cdc", func := "loop.example/g00538/laws.FnExactCountGoals", spec := "fnExactCountGoals", inPlace := ["internal/bytealg.IndexByteString", "internal/bytealg.Compare", "internal/bytealg.IndexString"], unfollowed := true, recurses := true, named := ["loop.example/g00538/impl.roundKeys", "internal/bytealg.MaxLen"], loops := true, apart := false, laid := [("loop.example/g00538/impl.roundKeys", laid_loop_example_g00538_impl_roundKeys)] }
def FnExactCountGoalsSaid : Prop := fnExactCountGoalsRow.holds Tryz.pinned (OpenSpec.ofChange fnExactCountGoalsSpec)

/-- ITS FALSE NEIGHBOUR: 'it returns false'. Refute it at one input. -/
def fnExactCountGoalsWrong : ChangeSpec := { name := "fnExactCountGoals", vars := ["loop.example/g00538/impl.roundKeys"], fn := fun _ => fun
  | [d1, d2, g1] => { results := [.lit (.bool false)], args := [d1, d2], vars := [g1] }
  | _ => none }
def FnExactCountGoalsWrongFalsely : Prop := fnExactCountGoalsRow.holds Tryz.pinned (OpenSpec.ofChange fnExactCountGoalsWrong)

/-- 'laws.FnExactGoalAt': WHATEVER THE INPUT: true; the input reads as it did. -/
def fnExactGoalAtSpec : ChangeSpec := { name := "fnExactGoalAt", vars := ["loop.example/g00538/impl.roundKeys"], fn := fun _ => fun
  | [d1, d2, g1] => { results := [.lit (.bool true)], args := [d1, d2], vars := [g1] }
  | _ => none }
def fnExactGoalAtRow : OpenClaim := { program := "ytgaadpkefncnmaagreatdoor", sum := "df3238b1f961402991ab56df312f5adf1ac9cf0b7d0e132b87c525f6f9a99cdc", func := "loop.example/g00538/laws.FnExactGoalAt", spec := "fnExactGoalAt", inPlace := ["internal/bytealg.IndexByteString", "internal/bytealg.Compare", "internal/bytealg.IndexString"], unfollowed := true, recurses := true, named := ["loop.example/g00538/impl.roundKeys", "internal/bytealg.MaxLen"], loops := true, apart := false, laid := [("loop.example/g00538/impl.roundKeys", laid_loop_example_g00538_impl_roundKeys)] }
def FnExactGoalAtSaid : Prop := fnExactGoalAtRow.holds Tryz.pinned (OpenSpec.ofChange fnExactGoalAtSpec)

/-- ITS FALSE NEIGHBOUR: 'it returns false'. Refute it at one input. -/
def fnExactGoalAtWrong : ChangeSpec := { name := "fnExactGoalAt", vars := ["loop.example/g00538/impl.roundKeys"], fn := fun _ => fun
  | [d1, d2, g1] => { results := [.lit (.bool false)], args := [d1, d2], vars := [g1] }
  | _ => none }
def FnExactGoalAtWrongFalsely : Prop := fnExactGoalAtRow.holds Tryz.pinned (OpenSpec.ofChange fnExactGoalAtWrong)

/-- 'laws.FnExactOver': WHATEVER THE INPUT: true; the input reads as it did. -/
def fnExactOverSpec : ChangeSpec := { name := "fnExactOver", vars := ["loop.example/g00538/impl.roundKeys"], fn := fun _ => fun
  | [d, g1] => { results := [.lit (.bool true)], args := [d], vars := [g1] }
  | _ => none }
def fnExactOverRow : OpenClaim := { program := "ytgaadpkefncnmaagreatdoor", sum := "df3238b1f961402991ab56df312f5adf1ac9cf0b7d0e132b87c525f6f9a99cdc", func := "loop.example/g00538/laws.FnExactOver", spec := "fnExactOver", inPlace := ["internal/bytealg.IndexByteString", "internal/bytealg.Compare", "internal/bytealg.IndexString"], unfollowed := true, recurses := true, named := ["loop.example/g00538/impl.roundKeys", "internal/bytealg.MaxLen"], loops := true, apart := false, laid := [("loop.example/g00538/impl.roundKeys", laid_loop_example_g00538_impl_roundKeys)] }
def FnExactOverSaid : Prop := fnExactOverRow.holds Tryz.pinned (OpenSpec.ofChange fnExactOverSpec)

/-- ITS FALSE NEIGHBOUR: 'it returns false'. Refute it at one input. -/
def fnExactOverWrong : ChangeSpec := { name := "fnExactOver", vars := ["loop.example/g00538/impl.roundKeys"], fn := fun _ => fun
  | [d, g1] => { results := [.lit (.bool false)], args := [d], vars := [g1] }
  | _ => none }
def FnExactOverWrongFalsely : Prop := fnExactOverRow.holds Tryz.pinned (OpenSpec.ofChange fnExactOverWrong)

/- THE SECOND FORM. 'bulk': how many values and letters a reading holds, each counted each time it is reached (what is shared counts as often as it is met; a slice's spare places count too). A statement '..UptoSaid' is the law's where the arguments, and the package variables that the reading takes, are together of bulk at most 1048576: NARROWER than '..Said'. Prove '..Said' where nothing that the law and all that it calls make is longer than what came in: it says more and counts as full. Else prove '..UptoSaid'. A law counts once. -/
mutual
def uptoBulk {H : Type} : DataW H → Nat
  | .lit (.string bytes) => bytes.length + 1
  | .lit _ => 1
  | .nil => 1
  | .ptr d => uptoBulk d + 1
  | .slice elems spare => uptoBulkAll elems + uptoBulkAll spare + 1
  | .agg parts => uptoBulkAll parts + 1
  | .iface _ d => uptoBulk d + 1
  | .map entries => uptoBulkEntries entries + 1
  | .held _ => 1
def uptoBulkAll {H : Type} : List (DataW H) → Nat
  | [] => 0
  | d :: r => uptoBulk d + uptoBulkAll r
def uptoBulkEntries {H : Type} : List (Lit × DataW H) → Nat
  | [] => 0
  | x :: r => uptoBulkEntry x + uptoBulkEntries r
def uptoBulkEntry {H : Type} : Lit × DataW H → Nat
  | (.string bytes, d) => bytes.length + uptoBulk d + 1
  | (_, d) => uptoBulk d + 1
 end
def uptoSmall : (H : Type) → List (DataW H) → Bool := fun _ ds => decide (uptoBulkAll ds ≤ 1048576)
def OpenSpec.upto (s : _root_.Go.ChangeSpec) : _root_.Go.OpenSpec := { _root_.Go.OpenSpec.ofChange s with cond := some uptoSmall }

/-- 'laws.FnExactObjNames', WHERE WHAT IT READS IS OF BULK AT MOST 1048576: true; the input reads as it did. -/
def fnExactObjNamesUptoRow : OpenClaim := { program := "ytgaadpkefncnmaagreatdoor", sum := "df3238b1f961402991ab56df312f5adf1ac9cf0b7d0e132b87c525f6f9a99cdc", func := "loop.example/g00538/laws.FnExactObjNames", spec := "fnExactObjNames", inPlace := ["internal/bytealg.IndexByteString", "internal/bytealg.Compare", "internal/bytealg.IndexString"], unfollowed := true, recurses := true, named := ["loop.example/g00538/impl.roundKeys", "internal/bytealg.MaxLen"], loops := true, apart := false, laid := [("loop.example/g00538/impl.roundKeys", laid_loop_example_g00538_impl_roundKeys)], narrowed := true }
def FnExactObjNamesUptoSaid : Prop := fnExactObjNamesUptoRow.holds Tryz.pinned (OpenSpec.upto fnExactObjNamesSpec)

/-- 'laws.FnExactRefsOf', WHERE WHAT IT READS IS OF BULK AT MOST 1048576: true; the input reads as it did. -/
def fnExactRefsOfUptoRow : OpenClaim := { program := "ytgaadpkefncnmaagreatdoor", sum := "df3238b1f961402991ab56df312f5adf1ac9cf0b7d0e132b87c525f6f9a99cdc", func := "loop.example/g00538/laws.FnExactRefsOf", spec := "fnExactRefsOf", inPlace := ["internal/bytealg.IndexByteString", "internal/bytealg.Compare", "internal/bytealg.IndexString"], unfollowed := true, recurses := true, named := ["loop.example/g00538/impl.roundKeys", "internal/bytealg.MaxLen"], loops := true, apart := false, laid := [("loop.example/g00538/impl.roundKeys", laid_loop_example_g00538_impl_roundKeys)], narrowed := true }
def FnExactRefsOfUptoSaid : Prop := fnExactRefsOfUptoRow.holds Tryz.pinned (OpenSpec.upto fnExactRefsOfSpec)

/-- 'laws.FnExactUsersOf', WHERE WHAT IT READS IS OF BULK AT MOST 1048576: true; the input reads as it did. -/
def fnExactUsersOfUptoRow : OpenClaim := { program := "ytgaadpkefncnmaagreatdoor", sum := "df3238b1f961402991ab56df312f5adf1ac9cf0b7d0e132b87c525f6f9a99cdc", func := "loop.example/g00538/laws.FnExactUsersOf", spec := "fnExactUsersOf", inPlace := ["internal/bytealg.IndexByteString", "internal/bytealg.Compare", "internal/bytealg.IndexString"], unfollowed := true, recurses := true, named := ["loop.example/g00538/impl.roundKeys", "internal/bytealg.MaxLen"], loops := true, apart := false, laid := [("loop.example/g00538/impl.roundKeys", laid_loop_example_g00538_impl_roundKeys)], narrowed := true }
def FnExactUsersOfUptoSaid : Prop := fnExactUsersOfUptoRow.holds Tryz.pinned (OpenSpec.upto fnExactUsersOfSpec)

/-- 'laws.FnExactClosure', WHERE WHAT IT READS IS OF BULK AT MOST 1048576: true; the input reads as it did. -/
def fnExactClosureUptoRow : OpenClaim := { program := "ytgaadpkefncnmaagreatdoor", sum := "df3238b1f961402991ab56df312f5adf1ac9cf0b7d0e132b87c525f6f9a99cdc", func := "loop.example/g00538/laws.FnExactClosure", spec := "fnExactClosure", inPlace := ["internal/bytealg.IndexByteString", "internal/bytealg.Compare", "internal/bytealg.IndexString"], unfollowed := true, recurses := true, named := ["loop.example/g00538/impl.roundKeys", "internal/bytealg.MaxLen"], loops := true, apart := false, laid := [("loop.example/g00538/impl.roundKeys", laid_loop_example_g00538_impl_roundKeys)], narrowed := true }
def FnExactClosureUptoSaid : Prop := fnExactClosureUptoRow.holds Tryz.pinned (OpenSpec.upto fnExactClosureSpec)

/-- 'laws.FnExactFind', WHERE WHAT IT READS IS OF BULK AT MOST 1048576: true; the input reads as it did. -/
def fnExactFindUptoRow : OpenClaim := { program := "ytgaadpkefncnmaagreatdoor", sum := "df3238b1f961402991ab56df312f5adf1ac9cf0b7d0e132b87c525f6f9a99cdc", func := "loop.example/g00538/laws.FnExactFind", spec := "fnExactFind", inPlace := ["internal/bytealg.IndexByteString", "internal/bytealg.Compare", "internal/bytealg.IndexString"], unfollowed := true, recurses := true, named := ["loop.example/g00538/impl.roundKeys", "internal/bytealg.MaxLen"], loops := true, apart := false, laid := [("loop.example/g00538/impl.roundKeys", laid_loop_example_g00538_impl_roundKeys)], narrowed := true }
def FnExactFindUptoSaid : Prop := fnExactFindUptoRow.holds Tryz.pinned (OpenSpec.upto fnExactFindSpec)

/-- 'laws.FnExactAddRoot', WHERE WHAT IT READS IS OF BULK AT MOST 1048576: true; the input reads as it did. -/
def fnExactAddRootUptoRow : OpenClaim := { program := "ytgaadpkefncnmaagreatdoor", sum := "df3238b1f961402991ab56df312f5adf1ac9cf0b7d0e132b87c525f6f9a99cdc", func := "loop.example/g00538/laws.FnExactAddRoot", spec := "fnExactAddRoot", inPlace := ["internal/bytealg.IndexByteString", "internal/bytealg.Compare", "internal/bytealg.IndexString"], unfollowed := true, recurses := true, named := ["loop.example/g00538/impl.roundKeys", "internal/bytealg.MaxLen"], loops := true, apart := false, laid := [("loop.example/g00538/impl.roundKeys", laid_loop_example_g00538_impl_roundKeys)], narrowed := true }
def FnExactAddRootUptoSaid : Prop := fnExactAddRootUptoRow.holds Tryz.pinned (OpenSpec.upto fnExactAddRootSpec)

/-- 'laws.FnExactDropRoot', WHERE WHAT IT READS IS OF BULK AT MOST 1048576: true; the input reads as it did. -/
def fnExactDropRootUptoRow : OpenClaim := { program := "ytgaadpkefncnmaagreatdoor", sum := "df3238b1f961402991ab56df312f5adf1ac9cf0b7d0e132b87c525f6f9a99cdc", func := "loop.example/g00538/laws.FnExactDropRoot", spec := "fnExactDropRoot", inPlace := ["internal/bytealg.IndexByteString", "internal/bytealg.Compare", "internal/bytealg.IndexString"], unfollowed := true, recurses := true, named := ["loop.example/g00538/impl.roundKeys", "internal/bytealg.MaxLen"], loops := true, apart := false, laid := [("loop.example/g00538/impl.roundKeys", laid_loop_example_g00538_impl_roundKeys)], narrowed := true }
def FnExactDropRootUptoSaid : Prop := fnExactDropRootUptoRow.holds Tryz.pinned (OpenSpec.upto fnExactDropRootSpec)

/-- 'laws.FnExactStoreText', WHERE WHAT IT READS IS OF BULK AT MOST 1048576: true; the input reads as it did. -/
def fnExactStoreTextUptoRow : OpenClaim := { program := "ytgaadpkefncnmaagreatdoor", sum := "df3238b1f961402991ab56df312f5adf1ac9cf0b7d0e132b87c525f6f9a99cdc", func := "loop.example/g00538/laws.FnExactStoreText", spec := "fnExactStoreText", inPlace := ["internal/bytealg.IndexByteString", "internal/bytealg.Compare", "internal/bytealg.IndexString", "internal/bytealg.MakeNoZero"], unfollowed := true, recurses := true, named := ["loop.example/g00538/impl.objWords", "loop.example/g00538/impl.roundKeys", "internal/bytealg.MaxLen"], loops := true, apart := false, laid := [("loop.example/g00538/impl.roundKeys", laid_loop_example_g00538_impl_roundKeys), ("loop.example/g00538/impl.objWords", laid_loop_example_g00538_impl_objWords)], narrowed := true }
def FnExactStoreTextUptoSaid : Prop := fnExactStoreTextUptoRow.holds Tryz.pinned (OpenSpec.upto fnExactStoreTextSpec)

/-- 'laws.FnExactEngineOk', WHERE WHAT IT READS IS OF BULK AT MOST 1048576: true; the input reads as it did. -/
def fnExactEngineOkUptoRow : OpenClaim := { program := "ytgaadpkefncnmaagreatdoor", sum := "df3238b1f961402991ab56df312f5adf1ac9cf0b7d0e132b87c525f6f9a99cdc", func := "loop.example/g00538/laws.FnExactEngineOk", spec := "fnExactEngineOk", inPlace := ["internal/bytealg.IndexByteString", "internal/bytealg.Compare", "internal/bytealg.IndexString"], unfollowed := true, recurses := true, named := ["loop.example/g00538/impl.roundKeys", "internal/bytealg.MaxLen"], loops := true, apart := false, laid := [("loop.example/g00538/impl.roundKeys", laid_loop_example_g00538_impl_roundKeys)], narrowed := true }
def FnExactEngineOkUptoSaid : Prop := fnExactEngineOkUptoRow.holds Tryz.pinned (OpenSpec.upto fnExactEngineOkSpec)

/-- 'laws.FnExactCountGoals', WHERE WHAT IT READS IS OF BULK AT MOST 1048576: true; the input reads as it did. -/
def fnExactCountGoalsUptoRow : OpenClaim := { program := "ytgaadpkefncnmaagreatdoor", sum := "df3238b1f961402991ab56df312f5adf1ac9cf0b7d0e132b87c525f6f9a99cdc", func := "loop.example/g00538/laws.FnExactCountGoals", spec := "fnExactCountGoals", inPlace := ["internal/bytealg.IndexByteString", "internal/bytealg.Compare", "internal/bytealg.IndexString"], unfollowed := true, recurses := true, named := ["loop.example/g00538/impl.roundKeys", "internal/bytealg.MaxLen"], loops := true, apart := false, laid := [("loop.example/g00538/impl.roundKeys", laid_loop_example_g00538_impl_roundKeys)], narrowed := true }
def FnExactCountGoalsUptoSaid : Prop := fnExactCountGoalsUptoRow.holds Tryz.pinned (OpenSpec.upto fnExactCountGoalsSpec)

/-- 'laws.FnExactGoalAt', WHERE WHAT IT READS IS OF BULK AT MOST 1048576: true; the input reads as it did. -/
def fnExactGoalAtUptoRow : OpenClaim := { program := "ytgaadpkefncnmaagreatdoor", sum := "df3238b1f961402991ab56df312f5adf1ac9cf0b7d0e132b87c525f6f9a99cdc", func := "loop.example/g00538/laws.FnExactGoalAt", spec := "fnExactGoalAt", inPlace := ["internal/bytealg.IndexByteString", "internal/bytealg.Compare", "internal/bytealg.IndexString"], unfollowed := true, recurses := true, named := ["loop.example/g00538/impl.roundKeys", "internal/bytealg.MaxLen"], loops := true, apart := false, laid := [("loop.example/g00538/impl.roundKeys", laid_loop_example_g00538_impl_roundKeys)], narrowed := true }
def FnExactGoalAtUptoSaid : Prop := fnExactGoalAtUptoRow.holds Tryz.pinned (OpenSpec.upto fnExactGoalAtSpec)

/-- 'laws.FnExactOver', WHERE WHAT IT READS IS OF BULK AT MOST 1048576: true; the input reads as it did. -/
def fnExactOverUptoRow : OpenClaim := { program := "ytgaadpkefncnmaagreatdoor", sum := "df3238b1f961402991ab56df312f5adf1ac9cf0b7d0e132b87c525f6f9a99cdc", func := "loop.example/g00538/laws.FnExactOver", spec := "fnExactOver", inPlace := ["internal/bytealg.IndexByteString", "internal/bytealg.Compare", "internal/bytealg.IndexString"], unfollowed := true, recurses := true, named := ["loop.example/g00538/impl.roundKeys", "internal/bytealg.MaxLen"], loops := true, apart := false, laid := [("loop.example/g00538/impl.roundKeys", laid_loop_example_g00538_impl_roundKeys)], narrowed := true }
def FnExactOverUptoSaid : Prop := fnExactOverUptoRow.holds Tryz.pinned (OpenSpec.upto fnExactOverSpec)

end Rows
end Go.Proofs.YtgaadpkefncnmaaGreatDoor
