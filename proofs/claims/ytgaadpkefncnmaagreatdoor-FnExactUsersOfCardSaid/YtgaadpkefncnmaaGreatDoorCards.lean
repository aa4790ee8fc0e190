/-
  DERIVED. GIVEN WITH THE SEED: THE CARDS: each row of YtgaadpkefncnmaaGreatDoorRows.lean that lists a variable, with what it lists TIED to the program's text (the seventh form; the later family's looks); each row that meets fmt, with fmt's text TOLD by the authors' own Lean function (tested against real Go, not proved from fmt's source: count such statements apart). THE CARD IS WHAT COUNTS. Prove the row's statement (the work); the ties are given (YtgaadpkefncnmaaGreatDoorTie.lean); close each card by the builder's one call (the guide's Derived/Test/ToyasCard.lean, 'card_holds'). Laid BY PROGRAM, IN A SANDBOX (cutbox-door.mjs). By AI agents, Wed Nov 11 2026. No macro, syntax, notation, axiom, sorry.
-/
import Derived.Test.YtgaadpkefncnmaaGreatDoorRows
import GoSem.ClaimSeven
namespace Go.Proofs.YtgaadpkefncnmaaGreatDoor
namespace Rows

/-- THE TIED CARD OF 'laws.FnExactObjNames'. -/
def fnExactObjNamesCard : Claim7 := { stood := { row := fnExactObjNamesRow, standIns := [], harness := (true, "523e68937a29fa1c91bc7d041838570df1411aa2257a4c839db858fb35b27603"), looks := true }, kinds := [], alts := [], laidByText := true, laidKinds := [.data], laidTests := true, laidLooks := .later }
def FnExactObjNamesCardSaid : Prop := Claim7.holds Tryz.pinned (.plain (OpenSpec.ofChange fnExactObjNamesSpec)) fnExactObjNamesCard

/-- THE TIED CARD OF 'laws.FnExactRefsOf'. -/
def fnExactRefsOfCard : Claim7 := { stood := { row := fnExactRefsOfRow, standIns := [], harness := (true, "523e68937a29fa1c91bc7d041838570df1411aa2257a4c839db858fb35b27603"), looks := true }, kinds := [], alts := [], laidByText := true, laidKinds := [.data], laidTests := true, laidLooks := .later }
def FnExactRefsOfCardSaid : Prop := Claim7.holds Tryz.pinned (.plain (OpenSpec.ofChange fnExactRefsOfSpec)) fnExactRefsOfCard

/-- THE TIED CARD OF 'laws.FnExactUsersOf'. -/
def fnExactUsersOfCard : Claim7 := { stood := { row := fnExactUsersOfRow, standIns := [], harness := (true, "523e68937a29fa1c91bc7d041838570df1411aa2257a4c839db858fb35b27603"), looks := true }, kinds := [], alts := [], laidByText := true, laidKinds := [.data], laidTests := true, laidLooks := .later }
def FnExactUsersOfCardSaid : Prop := Claim7.holds Tryz.pinned (.plain (OpenSpec.ofChange fnExactUsersOfSpec)) fnExactUsersOfCard

/-- THE TIED CARD OF 'laws.FnExactClosure'. -/
def fnExactClosureCard : Claim7 := { stood := { row := fnExactClosureRow, standIns := [], harness := (true, "523e68937a29fa1c91bc7d041838570df1411aa2257a4c839db858fb35b27603"), looks := true }, kinds := [], alts := [], laidByText := true, laidKinds := [.data], laidTests := true, laidLooks := .later }
def FnExactClosureCardSaid : Prop := Claim7.holds Tryz.pinned (.plain (OpenSpec.ofChange fnExactClosureSpec)) fnExactClosureCard

/-- THE TIED CARD OF 'laws.FnExactFind'. -/
def fnExactFindCard : Claim7 := { stood := { row := fnExactFindRow, standIns := [], harness := (true, "523e68937a29fa1c91bc7d041838570df1411aa2257a4c839db858fb35b27603"), looks := true }, kinds := [], alts := [], laidByText := true, laidKinds := [.data], laidTests := true, laidLooks := .later }
def FnExactFindCardSaid : Prop := Claim7.holds Tryz.pinned (.plain (OpenSpec.ofChange fnExactFindSpec)) fnExactFindCard

/-- THE TIED CARD OF 'laws.FnExactAddRoot'. -/
def fnExactAddRootCard : Claim7 := { stood := { row := fnExactAddRootRow, standIns := [], harness := (true, "523e68937a29fa1c91bc7d041838570df1411aa2257a4c839db858fb35b27603"), looks := true }, kinds := [], alts := [], laidByText := true, laidKinds := [.data], laidTests := true, laidLooks := .later }
def FnExactAddRootCardSaid : Prop := Claim7.holds Tryz.pinned (.plain (OpenSpec.ofChange fnExactAddRootSpec)) fnExactAddRootCard

/-- THE TIED CARD OF 'laws.FnExactDropRoot'. -/
def fnExactDropRootCard : Claim7 := { stood := { row := fnExactDropRootRow, standIns := [], harness := (true, "523e68937a29fa1c91bc7d041838570df1411aa2257a4c839db858fb35b27603"), looks := true }, kinds := [], alts := [], laidByText := true, laidKinds := [.data], laidTests := true, laidLooks := .later }
def FnExactDropRootCardSaid : Prop := Claim7.holds Tryz.pinned (.plain (OpenSpec.ofChange fnExactDropRootSpec)) fnExactDropRootCard

/-- THE TIED CARD OF 'laws.FnExactStoreText'. -/
def fnExactStoreTextCard : Claim7 := { stood := { row := fnExactStoreTextRow, standIns := [], harness := (true, "523e68937a29fa1c91bc7d041838570df1411aa2257a4c839db858fb35b27603"), looks := true }, kinds := [], alts := [], laidByText := true, laidKinds := [.data, .data], laidTests := true, laidLooks := .later }
def FnExactStoreTextCardSaid : Prop := Claim7.holds Tryz.pinned (.plain (OpenSpec.ofChange fnExactStoreTextSpec)) fnExactStoreTextCard

/-- THE TIED CARD OF 'laws.FnExactEngineOk'. -/
def fnExactEngineOkCard : Claim7 := { stood := { row := fnExactEngineOkRow, standIns := [], harness := (true, "523e68937a29fa1c91bc7d041838570df1411aa2257a4c839db858fb35b27603"), looks := true }, kinds := [], alts := [], laidByText := true, laidKinds := [.data], laidTests := true, laidLooks := .later }
def FnExactEngineOkCardSaid : Prop := Claim7.holds Tryz.pinned (.plain (OpenSpec.ofChange fnExactEngineOkSpec)) fnExactEngineOkCard

/-- THE TIED CARD OF 'laws.FnExactCountGoals'. -/
def fnExactCountGoalsCard : Claim7 := { stood := { row := fnExactCountGoalsRow, standIns := [], harness := (true, "523e68937a29fa1c91bc7d041838570df1411aa2257a4c839db858fb35b27603"), looks := true }, kinds := [], alts := [], laidByText := true, laidKinds := [.data], laidTests := true, laidLooks := .later }
def FnExactCountGoalsCardSaid : Prop := Claim7.holds Tryz.pinned (.plain (OpenSpec.ofChange fnExactCountGoalsSpec)) fnExactCountGoalsCard

/-- THE TIED CARD OF 'laws.FnExactGoalAt'. -/
def fnExactGoalAtCard : Claim7 := { stood := { row := fnExactGoalAtRow, standIns := [], harness := (true, "523e68937a29fa1c91bc7d041838570df1411aa2257a4c839db858fb35b27603"), looks := true }, kinds := [], alts := [], laidByText := true, laidKinds := [.data], laidTests := true, laidLooks := .later }
def FnExactGoalAtCardSaid : Prop := Claim7.holds Tryz.pinned (.plain (OpenSpec.ofChange fnExactGoalAtSpec)) fnExactGoalAtCard

/-- THE TIED CARD OF 'laws.FnExactOver'. -/
def fnExactOverCard : Claim7 := { stood := { row := fnExactOverRow, standIns := [], harness := (true, "523e68937a29fa1c91bc7d041838570df1411aa2257a4c839db858fb35b27603"), looks := true }, kinds := [], alts := [], laidByText := true, laidKinds := [.data], laidTests := true, laidLooks := .later }
def FnExactOverCardSaid : Prop := Claim7.holds Tryz.pinned (.plain (OpenSpec.ofChange fnExactOverSpec)) fnExactOverCard

/-- THE SECOND FORM's CARD OF 'laws.FnExactObjNames'. -/
def fnExactObjNamesUptoCard : Claim7 := { stood := { row := fnExactObjNamesUptoRow, standIns := [], harness := (true, "523e68937a29fa1c91bc7d041838570df1411aa2257a4c839db858fb35b27603"), looks := true }, kinds := [], alts := [], laidByText := true, laidKinds := [.data], laidTests := true, laidLooks := .later }
def FnExactObjNamesUptoCardSaid : Prop := Claim7.holds Tryz.pinned (.plain (OpenSpec.upto fnExactObjNamesSpec)) fnExactObjNamesUptoCard

/-- THE SECOND FORM's CARD OF 'laws.FnExactRefsOf'. -/
def fnExactRefsOfUptoCard : Claim7 := { stood := { row := fnExactRefsOfUptoRow, standIns := [], harness := (true, "523e68937a29fa1c91bc7d041838570df1411aa2257a4c839db858fb35b27603"), looks := true }, kinds := [], alts := [], laidByText := true, laidKinds := [.data], laidTests := true, laidLooks := .later }
def FnExactRefsOfUptoCardSaid : Prop := Claim7.holds Tryz.pinned (.plain (OpenSpec.upto fnExactRefsOfSpec)) fnExactRefsOfUptoCard

/-- THE SECOND FORM's CARD OF 'laws.FnExactUsersOf'. -/
def fnExactUsersOfUptoCard : Claim7 := { stood := { row := fnExactUsersOfUptoRow, standIns := [], harness := (true, "523e68937a29fa1c91bc7d041838570df1411aa2257a4c839db858fb35b27603"), looks := true }, kinds := [], alts := [], laidByText := true, laidKinds := [.data], laidTests := true, laidLooks := .later }
def FnExactUsersOfUptoCardSaid : Prop := Claim7.holds Tryz.pinned (.plain (OpenSpec.upto fnExactUsersOfSpec)) fnExactUsersOfUptoCard

/-- THE SECOND FORM's CARD OF 'laws.FnExactClosure'. -/
def fnExactClosureUptoCard : Claim7 := { stood := { row := fnExactClosureUptoRow, standIns := [], harness := (true, "523e68937a29fa1c91bc7d041838570df1411aa2257a4c839db858fb35b27603"), looks := true }, kinds := [], alts := [], laidByText := true, laidKinds := [.data], laidTests := true, laidLooks := .later }
def FnExactClosureUptoCardSaid : Prop := Claim7.holds Tryz.pinned (.plain (OpenSpec.upto fnExactClosureSpec)) fnExactClosureUptoCard

/-- THE SECOND FORM's CARD OF 'laws.FnExactFind'. -/
def fnExactFindUptoCard : Claim7 := { stood := { row := fnExactFindUptoRow, standIns := [], harness := (true, "523e68937a29fa1c91bc7d041838570df1411aa2257a4c839db858fb35b27603"), looks := true }, kinds := [], alts := [], laidByText := true, laidKinds := [.data], laidTests := true, laidLooks := .later }
def FnExactFindUptoCardSaid : Prop := Claim7.holds Tryz.pinned (.plain (OpenSpec.upto fnExactFindSpec)) fnExactFindUptoCard

/-- THE SECOND FORM's CARD OF 'laws.FnExactAddRoot'. -/
def fnExactAddRootUptoCard : Claim7 := { stood := { row := fnExactAddRootUptoRow, standIns := [], harness := (true, "523e68937a29fa1c91bc7d041838570df1411aa2257a4c839db858fb35b27603"), looks := true }, kinds := [], alts := [], laidByText := true, laidKinds := [.data], laidTests := true, laidLooks := .later }
def FnExactAddRootUptoCardSaid : Prop := Claim7.holds Tryz.pinned (.plain (OpenSpec.upto fnExactAddRootSpec)) fnExactAddRootUptoCard

/-- THE SECOND FORM's CARD OF 'laws.FnExactDropRoot'. -/
def fnExactDropRootUptoCard : Claim7 := { stood := { row := fnExactDropRootUptoRow, standIns := [], harness := (true, "523e68937a29fa1c91bc7d041838570df1411aa2257a4c839db858fb35b27603"), looks := true }, kinds := [], alts := [], laidByText := true, laidKinds := [.data], laidTests := true, laidLooks := .later }
def FnExactDropRootUptoCardSaid : Prop := Claim7.holds Tryz.pinned (.plain (OpenSpec.upto fnExactDropRootSpec)) fnExactDropRootUptoCard

/-- THE SECOND FORM's CARD OF 'laws.FnExactStoreText'. -/
def fnExactStoreTextUptoCard : Claim7 := { stood := { row := fnExactStoreTextUptoRow, standIns := [], harness := (true, "523e68937a29fa1c91bc7d041838570df1411aa2257a4c839db858fb35b27603"), looks := true }, kinds := [], alts := [], laidByText := true, laidKinds := [.data, .data], laidTests := true, laidLooks := .later }
def FnExactStoreTextUptoCardSaid : Prop := Claim7.holds Tryz.pinned (.plain (OpenSpec.upto fnExactStoreTextSpec)) fnExactStoreTextUptoCard

/-- THE SECOND FORM's CARD OF 'laws.FnExactEngineOk'. -/
def fnExactEngineOkUptoCard : Claim7 := { stood := { row := fnExactEngineOkUptoRow, standIns := [], harness := (true, "523e68937a29fa1c91bc7d041838570df1411aa2257a4c839db858fb35b27603"), looks := true }, kinds := [], alts := [], laidByText := true, laidKinds := [.data], laidTests := true, laidLooks := .later }
def FnExactEngineOkUptoCardSaid : Prop := Claim7.holds Tryz.pinned (.plain (OpenSpec.upto fnExactEngineOkSpec)) fnExactEngineOkUptoCard

/-- THE SECOND FORM's CARD OF 'laws.FnExactCountGoals'. -/
def fnExactCountGoalsUptoCard : Claim7 := { stood := { row := fnExactCountGoalsUptoRow, standIns := [], harness := (true, "523e68937a29fa1c91bc7d041838570df1411aa2257a4c839db858fb35b27603"), looks := true }, kinds := [], alts := [], laidByText := true, laidKinds := [.data], laidTests := true, laidLooks := .later }
def FnExactCountGoalsUptoCardSaid : Prop := Claim7.holds Tryz.pinned (.plain (OpenSpec.upto fnExactCountGoalsSpec)) fnExactCountGoalsUptoCard

/-- THE SECOND FORM's CARD OF 'laws.FnExactGoalAt'. -/
def fnExactGoalAtUptoCard : Claim7 := { stood := { row := fnExactGoalAtUptoRow, standIns := [], harness := (true, "523e68937a29fa1c91bc7d041838570df1411aa2257a4c839db858fb35b27603"), looks := true }, kinds := [], alts := [], laidByText := true, laidKinds := [.data], laidTests := true, laidLooks := .later }
def FnExactGoalAtUptoCardSaid : Prop := Claim7.holds Tryz.pinned (.plain (OpenSpec.upto fnExactGoalAtSpec)) fnExactGoalAtUptoCard

/-- THE SECOND FORM's CARD OF 'laws.FnExactOver'. -/
def fnExactOverUptoCard : Claim7 := { stood := { row := fnExactOverUptoRow, standIns := [], harness := (true, "523e68937a29fa1c91bc7d041838570df1411aa2257a4c839db858fb35b27603"), looks := true }, kinds := [], alts := [], laidByText := true, laidKinds := [.data], laidTests := true, laidLooks := .later }
def FnExactOverUptoCardSaid : Prop := Claim7.holds Tryz.pinned (.plain (OpenSpec.upto fnExactOverSpec)) fnExactOverUptoCard
end Rows
end Go.Proofs.YtgaadpkefncnmaaGreatDoor
