/-
  DERIVED. GIVEN WITH THE SEED: THE CARDS: each row of YtmhapnlgakkljaaGreatDoorRows.lean that lists a variable, with what it lists TIED to the program's text (the seventh form; the later family's looks); each row that meets fmt, with fmt's text TOLD by the authors' own Lean function (tested against real Go, not proved from fmt's source: count such statements apart). THE CARD IS WHAT COUNTS. Prove the row's statement (the work); the ties are given (YtmhapnlgakkljaaGreatDoorTie.lean); close each card by the builder's one call (the guide's Derived/Test/ToyasCard.lean, 'card_holds'). Laid BY PROGRAM, IN A SANDBOX (cutbox-door.mjs). By AI agents, Wed Nov 11 2026. No macro, syntax, notation, axiom, sorry.
-/
import Derived.Test.YtmhapnlgakkljaaGreatDoorRows
import GoSem.ClaimSeven
namespace Go.Proofs.YtmhapnlgakkljaaGreatDoor
namespace Rows

/-- THE TIED CARD OF 'laws.FnExactStoreOk'. -/
def fnExactStoreOkCard : Claim7 := { stood := { row := fnExactStoreOkRow, standIns := [], harness := (true, "35d7b4f6e57d411eb51c4172a836a03722f22de16c5162f872d746a91812e1c5"), looks := false }, kinds := [], alts := [], laidByText := true, laidKinds := [.data], laidTests := true, laidLooks := .later }
def FnExactStoreOkCardSaid : Prop := Claim7.holds Tryz.pinned (.plain (OpenSpec.ofChange fnExactStoreOkSpec)) fnExactStoreOkCard

/-- THE TIED CARD OF 'laws.FnExactIsRoot'. -/
def fnExactIsRootCard : Claim7 := { stood := { row := fnExactIsRootRow, standIns := [], harness := (true, "35d7b4f6e57d411eb51c4172a836a03722f22de16c5162f872d746a91812e1c5"), looks := false }, kinds := [], alts := [], laidByText := true, laidKinds := [.data], laidTests := true, laidLooks := .later }
def FnExactIsRootCardSaid : Prop := Claim7.holds Tryz.pinned (.plain (OpenSpec.ofChange fnExactIsRootSpec)) fnExactIsRootCard

/-- THE TIED CARD OF 'laws.FnExactCountObjs'. -/
def fnExactCountObjsCard : Claim7 := { stood := { row := fnExactCountObjsRow, standIns := [], harness := (true, "35d7b4f6e57d411eb51c4172a836a03722f22de16c5162f872d746a91812e1c5"), looks := false }, kinds := [], alts := [], laidByText := true, laidKinds := [.data], laidTests := true, laidLooks := .later }
def FnExactCountObjsCardSaid : Prop := Claim7.holds Tryz.pinned (.plain (OpenSpec.ofChange fnExactCountObjsSpec)) fnExactCountObjsCard

/-- THE TIED CARD OF 'laws.FnExactObjNames'. -/
def fnExactObjNamesCard : Claim7 := { stood := { row := fnExactObjNamesRow, standIns := [], harness := (true, "35d7b4f6e57d411eb51c4172a836a03722f22de16c5162f872d746a91812e1c5"), looks := false }, kinds := [], alts := [], laidByText := true, laidKinds := [.data], laidTests := true, laidLooks := .later }
def FnExactObjNamesCardSaid : Prop := Claim7.holds Tryz.pinned (.plain (OpenSpec.ofChange fnExactObjNamesSpec)) fnExactObjNamesCard

/-- THE TIED CARD OF 'laws.FnExactRealOf'. -/
def fnExactRealOfCard : Claim7 := { stood := { row := fnExactRealOfRow, standIns := [], harness := (true, "35d7b4f6e57d411eb51c4172a836a03722f22de16c5162f872d746a91812e1c5"), looks := false }, kinds := [], alts := [], laidByText := true, laidKinds := [.data], laidTests := true, laidLooks := .later }
def FnExactRealOfCardSaid : Prop := Claim7.holds Tryz.pinned (.plain (OpenSpec.ofChange fnExactRealOfSpec)) fnExactRealOfCard

/-- THE TIED CARD OF 'laws.FnExactFind'. -/
def fnExactFindCard : Claim7 := { stood := { row := fnExactFindRow, standIns := [], harness := (true, "35d7b4f6e57d411eb51c4172a836a03722f22de16c5162f872d746a91812e1c5"), looks := false }, kinds := [], alts := [], laidByText := true, laidKinds := [.data], laidTests := true, laidLooks := .later }
def FnExactFindCardSaid : Prop := Claim7.holds Tryz.pinned (.plain (OpenSpec.ofChange fnExactFindSpec)) fnExactFindCard

/-- THE TIED CARD OF 'laws.FnExactRefsOf'. -/
def fnExactRefsOfCard : Claim7 := { stood := { row := fnExactRefsOfRow, standIns := [], harness := (true, "35d7b4f6e57d411eb51c4172a836a03722f22de16c5162f872d746a91812e1c5"), looks := false }, kinds := [], alts := [], laidByText := true, laidKinds := [.data], laidTests := true, laidLooks := .later }
def FnExactRefsOfCardSaid : Prop := Claim7.holds Tryz.pinned (.plain (OpenSpec.ofChange fnExactRefsOfSpec)) fnExactRefsOfCard

/-- THE TIED CARD OF 'laws.FnExactClosure'. -/
def fnExactClosureCard : Claim7 := { stood := { row := fnExactClosureRow, standIns := [], harness := (true, "35d7b4f6e57d411eb51c4172a836a03722f22de16c5162f872d746a91812e1c5"), looks := false }, kinds := [], alts := [], laidByText := true, laidKinds := [.data], laidTests := true, laidLooks := .later }
def FnExactClosureCardSaid : Prop := Claim7.holds Tryz.pinned (.plain (OpenSpec.ofChange fnExactClosureSpec)) fnExactClosureCard

/-- THE TIED CARD OF 'laws.FnExactUsersOf'. -/
def fnExactUsersOfCard : Claim7 := { stood := { row := fnExactUsersOfRow, standIns := [], harness := (true, "35d7b4f6e57d411eb51c4172a836a03722f22de16c5162f872d746a91812e1c5"), looks := false }, kinds := [], alts := [], laidByText := true, laidKinds := [.data], laidTests := true, laidLooks := .later }
def FnExactUsersOfCardSaid : Prop := Claim7.holds Tryz.pinned (.plain (OpenSpec.ofChange fnExactUsersOfSpec)) fnExactUsersOfCard

/-- THE SECOND FORM's CARD OF 'laws.FnExactStoreOk'. -/
def fnExactStoreOkUptoCard : Claim7 := { stood := { row := fnExactStoreOkUptoRow, standIns := [], harness := (true, "35d7b4f6e57d411eb51c4172a836a03722f22de16c5162f872d746a91812e1c5"), looks := false }, kinds := [], alts := [], laidByText := true, laidKinds := [.data], laidTests := true, laidLooks := .later }
def FnExactStoreOkUptoCardSaid : Prop := Claim7.holds Tryz.pinned (.plain (OpenSpec.upto fnExactStoreOkSpec)) fnExactStoreOkUptoCard

/-- THE SECOND FORM's CARD OF 'laws.FnExactIsRoot'. -/
def fnExactIsRootUptoCard : Claim7 := { stood := { row := fnExactIsRootUptoRow, standIns := [], harness := (true, "35d7b4f6e57d411eb51c4172a836a03722f22de16c5162f872d746a91812e1c5"), looks := false }, kinds := [], alts := [], laidByText := true, laidKinds := [.data], laidTests := true, laidLooks := .later }
def FnExactIsRootUptoCardSaid : Prop := Claim7.holds Tryz.pinned (.plain (OpenSpec.upto fnExactIsRootSpec)) fnExactIsRootUptoCard

/-- THE SECOND FORM's CARD OF 'laws.FnExactCountObjs'. -/
def fnExactCountObjsUptoCard : Claim7 := { stood := { row := fnExactCountObjsUptoRow, standIns := [], harness := (true, "35d7b4f6e57d411eb51c4172a836a03722f22de16c5162f872d746a91812e1c5"), looks := false }, kinds := [], alts := [], laidByText := true, laidKinds := [.data], laidTests := true, laidLooks := .later }
def FnExactCountObjsUptoCardSaid : Prop := Claim7.holds Tryz.pinned (.plain (OpenSpec.upto fnExactCountObjsSpec)) fnExactCountObjsUptoCard

/-- THE SECOND FORM's CARD OF 'laws.FnExactObjNames'. -/
def fnExactObjNamesUptoCard : Claim7 := { stood := { row := fnExactObjNamesUptoRow, standIns := [], harness := (true, "35d7b4f6e57d411eb51c4172a836a03722f22de16c5162f872d746a91812e1c5"), looks := false }, kinds := [], alts := [], laidByText := true, laidKinds := [.data], laidTests := true, laidLooks := .later }
def FnExactObjNamesUptoCardSaid : Prop := Claim7.holds Tryz.pinned (.plain (OpenSpec.upto fnExactObjNamesSpec)) fnExactObjNamesUptoCard

/-- THE SECOND FORM's CARD OF 'laws.FnExactRealOf'. -/
def fnExactRealOfUptoCard : Claim7 := { stood := { row := fnExactRealOfUptoRow, standIns := [], harness := (true, "35d7b4f6e57d411eb51c4172a836a03722f22de16c5162f872d746a91812e1c5"), looks := false }, kinds := [], alts := [], laidByText := true, laidKinds := [.data], laidTests := true, laidLooks := .later }
def FnExactRealOfUptoCardSaid : Prop := Claim7.holds Tryz.pinned (.plain (OpenSpec.upto fnExactRealOfSpec)) fnExactRealOfUptoCard

/-- THE SECOND FORM's CARD OF 'laws.FnExactFind'. -/
def fnExactFindUptoCard : Claim7 := { stood := { row := fnExactFindUptoRow, standIns := [], harness := (true, "35d7b4f6e57d411eb51c4172a836a03722f22de16c5162f872d746a91812e1c5"), looks := false }, kinds := [], alts := [], laidByText := true, laidKinds := [.data], laidTests := true, laidLooks := .later }
def FnExactFindUptoCardSaid : Prop := Claim7.holds Tryz.pinned (.plain (OpenSpec.upto fnExactFindSpec)) fnExactFindUptoCard

/-- THE SECOND FORM's CARD OF 'laws.FnExactRefsOf'. -/
def fnExactRefsOfUptoCard : Claim7 := { stood := { row := fnExactRefsOfUptoRow, standIns := [], harness := (true, "35d7b4f6e57d411eb51c4172a836a03722f22de16c5162f872d746a91812e1c5"), looks := false }, kinds := [], alts := [], laidByText := true, laidKinds := [.data], laidTests := true, laidLooks := .later }
def FnExactRefsOfUptoCardSaid : Prop := Claim7.holds Tryz.pinned (.plain (OpenSpec.upto fnExactRefsOfSpec)) fnExactRefsOfUptoCard

/-- THE SECOND FORM's CARD OF 'laws.FnExactClosure'. -/
def fnExactClosureUptoCard : Claim7 := { stood := { row := fnExactClosureUptoRow, standIns := [], harness := (true, "35d7b4f6e57d411eb51c4172a836a03722f22de16c5162f872d746a91812e1c5"), looks := false }, kinds := [], alts := [], laidByText := true, laidKinds := [.data], laidTests := true, laidLooks := .later }
def FnExactClosureUptoCardSaid : Prop := Claim7.holds Tryz.pinned (.plain (OpenSpec.upto fnExactClosureSpec)) fnExactClosureUptoCard

/-- THE SECOND FORM's CARD OF 'laws.FnExactUsersOf'. -/
def fnExactUsersOfUptoCard : Claim7 := { stood := { row := fnExactUsersOfUptoRow, standIns := [], harness := (true, "35d7b4f6e57d411eb51c4172a836a03722f22de16c5162f872d746a91812e1c5"), looks := false }, kinds := [], alts := [], laidByText := true, laidKinds := [.data], laidTests := true, laidLooks := .later }
def FnExactUsersOfUptoCardSaid : Prop := Claim7.holds Tryz.pinned (.plain (OpenSpec.upto fnExactUsersOfSpec)) fnExactUsersOfUptoCard
end Rows
end Go.Proofs.YtmhapnlgakkljaaGreatDoor
