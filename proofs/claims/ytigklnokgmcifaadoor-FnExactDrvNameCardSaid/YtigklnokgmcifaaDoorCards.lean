/-
  DERIVED. GIVEN WITH THE SEED: THE CARDS: each row of YtigklnokgmcifaaDoorRows.lean that lists a variable, with what it lists TIED to the program's text (the seventh form; the later family's looks); each row that meets fmt, with fmt's text TOLD by the authors' own Lean function (tested against real Go, not proved from fmt's source: count such statements apart). THE CARD IS WHAT COUNTS. Prove the row's statement (the work); the ties are given (YtigklnokgmcifaaDoorTie.lean); close each card by the builder's one call (the guide's Derived/Test/ToyasCard.lean, 'card_holds'). Laid BY PROGRAM, IN A SANDBOX (cutbox-door.mjs). By AI agents, Wed Nov 11 2026. No macro, syntax, notation, axiom, sorry.
-/
import Derived.Test.YtigklnokgmcifaaDoorRows
import GoSem.ClaimSeven
namespace Go.Proofs.YtigklnokgmcifaaDoor
namespace Rows

/-- THE TIED CARD OF 'laws.FnExactObjOk'. -/
def fnExactObjOkCard : Claim7 := { stood := { row := fnExactObjOkRow, standIns := [], harness := (true, "8e3013d0a4edf2d348f0909522161faf74495349700433a060f81301215d60d0"), looks := true }, kinds := [], alts := [], laidByText := true, laidKinds := [.data], laidTests := true, laidLooks := .later }
def FnExactObjOkCardSaid : Prop := Claim7.holds Tryd.pinned (.plain (OpenSpec.ofChange fnExactObjOkSpec)) fnExactObjOkCard

/-- THE TIED CARD OF 'laws.FnExactDrvName'. -/
def fnExactDrvNameCard : Claim7 := { stood := { row := fnExactDrvNameRow, standIns := [], harness := (true, "8e3013d0a4edf2d348f0909522161faf74495349700433a060f81301215d60d0"), looks := true }, kinds := [], alts := [], laidByText := true, laidKinds := [.data], laidTests := true, laidLooks := .later }
def FnExactDrvNameCardSaid : Prop := Claim7.holds Tryd.pinned (.plain (OpenSpec.ofChange fnExactDrvNameSpec)) fnExactDrvNameCard

/-- THE TIED CARD OF 'laws.FnExactObjBytes'. -/
def fnExactObjBytesCard : Claim7 := { stood := { row := fnExactObjBytesRow, standIns := [], harness := (true, "8e3013d0a4edf2d348f0909522161faf74495349700433a060f81301215d60d0"), looks := true }, kinds := [], alts := [], laidByText := true, laidKinds := [.data], laidTests := true, laidLooks := .later }
def FnExactObjBytesCardSaid : Prop := Claim7.holds Tryd.pinned (.plain (OpenSpec.ofChange fnExactObjBytesSpec)) fnExactObjBytesCard

/-- THE SECOND FORM's CARD OF 'laws.FnExactObjOk'. -/
def fnExactObjOkUptoCard : Claim7 := { stood := { row := fnExactObjOkUptoRow, standIns := [], harness := (true, "8e3013d0a4edf2d348f0909522161faf74495349700433a060f81301215d60d0"), looks := true }, kinds := [], alts := [], laidByText := true, laidKinds := [.data], laidTests := true, laidLooks := .later }
def FnExactObjOkUptoCardSaid : Prop := Claim7.holds Tryd.pinned (.plain (OpenSpec.upto fnExactObjOkSpec)) fnExactObjOkUptoCard

/-- THE SECOND FORM's CARD OF 'laws.FnExactDrvName'. -/
def fnExactDrvNameUptoCard : Claim7 := { stood := { row := fnExactDrvNameUptoRow, standIns := [], harness := (true, "8e3013d0a4edf2d348f0909522161faf74495349700433a060f81301215d60d0"), looks := true }, kinds := [], alts := [], laidByText := true, laidKinds := [.data], laidTests := true, laidLooks := .later }
def FnExactDrvNameUptoCardSaid : Prop := Claim7.holds Tryd.pinned (.plain (OpenSpec.upto fnExactDrvNameSpec)) fnExactDrvNameUptoCard

/-- THE SECOND FORM's CARD OF 'laws.FnExactObjBytes'. -/
def fnExactObjBytesUptoCard : Claim7 := { stood := { row := fnExactObjBytesUptoRow, standIns := [], harness := (true, "8e3013d0a4edf2d348f0909522161faf74495349700433a060f81301215d60d0"), looks := true }, kinds := [], alts := [], laidByText := true, laidKinds := [.data], laidTests := true, laidLooks := .later }
def FnExactObjBytesUptoCardSaid : Prop := Claim7.holds Tryd.pinned (.plain (OpenSpec.upto fnExactObjBytesSpec)) fnExactObjBytesUptoCard
end Rows
end Go.Proofs.YtigklnokgmcifaaDoor
