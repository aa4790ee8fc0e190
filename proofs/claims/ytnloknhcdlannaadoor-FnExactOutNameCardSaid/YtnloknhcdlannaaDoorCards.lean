/-
  DERIVED. GIVEN WITH THE SEED: THE CARDS: each row of YtnloknhcdlannaaDoorRows.lean that lists a variable, with what it lists TIED to the program's text (the seventh form; the later family's looks); each row that meets fmt, with fmt's text TOLD by the authors' own Lean function (tested against real Go, not proved from fmt's source: count such statements apart). THE CARD IS WHAT COUNTS. Prove the row's statement (the work); the ties are given (YtnloknhcdlannaaDoorTie.lean); close each card by the builder's one call (the guide's Derived/Test/ToyasCard.lean, 'card_holds'). Laid BY PROGRAM, IN A SANDBOX (cutbox-door.mjs). By AI agents, Wed Nov 11 2026. No macro, syntax, notation, axiom, sorry.
-/
import Derived.Test.YtnloknhcdlannaaDoorRows
import GoSem.ClaimSeven
namespace Go.Proofs.YtnloknhcdlannaaDoor
namespace Rows

/-- THE TIED CARD OF 'laws.FnExactDrvName'. -/
def fnExactDrvNameCard : Claim7 := { stood := { row := fnExactDrvNameRow, standIns := [], harness := (true, "a298cd7a5a935588df83201f94cf0d20ed2f59220e59c8ef021bbfd1d5b84c70"), looks := true }, kinds := [], alts := [], laidByText := true, laidKinds := [.data], laidTests := true, laidLooks := .later }
def FnExactDrvNameCardSaid : Prop := Claim7.holds Tryd.pinned (.plain (OpenSpec.ofChange fnExactDrvNameSpec)) fnExactDrvNameCard

/-- THE TIED CARD OF 'laws.FnExactOutName'. -/
def fnExactOutNameCard : Claim7 := { stood := { row := fnExactOutNameRow, standIns := [], harness := (true, "a298cd7a5a935588df83201f94cf0d20ed2f59220e59c8ef021bbfd1d5b84c70"), looks := true }, kinds := [], alts := [], laidByText := true, laidKinds := [.data], laidTests := true, laidLooks := .later }
def FnExactOutNameCardSaid : Prop := Claim7.holds Tryd.pinned (.plain (OpenSpec.ofChange fnExactOutNameSpec)) fnExactOutNameCard

/-- THE SECOND FORM's CARD OF 'laws.FnExactDrvName'. -/
def fnExactDrvNameUptoCard : Claim7 := { stood := { row := fnExactDrvNameUptoRow, standIns := [], harness := (true, "a298cd7a5a935588df83201f94cf0d20ed2f59220e59c8ef021bbfd1d5b84c70"), looks := true }, kinds := [], alts := [], laidByText := true, laidKinds := [.data], laidTests := true, laidLooks := .later }
def FnExactDrvNameUptoCardSaid : Prop := Claim7.holds Tryd.pinned (.plain (OpenSpec.upto fnExactDrvNameSpec)) fnExactDrvNameUptoCard

/-- THE SECOND FORM's CARD OF 'laws.FnExactOutName'. -/
def fnExactOutNameUptoCard : Claim7 := { stood := { row := fnExactOutNameUptoRow, standIns := [], harness := (true, "a298cd7a5a935588df83201f94cf0d20ed2f59220e59c8ef021bbfd1d5b84c70"), looks := true }, kinds := [], alts := [], laidByText := true, laidKinds := [.data], laidTests := true, laidLooks := .later }
def FnExactOutNameUptoCardSaid : Prop := Claim7.holds Tryd.pinned (.plain (OpenSpec.upto fnExactOutNameSpec)) fnExactOutNameUptoCard
end Rows
end Go.Proofs.YtnloknhcdlannaaDoor
