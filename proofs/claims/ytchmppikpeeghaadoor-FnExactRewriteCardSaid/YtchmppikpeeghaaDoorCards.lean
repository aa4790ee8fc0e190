/-
  DERIVED. GIVEN WITH THE SEED: THE CARDS: each row of YtchmppikpeeghaaDoorRows.lean that lists a variable, with what it lists TIED to the program's text (the seventh form; the later family's looks); each row that meets fmt, with fmt's text TOLD by the authors' own Lean function (tested against real Go, not proved from fmt's source: count such statements apart). THE CARD IS WHAT COUNTS. Prove the row's statement (the work); the ties are given (YtchmppikpeeghaaDoorTie.lean); close each card by the builder's one call (the guide's Derived/Test/ToyasCard.lean, 'card_holds'). Laid BY PROGRAM, IN A SANDBOX (cutbox-door.mjs). By AI agents, Wed Nov 11 2026. No macro, syntax, notation, axiom, sorry.
-/
import Derived.Test.YtchmppikpeeghaaDoorRows
import GoSem.ClaimSeven
namespace Go.Proofs.YtchmppikpeeghaaDoor
namespace Rows

/-- THE TIED CARD OF 'laws.FnExactRewrite'. -/
def fnExactRewriteCard : Claim7 := { stood := { row := fnExactRewriteRow, standIns := [], harness := (true, "143bf07527c0d0e1d6c02be5772ae6d2f5d3b1f8a9214d29b002cb10adbea33d"), looks := false }, kinds := [], alts := [], laidByText := true, laidKinds := [.data, .pinned], laidTests := true, laidLooks := .later }
def FnExactRewriteCardSaid : Prop := Claim7.holds Tryd.pinned (.plain (OpenSpec.ofChange fnExactRewriteSpec)) fnExactRewriteCard

/-- THE SECOND FORM's CARD OF 'laws.FnExactRewrite'. -/
def fnExactRewriteUptoCard : Claim7 := { stood := { row := fnExactRewriteUptoRow, standIns := [], harness := (true, "143bf07527c0d0e1d6c02be5772ae6d2f5d3b1f8a9214d29b002cb10adbea33d"), looks := false }, kinds := [], alts := [], laidByText := true, laidKinds := [.data, .pinned], laidTests := true, laidLooks := .later }
def FnExactRewriteUptoCardSaid : Prop := Claim7.holds Tryd.pinned (.plain (OpenSpec.upto fnExactRewriteSpec)) fnExactRewriteUptoCard
end Rows
end Go.Proofs.YtchmppikpeeghaaDoor
