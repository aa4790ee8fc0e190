/-
  A world in which the library's two tables hold what the row lists.
-/
import Derived.Test.YtchmppikpeeghaaDoorRewL
import Derived.Test.YtchmppikpeeghaaDoorLift
import Derived.Test.YtchmppikpeeghaaDoorCards
import Derived.Test.YtchmppikpeeghaaDoorTie
import Derived.Deep.DeepHandedRow
import Derived.Lib.LaidTab
import Derived.OpenVars
namespace Go.Proofs.YtchmppikpeeghaaDoor
open Go.ChangeShapes Go.WideShapes Go.ChangeAt Go.RowKit

/-- The numbers of a list of data. -/
def flat1 : DataW Unit → List Value
  | .agg ds => ds.filterMap fun d => match d with | .lit (.int k n) => some (.int k n) | _ => none
  | _ => []
def flat2 : DataW Unit → List Value
  | .agg ds => ds.flatMap flat1
  | _ => []
def put1 (vs : List Value) : Obj → Obj
  | .cells _ t frozen => .cells vs.toArray t frozen
  | o => o
/-- A world in which the tables hold what the row lists. -/
noncomputable def laidWorld (os : Os) : World :=
  { World.holding Tryd.prog os ⟨#[], #[], []⟩ with heap := ((World.holding Tryd.prog os ⟨#[], #[], []⟩).heap.modify 2 (put1 (flat2 (Rows.laid_unicode_utf8_acceptRanges (H := Unit))))).modify 1 (put1 (flat1 Go.Pinned.utf8First)) }
theorem laid_met (os : Os) (args : Array Value) : laidMet Tryd.prog Rows.fnExactRewriteRow.laid ((laidWorld os).forCall (fun _ _ => 0) ⟨#[], args, []⟩).memory :=
  laidMet_of_run' 8 (by kernel_rfl) (by kernel_rfl)

end Go.Proofs.YtchmppikpeeghaaDoor
