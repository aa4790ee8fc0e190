/-
  Parts of the proof: Op5S.
-/
import Derived.Test.YtgaadpkefncnmaaGreatDoorMp1
import Derived.Test.YtgaadpkefncnmaaGreatDoorMp7
import Derived.IntWalk
import Derived.Deep.Cut
import Derived.Deep.DeepCutAuto
/-
  The model's OpOk.
-/
namespace Go.Proofs.YtgaadpkefncnmaaGreatDoor
open Go.RowKit
set_option linter.unusedVariables false
set_option linter.unusedSimpArgs false
end Go.Proofs.YtgaadpkefncnmaaGreatDoor
