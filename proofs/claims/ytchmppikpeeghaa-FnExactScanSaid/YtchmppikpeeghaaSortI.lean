/-
  The program's Sorted.
-/
import Derived.Test.YtchmppikpeeghaaAscN
import Derived.Test.YtchmppikpeeghaaSortS
namespace Go.Proofs.Ytchmppikpeeghaa
open Go.RowKit
set_option linter.unusedVariables false

set_option maxHeartbeats 400000 in
theorem implSorted (ns : List (List Int)) (hB : BytN ns) (v : Value) (w : World) (hv : RdN w v ns) (hl : ∀ n ∈ ns, n.length ≤ 1048576) :
    Calls Try.prog 48 #[v] w fun e w' => e = .returned (.bool (ascP nameOk ns)) ∧ Below w.heap.size w w' := by
  have h := ascendN ns hB (fun n hn => Nat.le_trans (hl n hn) (by omega)) v w hv
  go_enter Try.func48, Try.ntmps48
  go_wp2_with fail
  refine h.mono ?_
  rintro e w1 ⟨rfl, b1⟩
  go_wp2_with fail
  go_ret
  exact ⟨rfl, b1⟩

end Go.Proofs.Ytchmppikpeeghaa
