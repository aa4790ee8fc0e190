
/-
  The program's PutText.
-/
import Derived.Test.YtnloknhcdlannaaDoorText
namespace Go.Proofs.YtnloknhcdlannaaDoor
open Go.RowKit

set_option maxHeartbeats 400000 in
theorem implPutText (l : List Int) (v : Value) (t : List Int) (u : Value) (w : World) (hv : Rd w v (bs l)) (hu : Rd w u (bs t)) (hl : l.length ≤ 1099511627776) :
    Calls Tryd.prog 59 #[v, u] w fun e w' => ∃ v', e = .returned v' ∧ Own 5 w.heap.size w'.heap.size w' v' (bs (putText l t)) ∧ Below w.heap.size w w' := by
  have HV := hide hv
  have HU := hide hu
  clear hv hu
  go_enter Tryd.func59, Tryd.ntmps59
  go_wp2_with fail
  refine (clone l _ w HV.out (by omega)).mono ?_
  rintro e w1 ⟨v1, rfl, own1, b1⟩
  go_wp2_with fail
  refine (appendText l v1 t u w.heap.size w1 w own1 HU.out rfl b1 (by omega)).mono ?_
  rintro e w2 ⟨v2, rfl, own2, b2⟩
  go_wp2_with fail
  go_ret
  exact ⟨_, rfl, Own.of own2 (by rw [bs_length]), b1.trans b2⟩

end Go.Proofs.YtnloknhcdlannaaDoor
