/-
  The walk of the law FnExactSorted: it returns true, and writes nothing that was there.
-/
import Derived.Test.YtchmppikpeeghaaSortI
import Derived.Test.YtchmppikpeeghaaNameL0
import Derived.Test.YtchmppikpeeghaaTreeEq
namespace Go.Proofs.Ytchmppikpeeghaa
open Go.RowKit
set_option linter.unusedVariables false

set_option maxRecDepth 20000 in
set_option maxHeartbeats 2000000 in
theorem lawSorted (l0 : List (List Int)) (hB0 : BytN l0) (v0 : Value) (w : World) (hv0 : RdN w v0 l0) :
    Calls Try.prog 13 #[v0] w fun e w' => e = .returned (.bool true) ∧ Below w.heap.size w w' := by
  have H0 := hide hv0
  clear hv0
  have hsz := szNames l0 v0 1048576 (by omega) (by omega) w H0.out
  by_cases hl0 : 1048576 < l0.length + sumLen l0
  · rw [rest, if_neg (by omega)] at hsz
    have HSZ := hide hsz
    clear hsz
    go_enter Try.func13, Try.ntmps13
    go_wp2_with fail
    refine HSZ.out.mono ?_
    rintro e w1 ⟨rfl, b1⟩
    go_wp2
    go_ret
    exact ⟨rfl, b1⟩
  rw [rest, if_pos (by omega)] at hsz
  have HSZ := hide hsz
  have HL0 : Hid (l0.length ≤ 1048576) := hide (by omega)
  have HM0 : Hid (∀ n ∈ l0, n.length ≤ 1048576) := hide (fun n hn => by have := sumLen_mem hn; omega)
  obtain ⟨Z0, hZ0⟩ : ∃ Z, sumLen l0 = Z := ⟨_, rfl⟩
  have hlz : 0 ≤ (1048576 : Int) - ((l0.length + sumLen l0 : Nat) : Int) := by omega
  obtain ⟨left, hleft⟩ : ∃ left : Int, (1048576 : Int) - ((l0.length + sumLen l0 : Nat) : Int) = left := ⟨_, rfl⟩
  rw [hleft] at HSZ hlz
  clear hsz hleft
  obtain ⟨S0, hS0⟩ : ∃ S, ascP nameOk l0 = S := ⟨_, rfl⟩
  have KhS0 := hide hS0
  clear hS0
  have q0 : (S0 != S0) = false := by simp
  go_enter Try.func13, Try.ntmps13
  go_wp2_with fail
  refine (HSZ.out).mono ?_
  rintro e w1 ⟨rfl, b1⟩
  have c1 : Below w.heap.size w w1 := b1
  have z1 := hide b1.size
  go_wp2_with fail
  refine (toNames l0 _ w1 (H0.out.below c1) HL0.out HM0.out).mono ?_
  rintro e w2 ⟨t2, rfl, o2, b2⟩
  have c2 : Below w.heap.size w w2 := c1.trans (b2.mono c1.size)
  have z2 := hide b2.size
  go_wp2_with fail
  refine (specSorted l0 hB0 t2 w2 o2.rd HM0.out).mono ?_
  rintro e w3 ⟨rfl, b3⟩
  have c3 : Below w.heap.size w w3 := c2.trans (b3.mono c2.size)
  have z3 := hide b3.size
  rw [KhS0.out]
  go_wp2_with fail
  refine (toNames l0 _ w3 (H0.out.below c3) HL0.out HM0.out).mono ?_
  rintro e w4 ⟨t4, rfl, o4, b4⟩
  have c4 : Below w.heap.size w w4 := c3.trans (b4.mono c3.size)
  have z4 := hide b4.size
  go_wp2_with fail
  refine (implSorted l0 hB0 t4 w4 o4.rd HM0.out).mono ?_
  rintro e w5 ⟨rfl, b5⟩
  have c5 : Below w.heap.size w w5 := c4.trans (b5.mono c4.size)
  have z5 := hide b5.size
  rw [KhS0.out]
  go_wp2_with fail
  refine (toNames l0 _ w5 (H0.out.below c5) HL0.out HM0.out).mono ?_
  rintro e w6 ⟨t6, rfl, o6, b6⟩
  have c6 : Below w.heap.size w w6 := c5.trans (b6.mono c5.size)
  have z6 := hide b6.size
  go_wp2_with fail
  refine (eqNames (l0) t4 t6 w6 ((o4.step b5).step b6).rd o6.rd).mono ?_
  rintro e w7 ⟨rfl, b7⟩
  have c7 : Below w.heap.size w w7 := c6.trans (b7.mono c6.size)
  have z7 := hide b7.size
  go_wp2_with fail
  go_ret
  exact ⟨rfl, c7⟩

end Go.Proofs.Ytchmppikpeeghaa
