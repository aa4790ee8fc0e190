/-
  The walk of the law FnExactEntryOk: it returns true, and writes nothing that was there.
-/
import Derived.Test.YtindjacbocfniaaEntry
namespace Go.Proofs.Ytindjacbocfniaa
open Go.RowKit
set_option linter.unusedVariables false

set_option maxRecDepth 20000 in
set_option maxHeartbeats 2000000 in
theorem lawEntryOk (l0 : List Int) (hB0 : Byt l0) (v0 : Value) (w : World) (hv0 : Rd w v0 (bs l0)) :
    Calls Try.prog 3 #[v0] w fun e w' => e = .returned (.bool true) ∧ Below w.heap.size w w' := by
  obtain ⟨A0, c0_, hV0, hc0a, hc0b, -⟩ := id hv0
  have H0 := hide hv0
  rw [bs_length] at *
  unfold maxLen at hc0b
  subst hV0
  clear hv0
  by_cases hl0 : 1048576 < l0.length
  · go_enter Try.func3, Try.ntmps3
    go_wp2
    go_ret
    exact ⟨rfl, Below.refl _ _⟩
  obtain ⟨S0, hS0⟩ : ∃ S, entryOk l0 = S := ⟨_, rfl⟩
  have KhS0 := hide hS0
  clear hS0
  have q0 : (S0 != S0) = false := by simp
  go_enter Try.func3, Try.ntmps3
  go_wp2_with fail
  refine (toBytes l0 _ w H0.out (by omega)).mono ?_
  rintro e w1 ⟨t1, rfl, o1, b1⟩
  have c1 : Below w.heap.size w w1 := b1
  have z1 := hide b1.size
  go_wp2_with fail
  refine (specEntryOk l0 hB0 t1 w1 o1.rd).mono ?_
  rintro e w2 ⟨rfl, b2⟩
  have c2 : Below w.heap.size w w2 := c1.trans (b2.mono c1.size)
  have z2 := hide b2.size
  rw [KhS0.out]
  go_wp2_with fail
  refine (toBytes l0 _ w2 (H0.out.below c2) (by omega)).mono ?_
  rintro e w3 ⟨t3, rfl, o3, b3⟩
  have c3 : Below w.heap.size w w3 := c2.trans (b3.mono c2.size)
  have z3 := hide b3.size
  go_wp2_with fail
  refine (implEntryOk l0 hB0 t3 w3 o3.rd).mono ?_
  rintro e w4 ⟨rfl, b4⟩
  have c4 : Below w.heap.size w w4 := c3.trans (b4.mono c3.size)
  have z4 := hide b4.size
  rw [KhS0.out]
  go_wp2_with fail
  refine (toBytes l0 _ w4 (H0.out.below c4) (by omega)).mono ?_
  rintro e w5 ⟨t5, rfl, o5, b5⟩
  have c5 : Below w.heap.size w w5 := c4.trans (b5.mono c4.size)
  have z5 := hide b5.size
  go_wp2_with fail
  refine (eqBytes (l0) t3 t5 w5 ((o3.step b4).step b5).rd o5.rd).mono ?_
  rintro e w6 ⟨rfl, b6⟩
  have c6 : Below w.heap.size w w6 := c5.trans (b6.mono c5.size)
  have z6 := hide b6.size
  go_wp2_with fail
  go_ret
  exact ⟨rfl, c6⟩

end Go.Proofs.Ytindjacbocfniaa
