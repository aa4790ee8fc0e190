/-
  The walk of the law FnExactMentions: it returns true, and writes nothing that was there.
-/
import Derived.Test.YtchmppikpeeghaaMentI
import Derived.Test.YtchmppikpeeghaaMentS
namespace Go.Proofs.Ytchmppikpeeghaa
open Go.RowKit
set_option linter.unusedVariables false

set_option maxRecDepth 20000 in
set_option maxHeartbeats 2000000 in
theorem lawMentions (l0 : List Int) (hB0 : Byt l0) (v0 : Value) (l1 : List Int) (hB1 : Byt l1) (v1 : Value) (w : World) (hv0 : Rd w v0 (bs l0)) (hv1 : Rd w v1 (bs l1)) (hM : MaxL w) :
    Calls Try.prog 10 #[v0, v1] w fun e w' => e = .returned (.bool true) ∧ Below w.heap.size w w' := by
  obtain ⟨A0, c0_, hV0, hc0a, hc0b, -⟩ := id hv0
  obtain ⟨A1, c1_, hV1, hc1a, hc1b, -⟩ := id hv1
  have H0 := hide hv0
  have H1 := hide hv1
  rw [bs_length] at *
  unfold maxLen at hc0b
  unfold maxLen at hc1b
  subst hV0 hV1
  clear hv0 hv1
  by_cases hl0 : 1048576 < l0.length
  · go_enter Try.func10, Try.ntmps10
    go_wp2
    go_ret
    exact ⟨rfl, Below.refl _ _⟩
  by_cases hl1 : 1048576 < l1.length
  · go_enter Try.func10, Try.ntmps10
    go_wp2
    go_ret
    exact ⟨rfl, Below.refl _ _⟩
  have HM := hide hM
  clear hM
  obtain ⟨S0, hS0⟩ : ∃ S, mentL l0 l1 = S := ⟨_, rfl⟩
  have KhS0 := hide hS0
  clear hS0
  have q0 : (S0 != S0) = false := by simp
  go_enter Try.func10, Try.ntmps10
  go_wp2_with fail
  refine (toBytes l0 _ w H0.out (by omega)).mono ?_
  rintro e w1 ⟨t1, rfl, o1, b1⟩
  have c1 : Below w.heap.size w w1 := b1
  have z1 := hide b1.size
  go_wp2_with fail
  refine (toBytes l1 _ w1 (H1.out.below c1) (by omega)).mono ?_
  rintro e w2 ⟨t2, rfl, o2, b2⟩
  have c2 : Below w.heap.size w w2 := c1.trans (b2.mono c1.size)
  have z2 := hide b2.size
  go_wp2_with fail
  refine (specMentions l0 l1 hB0 hB1 t1 t2 w2 (o1.step b2).rd o2.rd (by omega) (by omega)).mono ?_
  rintro e w3 ⟨rfl, b3⟩
  have c3 : Below w.heap.size w w3 := c2.trans (b3.mono c2.size)
  have z3 := hide b3.size
  rw [KhS0.out]
  go_wp2_with fail
  refine (toBytes l0 _ w3 (H0.out.below c3) (by omega)).mono ?_
  rintro e w4 ⟨t4, rfl, o4, b4⟩
  have c4 : Below w.heap.size w w4 := c3.trans (b4.mono c3.size)
  have z4 := hide b4.size
  go_wp2_with fail
  refine (toBytes l1 _ w4 (H1.out.below c4) (by omega)).mono ?_
  rintro e w5 ⟨t5, rfl, o5, b5⟩
  have c5 : Below w.heap.size w w5 := c4.trans (b5.mono c4.size)
  have z5 := hide b5.size
  go_wp2_with fail
  refine (implMentions l0 l1 hB0 hB1 t4 t5 w5 (o4.step b5).rd o5.rd (o4.step b5).nilOk (by omega) (by omega) (HM.out.step c5)).mono ?_
  rintro e w6 ⟨rfl, b6⟩
  have c6 : Below w.heap.size w w6 := c5.trans (b6.mono c5.size)
  have z6 := hide b6.size
  rw [KhS0.out]
  go_wp2_with fail
  refine (toBytes l0 _ w6 (H0.out.below c6) (by omega)).mono ?_
  rintro e w7 ⟨t7, rfl, o7, b7⟩
  have c7 : Below w.heap.size w w7 := c6.trans (b7.mono c6.size)
  have z7 := hide b7.size
  go_wp2_with fail
  refine (eqBytes (l0) t4 t7 w7 (((o4.step b5).step b6).step b7).rd o7.rd).mono ?_
  rintro e w8 ⟨rfl, b8⟩
  have c8 : Below w.heap.size w w8 := c7.trans (b8.mono c7.size)
  have z8 := hide b8.size
  go_wp2_with fail
  refine (toBytes l1 _ w8 (H1.out.below c8) (by omega)).mono ?_
  rintro e w9 ⟨t9, rfl, o9, b9⟩
  have c9 : Below w.heap.size w w9 := c8.trans (b9.mono c8.size)
  have z9 := hide b9.size
  go_wp2_with fail
  refine (eqBytes (l1) t5 t9 w9 ((((o5.step b6).step b7).step b8).step b9).rd o9.rd).mono ?_
  rintro e w10 ⟨rfl, b10⟩
  have c10 : Below w.heap.size w w10 := c9.trans (b10.mono c9.size)
  have z10 := hide b10.size
  go_wp2_with fail
  go_ret
  exact ⟨rfl, c10⟩

end Go.Proofs.Ytchmppikpeeghaa
