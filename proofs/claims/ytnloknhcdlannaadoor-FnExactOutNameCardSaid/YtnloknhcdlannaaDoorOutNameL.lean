
/-
  The walk of the law FnExactOutName: it returns true, and writes nothing that was there.
-/
import Derived.Test.YtnloknhcdlannaaDoorOutN
import Derived.Test.YtnloknhcdlannaaDoorBytes
namespace Go.Proofs.YtnloknhcdlannaaDoor
open Go.RowKit
set_option linter.unusedVariables false

set_option maxRecDepth 20000 in
set_option maxHeartbeats 2000000 in
theorem lawOutName (l0 : List Int) (hB0 : Byt l0) (v0 : Value) (l1 : List Int) (hB1 : Byt l1) (v1 : Value) (w : World) (hv0 : Rd w v0 (bs l0)) (hv1 : Rd w v1 (bs l1)) (hT : Tab w) :
    Calls Tryd.prog 4 #[v0, v1] w fun e w' => e = .returned (.bool true) ∧ Below w.heap.size w w' := by
  obtain ⟨A0, c0_, hV0, hc0a, hc0b, -⟩ := id hv0
  have H0 := hide hv0
  have HT := hide hT; clear hT
  obtain ⟨A1, c1_, hV1, hc1a, hc1b, -⟩ := id hv1
  have H1 := hide hv1
  rw [bs_length] at *
  unfold maxLen at hc0b
  unfold maxLen at hc1b
  subst hV0 hV1
  clear hv0 hv1
  by_cases hl0 : 1048576 < l0.length
  · go_enter Tryd.func4, Tryd.ntmps4
    go_wp2
    go_ret
    exact ⟨rfl, Below.refl _ _⟩
  by_cases hl1 : 1048576 < l1.length
  · go_enter Tryd.func4, Tryd.ntmps4
    go_wp2
    go_ret
    exact ⟨rfl, Below.refl _ _⟩
  obtain ⟨R, hR⟩ : ∃ R, outNm l0 l1 = R := ⟨_, rfl⟩
  have hRl : R.length ≤ 1099511627776 := by rw [← hR]; exact (Nat.le_trans outNm_len (by decide))
  obtain ⟨S0, hS0⟩ : ∃ S, (nameOk l0 && entryOk l1) = S := ⟨_, rfl⟩
  have KhR := hide hR
  have KhS0 := hide hS0
  clear hR hS0
  have q0 : (S0 != S0) = false := by simp
  go_enter Tryd.func4, Tryd.ntmps4
  go_wp2_with fail
  refine (toBytes l0 _ w H0.out (by omega)).mono ?_
  rintro e w1 ⟨t1, rfl, o1, b1⟩
  have c1 : Below w.heap.size w w1 := b1
  have z1 := hide b1.size
  go_wp2_with fail
  refine (toBytes l1 _ w1 (H1.out.below c1) (by omega)).mono ?_
  rintro e w2 ⟨t2, rfl, o2, b2⟩
  have c2 : Below w.heap.size w w2 := c1.trans (b2.mono c1.size)
  have z2 := hide b2.size
  go_wp2_with fail
  refine (specOutName l0 hB0 t1 l1 hB1 t2 w2 (o1.step b2).rd o2.rd (by omega)).mono ?_
  rintro e w3 ⟨r3, rfl, o3, b3⟩
  have c3 : Below w.heap.size w w3 := c2.trans (b3.mono c2.size)
  have z3 := hide b3.size
  rw [KhR.out] at o3
  rw [KhS0.out]
  go_wp2_with fail
  refine (toBytes l0 _ w3 (H0.out.below c3) (by omega)).mono ?_
  rintro e w4 ⟨t4, rfl, o4, b4⟩
  have c4 : Below w.heap.size w w4 := c3.trans (b4.mono c3.size)
  have z4 := hide b4.size
  go_wp2_with fail
  refine (toBytes l1 _ w4 (H1.out.below c4) (by omega)).mono ?_
  rintro e w5 ⟨t5, rfl, o5, b5⟩
  have c5 : Below w.heap.size w w5 := c4.trans (b5.mono c4.size)
  have z5 := hide b5.size
  go_wp2_with fail
  refine (implOutName l0 hB0 t4 l1 hB1 t5 w5 (o4.step b5).rd o5.rd (by omega) (HT.out.step c5)).mono ?_
  rintro e w6 ⟨r6, rfl, o6, b6⟩
  have c6 : Below w.heap.size w w6 := c5.trans (b6.mono c5.size)
  have z6 := hide b6.size
  rw [KhR.out] at o6
  rw [KhS0.out]
  go_wp2_with fail
  refine (eqBytes (R) r6 r3 w6 o6.rd (((o3.step b4).step b5).step b6).rd).mono ?_
  rintro e w7 ⟨rfl, b7⟩
  have c7 : Below w.heap.size w w7 := c6.trans (b7.mono c6.size)
  have z7 := hide b7.size
  go_wp2_with fail
  refine (toBytes l0 _ w7 (H0.out.below c7) (by omega)).mono ?_
  rintro e w8 ⟨t8, rfl, o8, b8⟩
  have c8 : Below w.heap.size w w8 := c7.trans (b8.mono c7.size)
  have z8 := hide b8.size
  go_wp2_with fail
  refine (eqBytes (l0) t4 t8 w8 ((((o4.step b5).step b6).step b7).step b8).rd o8.rd).mono ?_
  rintro e w9 ⟨rfl, b9⟩
  have c9 : Below w.heap.size w w9 := c8.trans (b9.mono c8.size)
  have z9 := hide b9.size
  go_wp2_with fail
  refine (toBytes l1 _ w9 (H1.out.below c9) (by omega)).mono ?_
  rintro e w10 ⟨t10, rfl, o10, b10⟩
  have c10 : Below w.heap.size w w10 := c9.trans (b10.mono c9.size)
  have z10 := hide b10.size
  go_wp2_with fail
  refine (eqBytes (l1) t5 t10 w10 (((((o5.step b6).step b7).step b8).step b9).step b10).rd o10.rd).mono ?_
  rintro e w11 ⟨rfl, b11⟩
  have c11 : Below w.heap.size w w11 := c10.trans (b11.mono c10.size)
  have z11 := hide b11.size
  go_wp2_with fail
  refine (markBytes (l0) t4 (1) w3.heap.size w4.heap.size w11 (((((((o4.step b5).step b6).step b7).step b8).step b9).step b10).step b11) (by omega) (by omega)).mono ?_
  rintro e w12 ⟨rfl, o12, x12⟩
  have c12 : Below w.heap.size w w12 := x12.below c11 (by have := z1.out; have := z2.out; have := z3.out; have := z4.out; have := z5.out; have := z6.out; have := z7.out; have := z8.out; have := z9.out; have := z10.out; have := z11.out; omega) c11.size
  have z12 := hide x12.size
  go_wp2_with fail
  refine (markBytes (l1) t5 (1 + (l0.length : Int)) w4.heap.size w5.heap.size w12 (((((((o5.step b6).step b7).step b8).step b9).step b10).step b11).outside x12 (by have := z1.out; have := z2.out; have := z3.out; have := z4.out; have := z5.out; have := z6.out; have := z7.out; have := z8.out; have := z9.out; have := z10.out; have := z11.out; omega)) (by omega) (by omega)).mono ?_
  rintro e w13 ⟨rfl, o13, x13⟩
  have c13 : Below w.heap.size w w13 := x13.below c12 (by have := z1.out; have := z2.out; have := z3.out; have := z4.out; have := z5.out; have := z6.out; have := z7.out; have := z8.out; have := z9.out; have := z10.out; have := z11.out; have := z12.out; omega) c12.size
  have z13 := hide x13.size
  go_wp2_with fail
  refine (eqBytes (R) r6 r3 w13 (((((((o6.step b7).step b8).step b9).step b10).step b11).outside x12 (by have := z1.out; have := z2.out; have := z3.out; have := z4.out; have := z5.out; have := z6.out; have := z7.out; have := z8.out; have := z9.out; have := z10.out; have := z11.out; omega)).outside x13 (by have := z1.out; have := z2.out; have := z3.out; have := z4.out; have := z5.out; have := z6.out; have := z7.out; have := z8.out; have := z9.out; have := z10.out; have := z11.out; have := z12.out; omega)).rd ((((((((((o3.step b4).step b5).step b6).step b7).step b8).step b9).step b10).step b11).outside x12 (by have := z1.out; have := z2.out; have := z3.out; have := z4.out; have := z5.out; have := z6.out; have := z7.out; have := z8.out; have := z9.out; have := z10.out; have := z11.out; omega)).outside x13 (by have := z1.out; have := z2.out; have := z3.out; have := z4.out; have := z5.out; have := z6.out; have := z7.out; have := z8.out; have := z9.out; have := z10.out; have := z11.out; have := z12.out; omega)).rd).mono ?_
  rintro e w14 ⟨rfl, b14⟩
  have c14 : Below w.heap.size w w14 := c13.trans (b14.mono c13.size)
  have z14 := hide b14.size
  go_wp2_with fail
  refine (markBytes (R) r6 (1) w5.heap.size w6.heap.size w14 ((((((((o6.step b7).step b8).step b9).step b10).step b11).outside x12 (by have := z1.out; have := z2.out; have := z3.out; have := z4.out; have := z5.out; have := z6.out; have := z7.out; have := z8.out; have := z9.out; have := z10.out; have := z11.out; omega)).outside x13 (by have := z1.out; have := z2.out; have := z3.out; have := z4.out; have := z5.out; have := z6.out; have := z7.out; have := z8.out; have := z9.out; have := z10.out; have := z11.out; have := z12.out; omega)).step b14) (by omega) (by omega)).mono ?_
  rintro e w15 ⟨rfl, o15, x15⟩
  have c15 : Below w.heap.size w w15 := x15.below c14 (by have := z1.out; have := z2.out; have := z3.out; have := z4.out; have := z5.out; have := z6.out; have := z7.out; have := z8.out; have := z9.out; have := z10.out; have := z11.out; have := z12.out; have := z13.out; have := z14.out; omega) c14.size
  have z15 := hide x15.size
  go_wp2_with fail
  refine (heldBytes (1) (R.length) r6 w15 o15.rd (by omega) (by omega)).mono ?_
  rintro e w16 ⟨rfl, b16⟩
  have c16 : Below w.heap.size w w16 := c15.trans (b16.mono c15.size)
  have z16 := hide b16.size
  go_wp2_with fail
  refine (toBytes l0 _ w16 (H0.out.below c16) (by omega)).mono ?_
  rintro e w17 ⟨t17, rfl, o17, b17⟩
  have c17 : Below w.heap.size w w17 := c16.trans (b17.mono c16.size)
  have z17 := hide b17.size
  go_wp2_with fail
  refine (toBytes l1 _ w17 (H1.out.below c17) (by omega)).mono ?_
  rintro e w18 ⟨t18, rfl, o18, b18⟩
  have c18 : Below w.heap.size w w18 := c17.trans (b18.mono c17.size)
  have z18 := hide b18.size
  go_wp2_with fail
  refine (implOutName l0 hB0 t17 l1 hB1 t18 w18 (o17.step b18).rd o18.rd (by omega) (HT.out.step c18)).mono ?_
  rintro e w19 ⟨r19, rfl, o19, b19⟩
  have c19 : Below w.heap.size w w19 := c18.trans (b19.mono c18.size)
  have z19 := hide b19.size
  rw [KhR.out] at o19
  rw [KhS0.out]
  go_wp2_with fail
  refine (eqBytes (R) r19 r3 w19 o19.rd ((((((((((((((((o3.step b4).step b5).step b6).step b7).step b8).step b9).step b10).step b11).outside x12 (by have := z1.out; have := z2.out; have := z3.out; have := z4.out; have := z5.out; have := z6.out; have := z7.out; have := z8.out; have := z9.out; have := z10.out; have := z11.out; omega)).outside x13 (by have := z1.out; have := z2.out; have := z3.out; have := z4.out; have := z5.out; have := z6.out; have := z7.out; have := z8.out; have := z9.out; have := z10.out; have := z11.out; have := z12.out; omega)).step b14).outside x15 (by have := z1.out; have := z2.out; have := z3.out; have := z4.out; have := z5.out; have := z6.out; have := z7.out; have := z8.out; have := z9.out; have := z10.out; have := z11.out; have := z12.out; have := z13.out; have := z14.out; omega)).step b16).step b17).step b18).step b19).rd).mono ?_
  rintro e w20 ⟨rfl, b20⟩
  have c20 : Below w.heap.size w w20 := c19.trans (b20.mono c19.size)
  have z20 := hide b20.size
  go_wp2_with fail
  refine (heldBytes (1) (R.length) r6 w20 (((((o15.step b16).step b17).step b18).step b19).step b20).rd (by omega) (by omega)).mono ?_
  rintro e w21 ⟨rfl, b21⟩
  have c21 : Below w.heap.size w w21 := c20.trans (b21.mono c20.size)
  have z21 := hide b21.size
  go_wp2_with fail
  go_ret
  exact ⟨rfl, c21⟩

end Go.Proofs.YtnloknhcdlannaaDoor
