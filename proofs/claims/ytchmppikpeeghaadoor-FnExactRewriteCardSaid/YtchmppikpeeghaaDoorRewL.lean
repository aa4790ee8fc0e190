/-
  The walk of the law FnExactRewrite: it returns true, and writes nothing that was there.
-/
import Derived.Test.YtchmppikpeeghaaDoorRewJ
import Derived.Test.YtchmppikpeeghaaDoorBytes
namespace Go.Proofs.YtchmppikpeeghaaDoor
open Go.RowKit
set_option linter.unusedVariables false

set_option maxRecDepth 20000 in
set_option maxHeartbeats 2000000 in
theorem lawRewrite (l0 : List Int) (hB0 : Byt l0) (v0 : Value) (l1 : List Int) (hB1 : Byt l1) (v1 : Value) (l2 : List Int) (hB2 : Byt l2) (v2 : Value) (w : World) (hv0 : Rd w v0 (bs l0)) (hv1 : Rd w v1 (bs l1)) (hv2 : Rd w v2 (bs l2)) (hM : MaxL w) :
    Calls Tryd.prog 3 #[v0, v1, v2] w fun e w' => e = .returned (.bool true) ∧ Below w.heap.size w w' := by
  obtain ⟨A0, c0_, hV0, hc0a, hc0b, -⟩ := id hv0
  obtain ⟨A1, c1_, hV1, hc1a, hc1b, -⟩ := id hv1
  obtain ⟨A2, c2_, hV2, hc2a, hc2b, -⟩ := id hv2
  have H0 := hide hv0
  have H1 := hide hv1
  have H2 := hide hv2
  rw [bs_length] at *
  unfold maxLen at hc0b
  unfold maxLen at hc1b
  unfold maxLen at hc2b
  subst hV0 hV1 hV2
  clear hv0 hv1 hv2
  by_cases hl0 : 1048576 < l0.length
  · go_enter Tryd.func3, Tryd.ntmps3
    go_wp2
    go_ret
    exact ⟨rfl, Below.refl _ _⟩
  by_cases hl1 : 1048576 < l1.length
  · go_enter Tryd.func3, Tryd.ntmps3
    go_wp2
    go_ret
    exact ⟨rfl, Below.refl _ _⟩
  by_cases hl2 : 1048576 < l2.length
  · go_enter Tryd.func3, Tryd.ntmps3
    go_wp2
    go_ret
    exact ⟨rfl, Below.refl _ _⟩
  have HM := hide hM
  clear hM
  obtain ⟨R, hR⟩ : ∃ R, rewR l0 l1 l2 = R := ⟨_, rfl⟩
  have hRl : R.length ≤ 1099511627776 := by rw [← hR]; exact Nat.le_trans (rewR_len l0 l1 l2) (by omega)
  obtain ⟨S0, hS0⟩ : ∃ S, rewOk l1 l2 = S := ⟨_, rfl⟩
  have KhR := hide hR
  have KhS0 := hide hS0
  clear hR hS0
  have q0 : (S0 != S0) = false := by simp
  go_enter Tryd.func3, Tryd.ntmps3
  go_wp2_with fail
  refine (toBytes l0 _ w H0.out (by omega)).mono ?_
  rintro e w1 ⟨t1, rfl, o1, b1⟩
  have c1 : Below w.heap.size w w1 := b1
  have z1 := hide b1.size
  go_wp2_with fail
  refine (toBytes l1 _ w1 (H1.out.below c1) (by omega)).mono ?_
  rintro e w2 ⟨t2, rfl, o2, b2⟩
  have c2 : Below w.heap.size w w2 := c1.trans (b2.mono c1.size)
  have z2 := hide b2.size
  go_wp2_with fail
  refine (toBytes l2 _ w2 (H2.out.below c2) (by omega)).mono ?_
  rintro e w3 ⟨t3, rfl, o3, b3⟩
  have c3 : Below w.heap.size w w3 := c2.trans (b3.mono c2.size)
  have z3 := hide b3.size
  go_wp2_with fail
  refine (specRewrite l0 l1 l2 hB0 hB1 hB2 t1 t2 t3 w3 ((o1.step b2).step b3).rd (o2.step b3).rd o3.rd (by omega) (by omega) (by omega)).mono ?_
  rintro e w4 ⟨r4, rfl, o4, b4⟩
  have c4 : Below w.heap.size w w4 := c3.trans (b4.mono c3.size)
  have z4 := hide b4.size
  rw [KhR.out] at o4
  rw [KhS0.out]
  go_wp2_with fail
  refine (toBytes l0 _ w4 (H0.out.below c4) (by omega)).mono ?_
  rintro e w5 ⟨t5, rfl, o5, b5⟩
  have c5 : Below w.heap.size w w5 := c4.trans (b5.mono c4.size)
  have z5 := hide b5.size
  go_wp2_with fail
  refine (toBytes l1 _ w5 (H1.out.below c5) (by omega)).mono ?_
  rintro e w6 ⟨t6, rfl, o6, b6⟩
  have c6 : Below w.heap.size w w6 := c5.trans (b6.mono c5.size)
  have z6 := hide b6.size
  go_wp2_with fail
  refine (toBytes l2 _ w6 (H2.out.below c6) (by omega)).mono ?_
  rintro e w7 ⟨t7, rfl, o7, b7⟩
  have c7 : Below w.heap.size w w7 := c6.trans (b7.mono c6.size)
  have z7 := hide b7.size
  go_wp2_with fail
  refine (implRewrite l0 l1 l2 hB0 hB1 hB2 t5 t6 t7 w7 ((o5.step b6).step b7).rd (o6.step b7).rd o7.rd ((o5.step b6).step b7).nilOk (HM.out.step c7) (by omega) (by omega) (by omega)).mono ?_
  rintro e w8 ⟨r8, rfl, o8, b8⟩
  have c8 : Below w.heap.size w w8 := c7.trans (b8.mono c7.size)
  have z8 := hide b8.size
  rw [KhR.out] at o8
  rw [KhS0.out]
  go_wp2_with fail
  refine (eqBytes (R) r8 r4 w8 o8.rd ((((o4.step b5).step b6).step b7).step b8).rd).mono ?_
  rintro e w9 ⟨rfl, b9⟩
  have c9 : Below w.heap.size w w9 := c8.trans (b9.mono c8.size)
  have z9 := hide b9.size
  go_wp2_with fail
  refine (toBytes l0 _ w9 (H0.out.below c9) (by omega)).mono ?_
  rintro e w10 ⟨t10, rfl, o10, b10⟩
  have c10 : Below w.heap.size w w10 := c9.trans (b10.mono c9.size)
  have z10 := hide b10.size
  go_wp2_with fail
  refine (eqBytes (l0) t5 t10 w10 (((((o5.step b6).step b7).step b8).step b9).step b10).rd o10.rd).mono ?_
  rintro e w11 ⟨rfl, b11⟩
  have c11 : Below w.heap.size w w11 := c10.trans (b11.mono c10.size)
  have z11 := hide b11.size
  go_wp2_with fail
  refine (toBytes l1 _ w11 (H1.out.below c11) (by omega)).mono ?_
  rintro e w12 ⟨t12, rfl, o12, b12⟩
  have c12 : Below w.heap.size w w12 := c11.trans (b12.mono c11.size)
  have z12 := hide b12.size
  go_wp2_with fail
  refine (eqBytes (l1) t6 t12 w12 ((((((o6.step b7).step b8).step b9).step b10).step b11).step b12).rd o12.rd).mono ?_
  rintro e w13 ⟨rfl, b13⟩
  have c13 : Below w.heap.size w w13 := c12.trans (b13.mono c12.size)
  have z13 := hide b13.size
  go_wp2_with fail
  refine (toBytes l2 _ w13 (H2.out.below c13) (by omega)).mono ?_
  rintro e w14 ⟨t14, rfl, o14, b14⟩
  have c14 : Below w.heap.size w w14 := c13.trans (b14.mono c13.size)
  have z14 := hide b14.size
  go_wp2_with fail
  refine (eqBytes (l2) t7 t14 w14 (((((((o7.step b8).step b9).step b10).step b11).step b12).step b13).step b14).rd o14.rd).mono ?_
  rintro e w15 ⟨rfl, b15⟩
  have c15 : Below w.heap.size w w15 := c14.trans (b15.mono c14.size)
  have z15 := hide b15.size
  go_wp2_with fail
  refine (markBytes (l0) t5 (1) w4.heap.size w5.heap.size w15 ((((((((((o5.step b6).step b7).step b8).step b9).step b10).step b11).step b12).step b13).step b14).step b15) (by omega) (by omega)).mono ?_
  rintro e w16 ⟨rfl, o16, x16⟩
  have c16 : Below w.heap.size w w16 := x16.below c15 (by have := z1.out; have := z2.out; have := z3.out; have := z4.out; have := z5.out; have := z6.out; have := z7.out; have := z8.out; have := z9.out; have := z10.out; have := z11.out; have := z12.out; have := z13.out; have := z14.out; have := z15.out; omega) c15.size
  have z16 := hide x16.size
  go_wp2_with fail
  refine (markBytes (l1) t6 (1 + (l0.length : Int)) w5.heap.size w6.heap.size w16 ((((((((((o6.step b7).step b8).step b9).step b10).step b11).step b12).step b13).step b14).step b15).outside x16 (by have := z1.out; have := z2.out; have := z3.out; have := z4.out; have := z5.out; have := z6.out; have := z7.out; have := z8.out; have := z9.out; have := z10.out; have := z11.out; have := z12.out; have := z13.out; have := z14.out; have := z15.out; omega)) (by omega) (by omega)).mono ?_
  rintro e w17 ⟨rfl, o17, x17⟩
  have c17 : Below w.heap.size w w17 := x17.below c16 (by have := z1.out; have := z2.out; have := z3.out; have := z4.out; have := z5.out; have := z6.out; have := z7.out; have := z8.out; have := z9.out; have := z10.out; have := z11.out; have := z12.out; have := z13.out; have := z14.out; have := z15.out; have := z16.out; omega) c16.size
  have z17 := hide x17.size
  go_wp2_with fail
  refine (markBytes (l2) t7 (1 + (l0.length : Int) + (l1.length : Int)) w6.heap.size w7.heap.size w17 ((((((((((o7.step b8).step b9).step b10).step b11).step b12).step b13).step b14).step b15).outside x16 (by have := z1.out; have := z2.out; have := z3.out; have := z4.out; have := z5.out; have := z6.out; have := z7.out; have := z8.out; have := z9.out; have := z10.out; have := z11.out; have := z12.out; have := z13.out; have := z14.out; have := z15.out; omega)).outside x17 (by have := z1.out; have := z2.out; have := z3.out; have := z4.out; have := z5.out; have := z6.out; have := z7.out; have := z8.out; have := z9.out; have := z10.out; have := z11.out; have := z12.out; have := z13.out; have := z14.out; have := z15.out; have := z16.out; omega)) (by omega) (by omega)).mono ?_
  rintro e w18 ⟨rfl, o18, x18⟩
  have c18 : Below w.heap.size w w18 := x18.below c17 (by have := z1.out; have := z2.out; have := z3.out; have := z4.out; have := z5.out; have := z6.out; have := z7.out; have := z8.out; have := z9.out; have := z10.out; have := z11.out; have := z12.out; have := z13.out; have := z14.out; have := z15.out; have := z16.out; have := z17.out; omega) c17.size
  have z18 := hide x18.size
  go_wp2_with fail
  refine (eqBytes (R) r8 r4 w18 ((((((((((o8.step b9).step b10).step b11).step b12).step b13).step b14).step b15).outside x16 (by have := z1.out; have := z2.out; have := z3.out; have := z4.out; have := z5.out; have := z6.out; have := z7.out; have := z8.out; have := z9.out; have := z10.out; have := z11.out; have := z12.out; have := z13.out; have := z14.out; have := z15.out; omega)).outside x17 (by have := z1.out; have := z2.out; have := z3.out; have := z4.out; have := z5.out; have := z6.out; have := z7.out; have := z8.out; have := z9.out; have := z10.out; have := z11.out; have := z12.out; have := z13.out; have := z14.out; have := z15.out; have := z16.out; omega)).outside x18 (by have := z1.out; have := z2.out; have := z3.out; have := z4.out; have := z5.out; have := z6.out; have := z7.out; have := z8.out; have := z9.out; have := z10.out; have := z11.out; have := z12.out; have := z13.out; have := z14.out; have := z15.out; have := z16.out; have := z17.out; omega)).rd ((((((((((((((o4.step b5).step b6).step b7).step b8).step b9).step b10).step b11).step b12).step b13).step b14).step b15).outside x16 (by have := z1.out; have := z2.out; have := z3.out; have := z4.out; have := z5.out; have := z6.out; have := z7.out; have := z8.out; have := z9.out; have := z10.out; have := z11.out; have := z12.out; have := z13.out; have := z14.out; have := z15.out; omega)).outside x17 (by have := z1.out; have := z2.out; have := z3.out; have := z4.out; have := z5.out; have := z6.out; have := z7.out; have := z8.out; have := z9.out; have := z10.out; have := z11.out; have := z12.out; have := z13.out; have := z14.out; have := z15.out; have := z16.out; omega)).outside x18 (by have := z1.out; have := z2.out; have := z3.out; have := z4.out; have := z5.out; have := z6.out; have := z7.out; have := z8.out; have := z9.out; have := z10.out; have := z11.out; have := z12.out; have := z13.out; have := z14.out; have := z15.out; have := z16.out; have := z17.out; omega)).rd).mono ?_
  rintro e w19 ⟨rfl, b19⟩
  have c19 : Below w.heap.size w w19 := c18.trans (b19.mono c18.size)
  have z19 := hide b19.size
  go_wp2_with fail
  refine (markBytes (R) r8 (1) w7.heap.size w8.heap.size w19 (((((((((((o8.step b9).step b10).step b11).step b12).step b13).step b14).step b15).outside x16 (by have := z1.out; have := z2.out; have := z3.out; have := z4.out; have := z5.out; have := z6.out; have := z7.out; have := z8.out; have := z9.out; have := z10.out; have := z11.out; have := z12.out; have := z13.out; have := z14.out; have := z15.out; omega)).outside x17 (by have := z1.out; have := z2.out; have := z3.out; have := z4.out; have := z5.out; have := z6.out; have := z7.out; have := z8.out; have := z9.out; have := z10.out; have := z11.out; have := z12.out; have := z13.out; have := z14.out; have := z15.out; have := z16.out; omega)).outside x18 (by have := z1.out; have := z2.out; have := z3.out; have := z4.out; have := z5.out; have := z6.out; have := z7.out; have := z8.out; have := z9.out; have := z10.out; have := z11.out; have := z12.out; have := z13.out; have := z14.out; have := z15.out; have := z16.out; have := z17.out; omega)).step b19) (by omega) (by omega)).mono ?_
  rintro e w20 ⟨rfl, o20, x20⟩
  have c20 : Below w.heap.size w w20 := x20.below c19 (by have := z1.out; have := z2.out; have := z3.out; have := z4.out; have := z5.out; have := z6.out; have := z7.out; have := z8.out; have := z9.out; have := z10.out; have := z11.out; have := z12.out; have := z13.out; have := z14.out; have := z15.out; have := z16.out; have := z17.out; have := z18.out; have := z19.out; omega) c19.size
  have z20 := hide x20.size
  go_wp2_with fail
  refine (heldBytes (1) (R.length) r8 w20 o20.rd (by omega) (by omega)).mono ?_
  rintro e w21 ⟨rfl, b21⟩
  have c21 : Below w.heap.size w w21 := c20.trans (b21.mono c20.size)
  have z21 := hide b21.size
  go_wp2_with fail
  refine (toBytes l0 _ w21 (H0.out.below c21) (by omega)).mono ?_
  rintro e w22 ⟨t22, rfl, o22, b22⟩
  have c22 : Below w.heap.size w w22 := c21.trans (b22.mono c21.size)
  have z22 := hide b22.size
  go_wp2_with fail
  refine (toBytes l1 _ w22 (H1.out.below c22) (by omega)).mono ?_
  rintro e w23 ⟨t23, rfl, o23, b23⟩
  have c23 : Below w.heap.size w w23 := c22.trans (b23.mono c22.size)
  have z23 := hide b23.size
  go_wp2_with fail
  refine (toBytes l2 _ w23 (H2.out.below c23) (by omega)).mono ?_
  rintro e w24 ⟨t24, rfl, o24, b24⟩
  have c24 : Below w.heap.size w w24 := c23.trans (b24.mono c23.size)
  have z24 := hide b24.size
  go_wp2_with fail
  refine (implRewrite l0 l1 l2 hB0 hB1 hB2 t22 t23 t24 w24 ((o22.step b23).step b24).rd (o23.step b24).rd o24.rd ((o22.step b23).step b24).nilOk (HM.out.step c24) (by omega) (by omega) (by omega)).mono ?_
  rintro e w25 ⟨r25, rfl, o25, b25⟩
  have c25 : Below w.heap.size w w25 := c24.trans (b25.mono c24.size)
  have z25 := hide b25.size
  rw [KhR.out] at o25
  rw [KhS0.out]
  go_wp2_with fail
  refine (eqBytes (R) r25 r4 w25 o25.rd (((((((((((((((((((((o4.step b5).step b6).step b7).step b8).step b9).step b10).step b11).step b12).step b13).step b14).step b15).outside x16 (by have := z1.out; have := z2.out; have := z3.out; have := z4.out; have := z5.out; have := z6.out; have := z7.out; have := z8.out; have := z9.out; have := z10.out; have := z11.out; have := z12.out; have := z13.out; have := z14.out; have := z15.out; omega)).outside x17 (by have := z1.out; have := z2.out; have := z3.out; have := z4.out; have := z5.out; have := z6.out; have := z7.out; have := z8.out; have := z9.out; have := z10.out; have := z11.out; have := z12.out; have := z13.out; have := z14.out; have := z15.out; have := z16.out; omega)).outside x18 (by have := z1.out; have := z2.out; have := z3.out; have := z4.out; have := z5.out; have := z6.out; have := z7.out; have := z8.out; have := z9.out; have := z10.out; have := z11.out; have := z12.out; have := z13.out; have := z14.out; have := z15.out; have := z16.out; have := z17.out; omega)).step b19).outside x20 (by have := z1.out; have := z2.out; have := z3.out; have := z4.out; have := z5.out; have := z6.out; have := z7.out; have := z8.out; have := z9.out; have := z10.out; have := z11.out; have := z12.out; have := z13.out; have := z14.out; have := z15.out; have := z16.out; have := z17.out; have := z18.out; have := z19.out; omega)).step b21).step b22).step b23).step b24).step b25).rd).mono ?_
  rintro e w26 ⟨rfl, b26⟩
  have c26 : Below w.heap.size w w26 := c25.trans (b26.mono c25.size)
  have z26 := hide b26.size
  go_wp2_with fail
  refine (heldBytes (1) (R.length) r8 w26 ((((((o20.step b21).step b22).step b23).step b24).step b25).step b26).rd (by omega) (by omega)).mono ?_
  rintro e w27 ⟨rfl, b27⟩
  have c27 : Below w.heap.size w w27 := c26.trans (b27.mono c26.size)
  have z27 := hide b27.size
  go_wp2_with fail
  go_ret
  exact ⟨rfl, c27⟩

end Go.Proofs.YtchmppikpeeghaaDoor
