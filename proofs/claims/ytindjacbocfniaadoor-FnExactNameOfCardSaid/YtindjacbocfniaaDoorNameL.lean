/-
  The walk of the law FnExactNameOf: it returns true, and writes nothing that was there.
-/
import Derived.Test.YtindjacbocfniaaDoorName
import Derived.Test.YtindjacbocfniaaDoorBytes
namespace Go.Proofs.YtindjacbocfniaaDoor
open Go.RowKit
set_option linter.unusedVariables false

set_option maxRecDepth 20000 in
set_option maxHeartbeats 2000000 in
theorem lawNameOf (a0 : Int) (l1 : List Int) (hB1 : Byt l1) (v1 : Value) (w : World) (ha0 : 0 ≤ a0 ∧ a0 ≤ 255) (hv1 : Rd w v1 (bs l1)) (hT : Tab w) :
    Calls Tryd.prog 4 #[.int .u8 a0, v1] w fun e w' => e = .returned (.bool true) ∧ Below w.heap.size w w' := by
  obtain ⟨n0a, n0b⟩ := ha0
  obtain ⟨A1, c1_, hV1, hc1a, hc1b, -⟩ := id hv1
  have H1 := hide hv1
  have HT := hide hT
  clear hT
  rw [bs_length] at *
  unfold maxLen at hc1b
  subst hV1
  clear hv1
  by_cases hl1 : 1048576 < l1.length
  · go_enter Tryd.func4, Tryd.ntmps4
    go_wp2
    go_ret
    exact ⟨rfl, Below.refl _ _⟩
  obtain ⟨R, hR⟩ : ∃ R, nameOf a0 l1 = R := ⟨_, rfl⟩
  have hRl : R.length ≤ 1099511627776 := by rw [← hR]; exact nameOf_room a0 l1 (by omega)
  have KhR := hide hR
  clear hR
  go_enter Tryd.func4, Tryd.ntmps4
  go_wp2_with fail
  refine (toBytes l1 _ w H1.out (by omega)).mono ?_
  rintro e w1 ⟨t1, rfl, o1, b1⟩
  have c1 : Below w.heap.size w w1 := b1
  have z1 := hide b1.size
  go_wp2_with fail
  refine (specNameOf a0 ⟨n0a, n0b⟩ l1 hB1 t1 w1 o1.rd).mono ?_
  rintro e w2 ⟨r2, rfl, o2, b2⟩
  have c2 : Below w.heap.size w w2 := c1.trans (b2.mono c1.size)
  have z2 := hide b2.size
  rw [KhR.out] at o2
  go_wp2_with fail
  refine (toBytes l1 _ w2 (H1.out.below c2) (by omega)).mono ?_
  rintro e w3 ⟨t3, rfl, o3, b3⟩
  have c3 : Below w.heap.size w w3 := c2.trans (b3.mono c2.size)
  have z3 := hide b3.size
  go_wp2_with fail
  refine (implNameOf a0 ⟨n0a, n0b⟩ l1 hB1 t3 w3 o3.rd (HT.out.step c3)).mono ?_
  rintro e w4 ⟨r4, rfl, o4, b4⟩
  have c4 : Below w.heap.size w w4 := c3.trans (b4.mono c3.size)
  have z4 := hide b4.size
  rw [KhR.out] at o4
  go_wp2_with fail
  refine (eqBytes (R) r4 r2 w4 o4.rd ((o2.step b3).step b4).rd).mono ?_
  rintro e w5 ⟨rfl, b5⟩
  have c5 : Below w.heap.size w w5 := c4.trans (b5.mono c4.size)
  have z5 := hide b5.size
  go_wp2_with fail
  refine (toBytes l1 _ w5 (H1.out.below c5) (by omega)).mono ?_
  rintro e w6 ⟨t6, rfl, o6, b6⟩
  have c6 : Below w.heap.size w w6 := c5.trans (b6.mono c5.size)
  have z6 := hide b6.size
  go_wp2_with fail
  refine (eqBytes (l1) t3 t6 w6 (((o3.step b4).step b5).step b6).rd o6.rd).mono ?_
  rintro e w7 ⟨rfl, b7⟩
  have c7 : Below w.heap.size w w7 := c6.trans (b7.mono c6.size)
  have z7 := hide b7.size
  go_wp2_with fail
  refine (markBytes (l1) t3 (1) w2.heap.size w3.heap.size w7 ((((o3.step b4).step b5).step b6).step b7) (by omega) (by omega)).mono ?_
  rintro e w8 ⟨rfl, o8, x8⟩
  have c8 : Below w.heap.size w w8 := x8.below c7 (by have := z1.out; have := z2.out; have := z3.out; have := z4.out; have := z5.out; have := z6.out; have := z7.out; omega) c7.size
  have z8 := hide x8.size
  go_wp2_with fail
  refine (eqBytes (R) r4 r2 w8 ((((o4.step b5).step b6).step b7).outside x8 (by have := z1.out; have := z2.out; have := z3.out; have := z4.out; have := z5.out; have := z6.out; have := z7.out; omega)).rd ((((((o2.step b3).step b4).step b5).step b6).step b7).outside x8 (by have := z1.out; have := z2.out; have := z3.out; have := z4.out; have := z5.out; have := z6.out; have := z7.out; omega)).rd).mono ?_
  rintro e w9 ⟨rfl, b9⟩
  have c9 : Below w.heap.size w w9 := c8.trans (b9.mono c8.size)
  have z9 := hide b9.size
  go_wp2_with fail
  refine (markBytes (R) r4 (1) w3.heap.size w4.heap.size w9 (((((o4.step b5).step b6).step b7).outside x8 (by have := z1.out; have := z2.out; have := z3.out; have := z4.out; have := z5.out; have := z6.out; have := z7.out; omega)).step b9) (by omega) (by omega)).mono ?_
  rintro e w10 ⟨rfl, o10, x10⟩
  have c10 : Below w.heap.size w w10 := x10.below c9 (by have := z1.out; have := z2.out; have := z3.out; have := z4.out; have := z5.out; have := z6.out; have := z7.out; have := z8.out; have := z9.out; omega) c9.size
  have z10 := hide x10.size
  go_wp2_with fail
  refine (heldBytes (1) (R.length) r4 w10 o10.rd (by omega) (by omega)).mono ?_
  rintro e w11 ⟨rfl, b11⟩
  have c11 : Below w.heap.size w w11 := c10.trans (b11.mono c10.size)
  have z11 := hide b11.size
  go_wp2_with fail
  refine (toBytes l1 _ w11 (H1.out.below c11) (by omega)).mono ?_
  rintro e w12 ⟨t12, rfl, o12, b12⟩
  have c12 : Below w.heap.size w w12 := c11.trans (b12.mono c11.size)
  have z12 := hide b12.size
  go_wp2_with fail
  refine (implNameOf a0 ⟨n0a, n0b⟩ l1 hB1 t12 w12 o12.rd (HT.out.step c12)).mono ?_
  rintro e w13 ⟨r13, rfl, o13, b13⟩
  have c13 : Below w.heap.size w w13 := c12.trans (b13.mono c12.size)
  have z13 := hide b13.size
  rw [KhR.out] at o13
  go_wp2_with fail
  refine (eqBytes (R) r13 r2 w13 o13.rd (((((((((((o2.step b3).step b4).step b5).step b6).step b7).outside x8 (by have := z1.out; have := z2.out; have := z3.out; have := z4.out; have := z5.out; have := z6.out; have := z7.out; omega)).step b9).outside x10 (by have := z1.out; have := z2.out; have := z3.out; have := z4.out; have := z5.out; have := z6.out; have := z7.out; have := z8.out; have := z9.out; omega)).step b11).step b12).step b13).rd).mono ?_
  rintro e w14 ⟨rfl, b14⟩
  have c14 : Below w.heap.size w w14 := c13.trans (b14.mono c13.size)
  have z14 := hide b14.size
  go_wp2_with fail
  refine (heldBytes (1) (R.length) r4 w14 ((((o10.step b11).step b12).step b13).step b14).rd (by omega) (by omega)).mono ?_
  rintro e w15 ⟨rfl, b15⟩
  have c15 : Below w.heap.size w w15 := c14.trans (b15.mono c14.size)
  have z15 := hide b15.size
  go_wp2_with fail
  go_ret
  exact ⟨rfl, c15⟩

end Go.Proofs.YtindjacbocfniaaDoor
