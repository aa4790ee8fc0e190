/-
  The walk of the law FnExactScan: it returns true, and writes nothing that was there.
-/
import Derived.Test.YtchmppikpeeghaaScanI
import Derived.Test.YtchmppikpeeghaaMarkS
import Derived.Test.YtchmppikpeeghaaNameL0
import Derived.Test.YtchmppikpeeghaaTreeEq
namespace Go.Proofs.Ytchmppikpeeghaa
open Go.RowKit
set_option linter.unusedVariables false

set_option maxRecDepth 20000 in
set_option maxHeartbeats 2000000 in
theorem lawScan (l0 : List Int) (hB0 : Byt l0) (v0 : Value) (l1 : List (List Int)) (hB1 : BytN l1) (v1 : Value) (w : World) (hv0 : Rd w v0 (bs l0)) (hv1 : RdN w v1 l1) :
    Calls Try.prog 11 #[v0, v1] w fun e w' => e = .returned (.bool true) ∧ Below w.heap.size w w' := by
  obtain ⟨A0, c0_, hV0, hc0a, hc0b, -⟩ := id hv0
  have H0 := hide hv0
  have H1 := hide hv1
  rw [bs_length] at *
  unfold maxLen at hc0b
  subst hV0
  clear hv0 hv1
  by_cases hl0 : 1048576 < l0.length
  · go_enter Try.func11, Try.ntmps11
    go_wp2
    go_ret
    exact ⟨rfl, Below.refl _ _⟩
  have hsz := szNames l1 v1 1048576 (by omega) (by omega) w H1.out
  by_cases hl1 : 1048576 < l1.length + sumLen l1
  · rw [rest, if_neg (by omega)] at hsz
    have HSZ := hide hsz
    clear hsz
    go_enter Try.func11, Try.ntmps11
    go_wp2_with fail
    refine HSZ.out.mono ?_
    rintro e w1 ⟨rfl, b1⟩
    go_wp2
    go_ret
    exact ⟨rfl, b1⟩
  rw [rest, if_pos (by omega)] at hsz
  have HSZ := hide hsz
  have HL1 : Hid (l1.length ≤ 1048576) := hide (by omega)
  have HM1 : Hid (∀ n ∈ l1, n.length ≤ 1048576) := hide (fun n hn => by have := sumLen_mem hn; omega)
  obtain ⟨Z1, hZ1⟩ : ∃ Z, sumLen l1 = Z := ⟨_, rfl⟩
  have hlz : 0 ≤ (1048576 : Int) - ((l1.length + sumLen l1 : Nat) : Int) := by omega
  obtain ⟨left, hleft⟩ : ∃ left : Int, (1048576 : Int) - ((l1.length + sumLen l1 : Nat) : Int) = left := ⟨_, rfl⟩
  rw [hleft] at HSZ hlz
  clear hsz hleft
  obtain ⟨R, hR⟩ : ∃ R, scanOf l0 l1 = R := ⟨_, rfl⟩
  have hRl : R.length ≤ 1048576 ∧ sumLen R ≤ 1048576 := by rw [← hR]; have := scanOf_room l0 l1; omega
  obtain ⟨hRa, hRb⟩ := hRl
  have KhR := hide hR
  clear hR
  go_enter Try.func11, Try.ntmps11
  go_wp2_with fail
  refine (HSZ.out).mono ?_
  rintro e w1 ⟨rfl, b1⟩
  have c1 : Below w.heap.size w w1 := b1
  have z1 := hide b1.size
  go_wp2_with fail
  refine (toBytes l0 _ w1 (H0.out.below c1) (by omega)).mono ?_
  rintro e w2 ⟨t2, rfl, o2, b2⟩
  have c2 : Below w.heap.size w w2 := c1.trans (b2.mono c1.size)
  have z2 := hide b2.size
  go_wp2_with fail
  refine (toNames l1 _ w2 (H1.out.below c2) HL1.out HM1.out).mono ?_
  rintro e w3 ⟨t3, rfl, o3, b3⟩
  have c3 : Below w.heap.size w w3 := c2.trans (b3.mono c2.size)
  have z3 := hide b3.size
  go_wp2_with fail
  refine (specScan l0 l1 hB0 hB1 t2 t3 w3 (o2.step b3).rd o3.rd (by omega) HL1.out HM1.out).mono ?_
  rintro e w4 ⟨r4, rfl, o4, b4⟩
  have c4 : Below w.heap.size w w4 := c3.trans (b4.mono c3.size)
  have z4 := hide b4.size
  rw [KhR.out] at o4
  have HRW := hide o4.rd
  have e4 := Below.refl w4.heap.size w4
  go_wp2_with fail
  refine (toBytes l0 _ w4 (H0.out.below c4) (by omega)).mono ?_
  rintro e w5 ⟨t5, rfl, o5, b5⟩
  have c5 : Below w.heap.size w w5 := c4.trans (b5.mono c4.size)
  have z5 := hide b5.size
  have e5 := e4.trans (b5.mono e4.size)
  go_wp2_with fail
  refine (toNames l1 _ w5 (H1.out.below c5) HL1.out HM1.out).mono ?_
  rintro e w6 ⟨t6, rfl, o6, b6⟩
  have c6 : Below w.heap.size w w6 := c5.trans (b6.mono c5.size)
  have z6 := hide b6.size
  have e6 := e5.trans (b6.mono e5.size)
  go_wp2_with fail
  refine (implScan l0 l1 hB0 hB1 t5 t6 w6 (o5.step b6).rd o6.rd (by omega) HL1.out HM1.out).mono ?_
  rintro e w7 ⟨r7, rfl, o7, b7⟩
  have c7 : Below w.heap.size w w7 := c6.trans (b7.mono c6.size)
  have z7 := hide b7.size
  have e7 := e6.trans (b7.mono e6.size)
  rw [KhR.out] at o7
  go_wp2_with fail
  refine (eqNames (R) r7 r4 w7 o7.rd (HRW.out.below e7)).mono ?_
  rintro e w8 ⟨rfl, b8⟩
  have c8 : Below w.heap.size w w8 := c7.trans (b8.mono c7.size)
  have z8 := hide b8.size
  have e8 := e7.trans (b8.mono e7.size)
  go_wp2_with fail
  refine (toBytes l0 _ w8 (H0.out.below c8) (by omega)).mono ?_
  rintro e w9 ⟨t9, rfl, o9, b9⟩
  have c9 : Below w.heap.size w w9 := c8.trans (b9.mono c8.size)
  have z9 := hide b9.size
  have e9 := e8.trans (b9.mono e8.size)
  go_wp2_with fail
  refine (eqBytes (l0) t5 t9 w9 ((((o5.step b6).step b7).step b8).step b9).rd o9.rd).mono ?_
  rintro e w10 ⟨rfl, b10⟩
  have c10 : Below w.heap.size w w10 := c9.trans (b10.mono c9.size)
  have z10 := hide b10.size
  have e10 := e9.trans (b10.mono e9.size)
  go_wp2_with fail
  refine (toNames l1 _ w10 (H1.out.below c10) HL1.out HM1.out).mono ?_
  rintro e w11 ⟨t11, rfl, o11, b11⟩
  have c11 : Below w.heap.size w w11 := c10.trans (b11.mono c10.size)
  have z11 := hide b11.size
  have e11 := e10.trans (b11.mono e10.size)
  go_wp2_with fail
  refine (eqNames (l1) t6 t11 w11 (((((o6.step b7).step b8).step b9).step b10).step b11).rd o11.rd).mono ?_
  rintro e w12 ⟨rfl, b12⟩
  have c12 : Below w.heap.size w w12 := c11.trans (b12.mono c11.size)
  have z12 := hide b12.size
  have e12 := e11.trans (b12.mono e11.size)
  go_wp2_with fail
  refine (markBytes (l0) t5 (1) w4.heap.size w5.heap.size w12 (((((((o5.step b6).step b7).step b8).step b9).step b10).step b11).step b12) (by omega) (by omega)).mono ?_
  rintro e w13 ⟨rfl, o13, x13⟩
  have c13 : Below w.heap.size w w13 := x13.below c12 (by have := z1.out; have := z2.out; have := z3.out; have := z4.out; have := z5.out; have := z6.out; have := z7.out; have := z8.out; have := z9.out; have := z10.out; have := z11.out; have := z12.out; omega) c12.size
  have e13 : Below w4.heap.size w4 w13 := x13.below e12 (by have := z1.out; have := z2.out; have := z3.out; have := z4.out; have := z5.out; have := z6.out; have := z7.out; have := z8.out; have := z9.out; have := z10.out; have := z11.out; have := z12.out; omega) e12.size
  have z13 := hide x13.size
  go_wp2_with fail
  refine (markNames l1 t6 (1 + (l0.length : Int)) w5.heap.size w6.heap.size w13 (((((((o6.step b7).step b8).step b9).step b10).step b11).step b12).outside x13 (by have := z1.out; have := z2.out; have := z3.out; have := z4.out; have := z5.out; have := z6.out; have := z7.out; have := z8.out; have := z9.out; have := z10.out; have := z11.out; have := z12.out; omega)) (by omega) (by omega)).mono ?_
  rintro e w14 ⟨rfl, x14⟩
  have c14 : Below w.heap.size w w14 := x14.below c13 (by have := z1.out; have := z2.out; have := z3.out; have := z4.out; have := z5.out; have := z6.out; have := z7.out; have := z8.out; have := z9.out; have := z10.out; have := z11.out; have := z12.out; have := z13.out; omega) c13.size
  have e14 : Below w4.heap.size w4 w14 := x14.below e13 (by have := z1.out; have := z2.out; have := z3.out; have := z4.out; have := z5.out; have := z6.out; have := z7.out; have := z8.out; have := z9.out; have := z10.out; have := z11.out; have := z12.out; have := z13.out; omega) e13.size
  have z14 := hide x14.size
  go_wp2_with fail
  refine (eqNames (R) r7 r4 w14 (((((((o7.step b8).step b9).step b10).step b11).step b12).outside x13 (by have := z1.out; have := z2.out; have := z3.out; have := z4.out; have := z5.out; have := z6.out; have := z7.out; have := z8.out; have := z9.out; have := z10.out; have := z11.out; have := z12.out; omega)).outside x14 (by have := z1.out; have := z2.out; have := z3.out; have := z4.out; have := z5.out; have := z6.out; have := z7.out; have := z8.out; have := z9.out; have := z10.out; have := z11.out; have := z12.out; have := z13.out; omega)).rd (HRW.out.below e14)).mono ?_
  rintro e w15 ⟨rfl, b15⟩
  have c15 : Below w.heap.size w w15 := c14.trans (b15.mono c14.size)
  have z15 := hide b15.size
  have e15 := e14.trans (b15.mono e14.size)
  go_wp2_with fail
  refine (markS R r7 (1) w6.heap.size w15 ((((((((o7.step b8).step b9).step b10).step b11).step b12).outside x13 (by have := z1.out; have := z2.out; have := z3.out; have := z4.out; have := z5.out; have := z6.out; have := z7.out; have := z8.out; have := z9.out; have := z10.out; have := z11.out; have := z12.out; omega)).outside x14 (by have := z1.out; have := z2.out; have := z3.out; have := z4.out; have := z5.out; have := z6.out; have := z7.out; have := z8.out; have := z9.out; have := z10.out; have := z11.out; have := z12.out; have := z13.out; omega)).step b15) (by have := z1.out; have := z2.out; have := z3.out; have := z4.out; have := z5.out; have := z6.out; have := z7.out; have := z8.out; have := z9.out; have := z10.out; have := z11.out; have := z12.out; have := z13.out; have := z14.out; have := z15.out; omega) (by omega) (by omega)).mono ?_
  rintro e w16 ⟨rfl, o16, x16⟩
  have c16 : Below w.heap.size w w16 := c15.trans (x16.mono (by have := z1.out; have := z2.out; have := z3.out; have := z4.out; have := z5.out; have := z6.out; have := z7.out; have := z8.out; have := z9.out; have := z10.out; have := z11.out; have := z12.out; have := z13.out; have := z14.out; have := z15.out; omega))
  have e16 := e15.trans (x16.mono (by have := z1.out; have := z2.out; have := z3.out; have := z4.out; have := z5.out; have := z6.out; have := z7.out; have := z8.out; have := z9.out; have := z10.out; have := z11.out; have := z12.out; have := z13.out; have := z14.out; have := z15.out; omega))
  have z16 := hide x16.size
  go_wp2_with fail
  refine (heldS R r7 (1) w16 o16.rd (by omega) (by omega)).mono ?_
  rintro e w17 ⟨rfl, b17⟩
  have c17 : Below w.heap.size w w17 := c16.trans (b17.mono c16.size)
  have z17 := hide b17.size
  have e17 := e16.trans (b17.mono e16.size)
  go_wp2_with fail
  refine (toBytes l0 _ w17 (H0.out.below c17) (by omega)).mono ?_
  rintro e w18 ⟨t18, rfl, o18, b18⟩
  have c18 : Below w.heap.size w w18 := c17.trans (b18.mono c17.size)
  have z18 := hide b18.size
  have e18 := e17.trans (b18.mono e17.size)
  go_wp2_with fail
  refine (toNames l1 _ w18 (H1.out.below c18) HL1.out HM1.out).mono ?_
  rintro e w19 ⟨t19, rfl, o19, b19⟩
  have c19 : Below w.heap.size w w19 := c18.trans (b19.mono c18.size)
  have z19 := hide b19.size
  have e19 := e18.trans (b19.mono e18.size)
  go_wp2_with fail
  refine (implScan l0 l1 hB0 hB1 t18 t19 w19 (o18.step b19).rd o19.rd (by omega) HL1.out HM1.out).mono ?_
  rintro e w20 ⟨r20, rfl, o20, b20⟩
  have c20 : Below w.heap.size w w20 := c19.trans (b20.mono c19.size)
  have z20 := hide b20.size
  have e20 := e19.trans (b20.mono e19.size)
  rw [KhR.out] at o20
  go_wp2_with fail
  refine (eqNames (R) r20 r4 w20 o20.rd (HRW.out.below e20)).mono ?_
  rintro e w21 ⟨rfl, b21⟩
  have c21 : Below w.heap.size w w21 := c20.trans (b21.mono c20.size)
  have z21 := hide b21.size
  have e21 := e20.trans (b21.mono e20.size)
  go_wp2_with fail
  refine (heldS R r7 (1) w21 (((((o16.step b17).step b18).step b19).step b20).step b21).rd (by omega) (by omega)).mono ?_
  rintro e w22 ⟨rfl, b22⟩
  have c22 : Below w.heap.size w w22 := c21.trans (b22.mono c21.size)
  have z22 := hide b22.size
  have e22 := e21.trans (b22.mono e21.size)
  go_wp2_with fail
  go_ret
  exact ⟨rfl, c22⟩

end Go.Proofs.Ytchmppikpeeghaa
