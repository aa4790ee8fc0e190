/-
  GetNum at every index; the law FnExactGetNum.
-/
import Derived.Test.YtopdflifgimadaaNumI
namespace Go.Proofs.Ytopdflifgimadaa
open Go.RowKit

set_option maxHeartbeats 400000 in
theorem specGetNumNeg (l : List Int) (v : Value) (at_ : Int) (w : World) (hv : Rd w v (bs l)) (ha : at_ < 0) :
    Calls Try.prog 16 #[v, .int .i64 at_] w fun e w' => e = .returned (.tuple #[.int .i64 0, .int .i64 (-1)]) ∧ Below w.heap.size w w' := by
  obtain ⟨A, c, rfl, -, -, -⟩ := hv
  go_enter Try.func16, Try.ntmps16
  go_wp2
  go_ret2
  exact ⟨rfl, Below.refl _ _⟩

set_option maxHeartbeats 400000 in
theorem implGetNumOut (l : List Int) (v : Value) (at_ : Int) (w : World) (hv : Rd w v (bs l)) (ha : at_ < 0 ∨ l.length ≤ at_) :
    Calls Try.prog 17 #[v, .int .i64 at_] w fun e w' => e = .returned (.tuple #[.int .i64 0, .int .i64 (-1)]) ∧ Below w.heap.size w w' := by
  obtain ⟨A, c, rfl, -, -, -⟩ := hv
  rw [bs_length]
  by_cases h0 : at_ < 0
  · clear ha
    go_enter Try.func17, Try.ntmps17
    go_wp2
    go_ret2
    exact ⟨rfl, Below.refl _ _⟩
  · have h1 : (l.length : Int) ≤ at_ := by omega
    have h2 : 0 ≤ at_ := by omega
    clear ha h0
    go_enter Try.func17, Try.ntmps17
    go_wp2
    go_ret2
    exact ⟨rfl, Below.refl _ _⟩

/-- The model's answer, at every index. -/
theorem specGetNumAny (l : List Int) (hB : Byt l) (v : Value) (at_ : Int) (w : World) (hv : Rd w v (bs l)) (ha : at_ ≤ 9223372036854775807) (hl : l.length ≤ 1099511627776) :
    Calls Try.prog 16 #[v, .int .i64 at_] w fun e w' => e = .returned (.tuple #[.int .i64 (getNum l at_).1, .int .i64 (getNum l at_).2]) ∧ Below w.heap.size w w' := by
  by_cases h : at_ < 0
  · rw [getNum, if_pos h]
    exact specGetNumNeg l v at_ w hv h
  · rw [getNum, if_neg h]
    obtain ⟨n, rfl⟩ := Int.eq_ofNat_of_zero_le (by omega : 0 ≤ at_)
    exact specGetNum l hB v n w hv (by omega) hl

/-- The program's answer, at every index. -/
theorem implGetNumAny (l : List Int) (hB : Byt l) (v : Value) (at_ : Int) (w : World) (hv : Rd w v (bs l)) (hl : l.length ≤ 1099511627776) :
    Calls Try.prog 17 #[v, .int .i64 at_] w fun e w' => e = .returned (.tuple #[.int .i64 (getNum l at_).1, .int .i64 (getNum l at_).2]) ∧ Below w.heap.size w w' := by
  by_cases h : at_ < 0 ∨ l.length ≤ at_
  · have e : getNum l at_ = (0, -1) := by
      unfold getNum
      by_cases h0 : at_ < 0
      · rw [if_pos h0]
      · rw [if_neg h0]
        exact gnum_none (by omega)
    rw [e]
    exact implGetNumOut l v at_ w hv h
  · rw [getNum, if_neg (by omega)]
    obtain ⟨n, rfl⟩ := Int.eq_ofNat_of_zero_le (by omega : 0 ≤ at_)
    exact implGetNum l hB v n w hv (by omega) hl

set_option maxHeartbeats 400000 in
theorem lawGetNum (l : List Int) (hB : Byt l) (v : Value) (at_ : Int) (w : World) (hv : Rd w v (bs l)) (ha : -9223372036854775808 ≤ at_ ∧ at_ ≤ 9223372036854775807) :
    Calls Try.prog 4 #[v, .int .i64 at_] w fun e w' => e = .returned (.bool true) ∧ Below w.heap.size w w' := by
  obtain ⟨A, c, hV, hc1, hc2, _⟩ := id hv
  rw [bs_length] at *
  unfold maxLen at hc2
  by_cases hl : 1048576 < l.length
  · subst hV
    clear hv
    go_enter Try.func4, Try.ntmps4
    go_wp2
    go_ret
    exact ⟨rfl, Below.refl _ _⟩
  · obtain ⟨R, hR⟩ : ∃ R, getNum l at_ = R := ⟨_, rfl⟩
    have HV := hide hv
    subst hV
    clear hv
    go_enter Try.func4, Try.ntmps4
    go_wp2_with fail
    refine (toBytes l _ w HV.out (by omega)).mono ?_
    rintro e w1 ⟨t1, rfl, own1, b1⟩
    go_wp2_with fail
    refine (specGetNumAny l hB t1 at_ w1 own1.rd ha.2 (by omega)).mono ?_
    rintro e w2 ⟨rfl, b2⟩
    rw [hR]
    have c2 : Below w.heap.size w w2 := b1.trans (b2.mono b1.size)
    go_wp2_with fail
    refine (toBytes l _ w2 (HV.out.below c2) (by omega)).mono ?_
    rintro e w3 ⟨x0, rfl, own3, b3⟩
    have c3 : Below w.heap.size w w3 := c2.trans (b3.mono c2.size)
    go_wp2_with fail
    refine (implGetNumAny l hB x0 at_ w3 own3.rd (by omega)).mono ?_
    rintro e w4 ⟨rfl, b4⟩
    rw [hR]
    have c4 : Below w.heap.size w w4 := c3.trans (b4.mono c3.size)
    have e1 : ((R.1 : Int) != R.1) = false := by simp
    have e2 : ((R.2 : Int) != R.2) = false := by simp
    have HH := hide hR
    clear hR
    go_wp2_with fail
    refine (toBytes l _ w4 (HV.out.below c4) (by omega)).mono ?_
    rintro e w5 ⟨t5, rfl, own5, b5⟩
    have c5 : Below w.heap.size w w5 := c4.trans (b5.mono c4.size)
    go_wp2_with fail
    refine (eqBytes l x0 t5 w5 ((own3.rd.below b4).below b5) own5.rd).mono ?_
    rintro e w6 ⟨rfl, b6⟩
    have c6 : Below w.heap.size w w6 := c5.trans (b6.mono c5.size)
    go_wp2_with fail
    go_ret
    exact ⟨rfl, c6⟩

end Go.Proofs.Ytopdflifgimadaa
