/-
  The model's TreeOk and TreeSize.
-/
import Derived.Test.YtchmppikpeeghaaOkS
namespace Go.Proofs.Ytchmppikpeeghaa
open Go.RowKit
set_option linter.unusedVariables false

/-- What TreeOk answers. -/
def treeOk (t : T) : Bool := t.okAt 1 && decide (t.size ≤ 40)
theorem okRest_treeOk (t : T) : decide (0 ≤ okRest t 1 40) = treeOk t := by
  unfold okRest treeOk
  cases t.okAt 1 with
  | false => rfl
  | true =>
    rw [if_pos rfl, Bool.true_and, rest]
    by_cases h : t.size ≤ 40
    · rw [if_pos (by omega), decide_eq_true h]
      exact decide_eq_true (by omega)
    · rw [if_neg (by omega), decide_eq_false h]
      rfl

set_option maxRecDepth 20000 in
set_option maxHeartbeats 800000 in
theorem specTreeOk (t : T) (hB : t.Byts) (q : Q) (w : World) (hq : TIn w t q) :
    Calls Try.prog 15 #[q.val] w fun e w' => e = .returned (.bool (treeOk t)) ∧ Below w.heap.size w w' := by
  obtain ⟨wa, hwa, box, ba, hz⟩ := boxed w q 31
  have x0 := box.c0
  have x1 := box.c1
  have x2 := box.c2
  have x3 := box.c3
  have hcall := specOk t q 1 40 wa hB (by omega) (by omega) (by omega) (hq.below ba)
  have hr := okRest_treeOk t
  obtain ⟨x, hx⟩ : ∃ x, okRest t 1 40 = x := ⟨_, rfl⟩
  rw [hx] at hcall hr
  have HR := hide hr
  have HC := hide hcall
  clear hr hx hq box hcall
  go_enter Try.func15, Try.ntmps15
  go_wp2_with fail
  refine HC.out.mono ?_
  rintro e w2 ⟨rfl, b2⟩
  go_wp2_with fail
  go_ret
  exact ⟨ret_bool HR.out, ba.trans (b2.mono ba.size)⟩

end Go.Proofs.Ytchmppikpeeghaa
