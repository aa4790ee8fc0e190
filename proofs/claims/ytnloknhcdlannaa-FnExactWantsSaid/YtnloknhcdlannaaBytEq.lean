
/-
  bytes.Equal.
-/
import Derived.Test.YtnloknhcdlannaaConv
import Derived.Test.YtnloknhcdlannaaLift
namespace Go.Proofs.Ytnloknhcdlannaa
open Go.RowKit
set_option linter.unusedVariables false

theorem bytesEq (a n : List Int) (hA : Byt a) (hN : Byt n) (va vn : Value) (w : World) (ha : Rd w va (bs a)) (hn : Rd w vn (bs n)) :
    Calls Try.prog 71 #[va, vn] w fun e w' => e = .returned (.bool (decide (a = n))) ∧ w' = w := by
  have cv1 := conv_rd (P := Try.prog) Try.underlying22 Try.underlying5 Try.underlying9 ha
  have cv2 := conv_rd (P := Try.prog) Try.underlying22 Try.underlying5 Try.underlying9 hn
  have hp : ((strOfNums a).toList == (strOfNums n).toList) = decide (a = n) := by
    by_cases h : a = n
    · rw [h, decide_eq_true rfl]; simp
    · rw [decide_eq_false h]
      simp only [beq_eq_false_iff_ne]
      exact fun e => h (str_inj hA hN e)
  generalize strOfNums a = s1 at *
  generalize strOfNums n = s2 at *
  rw [← hp]
  clear hp ha hn
  go_enter Try.func71, Try.ntmps71
  go_wp2
  go_ret
  exact ⟨rfl, rfl⟩

end Go.Proofs.Ytnloknhcdlannaa
