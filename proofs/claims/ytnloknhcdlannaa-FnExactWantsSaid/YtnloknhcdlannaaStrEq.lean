
/-
  Strings of bytes are alike if the bytes are.
-/
import Derived.Test.YtnloknhcdlannaaConv
import Derived.Test.YtnloknhcdlannaaLess
namespace Go.Proofs.Ytnloknhcdlannaa
open Go.RowKit

/-- Strings of bytes are alike if the bytes are. -/
theorem str_eq {a b : List Int} (ha : Byt a) (hb : Byt b) : ((strOfNums a).toList == (strOfNums b).toList) = decide (a = b) := by
  by_cases h : a = b
  · subst h; simp
  · rw [decide_eq_false h]
    simp only [beq_eq_false_iff_ne]
    exact fun e => h (str_inj ha hb e)
end Go.Proofs.Ytnloknhcdlannaa
