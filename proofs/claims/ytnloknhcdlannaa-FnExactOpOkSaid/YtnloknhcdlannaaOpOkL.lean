
/-
  The law OpOk.
-/
import Derived.Test.YtnloknhcdlannaaOpOkW
import Derived.Test.YtnloknhcdlannaaOp5J
import Derived.Test.YtnloknhcdlannaaBulkC
namespace Go.Proofs.Ytnloknhcdlannaa
open Go.RowKit
set_option linter.unusedVariables false

theorem lawOpOk (x0 : DOp) (o0 : oks x0.cells) (a1 : Int) (w : World) (u0 : List Value) (E0 : List Nat) (h0 : Lies w x0.cells u0 E0) (ha1 : -9223372036854775808 ≤ a1 ∧ a1 ≤ 9223372036854775807) :
    Calls Try.prog 3 #[.agg u0.toArray, .int .i64 a1] w fun e w' => e = .returned (.bool true) ∧ Below w.heap.size w w' := by
  refine walkOpOk x0 a1 (opOk x0 a1) ha1 ?_ ?_ w u0 E0 h0
  · intro hb u E W h
    have := bulk_Op x0
    exact specOpOk x0 a1 o0 ha1 (by omega) (by omega) u W ⟨E, h⟩
  · intro hb u E W h
    have := bulk_Op x0
    exact implOpOk x0 a1 o0 (by omega) (by omega) u W ⟨E, h⟩
end Go.Proofs.Ytnloknhcdlannaa
