/-
  Parts of the proof: ObjOkL.
-/
import Derived.Test.YtigklnokgmcifaaDoorMo26
import Derived.Test.YtigklnokgmcifaaDoorMo43

/-
  The law ObjOk.
-/
namespace Go.Proofs.YtigklnokgmcifaaDoor
open Go.RowKit
set_option linter.unusedVariables false

theorem lawObjOk (x0 : DObj) (o0 : oks x0.cells) (w : World) (u0 : List Value) (E0 : List Nat) (h0 : Lies w x0.cells u0 E0) (hT : Tab w) :
    Calls Tryd.prog 3 #[.agg u0.toArray] w fun e w' => e = .returned (.bool true) ∧ Below w.heap.size w w' := by
  refine walkObjOk x0 (objOk x0) ?_ ?_ w u0 E0 h0 hT
  · intro hb u E W h
    exact specObjOk x0 o0 hb u W ⟨E, h⟩
  · intro hb u E W h ht
    exact implObjOk x0 o0 hb u W ⟨E, h⟩ ht
end Go.Proofs.YtigklnokgmcifaaDoor
