/-
  Parts of the proof: StoreOkL.
-/
import Derived.Test.YtmhapnlgakkljaaGreatDoorMp55
import Derived.Test.YtmhapnlgakkljaaGreatDoorMp44
import Derived.Test.YtmhapnlgakkljaaGreatDoorMp37

/-
  The law StoreOk.
-/
namespace Go.Proofs.YtmhapnlgakkljaaGreatDoor
open Go.RowKit
set_option linter.unusedVariables false

theorem lawStoreOk (x0 : DStore) (o0 : oks x0.cells) (w : World) (u0 : List Value) (E0 : List Nat) (h0 : Lies w x0.cells u0 E0) (hT : Tab w) :
    Calls Tryz.prog 3 #[.agg u0.toArray] w fun e w' => e = .returned (.bool true) ∧ Below w.heap.size w w' := by
  refine walkStoreOk x0 (storeOk x0) ?_ ?_ w u0 E0 h0 hT
  · intro hb u E W h
    exact specStoreOk x0 o0 hb u W ⟨E, h⟩
  · intro hb u E W h ht
    exact implStoreOk x0 o0 hb u W ⟨E, h⟩ ht
end Go.Proofs.YtmhapnlgakkljaaGreatDoor
