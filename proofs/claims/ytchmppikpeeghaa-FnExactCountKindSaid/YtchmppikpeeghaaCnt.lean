/-
  What a loop that counts in a box keeps between two rounds.
-/
import Derived.Test.YtchmppikpeeghaaLoopN
namespace Go.Proofs.Ytchmppikpeeghaa
open Go.RowKit Go.Shelf
set_option linter.unusedVariables false

/-- Between two rounds of a loop that counts in the box c. -/
def CntI (w : World) (c : Nat) (f : List (Nd w) → Int) (xs : List (Nd w)) (W : World) : Prop := Boxed W c 3 (.int .i64 (f xs)) ∧ (∀ y ∈ xs, y.good) ∧ Below w.heap.size w W
theorem CntI.step {w : World} {c : Nat} {f : List (Nd w) → Int} {xs : List (Nd w)} {W W' : World} (h : CntI w c f xs W) (hb : Below W.heap.size W W') : CntI w c f xs W' :=
  ⟨(hb.block _ h.1.lt).trans h.1, h.2.1, h.2.2.trans (hb.mono h.2.2.size)⟩
theorem CntI.put {w : World} {c : Nat} {f : List (Nd w) → Int} {xs : List (Nd w)} {W : World} {l : Nat} {r : Loop} (h : CntI w c f xs W) (hl : W.heap[l]? = some (.loop r)) (hn : w.heap.size ≤ l) (o : Obj) : CntI w c f xs (W.putObj l o) :=
  ⟨boxed_put h.1 hl o, h.2.1, h.2.2.trans (Holds.put hl hn o).below⟩

end Go.Proofs.Ytchmppikpeeghaa
