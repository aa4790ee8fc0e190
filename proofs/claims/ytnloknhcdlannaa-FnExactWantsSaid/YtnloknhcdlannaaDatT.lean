
/-
  Trees as data.
-/
import Derived.Test.YtnloknhcdlannaaDat
import Derived.Test.YtnloknhcdlannaaTree
namespace Go.Proofs.Ytnloknhcdlannaa
open Go.RowKit
set_option linter.unusedVariables false

mutual
/-- A tree's four cells. -/
def T.cells : T → List Cel
  | .node k d ns ks => [.num .i64 k, raw d, Go.Proofs.Ytnloknhcdlannaa.names ns, .seq 4 ks.length (T.cellss ks)]
def T.cellss : List T → List Cel
  | [] => []
  | t :: ts => t.cells ++ T.cellss ts
end
theorem T.cellss_eq : ∀ ks : List T, T.cellss ks = Go.Proofs.Ytnloknhcdlannaa.cells T.cells ks
  | [] => by rw [T.cellss, Go.Proofs.Ytnloknhcdlannaa.cells]
  | t :: ks => by rw [T.cellss, Go.Proofs.Ytnloknhcdlannaa.cells, T.cellss_eq ks]
theorem T.cells_eq (t : T) : t.cells = [.num .i64 t.kind, raw t.data, Go.Proofs.Ytnloknhcdlannaa.names t.names, seqOf 4 T.cells t.kids] := by
  obtain ⟨k, d, ns, ks⟩ := t
  rw [T.cells, T.cellss_eq]
  rfl

end Go.Proofs.Ytnloknhcdlannaa
