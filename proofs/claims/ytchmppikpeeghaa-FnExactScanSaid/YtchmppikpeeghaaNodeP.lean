/-
  Valid trees in plain numbers.
-/
import Derived.Test.YtchmppikpeeghaaTree
import Derived.Test.YtchmppikpeeghaaLess
import Derived.Test.YtchmppikpeeghaaEntryQ
import Derived.Test.YtchmppikpeeghaaAsc
namespace Go.Proofs.Ytchmppikpeeghaa
open Go.RowKit
set_option linter.unusedVariables false

/-- The k-th name is an entry, and comes behind the one before it. -/
def nameAt (ns : List (List Int)) (k : Nat) : Bool := entryOk (ns.getD k []) && (decide (k = 0) || lessL (ns.getD (k - 1) []) (ns.getD k []))
def ascFrom (ns : List (List Int)) : Nat → Nat → Bool
  | 0, _ => true
  | f + 1, k => nameAt ns k && ascFrom ns f (k + 1)
def asc (ns : List (List Int)) : Bool := ascFrom ns ns.length 0
theorem ascFrom_more {ns : List (List Int)} {k : Nat} (h : k < ns.length) : ascFrom ns (ns.length - k) k = (nameAt ns k && ascFrom ns (ns.length - (k + 1)) (k + 1)) := by
  have e : ns.length - k = (ns.length - (k + 1)) + 1 := by omega
  rw [e, ascFrom]

def T.nodeOk : T → Bool
  | .node k d ns ks => if k = 2 then decide (d.length = 0 ∧ ks.length ≤ 6 ∧ ns.length = ks.length) && asc ns else decide (0 ≤ k ∧ k ≤ 3 ∧ d.length ≤ 400 ∧ ns.length = 0 ∧ ks.length = 0)

theorem ascFrom_P (ns : List (List Int)) : ∀ f k, ascFrom ns f k = ascPF entryOk ns f k
  | 0, _ => rfl
  | f + 1, k => by rw [ascFrom, ascPF, ascFrom_P ns f]; rfl
theorem asc_P (ns : List (List Int)) : ascP entryOk ns = asc ns := (ascFrom_P ns _ _).symm

end Go.Proofs.Ytchmppikpeeghaa
