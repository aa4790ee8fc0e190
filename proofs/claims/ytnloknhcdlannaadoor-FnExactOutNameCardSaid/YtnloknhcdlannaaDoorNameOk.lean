
/-
  NameOk: the model and the program agree on what a name is.
-/
import Derived.Test.YtnloknhcdlannaaDoorBytes
import Derived.Test.YtnloknhcdlannaaDoorConv
import Derived.Test.YtnloknhcdlannaaDoorRune
import Derived.Laws.BytesArg
namespace Go.Proofs.YtnloknhcdlannaaDoor
open Go.RowKit

set_option maxHeartbeats 400000 in
theorem containsLow (r : Int) (h0 : 0 ≤ r) (h1 : r < 128) (w : World) :
    Calls Tryd.prog 75 #[.string abcS, .int .i32 r] w fun e w' => e = .returned (.bool (decide (0 ≤ lidx r))) ∧ Below w.heap.size w w' := by
  obtain ⟨R, hR⟩ : ∃ R, lidx r = R := ⟨_, rfl⟩
  rw [hR]
  have HR := hide hR
  clear hR
  go_enter Tryd.func75, Tryd.ntmps75
  go_wp2_with fail
  refine (indexRuneLow r h0 h1 w).mono ?_
  rintro e w1 ⟨rfl, b1⟩
  rw [HR.out]
  go_wp2_with fail
  go_ret
  exact ⟨rfl, b1⟩

set_option maxHeartbeats 400000 in
theorem containsHigh (r : Int) (h0 : 128 ≤ r) (h1 : r ≤ 2147483647) (w : World) :
    Calls Tryd.prog 75 #[.string abcS, .int .i32 r] w fun e w' => e = .returned (.bool false) ∧ Below w.heap.size w w' := by
  have hc := indexRune r (by omega) h1 w
  rw [if_neg (by omega)] at hc
  have HC := hide hc
  clear hc
  go_enter Tryd.func75, Tryd.ntmps75
  go_wp2_with fail
  refine Calls.mono HC.out ?_
  rintro e w1 ⟨rfl, b1⟩
  go_wp2_with fail
  go_ret
  exact ⟨rfl, b1⟩

/-- All from the k-th on are characters. -/
def okFrom (l : List Int) (k : Nat) : Bool := (l.drop k).all fun x => decide (0 ≤ lidx x)
def nameOk (l : List Int) : Bool := decide (l.length = 16) && okFrom l 0
theorem okFrom_more {l : List Int} {k : Nat} (h : k < l.length) : okFrom l k = (decide (0 ≤ lidx (l.getD k 0)) && okFrom l (k + 1)) := by
  unfold okFrom
  rw [List.drop_eq_getElem_cons h, List.all_cons]
  simp [List.getD, List.getElem?_eq_getElem h]
theorem okFrom_end {l : List Int} {k : Nat} (h : l.length ≤ k) : okFrom l k = true := by
  unfold okFrom
  rw [List.drop_eq_nil_of_le h]
  rfl

end Go.Proofs.YtnloknhcdlannaaDoor
