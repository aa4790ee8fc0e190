
/-
  Rows of texts that are valid and ascending, in plain numbers.
-/
import Derived.Test.YtnloknhcdlannaaTree
import Derived.Test.YtnloknhcdlannaaLess
namespace Go.Proofs.Ytnloknhcdlannaa
open Go.RowKit
set_option linter.unusedVariables false

/-- The k-th text is valid, and comes behind the one before it. -/
def nameP (p : List Int → Bool) (ns : List (List Int)) (k : Nat) : Bool := p (ns.getD k []) && (decide (k = 0) || lessL (ns.getD (k - 1) []) (ns.getD k []))
def ascPF (p : List Int → Bool) (ns : List (List Int)) : Nat → Nat → Bool
  | 0, _ => true
  | f + 1, k => nameP p ns k && ascPF p ns f (k + 1)
def ascP (p : List Int → Bool) (ns : List (List Int)) : Bool := ascPF p ns ns.length 0
theorem ascPF_more {p : List Int → Bool} {ns : List (List Int)} {k : Nat} (h : k < ns.length) : ascPF p ns (ns.length - k) k = (nameP p ns k && ascPF p ns (ns.length - (k + 1)) (k + 1)) := by
  have e : ns.length - k = (ns.length - (k + 1)) + 1 := by omega
  rw [e, ascPF]
theorem below_eq {w w' : World} (h : w = w') : Below w.heap.size w w' := h ▸ Below.refl _ _
theorem ascP_at {p : List Int → Bool} {ns : List (List Int)} : ascP p ns = true ↔ ∀ m, m < ns.length → nameP p ns m = true := by
  have key : ∀ f k, f + k = ns.length → (ascPF p ns f k = true ↔ ∀ m, k ≤ m → m < ns.length → nameP p ns m = true) := by
    intro f
    induction f with
    | zero => intro k hk; rw [ascPF]; exact ⟨fun _ m h1 h2 => by omega, fun _ => rfl⟩
    | succ f ih =>
      intro k hk
      rw [ascPF, Bool.and_eq_true, ih (k + 1) (by omega)]
      exact ⟨fun ⟨h1, h2⟩ m h3 h4 => by
        by_cases h : m = k
        · subst h; exact h1
        · exact h2 m (by omega) h4, fun h => ⟨h k (Nat.le_refl _) (by omega), fun m h1 h2 => h m (by omega) h2⟩⟩
  rw [ascP, key ns.length 0 (by omega)]
  exact ⟨fun h m hm => h m (Nat.zero_le _) hm, fun h m _ hm => h m hm⟩


end Go.Proofs.Ytnloknhcdlannaa
