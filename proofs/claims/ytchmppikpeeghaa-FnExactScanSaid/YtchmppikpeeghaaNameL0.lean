/-
  Small words for slices of names.
-/
import Derived.Test.YtchmppikpeeghaaMark
namespace Go.Proofs.Ytchmppikpeeghaa
open Go.RowKit
set_option linter.unusedVariables false

theorem Chain.outside {w w' : World} {lo' hi' : Nat} (ho : Outside lo' hi' w w') : ∀ {lo : Nat} {ns : List (List Int)} {us : List Value} {hi : Nat}, Chain w lo ns us hi → hi ≤ lo' ∨ hi' ≤ lo → Chain w' lo ns us hi
  | lo, [], us, hi, h, _ => h
  | lo, n :: ns, us, hi, ⟨u, r, m, e, o, hm, h⟩, hd => by
    have hle := h.le
    exact ⟨u, r, m, e, o.outside ho (by omega), hm, h.outside ho (by omega)⟩
theorem OwnN.outside {lo hi lo' hi' : Nat} {w w' : World} {v : Value} {ns : List (List Int)} (h : OwnN lo hi w v ns) (ho : Outside lo' hi' w w') (hd : hi ≤ lo' ∨ hi' ≤ lo) : OwnN lo hi w' v ns := by
  obtain ⟨us, m, h1, hm, h2⟩ := h
  have hle := h2.le
  exact ⟨us, m, h1.outside ho (by omega), hm, h2.outside ho (by omega)⟩
theorem OwnN.step {lo hi : Nat} {w w' : World} {v : Value} {ns : List (List Int)} (h : OwnN lo hi w v ns) (hb : Below w.heap.size w w') : OwnN lo hi w' v ns :=
  h.out (Outside.of_below hb 0 0) (Nat.zero_le _)

end Go.Proofs.Ytchmppikpeeghaa
