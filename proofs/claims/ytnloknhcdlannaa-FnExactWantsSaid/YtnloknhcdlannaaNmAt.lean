
/-
  A name out of a row of names.
-/
import Derived.Test.YtnloknhcdlannaaNLie
import Derived.Test.YtnloknhcdlannaaTree
namespace Go.Proofs.Ytnloknhcdlannaa
open Go.RowKit
set_option linter.unusedVariables false

theorem In1.nameAt {w W : World} {ns : List (List Int)} {A : Option Addr} {n c : Nat} (h : In1 w (names ns) (.slice A n c)) (hn : ns.length = n) (hb : Below w.heap.size w W) {k : Nat} (hk : k < n) (hk2 : k < ns.length) :
    ∃ b off X cc, A = some ⟨b, off, none⟩ ∧ b < w.heap.size ∧ W.cell? ⟨b, off + k, none⟩ = some (.slice X (ns[k]).length cc) ∧ Rd w (.slice X (ns[k]).length cc) (bs (ns[k])) := by
  obtain ⟨vs, hv, hvl, hvs⟩ := h.rdN
  obtain ⟨A', c', e, hc1, hc2, hrd⟩ := hv
  injection e with e1 e2 e3
  subst e1 e3
  obtain ⟨b, off, rfl, hlt, hc⟩ := hrd (by omega)
  obtain ⟨x, hx⟩ : ∃ x, vs[k]? = some x := ⟨_, List.getElem?_eq_getElem (by omega)⟩
  have hr := hvs k x hx
  have hg : ns.getD k [] = ns[k] := by simp [List.getD, List.getElem?_eq_getElem hk2]
  rw [hg] at hr
  obtain ⟨X, cc, rfl, _, _, _⟩ := id hr
  rw [bs_length] at *
  exact ⟨b, off, X, cc, rfl, hlt, (hb.cell (p := ⟨b, off + k, none⟩) hlt).trans (hc k _ hx), hr⟩

end Go.Proofs.Ytnloknhcdlannaa
