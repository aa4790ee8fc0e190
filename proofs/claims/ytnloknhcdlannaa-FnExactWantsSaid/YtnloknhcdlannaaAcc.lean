
/-
  A row of bytes that a call collects.
-/
import Derived.Test.YtnloknhcdlannaaApp
import Derived.Test.YtnloknhcdlannaaOwn
import Derived.Test.YtnloknhcdlannaaText
import Derived.Test.YtnloknhcdlannaaDrvP
namespace Go.Proofs.Ytnloknhcdlannaa
open Go.RowKit
set_option linter.unusedVariables false

theorem own_low {w : World} {lo lo' n size : Nat} {e : TypeId} {v : Value} {xs : List Value} (h : w.ownsRow lo e size v n xs) (hl : lo' ≤ lo) : w.ownsRow lo' e size v n xs := by
  refine ⟨h.1, ?_⟩
  rcases h.2 with hn | ⟨g, cap, cur, rfl, hbg, r⟩
  · exact .inl hn
  · exact .inr ⟨g, cap, cur, rfl, Nat.le_trans hl hbg, r⟩
/-- v is a row of the call's own that reads as L; w0 is the world that the call began in. -/
def Acc (w0 : World) (L : List Int) (v : Value) (W : World) : Prop := ∃ A n c, v = .slice A n c ∧ n = L.length ∧ W.ownsRow w0.heap.size 5 1 (.slice A n c) n (bs L) ∧ Below w0.heap.size w0 W
theorem Acc.step {w0 W W' : World} {L : List Int} {v : Value} (h : Acc w0 L v W) (hb : Below W.heap.size W W') : Acc w0 L v W' := by
  obtain ⟨A, n, c, h1, h2, h3, h4⟩ := h
  exact ⟨A, n, c, h1, h2, own_step h3 hb, h4.trans (hb.mono h4.size)⟩
theorem Acc.below {w0 W : World} {L : List Int} {v : Value} (h : Acc w0 L v W) : Below w0.heap.size w0 W := h.elim fun _ h => h.elim fun _ h => h.elim fun _ h => h.2.2.2
theorem Acc.eq {w0 W : World} {L L' : List Int} {v : Value} (h : Acc w0 L v W) (e : L = L') : Acc w0 L' v W := e ▸ h
theorem Acc.app {w0 W W2 : World} {L S : List Int} {A : Option Addr} {n c : Nat} {v2 : Value} (hn : n = L.length) (ho : W.ownsRow w0.heap.size 5 1 (.slice A n c) n (bs L)) (hb : Below w0.heap.size w0 W)
    (o2 : W2.ownsRow w0.heap.size 5 1 v2 (n + (bs S).length) (bs L ++ bs S)) (g2 : W.grownBy W2 (Value.slice A n c).ownBlock) : Acc w0 (L ++ S) v2 W2 := by
  obtain ⟨A7, c7, rfl, -, -⟩ := own_slice o2
  refine ⟨A7, _, c7, rfl, ?_, own_cells o2 (bs_append _ _).symm, Below.row hb hb.size ho g2⟩
  rw [List.length_append, bs_length, hn]
theorem Acc.row {w0 W : World} {L : List Int} {v : Value} (h : Acc w0 L v W) : W.ownsRow w0.heap.size 5 1 v L.length (bs L) := by
  obtain ⟨A, n, c, rfl, rfl, h3, h4⟩ := h
  exact h3
theorem Acc.of {w0 W : World} {L : List Int} {v : Value} (h : W.ownsRow w0.heap.size 5 1 v L.length (bs L)) (hb : Below w0.heap.size w0 W) : Acc w0 L v W := by
  obtain ⟨A7, c7, rfl, -, -⟩ := own_slice h
  exact ⟨A7, _, c7, rfl, rfl, h, hb⟩
theorem Acc.text {w0 W : World} {L t : List Int} {v u : Value} (h : Acc w0 L v W) (hu : Rd w0 u (bs t)) (hl : L.length ≤ 1099511627776) :
    Calls Try.prog 84 #[v, u] W fun e w' => ∃ v', e = .returned v' ∧ Acc w0 (L ++ etx t) v' w' := by
  refine (appendText L v t u w0.heap.size W w0 h.row hu rfl h.below hl).mono ?_
  rintro e w' ⟨v', rfl, h1, h2⟩
  rw [putText_etx] at h1
  exact ⟨v', rfl, Acc.of h1 (h.below.trans h2)⟩

end Go.Proofs.Ytnloknhcdlannaa
