
/-
  Names and texts as cells, read as before.
-/
import Derived.Test.YtnloknhcdlannaaRow
import Derived.Test.YtnloknhcdlannaaDatT
namespace Go.Proofs.Ytnloknhcdlannaa
open Go.RowKit
set_option linter.unusedVariables false

theorem In1.rd {w : World} {v : Value} {l : List Int} (h : In1 w (raw l) v) : Rd w v (bs l) := h.elim fun F h => h.rd.1
theorem Rd.in1 {w : World} {v : Value} {l : List Int} (h : Rd w v (bs l)) : In1 w (raw l) v := ⟨_, h.lie⟩
theorem Lies.raws {w : World} : ∀ {ns : List (List Int)} {us : List Value} {F : List Nat}, Lies w (cells (fun n => [raw n]) ns) us F → us.length = ns.length ∧ ∀ i u, us[i]? = some u → Rd w u (bs (ns.getD i []))
  | [], us, F, h => by
    rw [cells, Lies] at h
    rw [h.1]
    exact ⟨rfl, fun i u hu => by simp at hu⟩
  | n :: ns, us, F, h => by
    rw [cells, List.singleton_append, Lies] at h
    obtain ⟨u, r, F1, F2, rfl, rfl, h1, h2⟩ := h
    have ih := h2.raws
    refine ⟨by simp [ih.1], fun i x hx => ?_⟩
    cases i with
    | zero =>
      obtain rfl : u = x := by simpa using hx
      exact h1.rd.1
    | succ i => simpa using ih.2 i x (by simpa using hx)
theorem Lie.rdN {w : World} {v : Value} {ns : List (List Int)} {F : List Nat} (h : Lie w (names ns) v F) : RdN w v ns := by
  rw [names, Lie] at h
  obtain ⟨_, us, F2, h1, h2, rfl⟩ := h
  exact ⟨us, h1.rd, h2.raws.1, h2.raws.2⟩
theorem In1.rdN {w : World} {v : Value} {ns : List (List Int)} (h : In1 w (names ns) v) : RdN w v ns := h.elim fun F h => h.rdN

theorem raw_bulkT (l : List Int) : (raw l).bulk = l.length := by
  rw [raw, Cel.bulk]
  have : bulks (l.map (Cel.num .u8)) = 0 := by
    induction l with
    | nil => rfl
    | cons x l ih => rw [List.map_cons, bulks, ih]; rfl
  omega
theorem names_bulk (ns : List (List Int)) : (names ns).bulk = ns.length + sumLen ns := by
  rw [names, Cel.bulk]
  have : bulks (cells (fun n => [raw n]) ns) = sumLen ns := by
    induction ns with
    | nil => rfl
    | cons n r ih => rw [cells, List.singleton_append, bulks, ih, raw_bulkT, sumLen]
  omega
end Go.Proofs.Ytnloknhcdlannaa
