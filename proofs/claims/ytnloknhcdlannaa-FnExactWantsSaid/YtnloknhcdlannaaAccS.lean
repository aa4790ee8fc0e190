
/-
  A row of bytes that the model collects: PutText, and append in a region that draws.
-/
import Derived.Test.YtnloknhcdlannaaApp8
import Derived.Deep.RegionLaw
namespace Go.Proofs.Ytnloknhcdlannaa
open Go.RowKit
set_option linter.unusedVariables false

theorem Acc.put {w0 W : World} {L t : List Int} {v u : Value} (h : Acc w0 L v W) (hu : Rd W u (bs t)) (hl : L.length ≤ 1048700000) :
    Calls Try.prog 75 #[v, u] W fun e w' => ∃ v', e = .returned v' ∧ Acc w0 (L ++ etx t) v' w' ∧ Below W.heap.size W w' := by
  have hrow := h.row
  have hrd : Rd W v (bs L) := (Own.of hrow (bs_length L).symm).rd
  refine (specPutText L v t u W hrd hu (by omega)).mono ?_
  rintro e w' ⟨v', rfl, h1, h2⟩
  rw [putText_etx] at h1
  refine ⟨v', rfl, Acc.of (own_low (own_len h1.1 (bs_length _)) h.below.size) (h.below.trans (h2.mono h.below.size)), h2⟩

theorem step_app {P : Program} (w : World) {ops : Array Oper} {o : Oper} {a : Act} {K : Act → World → Prop} {Q : Exit → Act → World → Prop} {E : Prop} (hgd : o.guard = none) (s x : Operand) (t : TypeId)
    (ho : o.op = .call { callee := .builtin .append, args := #[s, x], argTypes := #[t, t] })
    (base : Nat) (e : TypeId) (i : TypeInfo) (z : Value) (bytes : Nat) (ht : P.underlying t = some (.slice e)) (hi : P.info? e = some i) (hz : i.zero = some z)
    (hsize : i.size = 1) (hby : i.bytes = bytes) (hzs : z.cells.size = 1)
    (v : Value) (n : Nat) (xs : List Value) (hs : a.eval s = v) (hown : w.ownsRow base e 1 v n xs) (y : Value) (ys : List Value) (hx : a.eval x = y) (hr : Rd w y ys) (h1 : ∀ u ∈ ys, u.oneCell' = true)
    (h63 : n + ys.length ≤ maxLen) (hbytes : (n + ys.length) * bytes ≤ 140737488355328) (hbase : base ≤ w.heap.size)
    (h : ∀ v' w', w'.ownsRow base e 1 v' (n + ys.length) (xs ++ ys) → w.grownBy w' v.ownBlock → K (a.put o.dst v') w') : if Region.wanted o (yielded ops a.tmps) = true then Oper.wp P o a w K Q else E := by
  have hw : Region.wanted o (yielded ops a.tmps) = true := by simp [Region.wanted, hgd]
  rw [if_pos hw]
  obtain ⟨v', w', hrun, h2, h3⟩ := run_app (P := P) w base t o.type e i z bytes ht hi hz hsize hby hzs v n xs hown y ys hr h1 h63 hbytes hbase
  unfold Oper.wp execOp
  simp only [ho, resolve, invoke, builtin, Sem.run_bind, Sem.run_pure, Result.andThen_ok, List.map_toArray, List.map_cons, List.map_nil, hs, hx, hrun]
  exact h v' w' h2 h3

end Go.Proofs.Ytnloknhcdlannaa
