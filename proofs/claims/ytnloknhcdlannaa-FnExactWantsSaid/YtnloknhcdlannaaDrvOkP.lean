
/-
  Derivations that are valid, in plain lists.
-/
import Derived.Test.YtnloknhcdlannaaDrvP
import Derived.Test.YtnloknhcdlannaaRealCmp4
import Derived.Test.YtnloknhcdlannaaOp5S
import Derived.Test.YtnloknhcdlannaaSortS
namespace Go.Proofs.Ytnloknhcdlannaa
open Go.RowKit
set_option linter.unusedVariables false

def asReal (x : DIn) : DReal := ⟨x.drv, x.out, []⟩
/-- Inputs in order: by derivation, then by output. -/
def inLess (a b : DIn) : Bool := decide (realCmp (asReal a) (asReal b) < 0)
def inOkP (x : DIn) : Bool := nameOk x.drv && entryOk x.out
def insAt (l : List DIn) (k : Nat) : Bool :=
  match l[k]? with
  | some x => inOkP x && (decide (k = 0) || (match l[k - 1]? with | some p => inLess p x | none => true))
  | none => true
def insOk (l : List DIn) : Bool := (List.range l.length).all (insAt l)
def drvTop (d : DDrv) : Bool := decide (d.srcs.length ≤ 3 ∧ d.ins.length ≤ 3 ∧ 1 ≤ d.outs.length ∧ d.outs.length ≤ 2 ∧ d.ops.length ≤ 8) && ascP nameOk d.srcs
def drvOk (d : DDrv) : Bool :=
  drvTop d && (insOk d.ins && (ascP entryOk d.outs && (d.ops.all (fun o => opOk o d.outs.length) && decide ((drvEnc d).length ≤ 400))))
theorem range_all {p : Nat → Bool} {n : Nat} : (List.range n).all p = true ↔ ∀ m, m < n → p m = true := by
  rw [List.all_eq_true]
  exact ⟨fun h m hm => h m (List.mem_range.2 hm), fun h m hm => h m (List.mem_range.1 hm)⟩
theorem insAt_eq {l : List DIn} {k : Nat} (h : k < l.length) : insAt l k = (inOkP l[k] && (decide (k = 0) || (match l[k - 1]? with | some p => inLess p l[k] | none => true))) := by
  rw [insAt, List.getElem?_eq_getElem h]
theorem insAt_more {l : List DIn} {k : Nat} (h : k < l.length) (h0 : k ≠ 0) : insAt l k = (inOkP l[k] && inLess (l[k - 1]'(by omega)) l[k]) := by
  rw [insAt_eq h, decide_eq_false h0, Bool.false_or, List.getElem?_eq_getElem (by omega)]
theorem insAt_first {l : List DIn} (h : 0 < l.length) : insAt l 0 = inOkP l[0] := by
  rw [insAt_eq h]; simp
theorem all_ops {d : DDrv} : d.ops.all (fun o => opOk o d.outs.length) = true ↔ ∀ m (h : m < d.ops.length), opOk d.ops[m] d.outs.length = true := by
  rw [List.all_eq_true]
  exact ⟨fun h m hm => h _ (List.getElem_mem hm), fun h x hx => by obtain ⟨m, hm, rfl⟩ := List.getElem_of_mem hx; exact h m hm⟩
theorem opOk_small {o : DOp} {n : Nat} (h : opOk o n = true) (hn : n ≤ 2) : (0 ≤ o.code ∧ o.code ≤ 4) ∧ (0 ≤ o.out ∧ o.out ≤ 255) ∧ (0 ≤ o.arg ∧ o.arg ≤ 9) := by
  by_cases c0 : o.code = 0
  · rw [opOk, if_pos c0] at h
    simp at h
    omega
  by_cases c1 : o.code = 1
  · rw [opOk, if_neg c0, if_pos c1] at h
    simp at h
    omega
  by_cases c2 : o.code = 2
  · rw [opOk, if_neg c0, if_neg c1, if_pos c2] at h
    simp at h
    omega
  by_cases c3 : o.code = 3
  · rw [opOk, if_neg c0, if_neg c1, if_neg c2, if_pos c3] at h
    simp at h
    omega
  rw [opOk, if_neg c0, if_neg c1, if_neg c2, if_neg c3] at h
  simp at h
  omega
theorem drvSmall_of {d : DDrv} (h1 : drvTop d = true) (h2 : d.ops.all (fun o => opOk o d.outs.length) = true) : drvSmall d := by
  rw [drvTop, Bool.and_eq_true, decide_eq_true_eq] at h1
  obtain ⟨⟨a, b, c, e, f⟩, _⟩ := h1
  exact ⟨a, b, e, f, fun o ho => opOk_small (List.all_eq_true.1 h2 o ho) e⟩

end Go.Proofs.Ytnloknhcdlannaa
