/-
  Parts of the proof: Acc, DrvOkP.
-/
import Derived.Test.YtigklnokgmcifaaDoorMd2
import Derived.Test.YtigklnokgmcifaaDoorMd8
import Derived.Test.YtigklnokgmcifaaDoorMd18
import Derived.Test.YtigklnokgmcifaaDoorMd17
import Derived.Test.YtigklnokgmcifaaDoorMd10

/-
  A row of bytes that a call collects.
-/
namespace Go.Proofs.YtigklnokgmcifaaDoor
open Go.RowKit
set_option linter.unusedVariables false

theorem own_low {w : World} {lo lo' n size : Nat} {e : TypeId} {v : Value} {xs : List Value} (h : w.ownsRow lo e size v n xs) (hl : lo' ≤ lo) : w.ownsRow lo' e size v n xs := by
  refine ⟨h.1, ?_⟩
  rcases h.2 with hn | ⟨g, cap, cur, rfl, hbg, r⟩
  · exact .inl hn
  · exact .inr ⟨g, cap, cur, rfl, Nat.le_trans hl hbg, r⟩
/-- v is a row of the call's own that reads as L; w0 is the world that the call began in. -/
def Acc (w0 : World) (L : List Int) (v : Value) (W : World) : Prop := ∃ A n c, v = .slice A n c ∧ n = L.length ∧ W.ownsRow w0.heap.size 5 1 (.slice A n c) n (bs L) ∧ Below w0.heap.size w0 W
theorem Acc.step {w0 W W' : World} {L : List Int} {v : Value} (h : Acc w0 L v W) (hb : Below W.heap.size W W') : Acc w0 L v W' := by
  obtain ⟨A, n, c, h1, h2, h3, h4⟩ := h
  exact ⟨A, n, c, h1, h2, own_step h3 hb, h4.trans (hb.mono h4.size)⟩
theorem Acc.below {w0 W : World} {L : List Int} {v : Value} (h : Acc w0 L v W) : Below w0.heap.size w0 W := h.elim fun _ h => h.elim fun _ h => h.elim fun _ h => h.2.2.2
theorem Acc.eq {w0 W : World} {L L' : List Int} {v : Value} (h : Acc w0 L v W) (e : L = L') : Acc w0 L' v W := e ▸ h
theorem Acc.app {w0 W W2 : World} {L S : List Int} {A : Option Addr} {n c : Nat} {v2 : Value} (hn : n = L.length) (ho : W.ownsRow w0.heap.size 5 1 (.slice A n c) n (bs L)) (hb : Below w0.heap.size w0 W)
    (o2 : W2.ownsRow w0.heap.size 5 1 v2 (n + (bs S).length) (bs L ++ bs S)) (g2 : W.grownBy W2 (Value.slice A n c).ownBlock) : Acc w0 (L ++ S) v2 W2 := by
  obtain ⟨A7, c7, rfl, -, -⟩ := own_slice o2
  refine ⟨A7, _, c7, rfl, ?_, own_cells o2 (bs_append _ _).symm, Below.row hb hb.size ho g2⟩
  rw [List.length_append, bs_length, hn]
theorem Acc.row {w0 W : World} {L : List Int} {v : Value} (h : Acc w0 L v W) : W.ownsRow w0.heap.size 5 1 v L.length (bs L) := by
  obtain ⟨A, n, c, rfl, rfl, h3, h4⟩ := h
  exact h3
theorem Acc.of {w0 W : World} {L : List Int} {v : Value} (h : W.ownsRow w0.heap.size 5 1 v L.length (bs L)) (hb : Below w0.heap.size w0 W) : Acc w0 L v W := by
  obtain ⟨A7, c7, rfl, -, -⟩ := own_slice h
  exact ⟨A7, _, c7, rfl, rfl, h, hb⟩
theorem Acc.text {w0 W : World} {L t : List Int} {v u : Value} (h : Acc w0 L v W) (hu : Rd w0 u (bs t)) (hl : L.length ≤ 1099511627776) :
    Calls Tryd.prog 105 #[v, u] W fun e w' => ∃ v', e = .returned v' ∧ Acc w0 (L ++ etx t) v' w' := by
  refine (appendText L v t u w0.heap.size W w0 h.row hu rfl h.below hl).mono ?_
  rintro e w' ⟨v', rfl, h1, h2⟩
  rw [putText_etx] at h1
  exact ⟨v', rfl, Acc.of h1 (h.below.trans h2)⟩

end Go.Proofs.YtigklnokgmcifaaDoor


/-
  Derivations that are valid, in plain lists.
-/
namespace Go.Proofs.YtigklnokgmcifaaDoor
open Go.RowKit
set_option linter.unusedVariables false

def asReal (x : DIn) : DReal := ⟨x.drv, x.out, []⟩
/-- Inputs in order: by derivation, then by output. -/
def inLess (a b : DIn) : Bool := decide (realCmp (asReal a) (asReal b) < 0)
def inOkP (x : DIn) : Bool := nameOk x.drv && entryOk x.out
def insAt (l : List DIn) (k : Nat) : Bool :=
  match l[k]? with
  | some x => inOkP x && (decide (k = 0) || (match l[k - 1]? with | some p => inLess p x | none => true))
  | none => true
def insOk (l : List DIn) : Bool := (List.range l.length).all (insAt l)
def drvTop (d : DDrv) : Bool := decide (d.srcs.length ≤ 3 ∧ d.ins.length ≤ 3 ∧ 1 ≤ d.outs.length ∧ d.outs.length ≤ 2 ∧ d.ops.length ≤ 8) && ascP nameOk d.srcs
def drvOk (d : DDrv) : Bool :=
  drvTop d && (insOk d.ins && (ascP entryOk d.outs && (d.ops.all (fun o => opOk o d.outs.length) && decide ((drvEnc d).length ≤ 400))))
theorem range_all {p : Nat → Bool} {n : Nat} : (List.range n).all p = true ↔ ∀ m, m < n → p m = true := by
  rw [List.all_eq_true]
  exact ⟨fun h m hm => h m (List.mem_range.2 hm), fun h m hm => h m (List.mem_range.1 hm)⟩
theorem insAt_eq {l : List DIn} {k : Nat} (h : k < l.length) : insAt l k = (inOkP l[k] && (decide (k = 0) || (match l[k - 1]? with | some p => inLess p l[k] | none => true))) := by
  rw [insAt, List.getElem?_eq_getElem h]
theorem insAt_more {l : List DIn} {k : Nat} (h : k < l.length) (h0 : k ≠ 0) : insAt l k = (inOkP l[k] && inLess (l[k - 1]'(by omega)) l[k]) := by
  rw [insAt_eq h, decide_eq_false h0, Bool.false_or, List.getElem?_eq_getElem (by omega)]
theorem insAt_first {l : List DIn} (h : 0 < l.length) : insAt l 0 = inOkP l[0] := by
  rw [insAt_eq h]; simp
theorem all_ops {d : DDrv} : d.ops.all (fun o => opOk o d.outs.length) = true ↔ ∀ m (h : m < d.ops.length), opOk d.ops[m] d.outs.length = true := by
  rw [List.all_eq_true]
  exact ⟨fun h m hm => h _ (List.getElem_mem hm), fun h x hx => by obtain ⟨m, hm, rfl⟩ := List.getElem_of_mem hx; exact h m hm⟩
theorem opOk_small {o : DOp} {n : Nat} (h : opOk o n = true) (hn : n ≤ 2) : (0 ≤ o.code ∧ o.code ≤ 4) ∧ (0 ≤ o.out ∧ o.out ≤ 255) ∧ (0 ≤ o.arg ∧ o.arg ≤ 9) := by
  by_cases c0 : o.code = 0
  · rw [opOk, if_pos c0] at h
    simp at h
    omega
  by_cases c1 : o.code = 1
  · rw [opOk, if_neg c0, if_pos c1] at h
    simp at h
    omega
  by_cases c2 : o.code = 2
  · rw [opOk, if_neg c0, if_neg c1, if_pos c2] at h
    simp at h
    omega
  by_cases c3 : o.code = 3
  · rw [opOk, if_neg c0, if_neg c1, if_neg c2, if_pos c3] at h
    simp at h
    omega
  rw [opOk, if_neg c0, if_neg c1, if_neg c2, if_neg c3] at h
  simp at h
  omega
theorem drvSmall_of {d : DDrv} (h1 : drvTop d = true) (h2 : d.ops.all (fun o => opOk o d.outs.length) = true) : drvSmall d := by
  rw [drvTop, Bool.and_eq_true, decide_eq_true_eq] at h1
  obtain ⟨⟨a, b, c, e, f⟩, _⟩ := h1
  exact ⟨a, b, e, f, fun o ho => opOk_small (List.all_eq_true.1 h2 o ho) e⟩

end Go.Proofs.YtigklnokgmcifaaDoor
