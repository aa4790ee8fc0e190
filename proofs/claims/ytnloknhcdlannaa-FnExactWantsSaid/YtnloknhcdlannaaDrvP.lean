
/-
  Derivations in plain lists: their encoding.
-/
import Derived.Test.YtnloknhcdlannaaDTyp
import Derived.Test.YtnloknhcdlannaaText
import Derived.Test.YtnloknhcdlannaaBulkC
import Derived.Test.YtnloknhcdlannaaDOk
namespace Go.Proofs.Ytnloknhcdlannaa
open Go.RowKit
set_option linter.unusedVariables false

/-- What PutText puts behind. -/
def etx (t : List Int) : List Int := if 400 < t.length then [] else vint t.length ++ t
theorem putText_etx (l t : List Int) : putText l t = l ++ etx t := by
  unfold putText etx putNum
  split
  · simp
  · rw [if_neg (by omega)]
    simp
theorem etx_len (t : List Int) : (etx t).length ≤ t.length + 5 := by
  unfold etx
  split
  · simp
  · have := vint_len t.length (by omega)
    simp; omega
theorem etx_byt {t : List Int} (h : Byt t) : Byt (etx t) := by
  unfold etx
  split
  · exact Byt.nil
  · exact (vint_byt _).app h
def cat {α : Type} (f : α → List Int) (l : List α) : List Int := (l.map f).flatten
theorem cat_nil {α : Type} (f : α → List Int) : cat f [] = [] := rfl
theorem cat_next {α : Type} (f : α → List Int) {l : List α} {k : Nat} (h : k < l.length) : cat f (l.take (k + 1)) = cat f (l.take k) ++ f l[k] := by
  rw [cat, List.take_succ_eq_append_getElem h, List.map_append, List.flatten_append]
  simp [cat]
theorem cat_len {α : Type} (f : α → List Int) (g : α → Nat) (c : Nat) (h : ∀ x, (f x).length ≤ g x + c) : ∀ l : List α, (cat f l).length ≤ (l.map g).sum + c * l.length
  | [] => by simp [cat]
  | x :: l => by
    have h1 := h x
    have h2 := cat_len f g c h l
    simp only [cat, List.map_cons, List.flatten_cons, List.length_append, List.sum_cons, List.length_cons, Nat.mul_add, Nat.mul_one] at *
    omega
theorem cat_take {α : Type} (f : α → List Int) (l : List α) (k : Nat) : (cat f (l.take k)).length ≤ (cat f l).length := by
  have : cat f l = cat f (l.take k) ++ cat f (l.drop k) := by rw [cat, cat, cat, ← List.flatten_append, ← List.map_append, List.take_append_drop]
  rw [this, List.length_append]
  omega
def inEnc (i : DIn) : List Int := i.drv ++ etx i.out
def opEnc (o : DOp) : List Int := [o.code, o.out, o.arg] ++ etx o.name ++ etx o.text
def drvHead (d : DDrv) : List Int := [68, (d.srcs.length : Int), (d.ins.length : Int), (d.outs.length : Int), (d.ops.length : Int)]
def drvEnc (d : DDrv) : List Int := drvHead d ++ cat id d.srcs ++ cat inEnc d.ins ++ cat etx d.outs ++ cat opEnc d.ops
/-- What the encoding asks of the counts, and of the numbers of the operations. -/
def drvSmall (d : DDrv) : Prop := d.srcs.length ≤ 3 ∧ d.ins.length ≤ 3 ∧ d.outs.length ≤ 2 ∧ d.ops.length ≤ 8 ∧ ∀ o ∈ d.ops, (0 ≤ o.code ∧ o.code ≤ 4) ∧ (0 ≤ o.out ∧ o.out ≤ 255) ∧ (0 ≤ o.arg ∧ o.arg ≤ 9)
theorem sum_names (ns : List (List Int)) : (ns.map List.length).sum = sumLen ns := by
  induction ns with
  | nil => rfl
  | cons n r ih => rw [List.map_cons, List.sum_cons, ih, sumLen]
theorem sum_ins (l : List DIn) : (l.map fun i : DIn => i.drv.length + i.out.length).sum = bulks (cells DIn.cells l) := by
  induction l with
  | nil => rfl
  | cons i l ih => rw [List.map_cons, List.sum_cons, ih, cells, bulks_app, bulk_In]
theorem sum_ops (l : List DOp) : (l.map fun o : DOp => o.name.length + o.text.length).sum = bulks (cells DOp.cells l) := by
  induction l with
  | nil => rfl
  | cons i l ih => rw [List.map_cons, List.sum_cons, ih, cells, bulks_app, bulk_Op]
theorem opEnc_len (o : DOp) : (opEnc o).length ≤ (o.name.length + o.text.length) + 13 := by
  have h1 := etx_len o.name
  have h2 := etx_len o.text
  simp only [opEnc, List.length_append, List.length_cons, List.length_nil]
  omega
theorem inEnc_len (i : DIn) : (inEnc i).length ≤ (i.drv.length + i.out.length) + 5 := by
  have h1 := etx_len i.out
  simp only [inEnc, List.length_append]
  omega
theorem drv_rooms {d : DDrv} (hs : drvSmall d) (hb : bulks d.cells ≤ 1048576) :
    (cat id d.srcs).length ≤ 1048576 ∧ (cat inEnc d.ins).length ≤ 1048600 ∧ (cat etx d.outs).length ≤ 1048600 ∧ (cat opEnc d.ops).length ≤ 1048700 := by
  obtain ⟨h1, h2, h3, h4, _⟩ := hs
  have hk := bulk_Drv d
  have a1 := cat_len id List.length 0 (fun x => by simp) d.srcs
  have a2 := cat_len inEnc (fun i : DIn => i.drv.length + i.out.length) 5 inEnc_len d.ins
  have a3 := cat_len etx List.length 5 etx_len d.outs
  have a4 := cat_len opEnc (fun o : DOp => o.name.length + o.text.length) 13 opEnc_len d.ops
  rw [sum_names] at a1 a3
  rw [sum_ins] at a2
  rw [sum_ops] at a4
  omega

end Go.Proofs.Ytnloknhcdlannaa
