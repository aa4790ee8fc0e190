/-
  Parts of the proof: DrvP, RealCmp4.
-/
import Derived.Test.YtigklnokgmcifaaDoorMd8
import Derived.Test.YtigklnokgmcifaaDoorMd10
import Derived.Test.YtigklnokgmcifaaDoorMd9
import Derived.Test.YtigklnokgmcifaaDoorMd7
import Derived.Laws.BytesArg
import Derived.IntWalk
import Derived.Deep.QuietTactic
import Derived.BigQuiet
import Derived.Deep.Cut
import Derived.Deep.DeepCutAuto
import Derived.Deep.CutBlock
import Derived.Deep.RegionWith

/-
  Derivations in plain lists: their encoding.
-/
namespace Go.Proofs.YtigklnokgmcifaaDoor
open Go.RowKit
set_option linter.unusedVariables false

/-- What PutText puts behind. -/
def etx (t : List Int) : List Int := if 400 < t.length then [] else vint t.length ++ t
theorem putText_etx (l t : List Int) : putText l t = l ++ etx t := by
  unfold putText etx putNum
  split
  · simp
  · rw [if_neg (by omega)]
    simp
theorem etx_len (t : List Int) : (etx t).length ≤ t.length + 5 := by
  unfold etx
  split
  · simp
  · have := vint_len t.length (by omega)
    simp; omega
theorem etx_byt {t : List Int} (h : Byt t) : Byt (etx t) := by
  unfold etx
  split
  · exact Byt.nil
  · exact (vint_byt _).app h
def cat {α : Type} (f : α → List Int) (l : List α) : List Int := (l.map f).flatten
theorem cat_nil {α : Type} (f : α → List Int) : cat f [] = [] := rfl
theorem cat_next {α : Type} (f : α → List Int) {l : List α} {k : Nat} (h : k < l.length) : cat f (l.take (k + 1)) = cat f (l.take k) ++ f l[k] := by
  rw [cat, List.take_succ_eq_append_getElem h, List.map_append, List.flatten_append]
  simp [cat]
theorem cat_len {α : Type} (f : α → List Int) (g : α → Nat) (c : Nat) (h : ∀ x, (f x).length ≤ g x + c) : ∀ l : List α, (cat f l).length ≤ (l.map g).sum + c * l.length
  | [] => by simp [cat]
  | x :: l => by
    have h1 := h x
    have h2 := cat_len f g c h l
    simp only [cat, List.map_cons, List.flatten_cons, List.length_append, List.sum_cons, List.length_cons, Nat.mul_add, Nat.mul_one] at *
    omega
theorem cat_take {α : Type} (f : α → List Int) (l : List α) (k : Nat) : (cat f (l.take k)).length ≤ (cat f l).length := by
  have : cat f l = cat f (l.take k) ++ cat f (l.drop k) := by rw [cat, cat, cat, ← List.flatten_append, ← List.map_append, List.take_append_drop]
  rw [this, List.length_append]
  omega
def inEnc (i : DIn) : List Int := i.drv ++ etx i.out
def opEnc (o : DOp) : List Int := [o.code, o.out, o.arg] ++ etx o.name ++ etx o.text
def drvHead (d : DDrv) : List Int := [68, (d.srcs.length : Int), (d.ins.length : Int), (d.outs.length : Int), (d.ops.length : Int)]
def drvEnc (d : DDrv) : List Int := drvHead d ++ cat id d.srcs ++ cat inEnc d.ins ++ cat etx d.outs ++ cat opEnc d.ops
/-- What the encoding asks of the counts, and of the numbers of the operations. -/
def drvSmall (d : DDrv) : Prop := d.srcs.length ≤ 3 ∧ d.ins.length ≤ 3 ∧ d.outs.length ≤ 2 ∧ d.ops.length ≤ 8 ∧ ∀ o ∈ d.ops, (0 ≤ o.code ∧ o.code ≤ 4) ∧ (0 ≤ o.out ∧ o.out ≤ 255) ∧ (0 ≤ o.arg ∧ o.arg ≤ 9)
theorem sum_names (ns : List (List Int)) : (ns.map List.length).sum = sumLen ns := by
  induction ns with
  | nil => rfl
  | cons n r ih => rw [List.map_cons, List.sum_cons, ih, sumLen]
theorem sum_ins (l : List DIn) : (l.map fun i : DIn => i.drv.length + i.out.length).sum = bulks (cells DIn.cells l) := by
  induction l with
  | nil => rfl
  | cons i l ih => rw [List.map_cons, List.sum_cons, ih, cells, bulks_app, bulk_In]
theorem sum_ops (l : List DOp) : (l.map fun o : DOp => o.name.length + o.text.length).sum = bulks (cells DOp.cells l) := by
  induction l with
  | nil => rfl
  | cons i l ih => rw [List.map_cons, List.sum_cons, ih, cells, bulks_app, bulk_Op]
theorem opEnc_len (o : DOp) : (opEnc o).length ≤ (o.name.length + o.text.length) + 13 := by
  have h1 := etx_len o.name
  have h2 := etx_len o.text
  simp only [opEnc, List.length_append, List.length_cons, List.length_nil]
  omega
theorem inEnc_len (i : DIn) : (inEnc i).length ≤ (i.drv.length + i.out.length) + 5 := by
  have h1 := etx_len i.out
  simp only [inEnc, List.length_append]
  omega
theorem drv_rooms {d : DDrv} (hs : drvSmall d) (hb : bulks d.cells ≤ 1048576) :
    (cat id d.srcs).length ≤ 1048576 ∧ (cat inEnc d.ins).length ≤ 1048600 ∧ (cat etx d.outs).length ≤ 1048600 ∧ (cat opEnc d.ops).length ≤ 1048700 := by
  obtain ⟨h1, h2, h3, h4, _⟩ := hs
  have hk := bulk_Drv d
  have a1 := cat_len id List.length 0 (fun x => by simp) d.srcs
  have a2 := cat_len inEnc (fun i : DIn => i.drv.length + i.out.length) 5 inEnc_len d.ins
  have a3 := cat_len etx List.length 5 etx_len d.outs
  have a4 := cat_len opEnc (fun o : DOp => o.name.length + o.text.length) 13 opEnc_len d.ops
  rw [sum_names] at a1 a3
  rw [sum_ins] at a2
  rw [sum_ops] at a4
  omega

end Go.Proofs.YtigklnokgmcifaaDoor


/-
  The model's l4realCmp.
-/
namespace Go.Proofs.YtigklnokgmcifaaDoor
open Go.RowKit
set_option linter.unusedVariables false
set_option linter.unusedSimpArgs false

/-- Realisations in order: by derivation, then by output. -/
def realCmp (a b : DReal) : Int := if a.drv = b.drv then (if lessL a.out b.out then -1 else if a.out = b.out then 0 else 1) else if lessL a.drv b.drv then -1 else 1
set_option maxRecDepth 20000 in
set_option maxHeartbeats 1600000 in
theorem specRealCmp (a b : DReal) (ha : oks a.cells) (hb : oks b.cells) (ua ub : List Value) (w : World) (hsa : Ins w a.cells ua) (hsb : Ins w b.cells ub) :
    Calls Tryd.prog 106 #[.agg ua.toArray, .agg ub.toArray] w fun e w' => e = .returned (.int .i64 (realCmp a b)) ∧ Below w.heap.size w w' := by
  obtain ⟨Aa0, ca0, Aa1, ca1, Aa2, ca2, rfl, ha0, ha1, ha2⟩ := DReal.view hsa
  obtain ⟨Ab0, cb0, Ab1, cb1, Ab2, cb2, rfl, hb0, hb1, hb2⟩ := DReal.view hsb
  obtain ⟨wa, hwa⟩ : ∃ wa, w.alloc (.cells #[.slice Aa0 a.drv.length ca0, .slice Aa1 a.out.length ca1, .slice Aa2 a.path.length ca2] 127) = wa := ⟨_, rfl⟩
  have baa : Below w.heap.size w wa := by rw [← hwa]; exact (Below.refl _ _).alloc (Nat.le_refl _) _
  have bxa : Box wa w.heap.size 127 [.slice Aa0 a.drv.length ca0, .slice Aa1 a.out.length ca1, .slice Aa2 a.path.length ca2] := by rw [← hwa]; exact Box.new w _ _
  have hza : w.heap.size < wa.heap.size := bxa.lt
  obtain ⟨wb, hwb⟩ : ∃ wb, wa.alloc (.cells #[.slice Ab0 b.drv.length cb0, .slice Ab1 b.out.length cb1, .slice Ab2 b.path.length cb2] 127) = wb := ⟨_, rfl⟩
  have bab : Below wa.heap.size wa wb := by rw [← hwb]; exact (Below.refl _ _).alloc (Nat.le_refl _) _
  have bxb : Box wb wa.heap.size 127 [.slice Ab0 b.drv.length cb0, .slice Ab1 b.out.length cb1, .slice Ab2 b.path.length cb2] := by rw [← hwb]; exact Box.new wa _ _
  have hzb : wa.heap.size < wb.heap.size := bxb.lt
  have bel : Below w.heap.size w wb := baa.trans (bab.mono baa.size)
  have bxa2 := bxa.step bab
  have x0 := bxa2.cell (j := 0) rfl
  have x1 := bxa2.cell (j := 1) rfl
  have z0 := bxb.cell (j := 0) rfl
  have z1 := bxb.cell (j := 1) rfl
  obtain ⟨oa0, oa1, oa2⟩ := (DReal.oks_iff a).1 ha
  obtain ⟨ob0, ob1, ob2⟩ := (DReal.oks_iff b).1 hb
  have c0 := conv_rd (P := Tryd.prog) Tryd.underlying22 Tryd.underlying5 Tryd.underlying9 (ha0.step bel).rd
  have c1 := conv_rd (P := Tryd.prog) Tryd.underlying22 Tryd.underlying5 Tryd.underlying9 (ha1.step bel).rd
  have d0 := conv_rd (P := Tryd.prog) Tryd.underlying22 Tryd.underlying5 Tryd.underlying9 (hb0.step bel).rd
  have d1 := conv_rd (P := Tryd.prog) Tryd.underlying22 Tryd.underlying5 Tryd.underlying9 (hb1.step bel).rd
  have e0 := str_eq oa0 ob0
  have e1 := less_str oa0 ob0
  have e2 := less_str oa1 ob1
  have e3 := str_eq oa1 ob1
  have hR := show realCmp a b = if a.drv = b.drv then (if lessL a.out b.out then -1 else if a.out = b.out then 0 else 1) else if lessL a.drv b.drv then -1 else 1 from rfl
  have HR := hide hR
  have HBE := hide bel
  generalize strOfNums a.drv = s1 at *
  generalize strOfNums a.out = s2 at *
  generalize strOfNums b.drv = s3 at *
  generalize strOfNums b.out = s4 at *
  clear hR bxa bxb bxa2 ha0 ha1 ha2 hb0 hb1 hb2 baa bab hsa hsb
  go_enter Tryd.func106, Tryd.ntmps106
  by_cases hd : a.drv = b.drv
  · rw [decide_eq_true hd] at e0
    cases h2 : lessL a.out b.out with
    | true =>
      rw [h2] at e2
      have hr : realCmp a b = -1 := by rw [HR.out, if_pos hd, h2]; rfl
      have HR2 := hide hr
      clear hr h2 hd
      go_wp2_with fail
      go_ret
      exact ⟨ret_i64 HR2.out.symm, HBE.out⟩
    | false =>
      rw [h2] at e2
      by_cases h3 : a.out = b.out
      · rw [decide_eq_true h3] at e3
        have hr : realCmp a b = 0 := by rw [HR.out, if_pos hd, h2, if_pos h3]; rfl
        have HR2 := hide hr
        clear hr h2 h3 hd
        go_wp2_with fail
        go_ret
        exact ⟨ret_i64 HR2.out.symm, HBE.out⟩
      · rw [decide_eq_false h3] at e3
        have hr : realCmp a b = 1 := by rw [HR.out, if_pos hd, h2, if_neg h3]; rfl
        have HR2 := hide hr
        clear hr h2 h3 hd
        go_wp2_with fail
        go_ret
        exact ⟨ret_i64 HR2.out.symm, HBE.out⟩
  · rw [decide_eq_false hd] at e0
    cases h2 : lessL a.drv b.drv with
    | true =>
      rw [h2] at e1
      have hr : realCmp a b = -1 := by rw [HR.out, if_neg hd, h2]; rfl
      have HR2 := hide hr
      clear hr h2 hd
      go_wp2_with fail
      go_ret
      exact ⟨ret_i64 HR2.out.symm, HBE.out⟩
    | false =>
      rw [h2] at e1
      have hr : realCmp a b = 1 := by rw [HR.out, if_neg hd, h2]; rfl
      have HR2 := hide hr
      clear hr h2 hd
      go_wp2_with fail
      go_ret
      exact ⟨ret_i64 HR2.out.symm, HBE.out⟩

end Go.Proofs.YtigklnokgmcifaaDoor
