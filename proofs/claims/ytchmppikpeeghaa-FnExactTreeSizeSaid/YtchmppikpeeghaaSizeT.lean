/-
  TreeSize: the model's and the program's.
-/
import Derived.Test.YtchmppikpeeghaaTreeOkI
import Derived.Test.YtchmppikpeeghaaSizeL2
namespace Go.Proofs.Ytchmppikpeeghaa
open Go.RowKit Go.Shelf
set_option linter.unusedVariables false
attribute [local go_sem] Oper.semAt_some

/-- What TreeSize answers. -/
def sizeOf (t : T) : Int := if treeOk t then t.size else -1

set_option maxRecDepth 20000 in
set_option maxHeartbeats 1600000 in
theorem specTreeSize (t : T) (hB : t.Byts) (q : Q) (w : World) (hq : TIn w t q) :
    Calls Try.prog 27 #[q.val] w fun e w' => e = .returned (.int .i64 (sizeOf t)) ∧ Below w.heap.size w w' := by
  obtain ⟨wa, hwa, box, ba, hz⟩ := boxed w q 31
  have x0 := box.c0
  have x1 := box.c1
  have x2 := box.c2
  have x3 := box.c3
  have hok := specTreeOk t hB q wa (hq.below ba)
  have hsz := fun W (hb : Below w.heap.size w W) (hl : t.size ≤ 1000) => specSize t q W hl (hq.below hb)
  have HSZ := hide hsz
  have HBOX := hide box
  cases hv : treeOk t with
  | false =>
    have hS : sizeOf t = -1 := by rw [sizeOf, hv]; rfl
    rw [hv] at hok
    have HS := hide hS
    have HOK := hide hok
    clear hok hsz hS hv hB hq box
    go_enter Try.func27, Try.ntmps27
    go_wp2_with fail
    refine HOK.out.mono ?_
    rintro e w1 ⟨rfl, b1⟩
    go_wp2
    go_ret
    exact ⟨ret_int HS.out.symm, ba.trans (b1.mono ba.size)⟩
  | true =>
    have hS : sizeOf t = t.size := by rw [sizeOf, hv]; rfl
    have hl : t.size ≤ 40 := by
      rw [treeOk, Bool.and_eq_true, decide_eq_true_eq] at hv
      exact hv.2
    rw [hv] at hok
    have HS := hide hS
    have HOK := hide hok
    generalize t.size = z at *
    have HSZ2 := hide (fun W hb => HSZ.out W hb (by omega))
    clear hok hsz hS hv hB hq box HSZ
    go_enter Try.func27, Try.ntmps27
    go_wp2_with fail
    refine HOK.out.mono ?_
    rintro e w1 ⟨rfl, b1⟩
    have box1 := HBOX.out.step b1
    have d1 := ba.trans (b1.mono ba.size)
    have x0 := box1.c0
    have x1 := box1.c1
    have x2 := box1.c2
    have x3 := box1.c3
    go_wp2_with fail
    refine (HSZ2.out w1 d1).mono ?_
    rintro e w2 ⟨rfl, b2⟩
    have hf := d1.trans (b2.mono d1.size)
    have HF := hide hf
    clear x0 x1 x2 x3 box1 d1 b2 b1 hf ba
    go_wp2
    go_ret
    exact ⟨ret_int HS.out.symm, HF.out⟩

end Go.Proofs.Ytchmppikpeeghaa
