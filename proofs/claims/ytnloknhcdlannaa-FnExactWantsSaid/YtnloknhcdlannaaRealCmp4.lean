
/-
  The model's l4realCmp.
-/
import Derived.Test.YtnloknhcdlannaaStrEq
import Derived.Test.YtnloknhcdlannaaDView
import Derived.Test.YtnloknhcdlannaaDOk
import Derived.Test.YtnloknhcdlannaaNLie
import Derived.Test.YtnloknhcdlannaaDatV
import Derived.Laws.BytesArg
import Derived.IntWalk
import Derived.Deep.QuietTactic
import Derived.BigQuiet
import Derived.Deep.Cut
import Derived.Deep.DeepCutAuto
import Derived.Deep.CutBlock
import Derived.Deep.RegionWith
namespace Go.Proofs.Ytnloknhcdlannaa
open Go.RowKit
set_option linter.unusedVariables false
set_option linter.unusedSimpArgs false

/-- Realisations in order: by derivation, then by output. -/
def realCmp (a b : DReal) : Int := if a.drv = b.drv then (if lessL a.out b.out then -1 else if a.out = b.out then 0 else 1) else if lessL a.drv b.drv then -1 else 1
set_option maxRecDepth 20000 in
set_option maxHeartbeats 1600000 in
theorem specRealCmp (a b : DReal) (ha : oks a.cells) (hb : oks b.cells) (ua ub : List Value) (w : World) (hsa : Ins w a.cells ua) (hsb : Ins w b.cells ub) :
    Calls Try.prog 74 #[.agg ua.toArray, .agg ub.toArray] w fun e w' => e = .returned (.int .i64 (realCmp a b)) ∧ Below w.heap.size w w' := by
  obtain ⟨Aa0, ca0, Aa1, ca1, Aa2, ca2, rfl, ha0, ha1, ha2⟩ := DReal.view hsa
  obtain ⟨Ab0, cb0, Ab1, cb1, Ab2, cb2, rfl, hb0, hb1, hb2⟩ := DReal.view hsb
  obtain ⟨wa, hwa⟩ : ∃ wa, w.alloc (.cells #[.slice Aa0 a.drv.length ca0, .slice Aa1 a.out.length ca1, .slice Aa2 a.path.length ca2] 103) = wa := ⟨_, rfl⟩
  have baa : Below w.heap.size w wa := by rw [← hwa]; exact (Below.refl _ _).alloc (Nat.le_refl _) _
  have bxa : Box wa w.heap.size 103 [.slice Aa0 a.drv.length ca0, .slice Aa1 a.out.length ca1, .slice Aa2 a.path.length ca2] := by rw [← hwa]; exact Box.new w _ _
  have hza : w.heap.size < wa.heap.size := bxa.lt
  obtain ⟨wb, hwb⟩ : ∃ wb, wa.alloc (.cells #[.slice Ab0 b.drv.length cb0, .slice Ab1 b.out.length cb1, .slice Ab2 b.path.length cb2] 103) = wb := ⟨_, rfl⟩
  have bab : Below wa.heap.size wa wb := by rw [← hwb]; exact (Below.refl _ _).alloc (Nat.le_refl _) _
  have bxb : Box wb wa.heap.size 103 [.slice Ab0 b.drv.length cb0, .slice Ab1 b.out.length cb1, .slice Ab2 b.path.length cb2] := by rw [← hwb]; exact Box.new wa _ _
  have hzb : wa.heap.size < wb.heap.size := bxb.lt
  have bel : Below w.heap.size w wb := baa.trans (bab.mono baa.size)
  have bxa2 := bxa.step bab
  have x0 := bxa2.cell (j := 0) rfl
  have x1 := bxa2.cell (j := 1) rfl
  have z0 := bxb.cell (j := 0) rfl
  have z1 := bxb.cell (j := 1) rfl
  obtain ⟨oa0, oa1, oa2⟩ := (DReal.oks_iff a).1 ha
  obtain ⟨ob0, ob1, ob2⟩ := (DReal.oks_iff b).1 hb
  have c0 := conv_rd (P := Try.prog) Try.underlying22 Try.underlying5 Try.underlying9 (ha0.step bel).rd
  have c1 := conv_rd (P := Try.prog) Try.underlying22 Try.underlying5 Try.underlying9 (ha1.step bel).rd
  have d0 := conv_rd (P := Try.prog) Try.underlying22 Try.underlying5 Try.underlying9 (hb0.step bel).rd
  have d1 := conv_rd (P := Try.prog) Try.underlying22 Try.underlying5 Try.underlying9 (hb1.step bel).rd
  have e0 := str_eq oa0 ob0
  have e1 := less_str oa0 ob0
  have e2 := less_str oa1 ob1
  have e3 := str_eq oa1 ob1
  have hR := show realCmp a b = if a.drv = b.drv then (if lessL a.out b.out then -1 else if a.out = b.out then 0 else 1) else if lessL a.drv b.drv then -1 else 1 from rfl
  have HR := hide hR
  have HBE := hide bel
  generalize strOfNums a.drv = s1 at *
  generalize strOfNums a.out = s2 at *
  generalize strOfNums b.drv = s3 at *
  generalize strOfNums b.out = s4 at *
  clear hR bxa bxb bxa2 ha0 ha1 ha2 hb0 hb1 hb2 baa bab hsa hsb
  go_enter Try.func74, Try.ntmps74
  by_cases hd : a.drv = b.drv
  · rw [decide_eq_true hd] at e0
    cases h2 : lessL a.out b.out with
    | true =>
      rw [h2] at e2
      have hr : realCmp a b = -1 := by rw [HR.out, if_pos hd, h2]; rfl
      have HR2 := hide hr
      clear hr h2 hd
      go_wp2_with fail
      go_ret
      exact ⟨ret_i64 HR2.out.symm, HBE.out⟩
    | false =>
      rw [h2] at e2
      by_cases h3 : a.out = b.out
      · rw [decide_eq_true h3] at e3
        have hr : realCmp a b = 0 := by rw [HR.out, if_pos hd, h2, if_pos h3]; rfl
        have HR2 := hide hr
        clear hr h2 h3 hd
        go_wp2_with fail
        go_ret
        exact ⟨ret_i64 HR2.out.symm, HBE.out⟩
      · rw [decide_eq_false h3] at e3
        have hr : realCmp a b = 1 := by rw [HR.out, if_pos hd, h2, if_neg h3]; rfl
        have HR2 := hide hr
        clear hr h2 h3 hd
        go_wp2_with fail
        go_ret
        exact ⟨ret_i64 HR2.out.symm, HBE.out⟩
  · rw [decide_eq_false hd] at e0
    cases h2 : lessL a.drv b.drv with
    | true =>
      rw [h2] at e1
      have hr : realCmp a b = -1 := by rw [HR.out, if_neg hd, h2]; rfl
      have HR2 := hide hr
      clear hr h2 hd
      go_wp2_with fail
      go_ret
      exact ⟨ret_i64 HR2.out.symm, HBE.out⟩
    | false =>
      rw [h2] at e1
      have hr : realCmp a b = 1 := by rw [HR.out, if_neg hd, h2]; rfl
      have HR2 := hide hr
      clear hr h2 hd
      go_wp2_with fail
      go_ret
      exact ⟨ret_i64 HR2.out.symm, HBE.out⟩

end Go.Proofs.Ytnloknhcdlannaa
