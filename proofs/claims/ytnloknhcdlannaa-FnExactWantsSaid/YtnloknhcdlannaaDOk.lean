
/-
  The numbers of a struct lie in their bounds: field by field.
-/
import Derived.Test.YtnloknhcdlannaaLiftD
namespace Go.Proofs.Ytnloknhcdlannaa
open Go.RowKit
set_option linter.unusedVariables false
set_option linter.unusedSimpArgs false

theorem flag_okT (b : Bool) : (Cel.flag b).ok ↔ True := by rw [Cel.ok]

theorem T.oks_iff (x : T) : oks x.cells ↔ (-9223372036854775808 ≤ x.kind ∧ x.kind ≤ 9223372036854775807) ∧ Byt x.data ∧ BytN x.names ∧ (∀ y ∈ x.kids, oks y.cells) := by
  rw [x.cells_top]
  simp only [oks, oks_app, num_ok_i64, raw_ok, names_ok, ints_ok, seqOf_ok, flag_okT, BytN, and_true, true_and, and_assoc]
theorem DReal.oks_iff (x : DReal) : oks x.cells ↔ Byt x.drv ∧ Byt x.out ∧ Byt x.path := by
  rw [x.cells_top]
  simp only [oks, oks_app, num_ok_i64, raw_ok, names_ok, ints_ok, seqOf_ok, flag_okT, BytN, and_true, true_and, and_assoc]
theorem DOp.oks_iff (x : DOp) : oks x.cells ↔ (-9223372036854775808 ≤ x.code ∧ x.code ≤ 9223372036854775807) ∧ (-9223372036854775808 ≤ x.out ∧ x.out ≤ 9223372036854775807) ∧ Byt x.name ∧ Byt x.text ∧ (-9223372036854775808 ≤ x.arg ∧ x.arg ≤ 9223372036854775807) := by
  rw [x.cells_top]
  simp only [oks, oks_app, num_ok_i64, raw_ok, names_ok, ints_ok, seqOf_ok, flag_okT, BytN, and_true, true_and, and_assoc]
theorem DIn.oks_iff (x : DIn) : oks x.cells ↔ Byt x.drv ∧ Byt x.out := by
  rw [x.cells_top]
  simp only [oks, oks_app, num_ok_i64, raw_ok, names_ok, ints_ok, seqOf_ok, flag_okT, BytN, and_true, true_and, and_assoc]
theorem DObj.oks_iff (x : DObj) : oks x.cells ↔ Byt x.name ∧ (-9223372036854775808 ≤ x.kind ∧ x.kind ≤ 9223372036854775807) ∧ oks x.tree.cells ∧ BytN x.refs ∧ Byt x.frm ∧ Byt x.out := by
  rw [x.cells_top]
  simp only [oks, oks_app, num_ok_i64, raw_ok, names_ok, ints_ok, seqOf_ok, flag_okT, BytN, and_true, true_and, and_assoc]
theorem DDrv.oks_iff (x : DDrv) : oks x.cells ↔ BytN x.srcs ∧ (∀ y ∈ x.ins, oks y.cells) ∧ BytN x.outs ∧ (∀ y ∈ x.ops, oks y.cells) := by
  rw [x.cells_top]
  simp only [oks, oks_app, num_ok_i64, raw_ok, names_ok, ints_ok, seqOf_ok, flag_okT, BytN, and_true, true_and, and_assoc]
theorem DStore.oks_iff (x : DStore) : oks x.cells ↔ (∀ y ∈ x.objs, oks y.cells) ∧ BytN x.roots ∧ (∀ y ∈ x.reals, oks y.cells) := by
  rw [x.cells_top]
  simp only [oks, oks_app, num_ok_i64, raw_ok, names_ok, ints_ok, seqOf_ok, flag_okT, BytN, and_true, true_and, and_assoc]
theorem DJob.oks_iff (x : DJob) : oks x.cells ↔ oks x.d.cells ∧ Byt x.name ∧ (-9223372036854775808 ≤ x.pc ∧ x.pc ≤ 9223372036854775807) ∧ BytN x.args ∧ (∀ y ∈ x.outs, oks y.cells) := by
  rw [x.cells_top]
  simp only [oks, oks_app, num_ok_i64, raw_ok, names_ok, ints_ok, seqOf_ok, flag_okT, BytN, and_true, true_and, and_assoc]
theorem DGoal.oks_iff (x : DGoal) : oks x.cells ↔ Byt x.drv ∧ (-9223372036854775808 ≤ x.state ∧ x.state ≤ 9223372036854775807) ∧ (-9223372036854775808 ≤ x.err ∧ x.err ≤ 9223372036854775807) ∧ True ∧ oks x.job.cells ∧ BytN x.need := by
  rw [x.cells_top]
  simp only [oks, oks_app, num_ok_i64, raw_ok, names_ok, ints_ok, seqOf_ok, flag_okT, BytN, and_true, true_and, and_assoc]
theorem DEngine.oks_iff (x : DEngine) : oks x.cells ↔ oks x.store.cells ∧ (∀ y ∈ x.goals, oks y.cells) := by
  rw [x.cells_top]
  simp only [oks, oks_app, num_ok_i64, raw_ok, names_ok, ints_ok, seqOf_ok, flag_okT, BytN, and_true, true_and, and_assoc]
theorem DReg.oks_iff (x : DReg) : oks x.cells ↔ (-9223372036854775808 ≤ x.kind ∧ x.kind ≤ 9223372036854775807) ∧ oks x.obj.cells ∧ oks x.real.cells ∧ Byt x.name := by
  rw [x.cells_top]
  simp only [oks, oks_app, num_ok_i64, raw_ok, names_ok, ints_ok, seqOf_ok, flag_okT, BytN, and_true, true_and, and_assoc]
theorem DJournal.oks_iff (x : DJournal) : oks x.cells ↔ oks x.base.cells ∧ (∀ y ∈ x.regs, oks y.cells) ∧ (-9223372036854775808 ≤ x.safe ∧ x.safe ≤ 9223372036854775807) := by
  rw [x.cells_top]
  simp only [oks, oks_app, num_ok_i64, raw_ok, names_ok, ints_ok, seqOf_ok, flag_okT, BytN, and_true, true_and, and_assoc]
theorem DCmd.oks_iff (x : DCmd) : oks x.cells ↔ (-9223372036854775808 ≤ x.kind ∧ x.kind ≤ 9223372036854775807) ∧ Byt x.text ∧ oks x.tree.cells ∧ Byt x.name ∧ Byt x.out ∧ (∀ y ∈ x.picks, -9223372036854775808 ≤ y ∧ y ≤ 9223372036854775807) ∧ (-9223372036854775808 ≤ x.keep ∧ x.keep ≤ 9223372036854775807) := by
  rw [x.cells_top]
  simp only [oks, oks_app, num_ok_i64, raw_ok, names_ok, ints_ok, seqOf_ok, flag_okT, BytN, and_true, true_and, and_assoc]
theorem DTold.oks_iff (x : DTold) : oks x.cells ↔ (-9223372036854775808 ≤ x.code ∧ x.code ≤ 9223372036854775807) ∧ Byt x.name := by
  rw [x.cells_top]
  simp only [oks, oks_app, num_ok_i64, raw_ok, names_ok, ints_ok, seqOf_ok, flag_okT, BytN, and_true, true_and, and_assoc]

end Go.Proofs.Ytnloknhcdlannaa
