
/-
  The model's l5inCmp.
-/
import Derived.Test.YtnloknhcdlannaaDrvOkP
import Derived.Test.YtnloknhcdlannaaDElem
namespace Go.Proofs.Ytnloknhcdlannaa
open Go.RowKit
set_option linter.unusedVariables false

theorem in1_nil (w : World) : In1 w (raw []) (.slice none 0 0) := (show Rd w (.slice none 0 0) (bs []) from ⟨none, 0, rfl, Nat.le_refl _, Nat.zero_le _, fun h => by simp [bs] at h⟩).in1
set_option maxRecDepth 20000 in
set_option maxHeartbeats 1600000 in
theorem specInCmp (a b : DIn) (ha : oks a.cells) (hb : oks b.cells) (ua ub : List Value) (w : World) (hsa : Ins w a.cells ua) (hsb : Ins w b.cells ub) :
    Calls Try.prog 46 #[.agg ua.toArray, .agg ub.toArray] w fun e w' => e = .returned (.int .i64 (realCmp (asReal a) (asReal b))) ∧ Below w.heap.size w w' := by
  obtain ⟨Aa0, ca0, Aa1, ca1, rfl, ha0, ha1⟩ := DIn.view hsa
  obtain ⟨Ab0, cb0, Ab1, cb1, rfl, hb0, hb1⟩ := DIn.view hsb
  obtain ⟨oa0, oa1⟩ := (DIn.oks_iff a).1 ha
  obtain ⟨ob0, ob1⟩ := (DIn.oks_iff b).1 hb
  have ra : oks (asReal a).cells := (DReal.oks_iff _).2 ⟨oa0, oa1, Byt.nil⟩
  have rb : oks (asReal b).cells := (DReal.oks_iff _).2 ⟨ob0, ob1, Byt.nil⟩
  have hc := fun W (hW : Below w.heap.size w W) => specRealCmp (asReal a) (asReal b) ra rb [.slice Aa0 a.drv.length ca0, .slice Aa1 a.out.length ca1, .slice none 0 0] [.slice Ab0 b.drv.length cb0, .slice Ab1 b.out.length cb1, .slice none 0 0] W
    (DReal.lay (x := asReal a) (ha0.step hW) (ha1.step hW) (in1_nil W)) (DReal.lay (x := asReal b) (hb0.step hW) (hb1.step hW) (in1_nil W))
  have HC := hide hc
  have HBS : Hid (∀ o o', Below w.heap.size w ((w.alloc o).alloc o')) := hide (fun o o' => ((Below.refl _ _).alloc (Nat.le_refl _) o).alloc (by simp) _)
  generalize realCmp (asReal a) (asReal b) = Z at *
  clear hc ha0 ha1 hb0 hb1 ra rb oa0 oa1 ob0 ob1 hsa hsb
  go_enter Try.func46, Try.ntmps46
  go_wp2_with fail
  refine (HC.out _ (HBS.out _ _)).mono ?_
  rintro e w1 ⟨rfl, b1⟩
  have HB1 := hide ((HBS.out _ _).trans (b1.mono (HBS.out _ _).size))
  clear b1
  go_wp2_with fail
  go_ret
  exact ⟨rfl, HB1.out⟩

end Go.Proofs.Ytnloknhcdlannaa
