/-
  Parts of the proof: DSHeld, DView, LiftD, NameQ, NmAt, ShaI.
-/
import Derived.Test.YtigklnokgmcifaaDoorMd8
import Derived.Test.YtigklnokgmcifaaDoorMd1
import Derived.Deep.Slices
import Derived.Deep.Fields
import Derived.ChangeSame
import Derived.Lib.SmallJoins
import Derived.Test.YtigklnokgmcifaaDoorMd6
import Derived.Test.YtigklnokgmcifaaDoorMd4
import Derived.StillTailTactics
import Derived.IntWalk
import Derived.Deep.DeepCutAuto
import Derived.Deep.CutBlock

/-
  The laws' helpers 'held' over structs and their rows.
-/
namespace Go.Proofs.YtigklnokgmcifaaDoor
open Go.RowKit
set_option linter.unusedVariables false
set_option linter.unusedSimpArgs false

end Go.Proofs.YtigklnokgmcifaaDoor


/-
  Structs seen cell by cell, and laid together.
-/
namespace Go.Proofs.YtigklnokgmcifaaDoor
open Go.RowKit
set_option linter.unusedVariables false

theorem ins_nil (w : World) : Ins w [] [] := ⟨_, lies_nil w⟩
theorem ins_cons {w : World} {c : Cel} {cs : List Cel} {v : Value} {us : List Value} (h : In1 w c v) (k : Ins w cs us) : Ins w (c :: cs) (v :: us) := h.elim fun F h => k.elim fun G k => ⟨F ++ G, lies_cons h k⟩
theorem in1_num (w : World) (k : IntKind) (n : Int) : In1 w (.num k n) (.int k n) := ⟨_, lie_num w k n⟩
theorem in1_flag (w : World) (b : Bool) : In1 w (.flag b) (.bool b) := ⟨_, lie_flag w b⟩

theorem T.view {w : World} {x : T} {us : List Value} (h : Ins w x.cells us) : ∃ A1 c1 A2 c2 A3 c3, us = [.int .i64 x.kind, .slice A1 x.data.length c1, .slice A2 x.names.length c2, .slice A3 x.kids.length c3] ∧ In1 w (raw x.data) (.slice A1 x.data.length c1) ∧ In1 w (Go.Proofs.YtigklnokgmcifaaDoor.names x.names) (.slice A2 x.names.length c2) ∧ In1 w (seqOf 4 T.cells x.kids) (.slice A3 x.kids.length c3) := by
  obtain ⟨F, h⟩ := h
  rw [x.cells_eq] at h
  rw [Lies] at h
  obtain ⟨u0, r0, F0, G0, rfl, rfl, h0, h⟩ := h
  rw [Lies] at h
  obtain ⟨u1, r1, F1, G1, rfl, rfl, h1, h⟩ := h
  rw [Lies] at h
  obtain ⟨u2, r2, F2, G2, rfl, rfl, h2, h⟩ := h
  rw [Lies] at h
  obtain ⟨u3, r3, F3, G3, rfl, rfl, h3, h⟩ := h
  rw [Lies] at h
  obtain ⟨rfl, rfl⟩ := h
  rw [Lie] at h0
  obtain ⟨rfl, rfl⟩ := h0
  obtain ⟨A1, c1, rfl, _, _⟩ := h1.form
  obtain ⟨A2, c2, rfl, _, _⟩ := h2.form
  obtain ⟨A3, c3, rfl, _, _⟩ := h3.form
  exact ⟨A1, c1, A2, c2, A3, c3, rfl, ⟨_, h1⟩, ⟨_, h2⟩, ⟨_, h3⟩⟩
theorem T.lay {w : World} {x : T} {v1 : Value} (h1 : In1 w (raw x.data) v1) {v2 : Value} (h2 : In1 w (Go.Proofs.YtigklnokgmcifaaDoor.names x.names) v2) {v3 : Value} (h3 : In1 w (seqOf 4 T.cells x.kids) v3) : Ins w x.cells [.int .i64 x.kind, v1, v2, v3] := by
  rw [x.cells_eq]
  exact ins_cons (in1_num _ _ _) (ins_cons (h1) (ins_cons (h2) (ins_cons (h3) (ins_nil _))))
theorem DReal.view {w : World} {x : DReal} {us : List Value} (h : Ins w x.cells us) : ∃ A0 c0 A1 c1 A2 c2, us = [.slice A0 x.drv.length c0, .slice A1 x.out.length c1, .slice A2 x.path.length c2] ∧ In1 w (raw x.drv) (.slice A0 x.drv.length c0) ∧ In1 w (raw x.out) (.slice A1 x.out.length c1) ∧ In1 w (raw x.path) (.slice A2 x.path.length c2) := by
  obtain ⟨F, h⟩ := h
  rw [x.cells_eq] at h
  rw [Lies] at h
  obtain ⟨u0, r0, F0, G0, rfl, rfl, h0, h⟩ := h
  rw [Lies] at h
  obtain ⟨u1, r1, F1, G1, rfl, rfl, h1, h⟩ := h
  rw [Lies] at h
  obtain ⟨u2, r2, F2, G2, rfl, rfl, h2, h⟩ := h
  rw [Lies] at h
  obtain ⟨rfl, rfl⟩ := h
  obtain ⟨A0, c0, rfl, _, _⟩ := h0.form
  obtain ⟨A1, c1, rfl, _, _⟩ := h1.form
  obtain ⟨A2, c2, rfl, _, _⟩ := h2.form
  exact ⟨A0, c0, A1, c1, A2, c2, rfl, ⟨_, h0⟩, ⟨_, h1⟩, ⟨_, h2⟩⟩
theorem DReal.lay {w : World} {x : DReal} {v0 : Value} (h0 : In1 w (raw x.drv) v0) {v1 : Value} (h1 : In1 w (raw x.out) v1) {v2 : Value} (h2 : In1 w (raw x.path) v2) : Ins w x.cells [v0, v1, v2] := by
  rw [x.cells_eq]
  exact ins_cons (h0) (ins_cons (h1) (ins_cons (h2) (ins_nil _)))
theorem DOp.view {w : World} {x : DOp} {us : List Value} (h : Ins w x.cells us) : ∃ A2 c2 A3 c3, us = [.int .i64 x.code, .int .i64 x.out, .slice A2 x.name.length c2, .slice A3 x.text.length c3, .int .i64 x.arg] ∧ In1 w (raw x.name) (.slice A2 x.name.length c2) ∧ In1 w (raw x.text) (.slice A3 x.text.length c3) := by
  obtain ⟨F, h⟩ := h
  rw [x.cells_eq] at h
  rw [Lies] at h
  obtain ⟨u0, r0, F0, G0, rfl, rfl, h0, h⟩ := h
  rw [Lies] at h
  obtain ⟨u1, r1, F1, G1, rfl, rfl, h1, h⟩ := h
  rw [Lies] at h
  obtain ⟨u2, r2, F2, G2, rfl, rfl, h2, h⟩ := h
  rw [Lies] at h
  obtain ⟨u3, r3, F3, G3, rfl, rfl, h3, h⟩ := h
  rw [Lies] at h
  obtain ⟨u4, r4, F4, G4, rfl, rfl, h4, h⟩ := h
  rw [Lies] at h
  obtain ⟨rfl, rfl⟩ := h
  rw [Lie] at h0
  obtain ⟨rfl, rfl⟩ := h0
  rw [Lie] at h1
  obtain ⟨rfl, rfl⟩ := h1
  obtain ⟨A2, c2, rfl, _, _⟩ := h2.form
  obtain ⟨A3, c3, rfl, _, _⟩ := h3.form
  rw [Lie] at h4
  obtain ⟨rfl, rfl⟩ := h4
  exact ⟨A2, c2, A3, c3, rfl, ⟨_, h2⟩, ⟨_, h3⟩⟩
theorem DOp.lay {w : World} {x : DOp} {v2 : Value} (h2 : In1 w (raw x.name) v2) {v3 : Value} (h3 : In1 w (raw x.text) v3) : Ins w x.cells [.int .i64 x.code, .int .i64 x.out, v2, v3, .int .i64 x.arg] := by
  rw [x.cells_eq]
  exact ins_cons (in1_num _ _ _) (ins_cons (in1_num _ _ _) (ins_cons (h2) (ins_cons (h3) (ins_cons (in1_num _ _ _) (ins_nil _)))))
theorem DIn.view {w : World} {x : DIn} {us : List Value} (h : Ins w x.cells us) : ∃ A0 c0 A1 c1, us = [.slice A0 x.drv.length c0, .slice A1 x.out.length c1] ∧ In1 w (raw x.drv) (.slice A0 x.drv.length c0) ∧ In1 w (raw x.out) (.slice A1 x.out.length c1) := by
  obtain ⟨F, h⟩ := h
  rw [x.cells_eq] at h
  rw [Lies] at h
  obtain ⟨u0, r0, F0, G0, rfl, rfl, h0, h⟩ := h
  rw [Lies] at h
  obtain ⟨u1, r1, F1, G1, rfl, rfl, h1, h⟩ := h
  rw [Lies] at h
  obtain ⟨rfl, rfl⟩ := h
  obtain ⟨A0, c0, rfl, _, _⟩ := h0.form
  obtain ⟨A1, c1, rfl, _, _⟩ := h1.form
  exact ⟨A0, c0, A1, c1, rfl, ⟨_, h0⟩, ⟨_, h1⟩⟩
theorem DIn.lay {w : World} {x : DIn} {v0 : Value} (h0 : In1 w (raw x.drv) v0) {v1 : Value} (h1 : In1 w (raw x.out) v1) : Ins w x.cells [v0, v1] := by
  rw [x.cells_eq]
  exact ins_cons (h0) (ins_cons (h1) (ins_nil _))
theorem DObj.view {w : World} {x : DObj} {us : List Value} (h : Ins w x.cells us) : ∃ A0 c0 A3 c3 A4 c4 A5 c5 A6 c6 A7 c7 A8 c8, us = [.slice A0 x.name.length c0, .int .i64 x.kind, .int .i64 x.tree.kind, .slice A3 x.tree.data.length c3, .slice A4 x.tree.names.length c4, .slice A5 x.tree.kids.length c5, .slice A6 x.refs.length c6, .slice A7 x.frm.length c7, .slice A8 x.out.length c8] ∧ In1 w (raw x.name) (.slice A0 x.name.length c0) ∧ In1 w (raw x.tree.data) (.slice A3 x.tree.data.length c3) ∧ In1 w (Go.Proofs.YtigklnokgmcifaaDoor.names x.tree.names) (.slice A4 x.tree.names.length c4) ∧ In1 w (seqOf 4 T.cells x.tree.kids) (.slice A5 x.tree.kids.length c5) ∧ In1 w (Go.Proofs.YtigklnokgmcifaaDoor.names x.refs) (.slice A6 x.refs.length c6) ∧ In1 w (raw x.frm) (.slice A7 x.frm.length c7) ∧ In1 w (raw x.out) (.slice A8 x.out.length c8) := by
  obtain ⟨F, h⟩ := h
  rw [x.cells_eq] at h
  rw [Lies] at h
  obtain ⟨u0, r0, F0, G0, rfl, rfl, h0, h⟩ := h
  rw [Lies] at h
  obtain ⟨u1, r1, F1, G1, rfl, rfl, h1, h⟩ := h
  rw [Lies] at h
  obtain ⟨u2, r2, F2, G2, rfl, rfl, h2, h⟩ := h
  rw [Lies] at h
  obtain ⟨u3, r3, F3, G3, rfl, rfl, h3, h⟩ := h
  rw [Lies] at h
  obtain ⟨u4, r4, F4, G4, rfl, rfl, h4, h⟩ := h
  rw [Lies] at h
  obtain ⟨u5, r5, F5, G5, rfl, rfl, h5, h⟩ := h
  rw [Lies] at h
  obtain ⟨u6, r6, F6, G6, rfl, rfl, h6, h⟩ := h
  rw [Lies] at h
  obtain ⟨u7, r7, F7, G7, rfl, rfl, h7, h⟩ := h
  rw [Lies] at h
  obtain ⟨u8, r8, F8, G8, rfl, rfl, h8, h⟩ := h
  rw [Lies] at h
  obtain ⟨rfl, rfl⟩ := h
  obtain ⟨A0, c0, rfl, _, _⟩ := h0.form
  rw [Lie] at h1
  obtain ⟨rfl, rfl⟩ := h1
  rw [Lie] at h2
  obtain ⟨rfl, rfl⟩ := h2
  obtain ⟨A3, c3, rfl, _, _⟩ := h3.form
  obtain ⟨A4, c4, rfl, _, _⟩ := h4.form
  obtain ⟨A5, c5, rfl, _, _⟩ := h5.form
  obtain ⟨A6, c6, rfl, _, _⟩ := h6.form
  obtain ⟨A7, c7, rfl, _, _⟩ := h7.form
  obtain ⟨A8, c8, rfl, _, _⟩ := h8.form
  exact ⟨A0, c0, A3, c3, A4, c4, A5, c5, A6, c6, A7, c7, A8, c8, rfl, ⟨_, h0⟩, ⟨_, h3⟩, ⟨_, h4⟩, ⟨_, h5⟩, ⟨_, h6⟩, ⟨_, h7⟩, ⟨_, h8⟩⟩
theorem DObj.lay {w : World} {x : DObj} {v0 : Value} (h0 : In1 w (raw x.name) v0) {v3 : Value} (h3 : In1 w (raw x.tree.data) v3) {v4 : Value} (h4 : In1 w (Go.Proofs.YtigklnokgmcifaaDoor.names x.tree.names) v4) {v5 : Value} (h5 : In1 w (seqOf 4 T.cells x.tree.kids) v5) {v6 : Value} (h6 : In1 w (Go.Proofs.YtigklnokgmcifaaDoor.names x.refs) v6) {v7 : Value} (h7 : In1 w (raw x.frm) v7) {v8 : Value} (h8 : In1 w (raw x.out) v8) : Ins w x.cells [v0, .int .i64 x.kind, .int .i64 x.tree.kind, v3, v4, v5, v6, v7, v8] := by
  rw [x.cells_eq]
  exact ins_cons (h0) (ins_cons (in1_num _ _ _) (ins_cons (in1_num _ _ _) (ins_cons (h3) (ins_cons (h4) (ins_cons (h5) (ins_cons (h6) (ins_cons (h7) (ins_cons (h8) (ins_nil _)))))))))
theorem DDrv.view {w : World} {x : DDrv} {us : List Value} (h : Ins w x.cells us) : ∃ A0 c0 A1 c1 A2 c2 A3 c3, us = [.slice A0 x.srcs.length c0, .slice A1 x.ins.length c1, .slice A2 x.outs.length c2, .slice A3 x.ops.length c3] ∧ In1 w (Go.Proofs.YtigklnokgmcifaaDoor.names x.srcs) (.slice A0 x.srcs.length c0) ∧ In1 w (seqOf 2 DIn.cells x.ins) (.slice A1 x.ins.length c1) ∧ In1 w (Go.Proofs.YtigklnokgmcifaaDoor.names x.outs) (.slice A2 x.outs.length c2) ∧ In1 w (seqOf 5 DOp.cells x.ops) (.slice A3 x.ops.length c3) := by
  obtain ⟨F, h⟩ := h
  rw [x.cells_eq] at h
  rw [Lies] at h
  obtain ⟨u0, r0, F0, G0, rfl, rfl, h0, h⟩ := h
  rw [Lies] at h
  obtain ⟨u1, r1, F1, G1, rfl, rfl, h1, h⟩ := h
  rw [Lies] at h
  obtain ⟨u2, r2, F2, G2, rfl, rfl, h2, h⟩ := h
  rw [Lies] at h
  obtain ⟨u3, r3, F3, G3, rfl, rfl, h3, h⟩ := h
  rw [Lies] at h
  obtain ⟨rfl, rfl⟩ := h
  obtain ⟨A0, c0, rfl, _, _⟩ := h0.form
  obtain ⟨A1, c1, rfl, _, _⟩ := h1.form
  obtain ⟨A2, c2, rfl, _, _⟩ := h2.form
  obtain ⟨A3, c3, rfl, _, _⟩ := h3.form
  exact ⟨A0, c0, A1, c1, A2, c2, A3, c3, rfl, ⟨_, h0⟩, ⟨_, h1⟩, ⟨_, h2⟩, ⟨_, h3⟩⟩
theorem DDrv.lay {w : World} {x : DDrv} {v0 : Value} (h0 : In1 w (Go.Proofs.YtigklnokgmcifaaDoor.names x.srcs) v0) {v1 : Value} (h1 : In1 w (seqOf 2 DIn.cells x.ins) v1) {v2 : Value} (h2 : In1 w (Go.Proofs.YtigklnokgmcifaaDoor.names x.outs) v2) {v3 : Value} (h3 : In1 w (seqOf 5 DOp.cells x.ops) v3) : Ins w x.cells [v0, v1, v2, v3] := by
  rw [x.cells_eq]
  exact ins_cons (h0) (ins_cons (h1) (ins_cons (h2) (ins_cons (h3) (ins_nil _))))
theorem DStore.view {w : World} {x : DStore} {us : List Value} (h : Ins w x.cells us) : ∃ A0 c0 A1 c1 A2 c2, us = [.slice A0 x.objs.length c0, .slice A1 x.roots.length c1, .slice A2 x.reals.length c2] ∧ In1 w (seqOf 9 DObj.cells x.objs) (.slice A0 x.objs.length c0) ∧ In1 w (Go.Proofs.YtigklnokgmcifaaDoor.names x.roots) (.slice A1 x.roots.length c1) ∧ In1 w (seqOf 3 DReal.cells x.reals) (.slice A2 x.reals.length c2) := by
  obtain ⟨F, h⟩ := h
  rw [x.cells_eq] at h
  rw [Lies] at h
  obtain ⟨u0, r0, F0, G0, rfl, rfl, h0, h⟩ := h
  rw [Lies] at h
  obtain ⟨u1, r1, F1, G1, rfl, rfl, h1, h⟩ := h
  rw [Lies] at h
  obtain ⟨u2, r2, F2, G2, rfl, rfl, h2, h⟩ := h
  rw [Lies] at h
  obtain ⟨rfl, rfl⟩ := h
  obtain ⟨A0, c0, rfl, _, _⟩ := h0.form
  obtain ⟨A1, c1, rfl, _, _⟩ := h1.form
  obtain ⟨A2, c2, rfl, _, _⟩ := h2.form
  exact ⟨A0, c0, A1, c1, A2, c2, rfl, ⟨_, h0⟩, ⟨_, h1⟩, ⟨_, h2⟩⟩
theorem DStore.lay {w : World} {x : DStore} {v0 : Value} (h0 : In1 w (seqOf 9 DObj.cells x.objs) v0) {v1 : Value} (h1 : In1 w (Go.Proofs.YtigklnokgmcifaaDoor.names x.roots) v1) {v2 : Value} (h2 : In1 w (seqOf 3 DReal.cells x.reals) v2) : Ins w x.cells [v0, v1, v2] := by
  rw [x.cells_eq]
  exact ins_cons (h0) (ins_cons (h1) (ins_cons (h2) (ins_nil _)))
theorem DJob.view {w : World} {x : DJob} {us : List Value} (h : Ins w x.cells us) : ∃ A0 c0 A1 c1 A2 c2 A3 c3 A4 c4 A6 c6 A7 c7, us = [.slice A0 x.d.srcs.length c0, .slice A1 x.d.ins.length c1, .slice A2 x.d.outs.length c2, .slice A3 x.d.ops.length c3, .slice A4 x.name.length c4, .int .i64 x.pc, .slice A6 x.args.length c6, .slice A7 x.outs.length c7] ∧ In1 w (Go.Proofs.YtigklnokgmcifaaDoor.names x.d.srcs) (.slice A0 x.d.srcs.length c0) ∧ In1 w (seqOf 2 DIn.cells x.d.ins) (.slice A1 x.d.ins.length c1) ∧ In1 w (Go.Proofs.YtigklnokgmcifaaDoor.names x.d.outs) (.slice A2 x.d.outs.length c2) ∧ In1 w (seqOf 5 DOp.cells x.d.ops) (.slice A3 x.d.ops.length c3) ∧ In1 w (raw x.name) (.slice A4 x.name.length c4) ∧ In1 w (Go.Proofs.YtigklnokgmcifaaDoor.names x.args) (.slice A6 x.args.length c6) ∧ In1 w (seqOf 4 T.cells x.outs) (.slice A7 x.outs.length c7) := by
  obtain ⟨F, h⟩ := h
  rw [x.cells_eq] at h
  rw [Lies] at h
  obtain ⟨u0, r0, F0, G0, rfl, rfl, h0, h⟩ := h
  rw [Lies] at h
  obtain ⟨u1, r1, F1, G1, rfl, rfl, h1, h⟩ := h
  rw [Lies] at h
  obtain ⟨u2, r2, F2, G2, rfl, rfl, h2, h⟩ := h
  rw [Lies] at h
  obtain ⟨u3, r3, F3, G3, rfl, rfl, h3, h⟩ := h
  rw [Lies] at h
  obtain ⟨u4, r4, F4, G4, rfl, rfl, h4, h⟩ := h
  rw [Lies] at h
  obtain ⟨u5, r5, F5, G5, rfl, rfl, h5, h⟩ := h
  rw [Lies] at h
  obtain ⟨u6, r6, F6, G6, rfl, rfl, h6, h⟩ := h
  rw [Lies] at h
  obtain ⟨u7, r7, F7, G7, rfl, rfl, h7, h⟩ := h
  rw [Lies] at h
  obtain ⟨rfl, rfl⟩ := h
  obtain ⟨A0, c0, rfl, _, _⟩ := h0.form
  obtain ⟨A1, c1, rfl, _, _⟩ := h1.form
  obtain ⟨A2, c2, rfl, _, _⟩ := h2.form
  obtain ⟨A3, c3, rfl, _, _⟩ := h3.form
  obtain ⟨A4, c4, rfl, _, _⟩ := h4.form
  rw [Lie] at h5
  obtain ⟨rfl, rfl⟩ := h5
  obtain ⟨A6, c6, rfl, _, _⟩ := h6.form
  obtain ⟨A7, c7, rfl, _, _⟩ := h7.form
  exact ⟨A0, c0, A1, c1, A2, c2, A3, c3, A4, c4, A6, c6, A7, c7, rfl, ⟨_, h0⟩, ⟨_, h1⟩, ⟨_, h2⟩, ⟨_, h3⟩, ⟨_, h4⟩, ⟨_, h6⟩, ⟨_, h7⟩⟩
theorem DJob.lay {w : World} {x : DJob} {v0 : Value} (h0 : In1 w (Go.Proofs.YtigklnokgmcifaaDoor.names x.d.srcs) v0) {v1 : Value} (h1 : In1 w (seqOf 2 DIn.cells x.d.ins) v1) {v2 : Value} (h2 : In1 w (Go.Proofs.YtigklnokgmcifaaDoor.names x.d.outs) v2) {v3 : Value} (h3 : In1 w (seqOf 5 DOp.cells x.d.ops) v3) {v4 : Value} (h4 : In1 w (raw x.name) v4) {v6 : Value} (h6 : In1 w (Go.Proofs.YtigklnokgmcifaaDoor.names x.args) v6) {v7 : Value} (h7 : In1 w (seqOf 4 T.cells x.outs) v7) : Ins w x.cells [v0, v1, v2, v3, v4, .int .i64 x.pc, v6, v7] := by
  rw [x.cells_eq]
  exact ins_cons (h0) (ins_cons (h1) (ins_cons (h2) (ins_cons (h3) (ins_cons (h4) (ins_cons (in1_num _ _ _) (ins_cons (h6) (ins_cons (h7) (ins_nil _))))))))
theorem DGoal.view {w : World} {x : DGoal} {us : List Value} (h : Ins w x.cells us) : ∃ A0 c0 A4 c4 A5 c5 A6 c6 A7 c7 A8 c8 A10 c10 A11 c11 A12 c12, us = [.slice A0 x.drv.length c0, .int .i64 x.state, .int .i64 x.err, .bool x.begun, .slice A4 x.job.d.srcs.length c4, .slice A5 x.job.d.ins.length c5, .slice A6 x.job.d.outs.length c6, .slice A7 x.job.d.ops.length c7, .slice A8 x.job.name.length c8, .int .i64 x.job.pc, .slice A10 x.job.args.length c10, .slice A11 x.job.outs.length c11, .slice A12 x.need.length c12] ∧ In1 w (raw x.drv) (.slice A0 x.drv.length c0) ∧ In1 w (Go.Proofs.YtigklnokgmcifaaDoor.names x.job.d.srcs) (.slice A4 x.job.d.srcs.length c4) ∧ In1 w (seqOf 2 DIn.cells x.job.d.ins) (.slice A5 x.job.d.ins.length c5) ∧ In1 w (Go.Proofs.YtigklnokgmcifaaDoor.names x.job.d.outs) (.slice A6 x.job.d.outs.length c6) ∧ In1 w (seqOf 5 DOp.cells x.job.d.ops) (.slice A7 x.job.d.ops.length c7) ∧ In1 w (raw x.job.name) (.slice A8 x.job.name.length c8) ∧ In1 w (Go.Proofs.YtigklnokgmcifaaDoor.names x.job.args) (.slice A10 x.job.args.length c10) ∧ In1 w (seqOf 4 T.cells x.job.outs) (.slice A11 x.job.outs.length c11) ∧ In1 w (Go.Proofs.YtigklnokgmcifaaDoor.names x.need) (.slice A12 x.need.length c12) := by
  obtain ⟨F, h⟩ := h
  rw [x.cells_eq] at h
  rw [Lies] at h
  obtain ⟨u0, r0, F0, G0, rfl, rfl, h0, h⟩ := h
  rw [Lies] at h
  obtain ⟨u1, r1, F1, G1, rfl, rfl, h1, h⟩ := h
  rw [Lies] at h
  obtain ⟨u2, r2, F2, G2, rfl, rfl, h2, h⟩ := h
  rw [Lies] at h
  obtain ⟨u3, r3, F3, G3, rfl, rfl, h3, h⟩ := h
  rw [Lies] at h
  obtain ⟨u4, r4, F4, G4, rfl, rfl, h4, h⟩ := h
  rw [Lies] at h
  obtain ⟨u5, r5, F5, G5, rfl, rfl, h5, h⟩ := h
  rw [Lies] at h
  obtain ⟨u6, r6, F6, G6, rfl, rfl, h6, h⟩ := h
  rw [Lies] at h
  obtain ⟨u7, r7, F7, G7, rfl, rfl, h7, h⟩ := h
  rw [Lies] at h
  obtain ⟨u8, r8, F8, G8, rfl, rfl, h8, h⟩ := h
  rw [Lies] at h
  obtain ⟨u9, r9, F9, G9, rfl, rfl, h9, h⟩ := h
  rw [Lies] at h
  obtain ⟨u10, r10, F10, G10, rfl, rfl, h10, h⟩ := h
  rw [Lies] at h
  obtain ⟨u11, r11, F11, G11, rfl, rfl, h11, h⟩ := h
  rw [Lies] at h
  obtain ⟨u12, r12, F12, G12, rfl, rfl, h12, h⟩ := h
  rw [Lies] at h
  obtain ⟨rfl, rfl⟩ := h
  obtain ⟨A0, c0, rfl, _, _⟩ := h0.form
  rw [Lie] at h1
  obtain ⟨rfl, rfl⟩ := h1
  rw [Lie] at h2
  obtain ⟨rfl, rfl⟩ := h2
  rw [Lie] at h3
  obtain ⟨rfl, rfl⟩ := h3
  obtain ⟨A4, c4, rfl, _, _⟩ := h4.form
  obtain ⟨A5, c5, rfl, _, _⟩ := h5.form
  obtain ⟨A6, c6, rfl, _, _⟩ := h6.form
  obtain ⟨A7, c7, rfl, _, _⟩ := h7.form
  obtain ⟨A8, c8, rfl, _, _⟩ := h8.form
  rw [Lie] at h9
  obtain ⟨rfl, rfl⟩ := h9
  obtain ⟨A10, c10, rfl, _, _⟩ := h10.form
  obtain ⟨A11, c11, rfl, _, _⟩ := h11.form
  obtain ⟨A12, c12, rfl, _, _⟩ := h12.form
  exact ⟨A0, c0, A4, c4, A5, c5, A6, c6, A7, c7, A8, c8, A10, c10, A11, c11, A12, c12, rfl, ⟨_, h0⟩, ⟨_, h4⟩, ⟨_, h5⟩, ⟨_, h6⟩, ⟨_, h7⟩, ⟨_, h8⟩, ⟨_, h10⟩, ⟨_, h11⟩, ⟨_, h12⟩⟩
theorem DGoal.lay {w : World} {x : DGoal} {v0 : Value} (h0 : In1 w (raw x.drv) v0) {v4 : Value} (h4 : In1 w (Go.Proofs.YtigklnokgmcifaaDoor.names x.job.d.srcs) v4) {v5 : Value} (h5 : In1 w (seqOf 2 DIn.cells x.job.d.ins) v5) {v6 : Value} (h6 : In1 w (Go.Proofs.YtigklnokgmcifaaDoor.names x.job.d.outs) v6) {v7 : Value} (h7 : In1 w (seqOf 5 DOp.cells x.job.d.ops) v7) {v8 : Value} (h8 : In1 w (raw x.job.name) v8) {v10 : Value} (h10 : In1 w (Go.Proofs.YtigklnokgmcifaaDoor.names x.job.args) v10) {v11 : Value} (h11 : In1 w (seqOf 4 T.cells x.job.outs) v11) {v12 : Value} (h12 : In1 w (Go.Proofs.YtigklnokgmcifaaDoor.names x.need) v12) : Ins w x.cells [v0, .int .i64 x.state, .int .i64 x.err, .bool x.begun, v4, v5, v6, v7, v8, .int .i64 x.job.pc, v10, v11, v12] := by
  rw [x.cells_eq]
  exact ins_cons (h0) (ins_cons (in1_num _ _ _) (ins_cons (in1_num _ _ _) (ins_cons (in1_flag _ _) (ins_cons (h4) (ins_cons (h5) (ins_cons (h6) (ins_cons (h7) (ins_cons (h8) (ins_cons (in1_num _ _ _) (ins_cons (h10) (ins_cons (h11) (ins_cons (h12) (ins_nil _)))))))))))))
theorem DEngine.view {w : World} {x : DEngine} {us : List Value} (h : Ins w x.cells us) : ∃ A0 c0 A1 c1 A2 c2 A3 c3, us = [.slice A0 x.store.objs.length c0, .slice A1 x.store.roots.length c1, .slice A2 x.store.reals.length c2, .slice A3 x.goals.length c3] ∧ In1 w (seqOf 9 DObj.cells x.store.objs) (.slice A0 x.store.objs.length c0) ∧ In1 w (Go.Proofs.YtigklnokgmcifaaDoor.names x.store.roots) (.slice A1 x.store.roots.length c1) ∧ In1 w (seqOf 3 DReal.cells x.store.reals) (.slice A2 x.store.reals.length c2) ∧ In1 w (seqOf 13 DGoal.cells x.goals) (.slice A3 x.goals.length c3) := by
  obtain ⟨F, h⟩ := h
  rw [x.cells_eq] at h
  rw [Lies] at h
  obtain ⟨u0, r0, F0, G0, rfl, rfl, h0, h⟩ := h
  rw [Lies] at h
  obtain ⟨u1, r1, F1, G1, rfl, rfl, h1, h⟩ := h
  rw [Lies] at h
  obtain ⟨u2, r2, F2, G2, rfl, rfl, h2, h⟩ := h
  rw [Lies] at h
  obtain ⟨u3, r3, F3, G3, rfl, rfl, h3, h⟩ := h
  rw [Lies] at h
  obtain ⟨rfl, rfl⟩ := h
  obtain ⟨A0, c0, rfl, _, _⟩ := h0.form
  obtain ⟨A1, c1, rfl, _, _⟩ := h1.form
  obtain ⟨A2, c2, rfl, _, _⟩ := h2.form
  obtain ⟨A3, c3, rfl, _, _⟩ := h3.form
  exact ⟨A0, c0, A1, c1, A2, c2, A3, c3, rfl, ⟨_, h0⟩, ⟨_, h1⟩, ⟨_, h2⟩, ⟨_, h3⟩⟩
theorem DEngine.lay {w : World} {x : DEngine} {v0 : Value} (h0 : In1 w (seqOf 9 DObj.cells x.store.objs) v0) {v1 : Value} (h1 : In1 w (Go.Proofs.YtigklnokgmcifaaDoor.names x.store.roots) v1) {v2 : Value} (h2 : In1 w (seqOf 3 DReal.cells x.store.reals) v2) {v3 : Value} (h3 : In1 w (seqOf 13 DGoal.cells x.goals) v3) : Ins w x.cells [v0, v1, v2, v3] := by
  rw [x.cells_eq]
  exact ins_cons (h0) (ins_cons (h1) (ins_cons (h2) (ins_cons (h3) (ins_nil _))))
theorem DReg.view {w : World} {x : DReg} {us : List Value} (h : Ins w x.cells us) : ∃ A1 c1 A4 c4 A5 c5 A6 c6 A7 c7 A8 c8 A9 c9 A10 c10 A11 c11 A12 c12 A13 c13, us = [.int .i64 x.kind, .slice A1 x.obj.name.length c1, .int .i64 x.obj.kind, .int .i64 x.obj.tree.kind, .slice A4 x.obj.tree.data.length c4, .slice A5 x.obj.tree.names.length c5, .slice A6 x.obj.tree.kids.length c6, .slice A7 x.obj.refs.length c7, .slice A8 x.obj.frm.length c8, .slice A9 x.obj.out.length c9, .slice A10 x.real.drv.length c10, .slice A11 x.real.out.length c11, .slice A12 x.real.path.length c12, .slice A13 x.name.length c13] ∧ In1 w (raw x.obj.name) (.slice A1 x.obj.name.length c1) ∧ In1 w (raw x.obj.tree.data) (.slice A4 x.obj.tree.data.length c4) ∧ In1 w (Go.Proofs.YtigklnokgmcifaaDoor.names x.obj.tree.names) (.slice A5 x.obj.tree.names.length c5) ∧ In1 w (seqOf 4 T.cells x.obj.tree.kids) (.slice A6 x.obj.tree.kids.length c6) ∧ In1 w (Go.Proofs.YtigklnokgmcifaaDoor.names x.obj.refs) (.slice A7 x.obj.refs.length c7) ∧ In1 w (raw x.obj.frm) (.slice A8 x.obj.frm.length c8) ∧ In1 w (raw x.obj.out) (.slice A9 x.obj.out.length c9) ∧ In1 w (raw x.real.drv) (.slice A10 x.real.drv.length c10) ∧ In1 w (raw x.real.out) (.slice A11 x.real.out.length c11) ∧ In1 w (raw x.real.path) (.slice A12 x.real.path.length c12) ∧ In1 w (raw x.name) (.slice A13 x.name.length c13) := by
  obtain ⟨F, h⟩ := h
  rw [x.cells_eq] at h
  rw [Lies] at h
  obtain ⟨u0, r0, F0, G0, rfl, rfl, h0, h⟩ := h
  rw [Lies] at h
  obtain ⟨u1, r1, F1, G1, rfl, rfl, h1, h⟩ := h
  rw [Lies] at h
  obtain ⟨u2, r2, F2, G2, rfl, rfl, h2, h⟩ := h
  rw [Lies] at h
  obtain ⟨u3, r3, F3, G3, rfl, rfl, h3, h⟩ := h
  rw [Lies] at h
  obtain ⟨u4, r4, F4, G4, rfl, rfl, h4, h⟩ := h
  rw [Lies] at h
  obtain ⟨u5, r5, F5, G5, rfl, rfl, h5, h⟩ := h
  rw [Lies] at h
  obtain ⟨u6, r6, F6, G6, rfl, rfl, h6, h⟩ := h
  rw [Lies] at h
  obtain ⟨u7, r7, F7, G7, rfl, rfl, h7, h⟩ := h
  rw [Lies] at h
  obtain ⟨u8, r8, F8, G8, rfl, rfl, h8, h⟩ := h
  rw [Lies] at h
  obtain ⟨u9, r9, F9, G9, rfl, rfl, h9, h⟩ := h
  rw [Lies] at h
  obtain ⟨u10, r10, F10, G10, rfl, rfl, h10, h⟩ := h
  rw [Lies] at h
  obtain ⟨u11, r11, F11, G11, rfl, rfl, h11, h⟩ := h
  rw [Lies] at h
  obtain ⟨u12, r12, F12, G12, rfl, rfl, h12, h⟩ := h
  rw [Lies] at h
  obtain ⟨u13, r13, F13, G13, rfl, rfl, h13, h⟩ := h
  rw [Lies] at h
  obtain ⟨rfl, rfl⟩ := h
  rw [Lie] at h0
  obtain ⟨rfl, rfl⟩ := h0
  obtain ⟨A1, c1, rfl, _, _⟩ := h1.form
  rw [Lie] at h2
  obtain ⟨rfl, rfl⟩ := h2
  rw [Lie] at h3
  obtain ⟨rfl, rfl⟩ := h3
  obtain ⟨A4, c4, rfl, _, _⟩ := h4.form
  obtain ⟨A5, c5, rfl, _, _⟩ := h5.form
  obtain ⟨A6, c6, rfl, _, _⟩ := h6.form
  obtain ⟨A7, c7, rfl, _, _⟩ := h7.form
  obtain ⟨A8, c8, rfl, _, _⟩ := h8.form
  obtain ⟨A9, c9, rfl, _, _⟩ := h9.form
  obtain ⟨A10, c10, rfl, _, _⟩ := h10.form
  obtain ⟨A11, c11, rfl, _, _⟩ := h11.form
  obtain ⟨A12, c12, rfl, _, _⟩ := h12.form
  obtain ⟨A13, c13, rfl, _, _⟩ := h13.form
  exact ⟨A1, c1, A4, c4, A5, c5, A6, c6, A7, c7, A8, c8, A9, c9, A10, c10, A11, c11, A12, c12, A13, c13, rfl, ⟨_, h1⟩, ⟨_, h4⟩, ⟨_, h5⟩, ⟨_, h6⟩, ⟨_, h7⟩, ⟨_, h8⟩, ⟨_, h9⟩, ⟨_, h10⟩, ⟨_, h11⟩, ⟨_, h12⟩, ⟨_, h13⟩⟩
theorem DReg.lay {w : World} {x : DReg} {v1 : Value} (h1 : In1 w (raw x.obj.name) v1) {v4 : Value} (h4 : In1 w (raw x.obj.tree.data) v4) {v5 : Value} (h5 : In1 w (Go.Proofs.YtigklnokgmcifaaDoor.names x.obj.tree.names) v5) {v6 : Value} (h6 : In1 w (seqOf 4 T.cells x.obj.tree.kids) v6) {v7 : Value} (h7 : In1 w (Go.Proofs.YtigklnokgmcifaaDoor.names x.obj.refs) v7) {v8 : Value} (h8 : In1 w (raw x.obj.frm) v8) {v9 : Value} (h9 : In1 w (raw x.obj.out) v9) {v10 : Value} (h10 : In1 w (raw x.real.drv) v10) {v11 : Value} (h11 : In1 w (raw x.real.out) v11) {v12 : Value} (h12 : In1 w (raw x.real.path) v12) {v13 : Value} (h13 : In1 w (raw x.name) v13) : Ins w x.cells [.int .i64 x.kind, v1, .int .i64 x.obj.kind, .int .i64 x.obj.tree.kind, v4, v5, v6, v7, v8, v9, v10, v11, v12, v13] := by
  rw [x.cells_eq]
  exact ins_cons (in1_num _ _ _) (ins_cons (h1) (ins_cons (in1_num _ _ _) (ins_cons (in1_num _ _ _) (ins_cons (h4) (ins_cons (h5) (ins_cons (h6) (ins_cons (h7) (ins_cons (h8) (ins_cons (h9) (ins_cons (h10) (ins_cons (h11) (ins_cons (h12) (ins_cons (h13) (ins_nil _))))))))))))))
theorem DJournal.view {w : World} {x : DJournal} {us : List Value} (h : Ins w x.cells us) : ∃ A0 c0 A1 c1 A2 c2 A3 c3, us = [.slice A0 x.base.objs.length c0, .slice A1 x.base.roots.length c1, .slice A2 x.base.reals.length c2, .slice A3 x.regs.length c3, .int .i64 x.safe] ∧ In1 w (seqOf 9 DObj.cells x.base.objs) (.slice A0 x.base.objs.length c0) ∧ In1 w (Go.Proofs.YtigklnokgmcifaaDoor.names x.base.roots) (.slice A1 x.base.roots.length c1) ∧ In1 w (seqOf 3 DReal.cells x.base.reals) (.slice A2 x.base.reals.length c2) ∧ In1 w (seqOf 14 DReg.cells x.regs) (.slice A3 x.regs.length c3) := by
  obtain ⟨F, h⟩ := h
  rw [x.cells_eq] at h
  rw [Lies] at h
  obtain ⟨u0, r0, F0, G0, rfl, rfl, h0, h⟩ := h
  rw [Lies] at h
  obtain ⟨u1, r1, F1, G1, rfl, rfl, h1, h⟩ := h
  rw [Lies] at h
  obtain ⟨u2, r2, F2, G2, rfl, rfl, h2, h⟩ := h
  rw [Lies] at h
  obtain ⟨u3, r3, F3, G3, rfl, rfl, h3, h⟩ := h
  rw [Lies] at h
  obtain ⟨u4, r4, F4, G4, rfl, rfl, h4, h⟩ := h
  rw [Lies] at h
  obtain ⟨rfl, rfl⟩ := h
  obtain ⟨A0, c0, rfl, _, _⟩ := h0.form
  obtain ⟨A1, c1, rfl, _, _⟩ := h1.form
  obtain ⟨A2, c2, rfl, _, _⟩ := h2.form
  obtain ⟨A3, c3, rfl, _, _⟩ := h3.form
  rw [Lie] at h4
  obtain ⟨rfl, rfl⟩ := h4
  exact ⟨A0, c0, A1, c1, A2, c2, A3, c3, rfl, ⟨_, h0⟩, ⟨_, h1⟩, ⟨_, h2⟩, ⟨_, h3⟩⟩
theorem DJournal.lay {w : World} {x : DJournal} {v0 : Value} (h0 : In1 w (seqOf 9 DObj.cells x.base.objs) v0) {v1 : Value} (h1 : In1 w (Go.Proofs.YtigklnokgmcifaaDoor.names x.base.roots) v1) {v2 : Value} (h2 : In1 w (seqOf 3 DReal.cells x.base.reals) v2) {v3 : Value} (h3 : In1 w (seqOf 14 DReg.cells x.regs) v3) : Ins w x.cells [v0, v1, v2, v3, .int .i64 x.safe] := by
  rw [x.cells_eq]
  exact ins_cons (h0) (ins_cons (h1) (ins_cons (h2) (ins_cons (h3) (ins_cons (in1_num _ _ _) (ins_nil _)))))
theorem DCmd.view {w : World} {x : DCmd} {us : List Value} (h : Ins w x.cells us) : ∃ A1 c1 A3 c3 A4 c4 A5 c5 A6 c6 A7 c7 A8 c8, us = [.int .i64 x.kind, .slice A1 x.text.length c1, .int .i64 x.tree.kind, .slice A3 x.tree.data.length c3, .slice A4 x.tree.names.length c4, .slice A5 x.tree.kids.length c5, .slice A6 x.name.length c6, .slice A7 x.out.length c7, .slice A8 x.picks.length c8, .int .i64 x.keep] ∧ In1 w (raw x.text) (.slice A1 x.text.length c1) ∧ In1 w (raw x.tree.data) (.slice A3 x.tree.data.length c3) ∧ In1 w (Go.Proofs.YtigklnokgmcifaaDoor.names x.tree.names) (.slice A4 x.tree.names.length c4) ∧ In1 w (seqOf 4 T.cells x.tree.kids) (.slice A5 x.tree.kids.length c5) ∧ In1 w (raw x.name) (.slice A6 x.name.length c6) ∧ In1 w (raw x.out) (.slice A7 x.out.length c7) ∧ In1 w (ints x.picks) (.slice A8 x.picks.length c8) := by
  obtain ⟨F, h⟩ := h
  rw [x.cells_eq] at h
  rw [Lies] at h
  obtain ⟨u0, r0, F0, G0, rfl, rfl, h0, h⟩ := h
  rw [Lies] at h
  obtain ⟨u1, r1, F1, G1, rfl, rfl, h1, h⟩ := h
  rw [Lies] at h
  obtain ⟨u2, r2, F2, G2, rfl, rfl, h2, h⟩ := h
  rw [Lies] at h
  obtain ⟨u3, r3, F3, G3, rfl, rfl, h3, h⟩ := h
  rw [Lies] at h
  obtain ⟨u4, r4, F4, G4, rfl, rfl, h4, h⟩ := h
  rw [Lies] at h
  obtain ⟨u5, r5, F5, G5, rfl, rfl, h5, h⟩ := h
  rw [Lies] at h
  obtain ⟨u6, r6, F6, G6, rfl, rfl, h6, h⟩ := h
  rw [Lies] at h
  obtain ⟨u7, r7, F7, G7, rfl, rfl, h7, h⟩ := h
  rw [Lies] at h
  obtain ⟨u8, r8, F8, G8, rfl, rfl, h8, h⟩ := h
  rw [Lies] at h
  obtain ⟨u9, r9, F9, G9, rfl, rfl, h9, h⟩ := h
  rw [Lies] at h
  obtain ⟨rfl, rfl⟩ := h
  rw [Lie] at h0
  obtain ⟨rfl, rfl⟩ := h0
  obtain ⟨A1, c1, rfl, _, _⟩ := h1.form
  rw [Lie] at h2
  obtain ⟨rfl, rfl⟩ := h2
  obtain ⟨A3, c3, rfl, _, _⟩ := h3.form
  obtain ⟨A4, c4, rfl, _, _⟩ := h4.form
  obtain ⟨A5, c5, rfl, _, _⟩ := h5.form
  obtain ⟨A6, c6, rfl, _, _⟩ := h6.form
  obtain ⟨A7, c7, rfl, _, _⟩ := h7.form
  obtain ⟨A8, c8, rfl, _, _⟩ := h8.form
  rw [Lie] at h9
  obtain ⟨rfl, rfl⟩ := h9
  exact ⟨A1, c1, A3, c3, A4, c4, A5, c5, A6, c6, A7, c7, A8, c8, rfl, ⟨_, h1⟩, ⟨_, h3⟩, ⟨_, h4⟩, ⟨_, h5⟩, ⟨_, h6⟩, ⟨_, h7⟩, ⟨_, h8⟩⟩
theorem DCmd.lay {w : World} {x : DCmd} {v1 : Value} (h1 : In1 w (raw x.text) v1) {v3 : Value} (h3 : In1 w (raw x.tree.data) v3) {v4 : Value} (h4 : In1 w (Go.Proofs.YtigklnokgmcifaaDoor.names x.tree.names) v4) {v5 : Value} (h5 : In1 w (seqOf 4 T.cells x.tree.kids) v5) {v6 : Value} (h6 : In1 w (raw x.name) v6) {v7 : Value} (h7 : In1 w (raw x.out) v7) {v8 : Value} (h8 : In1 w (ints x.picks) v8) : Ins w x.cells [.int .i64 x.kind, v1, .int .i64 x.tree.kind, v3, v4, v5, v6, v7, v8, .int .i64 x.keep] := by
  rw [x.cells_eq]
  exact ins_cons (in1_num _ _ _) (ins_cons (h1) (ins_cons (in1_num _ _ _) (ins_cons (h3) (ins_cons (h4) (ins_cons (h5) (ins_cons (h6) (ins_cons (h7) (ins_cons (h8) (ins_cons (in1_num _ _ _) (ins_nil _))))))))))
theorem DTold.view {w : World} {x : DTold} {us : List Value} (h : Ins w x.cells us) : ∃ A1 c1, us = [.int .i64 x.code, .slice A1 x.name.length c1] ∧ In1 w (raw x.name) (.slice A1 x.name.length c1) := by
  obtain ⟨F, h⟩ := h
  rw [x.cells_eq] at h
  rw [Lies] at h
  obtain ⟨u0, r0, F0, G0, rfl, rfl, h0, h⟩ := h
  rw [Lies] at h
  obtain ⟨u1, r1, F1, G1, rfl, rfl, h1, h⟩ := h
  rw [Lies] at h
  obtain ⟨rfl, rfl⟩ := h
  rw [Lie] at h0
  obtain ⟨rfl, rfl⟩ := h0
  obtain ⟨A1, c1, rfl, _, _⟩ := h1.form
  exact ⟨A1, c1, rfl, ⟨_, h1⟩⟩
theorem DTold.lay {w : World} {x : DTold} {v1 : Value} (h1 : In1 w (raw x.name) v1) : Ins w x.cells [.int .i64 x.code, v1] := by
  rw [x.cells_eq]
  exact ins_cons (in1_num _ _ _) (ins_cons (h1) (ins_nil _))

end Go.Proofs.YtigklnokgmcifaaDoor


/-
  From a datum that comes in to cells: numbers, rows, in general.
-/
namespace Go.Proofs.YtigklnokgmcifaaDoor
open Go.ChangeShapes Go.WideShapes Go.ChangeAt Go.RowKit
set_option linter.unusedVariables false

/-! ### The numbers of a datum lie in their bounds -/
mutual
def Cel.ok : Cel → Prop
  | .num k n => (k = .u8 → 0 ≤ n ∧ n ≤ 255) ∧ (k = .i64 → -9223372036854775808 ≤ n ∧ n ≤ 9223372036854775807)
  | .flag _ => True
  | .seq _ _ cs => oks cs
def oks : List Cel → Prop
  | [] => True
  | c :: cs => c.ok ∧ oks cs
end
theorem oks_app (a b : List Cel) : oks (a ++ b) ↔ oks a ∧ oks b := by
  induction a with
  | nil => simp [oks]
  | cons c a ih => simp [oks, ih, and_assoc]
theorem oks_cells {α : Type} (f : α → List Cel) (l : List α) : oks (cells f l) ↔ ∀ x ∈ l, oks (f x) := by
  induction l with
  | nil => simp [cells, oks]
  | cons x l ih => simp [cells, oks_app, ih]
theorem num_ok_i64 (n : Int) : (Cel.num .i64 n).ok ↔ -9223372036854775808 ≤ n ∧ n ≤ 9223372036854775807 := by
  rw [Cel.ok]
  constructor
  · intro h; exact h.2 rfl
  · intro h; exact ⟨fun e => (nomatch e), fun _ => h⟩
theorem num_ok_u8 (n : Int) : (Cel.num .u8 n).ok ↔ 0 ≤ n ∧ n ≤ 255 := by
  rw [Cel.ok]
  constructor
  · intro h; exact h.1 rfl
  · intro h; exact ⟨fun _ => h, fun e => (nomatch e)⟩
theorem raw_ok (l : List Int) : (raw l).ok ↔ Byt l := by
  rw [raw_eq, seqOf, Cel.ok, oks_cells]
  constructor
  · intro h x hx; have := h x hx; rw [oks] at this; exact (num_ok_u8 x).1 this.1
  · intro h x hx; rw [oks]; exact ⟨(num_ok_u8 x).2 (h x hx), trivial⟩
theorem ints_ok (l : List Int) : (ints l).ok ↔ ∀ x ∈ l, -9223372036854775808 ≤ x ∧ x ≤ 9223372036854775807 := by
  rw [ints_eq, seqOf, Cel.ok, oks_cells]
  constructor
  · intro h x hx; have := h x hx; rw [oks] at this; exact (num_ok_i64 x).1 this.1
  · intro h x hx; rw [oks]; exact ⟨(num_ok_i64 x).2 (h x hx), trivial⟩
theorem seqOf_ok {α : Type} (sz : Nat) (f : α → List Cel) (l : List α) : (seqOf sz f l).ok ↔ ∀ x ∈ l, oks (f x) := by
  rw [seqOf, Cel.ok, oks_cells]
theorem names_ok (ns : List (List Int)) : (Go.Proofs.YtigklnokgmcifaaDoor.names ns).ok ↔ BytN ns := by
  rw [Go.Proofs.YtigklnokgmcifaaDoor.names, seqOf_ok]
  constructor
  · intro h n hn; have := h n hn; rw [oks] at this; exact (raw_ok n).1 this.1
  · intro h n hn; rw [oks]; exact ⟨(raw_ok n).2 (h n hn), trivial⟩

/-! ### Rows -/
theorem list_of' {α : Type} {R : Nat → α → Prop} : ∀ (n : Nat), (∀ i, i < n → ∃ x, R i x) → ∃ l : List α, l.length = n ∧ ∀ i x, l[i]? = some x → R i x
  | 0, _ => ⟨[], rfl, fun i x h => by simp at h⟩
  | n + 1, h => by
    obtain ⟨l, hl, hr⟩ := list_of' n (fun i hi => h i (by omega))
    obtain ⟨x, hx⟩ := h n (by omega)
    refine ⟨l ++ [x], by simp [hl], fun i y hy => ?_⟩
    by_cases hi : i < n
    · rw [List.getElem?_append_left (by omega)] at hy
      exact hr i y hy
    · rw [List.getElem?_append_right (by omega)] at hy
      have : i - l.length = 0 := by
        have := (List.getElem?_eq_some_iff.1 hy).1
        simp at this
        omega
      rw [this] at hy
      simp at hy
      subst hy
      obtain rfl : i = n := by omega
      exact hx
theorem spot_of' {W : World} {a : Addr} {v : Value} (h : W.cell? (a.add 0) = some v) : ∃ b off, a = ⟨b, off, none⟩ ∧ b < W.heap.size := by
  obtain ⟨b, off, spot⟩ := a
  have hs : spot = none := by simpa [Addr.add] using World.cell?_spot h
  subst hs
  have := World.block_lt_of_cell? W _ h
  exact ⟨b, off, rfl, by simpa [Addr.add] using this⟩
theorem range_join {α : Type} {W : World} {b off n : Nat} (hn : 0 < n) : ∀ (l : List (List Value × α)) (i0 : Nat), (∀ i y, l[i]? = some y → y.1.length = n ∧ ∀ j u, y.1[j]? = some u → W.cell? ⟨b, off + ((i0 + i) * n + j), none⟩ = some u) →
    ∀ j u, (l.flatMap (·.1))[j]? = some u → W.cell? ⟨b, off + (i0 * n + j), none⟩ = some u
  | [], i0, _, j, u, hu => by simp at hu
  | y :: l, i0, h, j, u, hu => by
    obtain ⟨h1, h2⟩ := h 0 y rfl
    rw [List.flatMap_cons] at hu
    by_cases hj : j < n
    · rw [List.getElem?_append_left (by omega)] at hu
      simpa using h2 j u hu
    · rw [List.getElem?_append_right (by omega), h1] at hu
      have := range_join hn l (i0 + 1) (fun i z hz => by
        have := h (i + 1) z (by simpa using hz)
        rw [show i0 + 1 + i = i0 + (i + 1) by omega]
        exact this) (j - n) u hu
      rw [show i0 * n + j = (i0 + 1) * n + (j - n) by rw [Nat.add_mul]; omega]
      exact this
theorem lies_join {α : Type} {W : World} {f : α → List Cel} : ∀ (l : List (List Value × α)), (∀ y ∈ l, ∃ F, Lies W (f y.2) y.1 F) → ∃ F, Lies W (cells f (l.map (·.2))) (l.flatMap (·.1)) F
  | [], _ => ⟨[], lies_nil W⟩
  | y :: l, h => by
    obtain ⟨F1, h1⟩ := h y (List.mem_cons_self ..)
    obtain ⟨F2, h2⟩ := lies_join l fun z hz => h z (List.mem_cons_of_mem _ hz)
    exact ⟨F1 ++ F2, h1.append h2⟩

section
variable {H : Type} {enc : TypeId × Value → H} {W : World}
theorem row_of_trod {α : Type} {ty ety : TypeId} {n : Nat} {f : α → List Cel} (hu : Program.underlying Tryd.prog ty = some (.slice ety)) (hC : Program.cellsOf Tryd.prog ety = n) (h64 : n ≤ 64) (hn : 0 < n) {fuel : Nat}
    (hel : ∀ m, m < fuel → ∀ (cs : List Value) (x : DataW H × List MemPlace), DataW.trod enc Tryd.prog W 0 (fun _ => true) true m ety cs = some x → ∃ a : α, oks (f a) ∧ ∃ F, Lies W (f a) cs F)
    {v : Value} {x : DataW H × List MemPlace} (h : DataW.trod enc Tryd.prog W 0 (fun _ => true) true fuel ty [v] = some x) : ∃ l : List α, (seqOf n f l).ok ∧ ∃ F, Lie W (seqOf n f l) v F := by
  rcases DataW.trod_slice hu h with ⟨hcs, _⟩ | ⟨a, len, cap, elems, rest, m, hfm, hcs, _, _, hl, hm, hlen, hel2, _, _⟩
  · obtain rfl := List.singleton_inj.1 hcs
    refine ⟨[], (seqOf_ok _ _ _).2 (fun x hx => by cases hx), [], ?_⟩
    rw [Lie]
    refine ⟨h64, [], [], ⟨none, 0, rfl, Nat.le_refl _, Nat.zero_le _, by simp, fun h => absurd h (by simp)⟩, lies_nil W, ?_⟩
    simp [blk_none]
  · obtain rfl := List.singleton_inj.1 hcs
    rw [hC] at hel2
    obtain ⟨l, hll, hlr⟩ := list_of' (R := fun i (y : List Value × α) => (y.1.length = n ∧ ∀ j u, y.1[j]? = some u → W.cell? ((a.add (i * n)).add j) = some u) ∧ oks (f y.2) ∧ ∃ F, Lies W (f y.2) y.1 F) len (fun i hi => by
      have h1 := hel2 i hi
      rw [List.getElem?_eq_getElem (by omega)] at h1
      obtain ⟨cs', h2, h3⟩ := Option.bind_eq_some_iff.1 h1
      obtain ⟨_, hcl, hat⟩ := World.cells?_some h2
      obtain ⟨a', h4, h5⟩ := hel m (by omega) _ _ h3
      exact ⟨(cs', a'), ⟨hcl, fun j u hu => (hat j (by rw [← hcl]; exact (List.getElem?_eq_some_iff.1 hu).1)).trans hu⟩, h4, h5⟩)
    have hmem : ∀ y ∈ l, oks (f y.2) ∧ ∃ F, Lies W (f y.2) y.1 F := fun y hy => by
      obtain ⟨i, hi⟩ := List.getElem?_of_mem hy
      exact (hlr i y hi).2
    obtain ⟨F, hF⟩ := lies_join l fun y hy => (hmem y hy).2
    have hsum : (l.flatMap (·.1)).length = len * n := by
      have : ∀ k : List (List Value × α), (∀ y ∈ k, y.1.length = n) → (k.flatMap (·.1)).length = k.length * n := fun k => by
        induction k with
        | nil => intro _; simp
        | cons y k ih => intro h; rw [List.flatMap_cons, List.length_append, h y (List.mem_cons_self ..), ih fun z hz => h z (List.mem_cons_of_mem _ hz), List.length_cons, Nat.add_mul]; omega
      rw [this l fun y hy => by obtain ⟨i, hi⟩ := List.getElem?_of_mem hy; exact (hlr i y hi).1.1, hll]
    refine ⟨l.map (·.2), ?_, blk (.slice (some a) len cap) ++ F, ?_⟩
    · rw [seqOf_ok]
      intro x hx
      obtain ⟨y, hy, rfl⟩ := List.mem_map.1 hx
      exact (hmem y hy).1
    · rw [Lie, List.length_map, hll]
      refine ⟨h64, l.flatMap (·.1), F, ⟨some a, cap, rfl, hl, hm, hsum, fun hp => ?_⟩, hF, rfl⟩
      have h0 := (hlr 0 l[0] (List.getElem?_eq_getElem (by omega))).1
      obtain ⟨b, off, rfl, hb⟩ := spot_of' (v := l[0].1[0]'(by omega)) (by
        have := h0.2 0 _ (List.getElem?_eq_getElem (by omega))
        rw [Nat.zero_mul] at this
        simpa [Addr.add] using this)
      refine ⟨b, off, rfl, hb, fun j u hu => ?_⟩
      have := range_join (W := W) (b := b) (off := off) hn l 0 (fun i y hy => ⟨(hlr i y hy).1.1, fun j u hu => by
        have h1 := (hlr i y hy).1.2 j u hu
        rw [Go.Deep.add_add, Addr.add_lit] at h1
        rw [Nat.zero_add]
        exact h1⟩) j u hu
      rw [Nat.zero_mul, Nat.zero_add] at this
      exact this
theorem raw_of_trod {fuel : Nat} {v : Value} {x : DataW H × List MemPlace} (h : DataW.trod enc Tryd.prog W 0 (fun _ => true) true fuel 22 [v] = some x) : ∃ l : List Int, (raw l).ok ∧ ∃ F, Lie W (raw l) v F := by
  obtain ⟨l, h1, F, h2⟩ := row_of_trod (α := Int) (f := fun x => [Cel.num .u8 x]) (n := 1) Tryd.underlying22 (by kernel_rfl) (by decide) (by decide) (fun m _ cs x hx => by
    obtain ⟨k, rfl, _, hw⟩ := DataW.trod_int Tryd.underlying5 hx
    exact ⟨k, by rw [oks]; exact ⟨(num_ok_u8 k).2 (u8_of_wf hw), trivial⟩, [], lies_one (lie_num _ _ _)⟩) h
  exact ⟨l, by rw [raw_eq]; exact h1, F, by rw [raw_eq]; exact h2⟩
end

end Go.Proofs.YtigklnokgmcifaaDoor


/-
  NameOk leaves the model's world as it is.
-/
namespace Go.Proofs.YtigklnokgmcifaaDoor
open Go.RowKit

set_option maxRecDepth 20000 in
set_option maxHeartbeats 800000 in
theorem specNameQ (l : List Int) (hB : Byt l) (v : Value) (w : World) (hv : Rd w v (bs l)) (hl : l.length ≤ 1099511627776) :
    Calls Tryd.prog 28 #[v] w fun e w' => e = .returned (.bool (nameOk l)) ∧ w = w' := by
  obtain ⟨A, c, rfl, hc1, hc2, hrd⟩ := hv
  rw [bs_length] at *
  unfold maxLen at hc2
  obtain ⟨R, hR⟩ : ∃ R, nameOk l = R := ⟨_, rfl⟩
  rw [hR]
  by_cases h16 : l.length = 16
  · have HR : Hid (okFrom l 0 = R) := by
      rw [← hR, nameOk, h16]
      exact hide rfl
    have H16 := hide h16
    have hlo : l.length ≤ 16 := by omega
    have hhi : 16 ≤ l.length := by omega
    have hne : ((l.length : Int) != 16) = false := by rw [h16]; rfl
    clear hR h16
    go_enter Tryd.func28, Tryd.ntmps28
    go_wp2
    go_loopw [3] (fun i wr => ∃ k : Nat, k ≤ l.length ∧ i = .int .i64 k ∧ Hid (okFrom l k = R) ∧ w = wr) (fun i _ => l.length - (intOf i).toNat)
    case atStart => exact ⟨0, by omega, rfl, HR, rfl⟩
    case round =>
      obtain ⟨k, hk, rfl, hx, hww⟩ := hrel
      subst hww
      by_cases hlt : k < l.length
      · obtain ⟨b, off, rfl, hblt, hcell⟩ := hrd (by omega)
        have hin : w.cell? ⟨b, off + k, none⟩ = some (.int .u8 (l.getD k 0)) := hcell k _ (bs_get hlt)
        have hm := okFrom_more hlt
        obtain ⟨y0, y1⟩ := hB.at_ k
        generalize l.getD k 0 = y at *
        obtain ⟨z, hz⟩ : ∃ z, lidx y = z := ⟨_, rfl⟩
        rw [hz] at hm
        have HZ := hide hz
        have HM := hide hm
        clear hz hm hcell hrd
        by_cases hz0 : 0 ≤ z
        · have HD := hide (decide_eq_true hz0)
          go_wp2_with (go_at_call 62; refine (letterIdx _ (by omega) (by omega) _).mono ?_; rintro e w' ⟨rfl, rfl⟩; rw [HZ.out])
          go_roundw
          case rel => exact ⟨k + 1, by omega, by go_num, hide (by rw [← hx.out, HM.out, HD.out, Bool.true_and]), trivial⟩
          case measure => simp [intOf]; omega
        · have HD := hide (decide_eq_false hz0)
          go_wp2_with (go_at_call 62; refine (letterIdx _ (by omega) (by omega) _).mono ?_; rintro e w' ⟨rfl, rfl⟩; rw [HZ.out])
          go_ret
          exact ⟨ret_bool (by rw [← hx.out, HM.out, HD.out, Bool.false_and]), rfl⟩
      · have hfin : true = R := by rw [← hx.out, okFrom_end (by omega)]
        have HF := hide hfin
        clear hfin hrd
        go_wp2
        go_ret
        exact ⟨ret_bool (by rw [← HF.out]), rfl⟩
  · have HR : Hid (false = R) := by
      rw [← hR, nameOk]
      exact hide (by simp [h16])
    have hne : ((l.length : Int) != 16) = true := by simpa using (by omega : ¬ (l.length : Int) = 16)
    clear hR hrd h16
    go_enter Tryd.func28, Tryd.ntmps28
    go_wp2
    go_ret
    exact ⟨ret_bool (by rw [← HR.out]), rfl⟩

end Go.Proofs.YtigklnokgmcifaaDoor


/-
  A name out of a row of names.
-/
namespace Go.Proofs.YtigklnokgmcifaaDoor
open Go.RowKit
set_option linter.unusedVariables false

theorem In1.nameAt {w W : World} {ns : List (List Int)} {A : Option Addr} {n c : Nat} (h : In1 w (names ns) (.slice A n c)) (hn : ns.length = n) (hb : Below w.heap.size w W) {k : Nat} (hk : k < n) (hk2 : k < ns.length) :
    ∃ b off X cc, A = some ⟨b, off, none⟩ ∧ b < w.heap.size ∧ W.cell? ⟨b, off + k, none⟩ = some (.slice X (ns[k]).length cc) ∧ Rd w (.slice X (ns[k]).length cc) (bs (ns[k])) := by
  obtain ⟨vs, hv, hvl, hvs⟩ := h.rdN
  obtain ⟨A', c', e, hc1, hc2, hrd⟩ := hv
  injection e with e1 e2 e3
  subst e1 e3
  obtain ⟨b, off, rfl, hlt, hc⟩ := hrd (by omega)
  obtain ⟨x, hx⟩ : ∃ x, vs[k]? = some x := ⟨_, List.getElem?_eq_getElem (by omega)⟩
  have hr := hvs k x hx
  have hg : ns.getD k [] = ns[k] := by simp [List.getD, List.getElem?_eq_getElem hk2]
  rw [hg] at hr
  obtain ⟨X, cc, rfl, _, _, _⟩ := id hr
  rw [bs_length] at *
  exact ⟨b, off, X, cc, rfl, hlt, (hb.cell (p := ⟨b, off + k, none⟩) hlt).trans (hc k _ hx), hr⟩

end Go.Proofs.YtigklnokgmcifaaDoor


/-
  The program's hash: what is put behind the message.
-/
namespace Go.Proofs.YtigklnokgmcifaaDoor
open Go.RowKit
set_option linter.unusedVariables false

set_option maxRecDepth 20000 in
set_option maxHeartbeats 1600000 in
theorem padded (r : List Int) (v : Value) (n : Nat) (w : World) (hv : Rd w v (bs r)) (hn : n ≤ 100000) (hr : r.length ≤ 64) (hm : zpad r.length = zpad n) :
    Calls Tryd.prog 114 #[v, .int .i64 n] w fun e w' => ∃ v', e = .returned v' ∧ w'.ownsRow w.heap.size 5 1 v' (r ++ tailB n).length (bs (r ++ tailB n)) ∧ Below w.heap.size w w' := by
  obtain ⟨i0, hi0, hz0, hz1, hz2⟩ := info_parts u8info
  have HV := hide hv
  clear hv
  have hz : zpad r.length = (119 - r.length % 64) % 64 := rfl
  rw [hm] at hz
  generalize hzp : zpad n = z at *
  have HZP := hide hzp
  have HZ := hide hz
  have hz64 : z < 64 := by omega
  clear hzp hm hz
  go_enter Tryd.func114, Tryd.ntmps114
  go_upto_block 0 with (first
    | (go_at_call 103; (with_reducible refine (clone r v w HV.out (by omega)).mono ?_); rintro e w1 ⟨v1, rfl, own1, b1⟩)
    | ((with_reducible refine at_slot 10 ?_); refine wpList_app _ rfl (.tmp 8) (.tmp 9) _ rfl w.heap.size 5 i0 _ 1 Tryd.underlying22 hi0 hz0 hz1 hz2 rfl _ _ _ rfl (own1.alloc _) _ _ rfl (rd_one _ _ _) (bs_one _) (by rw [bs_length]; simp only [maxLen, List.length_singleton]; omega) (by rw [bs_length]; simp only [List.length_singleton]; omega) (by have := b1.size; simp; omega) ?_; intro v2 w2 own2 gr2))
  have b2 : Below w.heap.size w w2 := Below.row (b1.alloc b1.size _) (by have := b1.size; simp; omega) (own1.alloc _) gr2
  have o2 : w2.ownsRow w.heap.size 5 1 v2 (r.length + 1 + 0) (bs (r ++ [128] ++ zeros 0)) := own_len (own_cells own2 (by simp [bs, zeros])) (by simp [bs])
  clear own1 b1 own2 gr2
  go_cut [5] (fun v5 wx => wx.ownsRow w.heap.size 5 1 v5 (r.length + 1 + z) (bs (r ++ [128] ++ zeros z)) ∧ Below w.heap.size w wx)
  case first =>
    go_wp2
    go_loopw [5] (fun v5 wr => ∃ k : Nat, k ≤ z ∧ wr.ownsRow w.heap.size 5 1 v5 (r.length + 1 + k) (bs (r ++ [128] ++ zeros k)) ∧ Below w.heap.size w wr)
      (fun v5 _ => 200 - lenV v5)
    case atStart => exact ⟨0, by omega, o2, b2⟩
    case round =>
      clear o2 b2
      obtain ⟨k, hk, hown, hbel⟩ := hrel
      obtain ⟨A, c, rfl, hc1, hc2⟩ := own_slice hown
      have HO := hide hown
      have HB := hide hbel
      clear hown hbel
      have hsz := HB.out.size
      by_cases hlt : k < z
      · have h56 : ((r.length : Int) + 1 + (k : Int)) % 64 ≠ 56 := by have hz := HZ.out; omega
        go_wp2_with ((with_reducible refine at_slot 17 ?_); refine wpList_app _ rfl (.tmp 15) (.tmp 16) _ rfl w.heap.size 5 i0 _ 1 Tryd.underlying22 hi0 hz0 hz1 hz2 rfl _ _ _ rfl (HO.out.alloc _) _ _ rfl (rd_one _ _ _) (bs_one _) (by rw [bs_length]; simp only [maxLen, List.length_singleton]; omega) (by rw [bs_length]; simp only [List.length_singleton]; omega) (by simp; omega) ?_; intro v3 w3 own3 gr3)
        obtain ⟨A3, c3, rfl, _, _⟩ := own_slice own3
        go_roundw
        case rel => exact ⟨k + 1, by omega, own_len (own_cells own3 (by rw [← zeros_next, ← List.append_assoc, bs_append _ [0]])) (by simp [bs]; omega), Below.row (HB.out.alloc hsz _) (by simp; omega) (HO.out.alloc _) gr3⟩
        case measure => simp [lenV, bs_length]; omega
      · have hkz : k = z := by omega
        subst hkz
        have h56 : ((r.length : Int) + 1 + (k : Int)) % 64 = 56 := by have hz := HZ.out; omega
        go_wp2
        go_meet
        exact ⟨HO.out, HB.out⟩
  case rest =>
    clear o2 b2
    obtain ⟨o2, b2⟩ := hcut
    have o3 := own_len (own_cells o2 (ys := bs (r ++ [128] ++ zeros z ++ lenB n 0)) (by simp [lenB])) (m := r.length + 1 + z + 0) rfl
    clear o2
    go_wp2
    go_loopw [5, 6] (fun v5 q wr => ∃ j : Nat, j ≤ 8 ∧ q = .int .i64 (56 - 8 * j) ∧ wr.ownsRow w.heap.size 5 1 v5 (r.length + 1 + z + j) (bs (r ++ [128] ++ zeros z ++ lenB n j)) ∧ Below w.heap.size w wr)
      (fun _ q _ => (intOf q + 8).toNat)
    case atStart => exact ⟨0, by omega, by go_num, o3, b2⟩
    case round =>
      clear o3 b2
      obtain ⟨j, hj, rfl, hown, hbel⟩ := hrel
      have HO := hide hown
      have HB := hide hbel
      clear hown hbel
      have hsz := HB.out.size
      by_cases hlt : j < 8
      · have hsh : ((56 : Int) - 8 * (j : Int)).toNat = 8 * (7 - j) := by omega
        go_wp2_with ((with_reducible refine at_slot 29 ?_); refine wpList_app _ rfl (.tmp 22) (.tmp 28) _ rfl w.heap.size 5 i0 _ 1 Tryd.underlying22 hi0 hz0 hz1 hz2 rfl _ _ _ rfl (HO.out.alloc _) _ _ rfl (rd_one _ _ _) (bs_one _) (by rw [bs_length]; simp only [maxLen, List.length_singleton]; omega) (by rw [bs_length]; simp only [List.length_singleton]; omega) (by simp; omega) ?_; intro v3 w3 own3 gr3)
        go_roundw
        case rel => exact ⟨j + 1, by omega, by go_num, own_len (own_cells own3 (by rw [lenB, ← List.append_assoc, bs_append _ [_]])) (by simp [bs]; omega), Below.row (HB.out.alloc hsz _) (by simp; omega) (HO.out.alloc _) gr3⟩
        case measure => simp [intOf]; omega
      · obtain rfl : j = 8 := by omega
        go_wp2
        go_ret
        refine ⟨_, rfl, own_len (own_cells HO.out ?_) ?_, HB.out⟩
        · rw [tailB, HZP.out]; simp
        · rw [List.length_append, tailB_len, HZP.out]; omega

end Go.Proofs.YtigklnokgmcifaaDoor
