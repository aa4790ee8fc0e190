
/-
  Structs seen cell by cell, and laid together.
-/
import Derived.Test.YtnloknhcdlannaaNLie
import Derived.Test.YtnloknhcdlannaaDTyp
namespace Go.Proofs.Ytnloknhcdlannaa
open Go.RowKit
set_option linter.unusedVariables false

theorem ins_nil (w : World) : Ins w [] [] := ⟨_, lies_nil w⟩
theorem ins_cons {w : World} {c : Cel} {cs : List Cel} {v : Value} {us : List Value} (h : In1 w c v) (k : Ins w cs us) : Ins w (c :: cs) (v :: us) := h.elim fun F h => k.elim fun G k => ⟨F ++ G, lies_cons h k⟩
theorem in1_num (w : World) (k : IntKind) (n : Int) : In1 w (.num k n) (.int k n) := ⟨_, lie_num w k n⟩
theorem in1_flag (w : World) (b : Bool) : In1 w (.flag b) (.bool b) := ⟨_, lie_flag w b⟩

theorem T.view {w : World} {x : T} {us : List Value} (h : Ins w x.cells us) : ∃ A1 c1 A2 c2 A3 c3, us = [.int .i64 x.kind, .slice A1 x.data.length c1, .slice A2 x.names.length c2, .slice A3 x.kids.length c3] ∧ In1 w (raw x.data) (.slice A1 x.data.length c1) ∧ In1 w (Go.Proofs.Ytnloknhcdlannaa.names x.names) (.slice A2 x.names.length c2) ∧ In1 w (seqOf 4 T.cells x.kids) (.slice A3 x.kids.length c3) := by
  obtain ⟨F, h⟩ := h
  rw [x.cells_eq] at h
  rw [Lies] at h
  obtain ⟨u0, r0, F0, G0, rfl, rfl, h0, h⟩ := h
  rw [Lies] at h
  obtain ⟨u1, r1, F1, G1, rfl, rfl, h1, h⟩ := h
  rw [Lies] at h
  obtain ⟨u2, r2, F2, G2, rfl, rfl, h2, h⟩ := h
  rw [Lies] at h
  obtain ⟨u3, r3, F3, G3, rfl, rfl, h3, h⟩ := h
  rw [Lies] at h
  obtain ⟨rfl, rfl⟩ := h
  rw [Lie] at h0
  obtain ⟨rfl, rfl⟩ := h0
  obtain ⟨A1, c1, rfl, _, _⟩ := h1.form
  obtain ⟨A2, c2, rfl, _, _⟩ := h2.form
  obtain ⟨A3, c3, rfl, _, _⟩ := h3.form
  exact ⟨A1, c1, A2, c2, A3, c3, rfl, ⟨_, h1⟩, ⟨_, h2⟩, ⟨_, h3⟩⟩
theorem T.lay {w : World} {x : T} {v1 : Value} (h1 : In1 w (raw x.data) v1) {v2 : Value} (h2 : In1 w (Go.Proofs.Ytnloknhcdlannaa.names x.names) v2) {v3 : Value} (h3 : In1 w (seqOf 4 T.cells x.kids) v3) : Ins w x.cells [.int .i64 x.kind, v1, v2, v3] := by
  rw [x.cells_eq]
  exact ins_cons (in1_num _ _ _) (ins_cons (h1) (ins_cons (h2) (ins_cons (h3) (ins_nil _))))
theorem DReal.view {w : World} {x : DReal} {us : List Value} (h : Ins w x.cells us) : ∃ A0 c0 A1 c1 A2 c2, us = [.slice A0 x.drv.length c0, .slice A1 x.out.length c1, .slice A2 x.path.length c2] ∧ In1 w (raw x.drv) (.slice A0 x.drv.length c0) ∧ In1 w (raw x.out) (.slice A1 x.out.length c1) ∧ In1 w (raw x.path) (.slice A2 x.path.length c2) := by
  obtain ⟨F, h⟩ := h
  rw [x.cells_eq] at h
  rw [Lies] at h
  obtain ⟨u0, r0, F0, G0, rfl, rfl, h0, h⟩ := h
  rw [Lies] at h
  obtain ⟨u1, r1, F1, G1, rfl, rfl, h1, h⟩ := h
  rw [Lies] at h
  obtain ⟨u2, r2, F2, G2, rfl, rfl, h2, h⟩ := h
  rw [Lies] at h
  obtain ⟨rfl, rfl⟩ := h
  obtain ⟨A0, c0, rfl, _, _⟩ := h0.form
  obtain ⟨A1, c1, rfl, _, _⟩ := h1.form
  obtain ⟨A2, c2, rfl, _, _⟩ := h2.form
  exact ⟨A0, c0, A1, c1, A2, c2, rfl, ⟨_, h0⟩, ⟨_, h1⟩, ⟨_, h2⟩⟩
theorem DReal.lay {w : World} {x : DReal} {v0 : Value} (h0 : In1 w (raw x.drv) v0) {v1 : Value} (h1 : In1 w (raw x.out) v1) {v2 : Value} (h2 : In1 w (raw x.path) v2) : Ins w x.cells [v0, v1, v2] := by
  rw [x.cells_eq]
  exact ins_cons (h0) (ins_cons (h1) (ins_cons (h2) (ins_nil _)))
theorem DOp.view {w : World} {x : DOp} {us : List Value} (h : Ins w x.cells us) : ∃ A2 c2 A3 c3, us = [.int .i64 x.code, .int .i64 x.out, .slice A2 x.name.length c2, .slice A3 x.text.length c3, .int .i64 x.arg] ∧ In1 w (raw x.name) (.slice A2 x.name.length c2) ∧ In1 w (raw x.text) (.slice A3 x.text.length c3) := by
  obtain ⟨F, h⟩ := h
  rw [x.cells_eq] at h
  rw [Lies] at h
  obtain ⟨u0, r0, F0, G0, rfl, rfl, h0, h⟩ := h
  rw [Lies] at h
  obtain ⟨u1, r1, F1, G1, rfl, rfl, h1, h⟩ := h
  rw [Lies] at h
  obtain ⟨u2, r2, F2, G2, rfl, rfl, h2, h⟩ := h
  rw [Lies] at h
  obtain ⟨u3, r3, F3, G3, rfl, rfl, h3, h⟩ := h
  rw [Lies] at h
  obtain ⟨u4, r4, F4, G4, rfl, rfl, h4, h⟩ := h
  rw [Lies] at h
  obtain ⟨rfl, rfl⟩ := h
  rw [Lie] at h0
  obtain ⟨rfl, rfl⟩ := h0
  rw [Lie] at h1
  obtain ⟨rfl, rfl⟩ := h1
  obtain ⟨A2, c2, rfl, _, _⟩ := h2.form
  obtain ⟨A3, c3, rfl, _, _⟩ := h3.form
  rw [Lie] at h4
  obtain ⟨rfl, rfl⟩ := h4
  exact ⟨A2, c2, A3, c3, rfl, ⟨_, h2⟩, ⟨_, h3⟩⟩
theorem DOp.lay {w : World} {x : DOp} {v2 : Value} (h2 : In1 w (raw x.name) v2) {v3 : Value} (h3 : In1 w (raw x.text) v3) : Ins w x.cells [.int .i64 x.code, .int .i64 x.out, v2, v3, .int .i64 x.arg] := by
  rw [x.cells_eq]
  exact ins_cons (in1_num _ _ _) (ins_cons (in1_num _ _ _) (ins_cons (h2) (ins_cons (h3) (ins_cons (in1_num _ _ _) (ins_nil _)))))
theorem DIn.view {w : World} {x : DIn} {us : List Value} (h : Ins w x.cells us) : ∃ A0 c0 A1 c1, us = [.slice A0 x.drv.length c0, .slice A1 x.out.length c1] ∧ In1 w (raw x.drv) (.slice A0 x.drv.length c0) ∧ In1 w (raw x.out) (.slice A1 x.out.length c1) := by
  obtain ⟨F, h⟩ := h
  rw [x.cells_eq] at h
  rw [Lies] at h
  obtain ⟨u0, r0, F0, G0, rfl, rfl, h0, h⟩ := h
  rw [Lies] at h
  obtain ⟨u1, r1, F1, G1, rfl, rfl, h1, h⟩ := h
  rw [Lies] at h
  obtain ⟨rfl, rfl⟩ := h
  obtain ⟨A0, c0, rfl, _, _⟩ := h0.form
  obtain ⟨A1, c1, rfl, _, _⟩ := h1.form
  exact ⟨A0, c0, A1, c1, rfl, ⟨_, h0⟩, ⟨_, h1⟩⟩
theorem DIn.lay {w : World} {x : DIn} {v0 : Value} (h0 : In1 w (raw x.drv) v0) {v1 : Value} (h1 : In1 w (raw x.out) v1) : Ins w x.cells [v0, v1] := by
  rw [x.cells_eq]
  exact ins_cons (h0) (ins_cons (h1) (ins_nil _))
theorem DObj.view {w : World} {x : DObj} {us : List Value} (h : Ins w x.cells us) : ∃ A0 c0 A3 c3 A4 c4 A5 c5 A6 c6 A7 c7 A8 c8, us = [.slice A0 x.name.length c0, .int .i64 x.kind, .int .i64 x.tree.kind, .slice A3 x.tree.data.length c3, .slice A4 x.tree.names.length c4, .slice A5 x.tree.kids.length c5, .slice A6 x.refs.length c6, .slice A7 x.frm.length c7, .slice A8 x.out.length c8] ∧ In1 w (raw x.name) (.slice A0 x.name.length c0) ∧ In1 w (raw x.tree.data) (.slice A3 x.tree.data.length c3) ∧ In1 w (Go.Proofs.Ytnloknhcdlannaa.names x.tree.names) (.slice A4 x.tree.names.length c4) ∧ In1 w (seqOf 4 T.cells x.tree.kids) (.slice A5 x.tree.kids.length c5) ∧ In1 w (Go.Proofs.Ytnloknhcdlannaa.names x.refs) (.slice A6 x.refs.length c6) ∧ In1 w (raw x.frm) (.slice A7 x.frm.length c7) ∧ In1 w (raw x.out) (.slice A8 x.out.length c8) := by
  obtain ⟨F, h⟩ := h
  rw [x.cells_eq] at h
  rw [Lies] at h
  obtain ⟨u0, r0, F0, G0, rfl, rfl, h0, h⟩ := h
  rw [Lies] at h
  obtain ⟨u1, r1, F1, G1, rfl, rfl, h1, h⟩ := h
  rw [Lies] at h
  obtain ⟨u2, r2, F2, G2, rfl, rfl, h2, h⟩ := h
  rw [Lies] at h
  obtain ⟨u3, r3, F3, G3, rfl, rfl, h3, h⟩ := h
  rw [Lies] at h
  obtain ⟨u4, r4, F4, G4, rfl, rfl, h4, h⟩ := h
  rw [Lies] at h
  obtain ⟨u5, r5, F5, G5, rfl, rfl, h5, h⟩ := h
  rw [Lies] at h
  obtain ⟨u6, r6, F6, G6, rfl, rfl, h6, h⟩ := h
  rw [Lies] at h
  obtain ⟨u7, r7, F7, G7, rfl, rfl, h7, h⟩ := h
  rw [Lies] at h
  obtain ⟨u8, r8, F8, G8, rfl, rfl, h8, h⟩ := h
  rw [Lies] at h
  obtain ⟨rfl, rfl⟩ := h
  obtain ⟨A0, c0, rfl, _, _⟩ := h0.form
  rw [Lie] at h1
  obtain ⟨rfl, rfl⟩ := h1
  rw [Lie] at h2
  obtain ⟨rfl, rfl⟩ := h2
  obtain ⟨A3, c3, rfl, _, _⟩ := h3.form
  obtain ⟨A4, c4, rfl, _, _⟩ := h4.form
  obtain ⟨A5, c5, rfl, _, _⟩ := h5.form
  obtain ⟨A6, c6, rfl, _, _⟩ := h6.form
  obtain ⟨A7, c7, rfl, _, _⟩ := h7.form
  obtain ⟨A8, c8, rfl, _, _⟩ := h8.form
  exact ⟨A0, c0, A3, c3, A4, c4, A5, c5, A6, c6, A7, c7, A8, c8, rfl, ⟨_, h0⟩, ⟨_, h3⟩, ⟨_, h4⟩, ⟨_, h5⟩, ⟨_, h6⟩, ⟨_, h7⟩, ⟨_, h8⟩⟩
theorem DObj.lay {w : World} {x : DObj} {v0 : Value} (h0 : In1 w (raw x.name) v0) {v3 : Value} (h3 : In1 w (raw x.tree.data) v3) {v4 : Value} (h4 : In1 w (Go.Proofs.Ytnloknhcdlannaa.names x.tree.names) v4) {v5 : Value} (h5 : In1 w (seqOf 4 T.cells x.tree.kids) v5) {v6 : Value} (h6 : In1 w (Go.Proofs.Ytnloknhcdlannaa.names x.refs) v6) {v7 : Value} (h7 : In1 w (raw x.frm) v7) {v8 : Value} (h8 : In1 w (raw x.out) v8) : Ins w x.cells [v0, .int .i64 x.kind, .int .i64 x.tree.kind, v3, v4, v5, v6, v7, v8] := by
  rw [x.cells_eq]
  exact ins_cons (h0) (ins_cons (in1_num _ _ _) (ins_cons (in1_num _ _ _) (ins_cons (h3) (ins_cons (h4) (ins_cons (h5) (ins_cons (h6) (ins_cons (h7) (ins_cons (h8) (ins_nil _)))))))))
theorem DDrv.view {w : World} {x : DDrv} {us : List Value} (h : Ins w x.cells us) : ∃ A0 c0 A1 c1 A2 c2 A3 c3, us = [.slice A0 x.srcs.length c0, .slice A1 x.ins.length c1, .slice A2 x.outs.length c2, .slice A3 x.ops.length c3] ∧ In1 w (Go.Proofs.Ytnloknhcdlannaa.names x.srcs) (.slice A0 x.srcs.length c0) ∧ In1 w (seqOf 2 DIn.cells x.ins) (.slice A1 x.ins.length c1) ∧ In1 w (Go.Proofs.Ytnloknhcdlannaa.names x.outs) (.slice A2 x.outs.length c2) ∧ In1 w (seqOf 5 DOp.cells x.ops) (.slice A3 x.ops.length c3) := by
  obtain ⟨F, h⟩ := h
  rw [x.cells_eq] at h
  rw [Lies] at h
  obtain ⟨u0, r0, F0, G0, rfl, rfl, h0, h⟩ := h
  rw [Lies] at h
  obtain ⟨u1, r1, F1, G1, rfl, rfl, h1, h⟩ := h
  rw [Lies] at h
  obtain ⟨u2, r2, F2, G2, rfl, rfl, h2, h⟩ := h
  rw [Lies] at h
  obtain ⟨u3, r3, F3, G3, rfl, rfl, h3, h⟩ := h
  rw [Lies] at h
  obtain ⟨rfl, rfl⟩ := h
  obtain ⟨A0, c0, rfl, _, _⟩ := h0.form
  obtain ⟨A1, c1, rfl, _, _⟩ := h1.form
  obtain ⟨A2, c2, rfl, _, _⟩ := h2.form
  obtain ⟨A3, c3, rfl, _, _⟩ := h3.form
  exact ⟨A0, c0, A1, c1, A2, c2, A3, c3, rfl, ⟨_, h0⟩, ⟨_, h1⟩, ⟨_, h2⟩, ⟨_, h3⟩⟩
theorem DDrv.lay {w : World} {x : DDrv} {v0 : Value} (h0 : In1 w (Go.Proofs.Ytnloknhcdlannaa.names x.srcs) v0) {v1 : Value} (h1 : In1 w (seqOf 2 DIn.cells x.ins) v1) {v2 : Value} (h2 : In1 w (Go.Proofs.Ytnloknhcdlannaa.names x.outs) v2) {v3 : Value} (h3 : In1 w (seqOf 5 DOp.cells x.ops) v3) : Ins w x.cells [v0, v1, v2, v3] := by
  rw [x.cells_eq]
  exact ins_cons (h0) (ins_cons (h1) (ins_cons (h2) (ins_cons (h3) (ins_nil _))))
theorem DStore.view {w : World} {x : DStore} {us : List Value} (h : Ins w x.cells us) : ∃ A0 c0 A1 c1 A2 c2, us = [.slice A0 x.objs.length c0, .slice A1 x.roots.length c1, .slice A2 x.reals.length c2] ∧ In1 w (seqOf 9 DObj.cells x.objs) (.slice A0 x.objs.length c0) ∧ In1 w (Go.Proofs.Ytnloknhcdlannaa.names x.roots) (.slice A1 x.roots.length c1) ∧ In1 w (seqOf 3 DReal.cells x.reals) (.slice A2 x.reals.length c2) := by
  obtain ⟨F, h⟩ := h
  rw [x.cells_eq] at h
  rw [Lies] at h
  obtain ⟨u0, r0, F0, G0, rfl, rfl, h0, h⟩ := h
  rw [Lies] at h
  obtain ⟨u1, r1, F1, G1, rfl, rfl, h1, h⟩ := h
  rw [Lies] at h
  obtain ⟨u2, r2, F2, G2, rfl, rfl, h2, h⟩ := h
  rw [Lies] at h
  obtain ⟨rfl, rfl⟩ := h
  obtain ⟨A0, c0, rfl, _, _⟩ := h0.form
  obtain ⟨A1, c1, rfl, _, _⟩ := h1.form
  obtain ⟨A2, c2, rfl, _, _⟩ := h2.form
  exact ⟨A0, c0, A1, c1, A2, c2, rfl, ⟨_, h0⟩, ⟨_, h1⟩, ⟨_, h2⟩⟩
theorem DStore.lay {w : World} {x : DStore} {v0 : Value} (h0 : In1 w (seqOf 9 DObj.cells x.objs) v0) {v1 : Value} (h1 : In1 w (Go.Proofs.Ytnloknhcdlannaa.names x.roots) v1) {v2 : Value} (h2 : In1 w (seqOf 3 DReal.cells x.reals) v2) : Ins w x.cells [v0, v1, v2] := by
  rw [x.cells_eq]
  exact ins_cons (h0) (ins_cons (h1) (ins_cons (h2) (ins_nil _)))
theorem DJob.view {w : World} {x : DJob} {us : List Value} (h : Ins w x.cells us) : ∃ A0 c0 A1 c1 A2 c2 A3 c3 A4 c4 A6 c6 A7 c7, us = [.slice A0 x.d.srcs.length c0, .slice A1 x.d.ins.length c1, .slice A2 x.d.outs.length c2, .slice A3 x.d.ops.length c3, .slice A4 x.name.length c4, .int .i64 x.pc, .slice A6 x.args.length c6, .slice A7 x.outs.length c7] ∧ In1 w (Go.Proofs.Ytnloknhcdlannaa.names x.d.srcs) (.slice A0 x.d.srcs.length c0) ∧ In1 w (seqOf 2 DIn.cells x.d.ins) (.slice A1 x.d.ins.length c1) ∧ In1 w (Go.Proofs.Ytnloknhcdlannaa.names x.d.outs) (.slice A2 x.d.outs.length c2) ∧ In1 w (seqOf 5 DOp.cells x.d.ops) (.slice A3 x.d.ops.length c3) ∧ In1 w (raw x.name) (.slice A4 x.name.length c4) ∧ In1 w (Go.Proofs.Ytnloknhcdlannaa.names x.args) (.slice A6 x.args.length c6) ∧ In1 w (seqOf 4 T.cells x.outs) (.slice A7 x.outs.length c7) := by
  obtain ⟨F, h⟩ := h
  rw [x.cells_eq] at h
  rw [Lies] at h
  obtain ⟨u0, r0, F0, G0, rfl, rfl, h0, h⟩ := h
  rw [Lies] at h
  obtain ⟨u1, r1, F1, G1, rfl, rfl, h1, h⟩ := h
  rw [Lies] at h
  obtain ⟨u2, r2, F2, G2, rfl, rfl, h2, h⟩ := h
  rw [Lies] at h
  obtain ⟨u3, r3, F3, G3, rfl, rfl, h3, h⟩ := h
  rw [Lies] at h
  obtain ⟨u4, r4, F4, G4, rfl, rfl, h4, h⟩ := h
  rw [Lies] at h
  obtain ⟨u5, r5, F5, G5, rfl, rfl, h5, h⟩ := h
  rw [Lies] at h
  obtain ⟨u6, r6, F6, G6, rfl, rfl, h6, h⟩ := h
  rw [Lies] at h
  obtain ⟨u7, r7, F7, G7, rfl, rfl, h7, h⟩ := h
  rw [Lies] at h
  obtain ⟨rfl, rfl⟩ := h
  obtain ⟨A0, c0, rfl, _, _⟩ := h0.form
  obtain ⟨A1, c1, rfl, _, _⟩ := h1.form
  obtain ⟨A2, c2, rfl, _, _⟩ := h2.form
  obtain ⟨A3, c3, rfl, _, _⟩ := h3.form
  obtain ⟨A4, c4, rfl, _, _⟩ := h4.form
  rw [Lie] at h5
  obtain ⟨rfl, rfl⟩ := h5
  obtain ⟨A6, c6, rfl, _, _⟩ := h6.form
  obtain ⟨A7, c7, rfl, _, _⟩ := h7.form
  exact ⟨A0, c0, A1, c1, A2, c2, A3, c3, A4, c4, A6, c6, A7, c7, rfl, ⟨_, h0⟩, ⟨_, h1⟩, ⟨_, h2⟩, ⟨_, h3⟩, ⟨_, h4⟩, ⟨_, h6⟩, ⟨_, h7⟩⟩
theorem DJob.lay {w : World} {x : DJob} {v0 : Value} (h0 : In1 w (Go.Proofs.Ytnloknhcdlannaa.names x.d.srcs) v0) {v1 : Value} (h1 : In1 w (seqOf 2 DIn.cells x.d.ins) v1) {v2 : Value} (h2 : In1 w (Go.Proofs.Ytnloknhcdlannaa.names x.d.outs) v2) {v3 : Value} (h3 : In1 w (seqOf 5 DOp.cells x.d.ops) v3) {v4 : Value} (h4 : In1 w (raw x.name) v4) {v6 : Value} (h6 : In1 w (Go.Proofs.Ytnloknhcdlannaa.names x.args) v6) {v7 : Value} (h7 : In1 w (seqOf 4 T.cells x.outs) v7) : Ins w x.cells [v0, v1, v2, v3, v4, .int .i64 x.pc, v6, v7] := by
  rw [x.cells_eq]
  exact ins_cons (h0) (ins_cons (h1) (ins_cons (h2) (ins_cons (h3) (ins_cons (h4) (ins_cons (in1_num _ _ _) (ins_cons (h6) (ins_cons (h7) (ins_nil _))))))))
theorem DGoal.view {w : World} {x : DGoal} {us : List Value} (h : Ins w x.cells us) : ∃ A0 c0 A4 c4 A5 c5 A6 c6 A7 c7 A8 c8 A10 c10 A11 c11 A12 c12, us = [.slice A0 x.drv.length c0, .int .i64 x.state, .int .i64 x.err, .bool x.begun, .slice A4 x.job.d.srcs.length c4, .slice A5 x.job.d.ins.length c5, .slice A6 x.job.d.outs.length c6, .slice A7 x.job.d.ops.length c7, .slice A8 x.job.name.length c8, .int .i64 x.job.pc, .slice A10 x.job.args.length c10, .slice A11 x.job.outs.length c11, .slice A12 x.need.length c12] ∧ In1 w (raw x.drv) (.slice A0 x.drv.length c0) ∧ In1 w (Go.Proofs.Ytnloknhcdlannaa.names x.job.d.srcs) (.slice A4 x.job.d.srcs.length c4) ∧ In1 w (seqOf 2 DIn.cells x.job.d.ins) (.slice A5 x.job.d.ins.length c5) ∧ In1 w (Go.Proofs.Ytnloknhcdlannaa.names x.job.d.outs) (.slice A6 x.job.d.outs.length c6) ∧ In1 w (seqOf 5 DOp.cells x.job.d.ops) (.slice A7 x.job.d.ops.length c7) ∧ In1 w (raw x.job.name) (.slice A8 x.job.name.length c8) ∧ In1 w (Go.Proofs.Ytnloknhcdlannaa.names x.job.args) (.slice A10 x.job.args.length c10) ∧ In1 w (seqOf 4 T.cells x.job.outs) (.slice A11 x.job.outs.length c11) ∧ In1 w (Go.Proofs.Ytnloknhcdlannaa.names x.need) (.slice A12 x.need.length c12) := by
  obtain ⟨F, h⟩ := h
  rw [x.cells_eq] at h
  rw [Lies] at h
  obtain ⟨u0, r0, F0, G0, rfl, rfl, h0, h⟩ := h
  rw [Lies] at h
  obtain ⟨u1, r1, F1, G1, rfl, rfl, h1, h⟩ := h
  rw [Lies] at h
  obtain ⟨u2, r2, F2, G2, rfl, rfl, h2, h⟩ := h
  rw [Lies] at h
  obtain ⟨u3, r3, F3, G3, rfl, rfl, h3, h⟩ := h
  rw [Lies] at h
  obtain ⟨u4, r4, F4, G4, rfl, rfl, h4, h⟩ := h
  rw [Lies] at h
  obtain ⟨u5, r5, F5, G5, rfl, rfl, h5, h⟩ := h
  rw [Lies] at h
  obtain ⟨u6, r6, F6, G6, rfl, rfl, h6, h⟩ := h
  rw [Lies] at h
  obtain ⟨u7, r7, F7, G7, rfl, rfl, h7, h⟩ := h
  rw [Lies] at h
  obtain ⟨u8, r8, F8, G8, rfl, rfl, h8, h⟩ := h
  rw [Lies] at h
  obtain ⟨u9, r9, F9, G9, rfl, rfl, h9, h⟩ := h
  rw [Lies] at h
  obtain ⟨u10, r10, F10, G10, rfl, rfl, h10, h⟩ := h
  rw [Lies] at h
  obtain ⟨u11, r11, F11, G11, rfl, rfl, h11, h⟩ := h
  rw [Lies] at h
  obtain ⟨u12, r12, F12, G12, rfl, rfl, h12, h⟩ := h
  rw [Lies] at h
  obtain ⟨rfl, rfl⟩ := h
  obtain ⟨A0, c0, rfl, _, _⟩ := h0.form
  rw [Lie] at h1
  obtain ⟨rfl, rfl⟩ := h1
  rw [Lie] at h2
  obtain ⟨rfl, rfl⟩ := h2
  rw [Lie] at h3
  obtain ⟨rfl, rfl⟩ := h3
  obtain ⟨A4, c4, rfl, _, _⟩ := h4.form
  obtain ⟨A5, c5, rfl, _, _⟩ := h5.form
  obtain ⟨A6, c6, rfl, _, _⟩ := h6.form
  obtain ⟨A7, c7, rfl, _, _⟩ := h7.form
  obtain ⟨A8, c8, rfl, _, _⟩ := h8.form
  rw [Lie] at h9
  obtain ⟨rfl, rfl⟩ := h9
  obtain ⟨A10, c10, rfl, _, _⟩ := h10.form
  obtain ⟨A11, c11, rfl, _, _⟩ := h11.form
  obtain ⟨A12, c12, rfl, _, _⟩ := h12.form
  exact ⟨A0, c0, A4, c4, A5, c5, A6, c6, A7, c7, A8, c8, A10, c10, A11, c11, A12, c12, rfl, ⟨_, h0⟩, ⟨_, h4⟩, ⟨_, h5⟩, ⟨_, h6⟩, ⟨_, h7⟩, ⟨_, h8⟩, ⟨_, h10⟩, ⟨_, h11⟩, ⟨_, h12⟩⟩
theorem DGoal.lay {w : World} {x : DGoal} {v0 : Value} (h0 : In1 w (raw x.drv) v0) {v4 : Value} (h4 : In1 w (Go.Proofs.Ytnloknhcdlannaa.names x.job.d.srcs) v4) {v5 : Value} (h5 : In1 w (seqOf 2 DIn.cells x.job.d.ins) v5) {v6 : Value} (h6 : In1 w (Go.Proofs.Ytnloknhcdlannaa.names x.job.d.outs) v6) {v7 : Value} (h7 : In1 w (seqOf 5 DOp.cells x.job.d.ops) v7) {v8 : Value} (h8 : In1 w (raw x.job.name) v8) {v10 : Value} (h10 : In1 w (Go.Proofs.Ytnloknhcdlannaa.names x.job.args) v10) {v11 : Value} (h11 : In1 w (seqOf 4 T.cells x.job.outs) v11) {v12 : Value} (h12 : In1 w (Go.Proofs.Ytnloknhcdlannaa.names x.need) v12) : Ins w x.cells [v0, .int .i64 x.state, .int .i64 x.err, .bool x.begun, v4, v5, v6, v7, v8, .int .i64 x.job.pc, v10, v11, v12] := by
  rw [x.cells_eq]
  exact ins_cons (h0) (ins_cons (in1_num _ _ _) (ins_cons (in1_num _ _ _) (ins_cons (in1_flag _ _) (ins_cons (h4) (ins_cons (h5) (ins_cons (h6) (ins_cons (h7) (ins_cons (h8) (ins_cons (in1_num _ _ _) (ins_cons (h10) (ins_cons (h11) (ins_cons (h12) (ins_nil _)))))))))))))
theorem DEngine.view {w : World} {x : DEngine} {us : List Value} (h : Ins w x.cells us) : ∃ A0 c0 A1 c1 A2 c2 A3 c3, us = [.slice A0 x.store.objs.length c0, .slice A1 x.store.roots.length c1, .slice A2 x.store.reals.length c2, .slice A3 x.goals.length c3] ∧ In1 w (seqOf 9 DObj.cells x.store.objs) (.slice A0 x.store.objs.length c0) ∧ In1 w (Go.Proofs.Ytnloknhcdlannaa.names x.store.roots) (.slice A1 x.store.roots.length c1) ∧ In1 w (seqOf 3 DReal.cells x.store.reals) (.slice A2 x.store.reals.length c2) ∧ In1 w (seqOf 13 DGoal.cells x.goals) (.slice A3 x.goals.length c3) := by
  obtain ⟨F, h⟩ := h
  rw [x.cells_eq] at h
  rw [Lies] at h
  obtain ⟨u0, r0, F0, G0, rfl, rfl, h0, h⟩ := h
  rw [Lies] at h
  obtain ⟨u1, r1, F1, G1, rfl, rfl, h1, h⟩ := h
  rw [Lies] at h
  obtain ⟨u2, r2, F2, G2, rfl, rfl, h2, h⟩ := h
  rw [Lies] at h
  obtain ⟨u3, r3, F3, G3, rfl, rfl, h3, h⟩ := h
  rw [Lies] at h
  obtain ⟨rfl, rfl⟩ := h
  obtain ⟨A0, c0, rfl, _, _⟩ := h0.form
  obtain ⟨A1, c1, rfl, _, _⟩ := h1.form
  obtain ⟨A2, c2, rfl, _, _⟩ := h2.form
  obtain ⟨A3, c3, rfl, _, _⟩ := h3.form
  exact ⟨A0, c0, A1, c1, A2, c2, A3, c3, rfl, ⟨_, h0⟩, ⟨_, h1⟩, ⟨_, h2⟩, ⟨_, h3⟩⟩
theorem DEngine.lay {w : World} {x : DEngine} {v0 : Value} (h0 : In1 w (seqOf 9 DObj.cells x.store.objs) v0) {v1 : Value} (h1 : In1 w (Go.Proofs.Ytnloknhcdlannaa.names x.store.roots) v1) {v2 : Value} (h2 : In1 w (seqOf 3 DReal.cells x.store.reals) v2) {v3 : Value} (h3 : In1 w (seqOf 13 DGoal.cells x.goals) v3) : Ins w x.cells [v0, v1, v2, v3] := by
  rw [x.cells_eq]
  exact ins_cons (h0) (ins_cons (h1) (ins_cons (h2) (ins_cons (h3) (ins_nil _))))
theorem DReg.view {w : World} {x : DReg} {us : List Value} (h : Ins w x.cells us) : ∃ A1 c1 A4 c4 A5 c5 A6 c6 A7 c7 A8 c8 A9 c9 A10 c10 A11 c11 A12 c12 A13 c13, us = [.int .i64 x.kind, .slice A1 x.obj.name.length c1, .int .i64 x.obj.kind, .int .i64 x.obj.tree.kind, .slice A4 x.obj.tree.data.length c4, .slice A5 x.obj.tree.names.length c5, .slice A6 x.obj.tree.kids.length c6, .slice A7 x.obj.refs.length c7, .slice A8 x.obj.frm.length c8, .slice A9 x.obj.out.length c9, .slice A10 x.real.drv.length c10, .slice A11 x.real.out.length c11, .slice A12 x.real.path.length c12, .slice A13 x.name.length c13] ∧ In1 w (raw x.obj.name) (.slice A1 x.obj.name.length c1) ∧ In1 w (raw x.obj.tree.data) (.slice A4 x.obj.tree.data.length c4) ∧ In1 w (Go.Proofs.Ytnloknhcdlannaa.names x.obj.tree.names) (.slice A5 x.obj.tree.names.length c5) ∧ In1 w (seqOf 4 T.cells x.obj.tree.kids) (.slice A6 x.obj.tree.kids.length c6) ∧ In1 w (Go.Proofs.Ytnloknhcdlannaa.names x.obj.refs) (.slice A7 x.obj.refs.length c7) ∧ In1 w (raw x.obj.frm) (.slice A8 x.obj.frm.length c8) ∧ In1 w (raw x.obj.out) (.slice A9 x.obj.out.length c9) ∧ In1 w (raw x.real.drv) (.slice A10 x.real.drv.length c10) ∧ In1 w (raw x.real.out) (.slice A11 x.real.out.length c11) ∧ In1 w (raw x.real.path) (.slice A12 x.real.path.length c12) ∧ In1 w (raw x.name) (.slice A13 x.name.length c13) := by
  obtain ⟨F, h⟩ := h
  rw [x.cells_eq] at h
  rw [Lies] at h
  obtain ⟨u0, r0, F0, G0, rfl, rfl, h0, h⟩ := h
  rw [Lies] at h
  obtain ⟨u1, r1, F1, G1, rfl, rfl, h1, h⟩ := h
  rw [Lies] at h
  obtain ⟨u2, r2, F2, G2, rfl, rfl, h2, h⟩ := h
  rw [Lies] at h
  obtain ⟨u3, r3, F3, G3, rfl, rfl, h3, h⟩ := h
  rw [Lies] at h
  obtain ⟨u4, r4, F4, G4, rfl, rfl, h4, h⟩ := h
  rw [Lies] at h
  obtain ⟨u5, r5, F5, G5, rfl, rfl, h5, h⟩ := h
  rw [Lies] at h
  obtain ⟨u6, r6, F6, G6, rfl, rfl, h6, h⟩ := h
  rw [Lies] at h
  obtain ⟨u7, r7, F7, G7, rfl, rfl, h7, h⟩ := h
  rw [Lies] at h
  obtain ⟨u8, r8, F8, G8, rfl, rfl, h8, h⟩ := h
  rw [Lies] at h
  obtain ⟨u9, r9, F9, G9, rfl, rfl, h9, h⟩ := h
  rw [Lies] at h
  obtain ⟨u10, r10, F10, G10, rfl, rfl, h10, h⟩ := h
  rw [Lies] at h
  obtain ⟨u11, r11, F11, G11, rfl, rfl, h11, h⟩ := h
  rw [Lies] at h
  obtain ⟨u12, r12, F12, G12, rfl, rfl, h12, h⟩ := h
  rw [Lies] at h
  obtain ⟨u13, r13, F13, G13, rfl, rfl, h13, h⟩ := h
  rw [Lies] at h
  obtain ⟨rfl, rfl⟩ := h
  rw [Lie] at h0
  obtain ⟨rfl, rfl⟩ := h0
  obtain ⟨A1, c1, rfl, _, _⟩ := h1.form
  rw [Lie] at h2
  obtain ⟨rfl, rfl⟩ := h2
  rw [Lie] at h3
  obtain ⟨rfl, rfl⟩ := h3
  obtain ⟨A4, c4, rfl, _, _⟩ := h4.form
  obtain ⟨A5, c5, rfl, _, _⟩ := h5.form
  obtain ⟨A6, c6, rfl, _, _⟩ := h6.form
  obtain ⟨A7, c7, rfl, _, _⟩ := h7.form
  obtain ⟨A8, c8, rfl, _, _⟩ := h8.form
  obtain ⟨A9, c9, rfl, _, _⟩ := h9.form
  obtain ⟨A10, c10, rfl, _, _⟩ := h10.form
  obtain ⟨A11, c11, rfl, _, _⟩ := h11.form
  obtain ⟨A12, c12, rfl, _, _⟩ := h12.form
  obtain ⟨A13, c13, rfl, _, _⟩ := h13.form
  exact ⟨A1, c1, A4, c4, A5, c5, A6, c6, A7, c7, A8, c8, A9, c9, A10, c10, A11, c11, A12, c12, A13, c13, rfl, ⟨_, h1⟩, ⟨_, h4⟩, ⟨_, h5⟩, ⟨_, h6⟩, ⟨_, h7⟩, ⟨_, h8⟩, ⟨_, h9⟩, ⟨_, h10⟩, ⟨_, h11⟩, ⟨_, h12⟩, ⟨_, h13⟩⟩
theorem DReg.lay {w : World} {x : DReg} {v1 : Value} (h1 : In1 w (raw x.obj.name) v1) {v4 : Value} (h4 : In1 w (raw x.obj.tree.data) v4) {v5 : Value} (h5 : In1 w (Go.Proofs.Ytnloknhcdlannaa.names x.obj.tree.names) v5) {v6 : Value} (h6 : In1 w (seqOf 4 T.cells x.obj.tree.kids) v6) {v7 : Value} (h7 : In1 w (Go.Proofs.Ytnloknhcdlannaa.names x.obj.refs) v7) {v8 : Value} (h8 : In1 w (raw x.obj.frm) v8) {v9 : Value} (h9 : In1 w (raw x.obj.out) v9) {v10 : Value} (h10 : In1 w (raw x.real.drv) v10) {v11 : Value} (h11 : In1 w (raw x.real.out) v11) {v12 : Value} (h12 : In1 w (raw x.real.path) v12) {v13 : Value} (h13 : In1 w (raw x.name) v13) : Ins w x.cells [.int .i64 x.kind, v1, .int .i64 x.obj.kind, .int .i64 x.obj.tree.kind, v4, v5, v6, v7, v8, v9, v10, v11, v12, v13] := by
  rw [x.cells_eq]
  exact ins_cons (in1_num _ _ _) (ins_cons (h1) (ins_cons (in1_num _ _ _) (ins_cons (in1_num _ _ _) (ins_cons (h4) (ins_cons (h5) (ins_cons (h6) (ins_cons (h7) (ins_cons (h8) (ins_cons (h9) (ins_cons (h10) (ins_cons (h11) (ins_cons (h12) (ins_cons (h13) (ins_nil _))))))))))))))
theorem DJournal.view {w : World} {x : DJournal} {us : List Value} (h : Ins w x.cells us) : ∃ A0 c0 A1 c1 A2 c2 A3 c3, us = [.slice A0 x.base.objs.length c0, .slice A1 x.base.roots.length c1, .slice A2 x.base.reals.length c2, .slice A3 x.regs.length c3, .int .i64 x.safe] ∧ In1 w (seqOf 9 DObj.cells x.base.objs) (.slice A0 x.base.objs.length c0) ∧ In1 w (Go.Proofs.Ytnloknhcdlannaa.names x.base.roots) (.slice A1 x.base.roots.length c1) ∧ In1 w (seqOf 3 DReal.cells x.base.reals) (.slice A2 x.base.reals.length c2) ∧ In1 w (seqOf 14 DReg.cells x.regs) (.slice A3 x.regs.length c3) := by
  obtain ⟨F, h⟩ := h
  rw [x.cells_eq] at h
  rw [Lies] at h
  obtain ⟨u0, r0, F0, G0, rfl, rfl, h0, h⟩ := h
  rw [Lies] at h
  obtain ⟨u1, r1, F1, G1, rfl, rfl, h1, h⟩ := h
  rw [Lies] at h
  obtain ⟨u2, r2, F2, G2, rfl, rfl, h2, h⟩ := h
  rw [Lies] at h
  obtain ⟨u3, r3, F3, G3, rfl, rfl, h3, h⟩ := h
  rw [Lies] at h
  obtain ⟨u4, r4, F4, G4, rfl, rfl, h4, h⟩ := h
  rw [Lies] at h
  obtain ⟨rfl, rfl⟩ := h
  obtain ⟨A0, c0, rfl, _, _⟩ := h0.form
  obtain ⟨A1, c1, rfl, _, _⟩ := h1.form
  obtain ⟨A2, c2, rfl, _, _⟩ := h2.form
  obtain ⟨A3, c3, rfl, _, _⟩ := h3.form
  rw [Lie] at h4
  obtain ⟨rfl, rfl⟩ := h4
  exact ⟨A0, c0, A1, c1, A2, c2, A3, c3, rfl, ⟨_, h0⟩, ⟨_, h1⟩, ⟨_, h2⟩, ⟨_, h3⟩⟩
theorem DJournal.lay {w : World} {x : DJournal} {v0 : Value} (h0 : In1 w (seqOf 9 DObj.cells x.base.objs) v0) {v1 : Value} (h1 : In1 w (Go.Proofs.Ytnloknhcdlannaa.names x.base.roots) v1) {v2 : Value} (h2 : In1 w (seqOf 3 DReal.cells x.base.reals) v2) {v3 : Value} (h3 : In1 w (seqOf 14 DReg.cells x.regs) v3) : Ins w x.cells [v0, v1, v2, v3, .int .i64 x.safe] := by
  rw [x.cells_eq]
  exact ins_cons (h0) (ins_cons (h1) (ins_cons (h2) (ins_cons (h3) (ins_cons (in1_num _ _ _) (ins_nil _)))))
theorem DCmd.view {w : World} {x : DCmd} {us : List Value} (h : Ins w x.cells us) : ∃ A1 c1 A3 c3 A4 c4 A5 c5 A6 c6 A7 c7 A8 c8, us = [.int .i64 x.kind, .slice A1 x.text.length c1, .int .i64 x.tree.kind, .slice A3 x.tree.data.length c3, .slice A4 x.tree.names.length c4, .slice A5 x.tree.kids.length c5, .slice A6 x.name.length c6, .slice A7 x.out.length c7, .slice A8 x.picks.length c8, .int .i64 x.keep] ∧ In1 w (raw x.text) (.slice A1 x.text.length c1) ∧ In1 w (raw x.tree.data) (.slice A3 x.tree.data.length c3) ∧ In1 w (Go.Proofs.Ytnloknhcdlannaa.names x.tree.names) (.slice A4 x.tree.names.length c4) ∧ In1 w (seqOf 4 T.cells x.tree.kids) (.slice A5 x.tree.kids.length c5) ∧ In1 w (raw x.name) (.slice A6 x.name.length c6) ∧ In1 w (raw x.out) (.slice A7 x.out.length c7) ∧ In1 w (ints x.picks) (.slice A8 x.picks.length c8) := by
  obtain ⟨F, h⟩ := h
  rw [x.cells_eq] at h
  rw [Lies] at h
  obtain ⟨u0, r0, F0, G0, rfl, rfl, h0, h⟩ := h
  rw [Lies] at h
  obtain ⟨u1, r1, F1, G1, rfl, rfl, h1, h⟩ := h
  rw [Lies] at h
  obtain ⟨u2, r2, F2, G2, rfl, rfl, h2, h⟩ := h
  rw [Lies] at h
  obtain ⟨u3, r3, F3, G3, rfl, rfl, h3, h⟩ := h
  rw [Lies] at h
  obtain ⟨u4, r4, F4, G4, rfl, rfl, h4, h⟩ := h
  rw [Lies] at h
  obtain ⟨u5, r5, F5, G5, rfl, rfl, h5, h⟩ := h
  rw [Lies] at h
  obtain ⟨u6, r6, F6, G6, rfl, rfl, h6, h⟩ := h
  rw [Lies] at h
  obtain ⟨u7, r7, F7, G7, rfl, rfl, h7, h⟩ := h
  rw [Lies] at h
  obtain ⟨u8, r8, F8, G8, rfl, rfl, h8, h⟩ := h
  rw [Lies] at h
  obtain ⟨u9, r9, F9, G9, rfl, rfl, h9, h⟩ := h
  rw [Lies] at h
  obtain ⟨rfl, rfl⟩ := h
  rw [Lie] at h0
  obtain ⟨rfl, rfl⟩ := h0
  obtain ⟨A1, c1, rfl, _, _⟩ := h1.form
  rw [Lie] at h2
  obtain ⟨rfl, rfl⟩ := h2
  obtain ⟨A3, c3, rfl, _, _⟩ := h3.form
  obtain ⟨A4, c4, rfl, _, _⟩ := h4.form
  obtain ⟨A5, c5, rfl, _, _⟩ := h5.form
  obtain ⟨A6, c6, rfl, _, _⟩ := h6.form
  obtain ⟨A7, c7, rfl, _, _⟩ := h7.form
  obtain ⟨A8, c8, rfl, _, _⟩ := h8.form
  rw [Lie] at h9
  obtain ⟨rfl, rfl⟩ := h9
  exact ⟨A1, c1, A3, c3, A4, c4, A5, c5, A6, c6, A7, c7, A8, c8, rfl, ⟨_, h1⟩, ⟨_, h3⟩, ⟨_, h4⟩, ⟨_, h5⟩, ⟨_, h6⟩, ⟨_, h7⟩, ⟨_, h8⟩⟩
theorem DCmd.lay {w : World} {x : DCmd} {v1 : Value} (h1 : In1 w (raw x.text) v1) {v3 : Value} (h3 : In1 w (raw x.tree.data) v3) {v4 : Value} (h4 : In1 w (Go.Proofs.Ytnloknhcdlannaa.names x.tree.names) v4) {v5 : Value} (h5 : In1 w (seqOf 4 T.cells x.tree.kids) v5) {v6 : Value} (h6 : In1 w (raw x.name) v6) {v7 : Value} (h7 : In1 w (raw x.out) v7) {v8 : Value} (h8 : In1 w (ints x.picks) v8) : Ins w x.cells [.int .i64 x.kind, v1, .int .i64 x.tree.kind, v3, v4, v5, v6, v7, v8, .int .i64 x.keep] := by
  rw [x.cells_eq]
  exact ins_cons (in1_num _ _ _) (ins_cons (h1) (ins_cons (in1_num _ _ _) (ins_cons (h3) (ins_cons (h4) (ins_cons (h5) (ins_cons (h6) (ins_cons (h7) (ins_cons (h8) (ins_cons (in1_num _ _ _) (ins_nil _))))))))))
theorem DTold.view {w : World} {x : DTold} {us : List Value} (h : Ins w x.cells us) : ∃ A1 c1, us = [.int .i64 x.code, .slice A1 x.name.length c1] ∧ In1 w (raw x.name) (.slice A1 x.name.length c1) := by
  obtain ⟨F, h⟩ := h
  rw [x.cells_eq] at h
  rw [Lies] at h
  obtain ⟨u0, r0, F0, G0, rfl, rfl, h0, h⟩ := h
  rw [Lies] at h
  obtain ⟨u1, r1, F1, G1, rfl, rfl, h1, h⟩ := h
  rw [Lies] at h
  obtain ⟨rfl, rfl⟩ := h
  rw [Lie] at h0
  obtain ⟨rfl, rfl⟩ := h0
  obtain ⟨A1, c1, rfl, _, _⟩ := h1.form
  exact ⟨A1, c1, rfl, ⟨_, h1⟩⟩
theorem DTold.lay {w : World} {x : DTold} {v1 : Value} (h1 : In1 w (raw x.name) v1) : Ins w x.cells [.int .i64 x.code, v1] := by
  rw [x.cells_eq]
  exact ins_cons (in1_num _ _ _) (ins_cons (h1) (ins_nil _))

end Go.Proofs.Ytnloknhcdlannaa
