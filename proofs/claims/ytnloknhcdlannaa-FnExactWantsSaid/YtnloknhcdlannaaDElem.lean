
/-
  An element of a row of structs, seen cell by cell.
-/
import Derived.Test.YtnloknhcdlannaaDView
namespace Go.Proofs.Ytnloknhcdlannaa
open Go.RowKit
set_option linter.unusedVariables false

theorem T.elem {w W : World} {l : List T} {v : Value} (h : In1 w (seqOf 4 T.cells l) v) (hb : Below w.heap.size w W) {j : Nat} (hj : j < l.length) :
    ∃ b off c A1 c1 A2 c2 A3 c3, v = .slice (some ⟨b, off, none⟩) l.length c ∧ (∀ {X : Option Addr} {n m : Nat}, v = .slice X n m → X = some ⟨b, off, none⟩) ∧ b < w.heap.size ∧ W.cell? ⟨b, off + j * 4, none⟩ = some (.int .i64 l[j].kind) ∧ W.cell? ⟨b, off + j * 4 + 1, none⟩ = some (.slice A1 l[j].data.length c1) ∧ W.cell? ⟨b, off + j * 4 + 2, none⟩ = some (.slice A2 l[j].names.length c2) ∧ W.cell? ⟨b, off + j * 4 + 3, none⟩ = some (.slice A3 l[j].kids.length c3) ∧ In1 w (raw l[j].data) (.slice A1 l[j].data.length c1) ∧ In1 w (Go.Proofs.Ytnloknhcdlannaa.names l[j].names) (.slice A2 l[j].names.length c2) ∧ In1 w (seqOf 4 T.cells l[j].kids) (.slice A3 l[j].kids.length c3) := by
  obtain ⟨F, h⟩ := h
  obtain ⟨b, off, c, us, Fj, e, hl, hr, hi, _⟩ := h.elem (fun x : T => x.cells_len) hj
  obtain ⟨A1, c1, A2, c2, A3, c3, rfl, i1, i2, i3⟩ := T.view ⟨Fj, hi⟩
  refine ⟨b, off, c, A1, c1, A2, c2, A3, c3, e, (fun e2 => by rw [e] at e2; injection e2 with e2; exact e2.symm), hl, ?_, ?_, ?_, ?_, i1, i2, i3⟩
  · exact (hb.cell (p := ⟨b, off + j * 4 + 0, none⟩) hl).trans (hr 0 _ rfl)
  · exact (hb.cell (p := ⟨b, off + j * 4 + 1, none⟩) hl).trans (hr 1 _ rfl)
  · exact (hb.cell (p := ⟨b, off + j * 4 + 2, none⟩) hl).trans (hr 2 _ rfl)
  · exact (hb.cell (p := ⟨b, off + j * 4 + 3, none⟩) hl).trans (hr 3 _ rfl)
theorem DReal.elem {w W : World} {l : List DReal} {v : Value} (h : In1 w (seqOf 3 DReal.cells l) v) (hb : Below w.heap.size w W) {j : Nat} (hj : j < l.length) :
    ∃ b off c A0 c0 A1 c1 A2 c2, v = .slice (some ⟨b, off, none⟩) l.length c ∧ (∀ {X : Option Addr} {n m : Nat}, v = .slice X n m → X = some ⟨b, off, none⟩) ∧ b < w.heap.size ∧ W.cell? ⟨b, off + j * 3, none⟩ = some (.slice A0 l[j].drv.length c0) ∧ W.cell? ⟨b, off + j * 3 + 1, none⟩ = some (.slice A1 l[j].out.length c1) ∧ W.cell? ⟨b, off + j * 3 + 2, none⟩ = some (.slice A2 l[j].path.length c2) ∧ In1 w (raw l[j].drv) (.slice A0 l[j].drv.length c0) ∧ In1 w (raw l[j].out) (.slice A1 l[j].out.length c1) ∧ In1 w (raw l[j].path) (.slice A2 l[j].path.length c2) := by
  obtain ⟨F, h⟩ := h
  obtain ⟨b, off, c, us, Fj, e, hl, hr, hi, _⟩ := h.elem (fun x : DReal => x.cells_len) hj
  obtain ⟨A0, c0, A1, c1, A2, c2, rfl, i0, i1, i2⟩ := DReal.view ⟨Fj, hi⟩
  refine ⟨b, off, c, A0, c0, A1, c1, A2, c2, e, (fun e2 => by rw [e] at e2; injection e2 with e2; exact e2.symm), hl, ?_, ?_, ?_, i0, i1, i2⟩
  · exact (hb.cell (p := ⟨b, off + j * 3 + 0, none⟩) hl).trans (hr 0 _ rfl)
  · exact (hb.cell (p := ⟨b, off + j * 3 + 1, none⟩) hl).trans (hr 1 _ rfl)
  · exact (hb.cell (p := ⟨b, off + j * 3 + 2, none⟩) hl).trans (hr 2 _ rfl)
theorem DOp.elem {w W : World} {l : List DOp} {v : Value} (h : In1 w (seqOf 5 DOp.cells l) v) (hb : Below w.heap.size w W) {j : Nat} (hj : j < l.length) :
    ∃ b off c A2 c2 A3 c3, v = .slice (some ⟨b, off, none⟩) l.length c ∧ (∀ {X : Option Addr} {n m : Nat}, v = .slice X n m → X = some ⟨b, off, none⟩) ∧ b < w.heap.size ∧ W.cell? ⟨b, off + j * 5, none⟩ = some (.int .i64 l[j].code) ∧ W.cell? ⟨b, off + j * 5 + 1, none⟩ = some (.int .i64 l[j].out) ∧ W.cell? ⟨b, off + j * 5 + 2, none⟩ = some (.slice A2 l[j].name.length c2) ∧ W.cell? ⟨b, off + j * 5 + 3, none⟩ = some (.slice A3 l[j].text.length c3) ∧ W.cell? ⟨b, off + j * 5 + 4, none⟩ = some (.int .i64 l[j].arg) ∧ In1 w (raw l[j].name) (.slice A2 l[j].name.length c2) ∧ In1 w (raw l[j].text) (.slice A3 l[j].text.length c3) := by
  obtain ⟨F, h⟩ := h
  obtain ⟨b, off, c, us, Fj, e, hl, hr, hi, _⟩ := h.elem (fun x : DOp => x.cells_len) hj
  obtain ⟨A2, c2, A3, c3, rfl, i2, i3⟩ := DOp.view ⟨Fj, hi⟩
  refine ⟨b, off, c, A2, c2, A3, c3, e, (fun e2 => by rw [e] at e2; injection e2 with e2; exact e2.symm), hl, ?_, ?_, ?_, ?_, ?_, i2, i3⟩
  · exact (hb.cell (p := ⟨b, off + j * 5 + 0, none⟩) hl).trans (hr 0 _ rfl)
  · exact (hb.cell (p := ⟨b, off + j * 5 + 1, none⟩) hl).trans (hr 1 _ rfl)
  · exact (hb.cell (p := ⟨b, off + j * 5 + 2, none⟩) hl).trans (hr 2 _ rfl)
  · exact (hb.cell (p := ⟨b, off + j * 5 + 3, none⟩) hl).trans (hr 3 _ rfl)
  · exact (hb.cell (p := ⟨b, off + j * 5 + 4, none⟩) hl).trans (hr 4 _ rfl)
theorem DIn.elem {w W : World} {l : List DIn} {v : Value} (h : In1 w (seqOf 2 DIn.cells l) v) (hb : Below w.heap.size w W) {j : Nat} (hj : j < l.length) :
    ∃ b off c A0 c0 A1 c1, v = .slice (some ⟨b, off, none⟩) l.length c ∧ (∀ {X : Option Addr} {n m : Nat}, v = .slice X n m → X = some ⟨b, off, none⟩) ∧ b < w.heap.size ∧ W.cell? ⟨b, off + j * 2, none⟩ = some (.slice A0 l[j].drv.length c0) ∧ W.cell? ⟨b, off + j * 2 + 1, none⟩ = some (.slice A1 l[j].out.length c1) ∧ In1 w (raw l[j].drv) (.slice A0 l[j].drv.length c0) ∧ In1 w (raw l[j].out) (.slice A1 l[j].out.length c1) := by
  obtain ⟨F, h⟩ := h
  obtain ⟨b, off, c, us, Fj, e, hl, hr, hi, _⟩ := h.elem (fun x : DIn => x.cells_len) hj
  obtain ⟨A0, c0, A1, c1, rfl, i0, i1⟩ := DIn.view ⟨Fj, hi⟩
  refine ⟨b, off, c, A0, c0, A1, c1, e, (fun e2 => by rw [e] at e2; injection e2 with e2; exact e2.symm), hl, ?_, ?_, i0, i1⟩
  · exact (hb.cell (p := ⟨b, off + j * 2 + 0, none⟩) hl).trans (hr 0 _ rfl)
  · exact (hb.cell (p := ⟨b, off + j * 2 + 1, none⟩) hl).trans (hr 1 _ rfl)
theorem DObj.elem {w W : World} {l : List DObj} {v : Value} (h : In1 w (seqOf 9 DObj.cells l) v) (hb : Below w.heap.size w W) {j : Nat} (hj : j < l.length) :
    ∃ b off c A0 c0 A3 c3 A4 c4 A5 c5 A6 c6 A7 c7 A8 c8, v = .slice (some ⟨b, off, none⟩) l.length c ∧ (∀ {X : Option Addr} {n m : Nat}, v = .slice X n m → X = some ⟨b, off, none⟩) ∧ b < w.heap.size ∧ W.cell? ⟨b, off + j * 9, none⟩ = some (.slice A0 l[j].name.length c0) ∧ W.cell? ⟨b, off + j * 9 + 1, none⟩ = some (.int .i64 l[j].kind) ∧ W.cell? ⟨b, off + j * 9 + 2, none⟩ = some (.int .i64 l[j].tree.kind) ∧ W.cell? ⟨b, off + j * 9 + 3, none⟩ = some (.slice A3 l[j].tree.data.length c3) ∧ W.cell? ⟨b, off + j * 9 + 4, none⟩ = some (.slice A4 l[j].tree.names.length c4) ∧ W.cell? ⟨b, off + j * 9 + 5, none⟩ = some (.slice A5 l[j].tree.kids.length c5) ∧ W.cell? ⟨b, off + j * 9 + 6, none⟩ = some (.slice A6 l[j].refs.length c6) ∧ W.cell? ⟨b, off + j * 9 + 7, none⟩ = some (.slice A7 l[j].frm.length c7) ∧ W.cell? ⟨b, off + j * 9 + 8, none⟩ = some (.slice A8 l[j].out.length c8) ∧ In1 w (raw l[j].name) (.slice A0 l[j].name.length c0) ∧ In1 w (raw l[j].tree.data) (.slice A3 l[j].tree.data.length c3) ∧ In1 w (Go.Proofs.Ytnloknhcdlannaa.names l[j].tree.names) (.slice A4 l[j].tree.names.length c4) ∧ In1 w (seqOf 4 T.cells l[j].tree.kids) (.slice A5 l[j].tree.kids.length c5) ∧ In1 w (Go.Proofs.Ytnloknhcdlannaa.names l[j].refs) (.slice A6 l[j].refs.length c6) ∧ In1 w (raw l[j].frm) (.slice A7 l[j].frm.length c7) ∧ In1 w (raw l[j].out) (.slice A8 l[j].out.length c8) := by
  obtain ⟨F, h⟩ := h
  obtain ⟨b, off, c, us, Fj, e, hl, hr, hi, _⟩ := h.elem (fun x : DObj => x.cells_len) hj
  obtain ⟨A0, c0, A3, c3, A4, c4, A5, c5, A6, c6, A7, c7, A8, c8, rfl, i0, i3, i4, i5, i6, i7, i8⟩ := DObj.view ⟨Fj, hi⟩
  refine ⟨b, off, c, A0, c0, A3, c3, A4, c4, A5, c5, A6, c6, A7, c7, A8, c8, e, (fun e2 => by rw [e] at e2; injection e2 with e2; exact e2.symm), hl, ?_, ?_, ?_, ?_, ?_, ?_, ?_, ?_, ?_, i0, i3, i4, i5, i6, i7, i8⟩
  · exact (hb.cell (p := ⟨b, off + j * 9 + 0, none⟩) hl).trans (hr 0 _ rfl)
  · exact (hb.cell (p := ⟨b, off + j * 9 + 1, none⟩) hl).trans (hr 1 _ rfl)
  · exact (hb.cell (p := ⟨b, off + j * 9 + 2, none⟩) hl).trans (hr 2 _ rfl)
  · exact (hb.cell (p := ⟨b, off + j * 9 + 3, none⟩) hl).trans (hr 3 _ rfl)
  · exact (hb.cell (p := ⟨b, off + j * 9 + 4, none⟩) hl).trans (hr 4 _ rfl)
  · exact (hb.cell (p := ⟨b, off + j * 9 + 5, none⟩) hl).trans (hr 5 _ rfl)
  · exact (hb.cell (p := ⟨b, off + j * 9 + 6, none⟩) hl).trans (hr 6 _ rfl)
  · exact (hb.cell (p := ⟨b, off + j * 9 + 7, none⟩) hl).trans (hr 7 _ rfl)
  · exact (hb.cell (p := ⟨b, off + j * 9 + 8, none⟩) hl).trans (hr 8 _ rfl)
theorem DDrv.elem {w W : World} {l : List DDrv} {v : Value} (h : In1 w (seqOf 4 DDrv.cells l) v) (hb : Below w.heap.size w W) {j : Nat} (hj : j < l.length) :
    ∃ b off c A0 c0 A1 c1 A2 c2 A3 c3, v = .slice (some ⟨b, off, none⟩) l.length c ∧ (∀ {X : Option Addr} {n m : Nat}, v = .slice X n m → X = some ⟨b, off, none⟩) ∧ b < w.heap.size ∧ W.cell? ⟨b, off + j * 4, none⟩ = some (.slice A0 l[j].srcs.length c0) ∧ W.cell? ⟨b, off + j * 4 + 1, none⟩ = some (.slice A1 l[j].ins.length c1) ∧ W.cell? ⟨b, off + j * 4 + 2, none⟩ = some (.slice A2 l[j].outs.length c2) ∧ W.cell? ⟨b, off + j * 4 + 3, none⟩ = some (.slice A3 l[j].ops.length c3) ∧ In1 w (Go.Proofs.Ytnloknhcdlannaa.names l[j].srcs) (.slice A0 l[j].srcs.length c0) ∧ In1 w (seqOf 2 DIn.cells l[j].ins) (.slice A1 l[j].ins.length c1) ∧ In1 w (Go.Proofs.Ytnloknhcdlannaa.names l[j].outs) (.slice A2 l[j].outs.length c2) ∧ In1 w (seqOf 5 DOp.cells l[j].ops) (.slice A3 l[j].ops.length c3) := by
  obtain ⟨F, h⟩ := h
  obtain ⟨b, off, c, us, Fj, e, hl, hr, hi, _⟩ := h.elem (fun x : DDrv => x.cells_len) hj
  obtain ⟨A0, c0, A1, c1, A2, c2, A3, c3, rfl, i0, i1, i2, i3⟩ := DDrv.view ⟨Fj, hi⟩
  refine ⟨b, off, c, A0, c0, A1, c1, A2, c2, A3, c3, e, (fun e2 => by rw [e] at e2; injection e2 with e2; exact e2.symm), hl, ?_, ?_, ?_, ?_, i0, i1, i2, i3⟩
  · exact (hb.cell (p := ⟨b, off + j * 4 + 0, none⟩) hl).trans (hr 0 _ rfl)
  · exact (hb.cell (p := ⟨b, off + j * 4 + 1, none⟩) hl).trans (hr 1 _ rfl)
  · exact (hb.cell (p := ⟨b, off + j * 4 + 2, none⟩) hl).trans (hr 2 _ rfl)
  · exact (hb.cell (p := ⟨b, off + j * 4 + 3, none⟩) hl).trans (hr 3 _ rfl)
theorem DJob.elem {w W : World} {l : List DJob} {v : Value} (h : In1 w (seqOf 8 DJob.cells l) v) (hb : Below w.heap.size w W) {j : Nat} (hj : j < l.length) :
    ∃ b off c A0 c0 A1 c1 A2 c2 A3 c3 A4 c4 A6 c6 A7 c7, v = .slice (some ⟨b, off, none⟩) l.length c ∧ (∀ {X : Option Addr} {n m : Nat}, v = .slice X n m → X = some ⟨b, off, none⟩) ∧ b < w.heap.size ∧ W.cell? ⟨b, off + j * 8, none⟩ = some (.slice A0 l[j].d.srcs.length c0) ∧ W.cell? ⟨b, off + j * 8 + 1, none⟩ = some (.slice A1 l[j].d.ins.length c1) ∧ W.cell? ⟨b, off + j * 8 + 2, none⟩ = some (.slice A2 l[j].d.outs.length c2) ∧ W.cell? ⟨b, off + j * 8 + 3, none⟩ = some (.slice A3 l[j].d.ops.length c3) ∧ W.cell? ⟨b, off + j * 8 + 4, none⟩ = some (.slice A4 l[j].name.length c4) ∧ W.cell? ⟨b, off + j * 8 + 5, none⟩ = some (.int .i64 l[j].pc) ∧ W.cell? ⟨b, off + j * 8 + 6, none⟩ = some (.slice A6 l[j].args.length c6) ∧ W.cell? ⟨b, off + j * 8 + 7, none⟩ = some (.slice A7 l[j].outs.length c7) ∧ In1 w (Go.Proofs.Ytnloknhcdlannaa.names l[j].d.srcs) (.slice A0 l[j].d.srcs.length c0) ∧ In1 w (seqOf 2 DIn.cells l[j].d.ins) (.slice A1 l[j].d.ins.length c1) ∧ In1 w (Go.Proofs.Ytnloknhcdlannaa.names l[j].d.outs) (.slice A2 l[j].d.outs.length c2) ∧ In1 w (seqOf 5 DOp.cells l[j].d.ops) (.slice A3 l[j].d.ops.length c3) ∧ In1 w (raw l[j].name) (.slice A4 l[j].name.length c4) ∧ In1 w (Go.Proofs.Ytnloknhcdlannaa.names l[j].args) (.slice A6 l[j].args.length c6) ∧ In1 w (seqOf 4 T.cells l[j].outs) (.slice A7 l[j].outs.length c7) := by
  obtain ⟨F, h⟩ := h
  obtain ⟨b, off, c, us, Fj, e, hl, hr, hi, _⟩ := h.elem (fun x : DJob => x.cells_len) hj
  obtain ⟨A0, c0, A1, c1, A2, c2, A3, c3, A4, c4, A6, c6, A7, c7, rfl, i0, i1, i2, i3, i4, i6, i7⟩ := DJob.view ⟨Fj, hi⟩
  refine ⟨b, off, c, A0, c0, A1, c1, A2, c2, A3, c3, A4, c4, A6, c6, A7, c7, e, (fun e2 => by rw [e] at e2; injection e2 with e2; exact e2.symm), hl, ?_, ?_, ?_, ?_, ?_, ?_, ?_, ?_, i0, i1, i2, i3, i4, i6, i7⟩
  · exact (hb.cell (p := ⟨b, off + j * 8 + 0, none⟩) hl).trans (hr 0 _ rfl)
  · exact (hb.cell (p := ⟨b, off + j * 8 + 1, none⟩) hl).trans (hr 1 _ rfl)
  · exact (hb.cell (p := ⟨b, off + j * 8 + 2, none⟩) hl).trans (hr 2 _ rfl)
  · exact (hb.cell (p := ⟨b, off + j * 8 + 3, none⟩) hl).trans (hr 3 _ rfl)
  · exact (hb.cell (p := ⟨b, off + j * 8 + 4, none⟩) hl).trans (hr 4 _ rfl)
  · exact (hb.cell (p := ⟨b, off + j * 8 + 5, none⟩) hl).trans (hr 5 _ rfl)
  · exact (hb.cell (p := ⟨b, off + j * 8 + 6, none⟩) hl).trans (hr 6 _ rfl)
  · exact (hb.cell (p := ⟨b, off + j * 8 + 7, none⟩) hl).trans (hr 7 _ rfl)
theorem DGoal.elem {w W : World} {l : List DGoal} {v : Value} (h : In1 w (seqOf 13 DGoal.cells l) v) (hb : Below w.heap.size w W) {j : Nat} (hj : j < l.length) :
    ∃ b off c A0 c0 A4 c4 A5 c5 A6 c6 A7 c7 A8 c8 A10 c10 A11 c11 A12 c12, v = .slice (some ⟨b, off, none⟩) l.length c ∧ (∀ {X : Option Addr} {n m : Nat}, v = .slice X n m → X = some ⟨b, off, none⟩) ∧ b < w.heap.size ∧ W.cell? ⟨b, off + j * 13, none⟩ = some (.slice A0 l[j].drv.length c0) ∧ W.cell? ⟨b, off + j * 13 + 1, none⟩ = some (.int .i64 l[j].state) ∧ W.cell? ⟨b, off + j * 13 + 2, none⟩ = some (.int .i64 l[j].err) ∧ W.cell? ⟨b, off + j * 13 + 3, none⟩ = some (.bool l[j].begun) ∧ W.cell? ⟨b, off + j * 13 + 4, none⟩ = some (.slice A4 l[j].job.d.srcs.length c4) ∧ W.cell? ⟨b, off + j * 13 + 5, none⟩ = some (.slice A5 l[j].job.d.ins.length c5) ∧ W.cell? ⟨b, off + j * 13 + 6, none⟩ = some (.slice A6 l[j].job.d.outs.length c6) ∧ W.cell? ⟨b, off + j * 13 + 7, none⟩ = some (.slice A7 l[j].job.d.ops.length c7) ∧ W.cell? ⟨b, off + j * 13 + 8, none⟩ = some (.slice A8 l[j].job.name.length c8) ∧ W.cell? ⟨b, off + j * 13 + 9, none⟩ = some (.int .i64 l[j].job.pc) ∧ W.cell? ⟨b, off + j * 13 + 10, none⟩ = some (.slice A10 l[j].job.args.length c10) ∧ W.cell? ⟨b, off + j * 13 + 11, none⟩ = some (.slice A11 l[j].job.outs.length c11) ∧ W.cell? ⟨b, off + j * 13 + 12, none⟩ = some (.slice A12 l[j].need.length c12) ∧ In1 w (raw l[j].drv) (.slice A0 l[j].drv.length c0) ∧ In1 w (Go.Proofs.Ytnloknhcdlannaa.names l[j].job.d.srcs) (.slice A4 l[j].job.d.srcs.length c4) ∧ In1 w (seqOf 2 DIn.cells l[j].job.d.ins) (.slice A5 l[j].job.d.ins.length c5) ∧ In1 w (Go.Proofs.Ytnloknhcdlannaa.names l[j].job.d.outs) (.slice A6 l[j].job.d.outs.length c6) ∧ In1 w (seqOf 5 DOp.cells l[j].job.d.ops) (.slice A7 l[j].job.d.ops.length c7) ∧ In1 w (raw l[j].job.name) (.slice A8 l[j].job.name.length c8) ∧ In1 w (Go.Proofs.Ytnloknhcdlannaa.names l[j].job.args) (.slice A10 l[j].job.args.length c10) ∧ In1 w (seqOf 4 T.cells l[j].job.outs) (.slice A11 l[j].job.outs.length c11) ∧ In1 w (Go.Proofs.Ytnloknhcdlannaa.names l[j].need) (.slice A12 l[j].need.length c12) := by
  obtain ⟨F, h⟩ := h
  obtain ⟨b, off, c, us, Fj, e, hl, hr, hi, _⟩ := h.elem (fun x : DGoal => x.cells_len) hj
  obtain ⟨A0, c0, A4, c4, A5, c5, A6, c6, A7, c7, A8, c8, A10, c10, A11, c11, A12, c12, rfl, i0, i4, i5, i6, i7, i8, i10, i11, i12⟩ := DGoal.view ⟨Fj, hi⟩
  refine ⟨b, off, c, A0, c0, A4, c4, A5, c5, A6, c6, A7, c7, A8, c8, A10, c10, A11, c11, A12, c12, e, (fun e2 => by rw [e] at e2; injection e2 with e2; exact e2.symm), hl, ?_, ?_, ?_, ?_, ?_, ?_, ?_, ?_, ?_, ?_, ?_, ?_, ?_, i0, i4, i5, i6, i7, i8, i10, i11, i12⟩
  · exact (hb.cell (p := ⟨b, off + j * 13 + 0, none⟩) hl).trans (hr 0 _ rfl)
  · exact (hb.cell (p := ⟨b, off + j * 13 + 1, none⟩) hl).trans (hr 1 _ rfl)
  · exact (hb.cell (p := ⟨b, off + j * 13 + 2, none⟩) hl).trans (hr 2 _ rfl)
  · exact (hb.cell (p := ⟨b, off + j * 13 + 3, none⟩) hl).trans (hr 3 _ rfl)
  · exact (hb.cell (p := ⟨b, off + j * 13 + 4, none⟩) hl).trans (hr 4 _ rfl)
  · exact (hb.cell (p := ⟨b, off + j * 13 + 5, none⟩) hl).trans (hr 5 _ rfl)
  · exact (hb.cell (p := ⟨b, off + j * 13 + 6, none⟩) hl).trans (hr 6 _ rfl)
  · exact (hb.cell (p := ⟨b, off + j * 13 + 7, none⟩) hl).trans (hr 7 _ rfl)
  · exact (hb.cell (p := ⟨b, off + j * 13 + 8, none⟩) hl).trans (hr 8 _ rfl)
  · exact (hb.cell (p := ⟨b, off + j * 13 + 9, none⟩) hl).trans (hr 9 _ rfl)
  · exact (hb.cell (p := ⟨b, off + j * 13 + 10, none⟩) hl).trans (hr 10 _ rfl)
  · exact (hb.cell (p := ⟨b, off + j * 13 + 11, none⟩) hl).trans (hr 11 _ rfl)
  · exact (hb.cell (p := ⟨b, off + j * 13 + 12, none⟩) hl).trans (hr 12 _ rfl)
theorem DReg.elem {w W : World} {l : List DReg} {v : Value} (h : In1 w (seqOf 14 DReg.cells l) v) (hb : Below w.heap.size w W) {j : Nat} (hj : j < l.length) :
    ∃ b off c A1 c1 A4 c4 A5 c5 A6 c6 A7 c7 A8 c8 A9 c9 A10 c10 A11 c11 A12 c12 A13 c13, v = .slice (some ⟨b, off, none⟩) l.length c ∧ (∀ {X : Option Addr} {n m : Nat}, v = .slice X n m → X = some ⟨b, off, none⟩) ∧ b < w.heap.size ∧ W.cell? ⟨b, off + j * 14, none⟩ = some (.int .i64 l[j].kind) ∧ W.cell? ⟨b, off + j * 14 + 1, none⟩ = some (.slice A1 l[j].obj.name.length c1) ∧ W.cell? ⟨b, off + j * 14 + 2, none⟩ = some (.int .i64 l[j].obj.kind) ∧ W.cell? ⟨b, off + j * 14 + 3, none⟩ = some (.int .i64 l[j].obj.tree.kind) ∧ W.cell? ⟨b, off + j * 14 + 4, none⟩ = some (.slice A4 l[j].obj.tree.data.length c4) ∧ W.cell? ⟨b, off + j * 14 + 5, none⟩ = some (.slice A5 l[j].obj.tree.names.length c5) ∧ W.cell? ⟨b, off + j * 14 + 6, none⟩ = some (.slice A6 l[j].obj.tree.kids.length c6) ∧ W.cell? ⟨b, off + j * 14 + 7, none⟩ = some (.slice A7 l[j].obj.refs.length c7) ∧ W.cell? ⟨b, off + j * 14 + 8, none⟩ = some (.slice A8 l[j].obj.frm.length c8) ∧ W.cell? ⟨b, off + j * 14 + 9, none⟩ = some (.slice A9 l[j].obj.out.length c9) ∧ W.cell? ⟨b, off + j * 14 + 10, none⟩ = some (.slice A10 l[j].real.drv.length c10) ∧ W.cell? ⟨b, off + j * 14 + 11, none⟩ = some (.slice A11 l[j].real.out.length c11) ∧ W.cell? ⟨b, off + j * 14 + 12, none⟩ = some (.slice A12 l[j].real.path.length c12) ∧ W.cell? ⟨b, off + j * 14 + 13, none⟩ = some (.slice A13 l[j].name.length c13) ∧ In1 w (raw l[j].obj.name) (.slice A1 l[j].obj.name.length c1) ∧ In1 w (raw l[j].obj.tree.data) (.slice A4 l[j].obj.tree.data.length c4) ∧ In1 w (Go.Proofs.Ytnloknhcdlannaa.names l[j].obj.tree.names) (.slice A5 l[j].obj.tree.names.length c5) ∧ In1 w (seqOf 4 T.cells l[j].obj.tree.kids) (.slice A6 l[j].obj.tree.kids.length c6) ∧ In1 w (Go.Proofs.Ytnloknhcdlannaa.names l[j].obj.refs) (.slice A7 l[j].obj.refs.length c7) ∧ In1 w (raw l[j].obj.frm) (.slice A8 l[j].obj.frm.length c8) ∧ In1 w (raw l[j].obj.out) (.slice A9 l[j].obj.out.length c9) ∧ In1 w (raw l[j].real.drv) (.slice A10 l[j].real.drv.length c10) ∧ In1 w (raw l[j].real.out) (.slice A11 l[j].real.out.length c11) ∧ In1 w (raw l[j].real.path) (.slice A12 l[j].real.path.length c12) ∧ In1 w (raw l[j].name) (.slice A13 l[j].name.length c13) := by
  obtain ⟨F, h⟩ := h
  obtain ⟨b, off, c, us, Fj, e, hl, hr, hi, _⟩ := h.elem (fun x : DReg => x.cells_len) hj
  obtain ⟨A1, c1, A4, c4, A5, c5, A6, c6, A7, c7, A8, c8, A9, c9, A10, c10, A11, c11, A12, c12, A13, c13, rfl, i1, i4, i5, i6, i7, i8, i9, i10, i11, i12, i13⟩ := DReg.view ⟨Fj, hi⟩
  refine ⟨b, off, c, A1, c1, A4, c4, A5, c5, A6, c6, A7, c7, A8, c8, A9, c9, A10, c10, A11, c11, A12, c12, A13, c13, e, (fun e2 => by rw [e] at e2; injection e2 with e2; exact e2.symm), hl, ?_, ?_, ?_, ?_, ?_, ?_, ?_, ?_, ?_, ?_, ?_, ?_, ?_, ?_, i1, i4, i5, i6, i7, i8, i9, i10, i11, i12, i13⟩
  · exact (hb.cell (p := ⟨b, off + j * 14 + 0, none⟩) hl).trans (hr 0 _ rfl)
  · exact (hb.cell (p := ⟨b, off + j * 14 + 1, none⟩) hl).trans (hr 1 _ rfl)
  · exact (hb.cell (p := ⟨b, off + j * 14 + 2, none⟩) hl).trans (hr 2 _ rfl)
  · exact (hb.cell (p := ⟨b, off + j * 14 + 3, none⟩) hl).trans (hr 3 _ rfl)
  · exact (hb.cell (p := ⟨b, off + j * 14 + 4, none⟩) hl).trans (hr 4 _ rfl)
  · exact (hb.cell (p := ⟨b, off + j * 14 + 5, none⟩) hl).trans (hr 5 _ rfl)
  · exact (hb.cell (p := ⟨b, off + j * 14 + 6, none⟩) hl).trans (hr 6 _ rfl)
  · exact (hb.cell (p := ⟨b, off + j * 14 + 7, none⟩) hl).trans (hr 7 _ rfl)
  · exact (hb.cell (p := ⟨b, off + j * 14 + 8, none⟩) hl).trans (hr 8 _ rfl)
  · exact (hb.cell (p := ⟨b, off + j * 14 + 9, none⟩) hl).trans (hr 9 _ rfl)
  · exact (hb.cell (p := ⟨b, off + j * 14 + 10, none⟩) hl).trans (hr 10 _ rfl)
  · exact (hb.cell (p := ⟨b, off + j * 14 + 11, none⟩) hl).trans (hr 11 _ rfl)
  · exact (hb.cell (p := ⟨b, off + j * 14 + 12, none⟩) hl).trans (hr 12 _ rfl)
  · exact (hb.cell (p := ⟨b, off + j * 14 + 13, none⟩) hl).trans (hr 13 _ rfl)
theorem DCmd.elem {w W : World} {l : List DCmd} {v : Value} (h : In1 w (seqOf 10 DCmd.cells l) v) (hb : Below w.heap.size w W) {j : Nat} (hj : j < l.length) :
    ∃ b off c A1 c1 A3 c3 A4 c4 A5 c5 A6 c6 A7 c7 A8 c8, v = .slice (some ⟨b, off, none⟩) l.length c ∧ (∀ {X : Option Addr} {n m : Nat}, v = .slice X n m → X = some ⟨b, off, none⟩) ∧ b < w.heap.size ∧ W.cell? ⟨b, off + j * 10, none⟩ = some (.int .i64 l[j].kind) ∧ W.cell? ⟨b, off + j * 10 + 1, none⟩ = some (.slice A1 l[j].text.length c1) ∧ W.cell? ⟨b, off + j * 10 + 2, none⟩ = some (.int .i64 l[j].tree.kind) ∧ W.cell? ⟨b, off + j * 10 + 3, none⟩ = some (.slice A3 l[j].tree.data.length c3) ∧ W.cell? ⟨b, off + j * 10 + 4, none⟩ = some (.slice A4 l[j].tree.names.length c4) ∧ W.cell? ⟨b, off + j * 10 + 5, none⟩ = some (.slice A5 l[j].tree.kids.length c5) ∧ W.cell? ⟨b, off + j * 10 + 6, none⟩ = some (.slice A6 l[j].name.length c6) ∧ W.cell? ⟨b, off + j * 10 + 7, none⟩ = some (.slice A7 l[j].out.length c7) ∧ W.cell? ⟨b, off + j * 10 + 8, none⟩ = some (.slice A8 l[j].picks.length c8) ∧ W.cell? ⟨b, off + j * 10 + 9, none⟩ = some (.int .i64 l[j].keep) ∧ In1 w (raw l[j].text) (.slice A1 l[j].text.length c1) ∧ In1 w (raw l[j].tree.data) (.slice A3 l[j].tree.data.length c3) ∧ In1 w (Go.Proofs.Ytnloknhcdlannaa.names l[j].tree.names) (.slice A4 l[j].tree.names.length c4) ∧ In1 w (seqOf 4 T.cells l[j].tree.kids) (.slice A5 l[j].tree.kids.length c5) ∧ In1 w (raw l[j].name) (.slice A6 l[j].name.length c6) ∧ In1 w (raw l[j].out) (.slice A7 l[j].out.length c7) ∧ In1 w (ints l[j].picks) (.slice A8 l[j].picks.length c8) := by
  obtain ⟨F, h⟩ := h
  obtain ⟨b, off, c, us, Fj, e, hl, hr, hi, _⟩ := h.elem (fun x : DCmd => x.cells_len) hj
  obtain ⟨A1, c1, A3, c3, A4, c4, A5, c5, A6, c6, A7, c7, A8, c8, rfl, i1, i3, i4, i5, i6, i7, i8⟩ := DCmd.view ⟨Fj, hi⟩
  refine ⟨b, off, c, A1, c1, A3, c3, A4, c4, A5, c5, A6, c6, A7, c7, A8, c8, e, (fun e2 => by rw [e] at e2; injection e2 with e2; exact e2.symm), hl, ?_, ?_, ?_, ?_, ?_, ?_, ?_, ?_, ?_, ?_, i1, i3, i4, i5, i6, i7, i8⟩
  · exact (hb.cell (p := ⟨b, off + j * 10 + 0, none⟩) hl).trans (hr 0 _ rfl)
  · exact (hb.cell (p := ⟨b, off + j * 10 + 1, none⟩) hl).trans (hr 1 _ rfl)
  · exact (hb.cell (p := ⟨b, off + j * 10 + 2, none⟩) hl).trans (hr 2 _ rfl)
  · exact (hb.cell (p := ⟨b, off + j * 10 + 3, none⟩) hl).trans (hr 3 _ rfl)
  · exact (hb.cell (p := ⟨b, off + j * 10 + 4, none⟩) hl).trans (hr 4 _ rfl)
  · exact (hb.cell (p := ⟨b, off + j * 10 + 5, none⟩) hl).trans (hr 5 _ rfl)
  · exact (hb.cell (p := ⟨b, off + j * 10 + 6, none⟩) hl).trans (hr 6 _ rfl)
  · exact (hb.cell (p := ⟨b, off + j * 10 + 7, none⟩) hl).trans (hr 7 _ rfl)
  · exact (hb.cell (p := ⟨b, off + j * 10 + 8, none⟩) hl).trans (hr 8 _ rfl)
  · exact (hb.cell (p := ⟨b, off + j * 10 + 9, none⟩) hl).trans (hr 9 _ rfl)
theorem DTold.elem {w W : World} {l : List DTold} {v : Value} (h : In1 w (seqOf 2 DTold.cells l) v) (hb : Below w.heap.size w W) {j : Nat} (hj : j < l.length) :
    ∃ b off c A1 c1, v = .slice (some ⟨b, off, none⟩) l.length c ∧ (∀ {X : Option Addr} {n m : Nat}, v = .slice X n m → X = some ⟨b, off, none⟩) ∧ b < w.heap.size ∧ W.cell? ⟨b, off + j * 2, none⟩ = some (.int .i64 l[j].code) ∧ W.cell? ⟨b, off + j * 2 + 1, none⟩ = some (.slice A1 l[j].name.length c1) ∧ In1 w (raw l[j].name) (.slice A1 l[j].name.length c1) := by
  obtain ⟨F, h⟩ := h
  obtain ⟨b, off, c, us, Fj, e, hl, hr, hi, _⟩ := h.elem (fun x : DTold => x.cells_len) hj
  obtain ⟨A1, c1, rfl, i1⟩ := DTold.view ⟨Fj, hi⟩
  refine ⟨b, off, c, A1, c1, e, (fun e2 => by rw [e] at e2; injection e2 with e2; exact e2.symm), hl, ?_, ?_, i1⟩
  · exact (hb.cell (p := ⟨b, off + j * 2 + 0, none⟩) hl).trans (hr 0 _ rfl)
  · exact (hb.cell (p := ⟨b, off + j * 2 + 1, none⟩) hl).trans (hr 1 _ rfl)

end Go.Proofs.Ytnloknhcdlannaa
