/-
  Parts of the proof: BulkC, DElem, DLift, DOk, MentS, PlcI, ShaJ, SortS, TLie, TreeTo3.
-/
import Derived.Test.YtigklnokgmcifaaDoorMo11
import Derived.Test.YtigklnokgmcifaaDoorMo8
import Derived.Test.YtigklnokgmcifaaDoorMo7
import Derived.Test.YtigklnokgmcifaaDoorMo1
import Derived.Laws.BytesArg
import Derived.IntWalk
import Derived.Deep.QuietTactic
import Derived.BigQuiet
import Derived.Deep.Cut
import Derived.Deep.DeepCutAuto
import Derived.Deep.CutBlock

/-
  The sizes of structs, field by field.
-/
namespace Go.Proofs.YtigklnokgmcifaaDoor
open Go.RowKit
set_option linter.unusedVariables false
set_option linter.unusedSimpArgs false

theorem bulks_mem {α : Type} {f : α → List Cel} {l : List α} {x : α} (h : x ∈ l) : bulks (f x) ≤ bulks (cells f l) := by
  induction l with
  | nil => cases h
  | cons y l ih =>
    rw [cells, bulks_app]
    rcases List.mem_cons.1 h with rfl | h
    · omega
    · have := ih h; omega
theorem seq_bulk {α : Type} (sz : Nat) (f : α → List Cel) (l : List α) : (seqOf sz f l).bulk = l.length + bulks (cells f l) := rfl
theorem num_bulk0 (k : IntKind) (n : Int) : (Cel.num k n).bulk = 0 := rfl
theorem sumLen_mem2 {ns : List (List Int)} {n : List Int} (h : n ∈ ns) : n.length ≤ sumLen ns := by
  induction ns with
  | nil => cases h
  | cons y l ih =>
    rw [sumLen]
    rcases List.mem_cons.1 h with rfl | h
    · omega
    · have := ih h; omega
theorem raws_bulk (ns : List (List Int)) : bulks (cells (fun n => [raw n]) ns) = sumLen ns := by
  have := names_bulk ns
  rw [names, Cel.bulk] at this
  omega
theorem bulk_T (x : T) : bulks x.cells = x.data.length + ((x.names.length + sumLen x.names) + (x.kids.length + bulks (cells T.cells x.kids))) := by
  rw [x.cells_eq]
  simp only [bulks, raw_bulkT, raws_bulk, seq_bulk, num_bulk0]
  omega
theorem bulk_Obj (x : DObj) : bulks x.cells = x.name.length + (bulks x.tree.cells + ((x.refs.length + sumLen x.refs) + (x.frm.length + x.out.length))) := by
  rw [x.cells_top]
  simp only [bulks, bulks_app, raw_bulkT, raws_bulk, seq_bulk, num_bulk0]
  omega
theorem bulk_Real (x : DReal) : bulks x.cells = x.drv.length + (x.out.length + x.path.length) := by
  rw [x.cells_top]
  simp only [bulks, bulks_app, raw_bulkT, raws_bulk, seq_bulk, num_bulk0]
  omega
theorem bulk_Store (x : DStore) : bulks x.cells = (x.objs.length + bulks (cells DObj.cells x.objs)) + ((x.roots.length + sumLen x.roots) + (x.reals.length + bulks (cells DReal.cells x.reals))) := by
  rw [x.cells_top]
  simp only [bulks, bulks_app, raw_bulkT, raws_bulk, seq_bulk, num_bulk0]
  omega
theorem bulk_Op (x : DOp) : bulks x.cells = x.name.length + x.text.length := by
  rw [x.cells_top]
  simp only [bulks, bulks_app, raw_bulkT, raws_bulk, seq_bulk, num_bulk0]
  omega
theorem bulk_In (x : DIn) : bulks x.cells = x.drv.length + x.out.length := by
  rw [x.cells_top]
  simp only [bulks, bulks_app, raw_bulkT, raws_bulk, seq_bulk, num_bulk0]
  omega
theorem bulk_Drv (x : DDrv) : bulks x.cells = (x.srcs.length + sumLen x.srcs) + ((x.ins.length + bulks (cells DIn.cells x.ins)) + ((x.outs.length + sumLen x.outs) + (x.ops.length + bulks (cells DOp.cells x.ops)))) := by
  rw [x.cells_top]
  simp only [bulks, bulks_app, raw_bulkT, raws_bulk, seq_bulk, num_bulk0]
  omega
end Go.Proofs.YtigklnokgmcifaaDoor


/-
  An element of a row of structs, seen cell by cell.
-/
namespace Go.Proofs.YtigklnokgmcifaaDoor
open Go.RowKit
set_option linter.unusedVariables false

theorem T.elem {w W : World} {l : List T} {v : Value} (h : In1 w (seqOf 4 T.cells l) v) (hb : Below w.heap.size w W) {j : Nat} (hj : j < l.length) :
    ∃ b off c A1 c1 A2 c2 A3 c3, v = .slice (some ⟨b, off, none⟩) l.length c ∧ (∀ {X : Option Addr} {n m : Nat}, v = .slice X n m → X = some ⟨b, off, none⟩) ∧ b < w.heap.size ∧ W.cell? ⟨b, off + j * 4, none⟩ = some (.int .i64 l[j].kind) ∧ W.cell? ⟨b, off + j * 4 + 1, none⟩ = some (.slice A1 l[j].data.length c1) ∧ W.cell? ⟨b, off + j * 4 + 2, none⟩ = some (.slice A2 l[j].names.length c2) ∧ W.cell? ⟨b, off + j * 4 + 3, none⟩ = some (.slice A3 l[j].kids.length c3) ∧ In1 w (raw l[j].data) (.slice A1 l[j].data.length c1) ∧ In1 w (Go.Proofs.YtigklnokgmcifaaDoor.names l[j].names) (.slice A2 l[j].names.length c2) ∧ In1 w (seqOf 4 T.cells l[j].kids) (.slice A3 l[j].kids.length c3) := by
  obtain ⟨F, h⟩ := h
  obtain ⟨b, off, c, us, Fj, e, hl, hr, hi, _⟩ := h.elem (fun x : T => x.cells_len) hj
  obtain ⟨A1, c1, A2, c2, A3, c3, rfl, i1, i2, i3⟩ := T.view ⟨Fj, hi⟩
  refine ⟨b, off, c, A1, c1, A2, c2, A3, c3, e, (fun e2 => by rw [e] at e2; injection e2 with e2; exact e2.symm), hl, ?_, ?_, ?_, ?_, i1, i2, i3⟩
  · exact (hb.cell (p := ⟨b, off + j * 4 + 0, none⟩) hl).trans (hr 0 _ rfl)
  · exact (hb.cell (p := ⟨b, off + j * 4 + 1, none⟩) hl).trans (hr 1 _ rfl)
  · exact (hb.cell (p := ⟨b, off + j * 4 + 2, none⟩) hl).trans (hr 2 _ rfl)
  · exact (hb.cell (p := ⟨b, off + j * 4 + 3, none⟩) hl).trans (hr 3 _ rfl)
theorem DReal.elem {w W : World} {l : List DReal} {v : Value} (h : In1 w (seqOf 3 DReal.cells l) v) (hb : Below w.heap.size w W) {j : Nat} (hj : j < l.length) :
    ∃ b off c A0 c0 A1 c1 A2 c2, v = .slice (some ⟨b, off, none⟩) l.length c ∧ (∀ {X : Option Addr} {n m : Nat}, v = .slice X n m → X = some ⟨b, off, none⟩) ∧ b < w.heap.size ∧ W.cell? ⟨b, off + j * 3, none⟩ = some (.slice A0 l[j].drv.length c0) ∧ W.cell? ⟨b, off + j * 3 + 1, none⟩ = some (.slice A1 l[j].out.length c1) ∧ W.cell? ⟨b, off + j * 3 + 2, none⟩ = some (.slice A2 l[j].path.length c2) ∧ In1 w (raw l[j].drv) (.slice A0 l[j].drv.length c0) ∧ In1 w (raw l[j].out) (.slice A1 l[j].out.length c1) ∧ In1 w (raw l[j].path) (.slice A2 l[j].path.length c2) := by
  obtain ⟨F, h⟩ := h
  obtain ⟨b, off, c, us, Fj, e, hl, hr, hi, _⟩ := h.elem (fun x : DReal => x.cells_len) hj
  obtain ⟨A0, c0, A1, c1, A2, c2, rfl, i0, i1, i2⟩ := DReal.view ⟨Fj, hi⟩
  refine ⟨b, off, c, A0, c0, A1, c1, A2, c2, e, (fun e2 => by rw [e] at e2; injection e2 with e2; exact e2.symm), hl, ?_, ?_, ?_, i0, i1, i2⟩
  · exact (hb.cell (p := ⟨b, off + j * 3 + 0, none⟩) hl).trans (hr 0 _ rfl)
  · exact (hb.cell (p := ⟨b, off + j * 3 + 1, none⟩) hl).trans (hr 1 _ rfl)
  · exact (hb.cell (p := ⟨b, off + j * 3 + 2, none⟩) hl).trans (hr 2 _ rfl)
theorem DOp.elem {w W : World} {l : List DOp} {v : Value} (h : In1 w (seqOf 5 DOp.cells l) v) (hb : Below w.heap.size w W) {j : Nat} (hj : j < l.length) :
    ∃ b off c A2 c2 A3 c3, v = .slice (some ⟨b, off, none⟩) l.length c ∧ (∀ {X : Option Addr} {n m : Nat}, v = .slice X n m → X = some ⟨b, off, none⟩) ∧ b < w.heap.size ∧ W.cell? ⟨b, off + j * 5, none⟩ = some (.int .i64 l[j].code) ∧ W.cell? ⟨b, off + j * 5 + 1, none⟩ = some (.int .i64 l[j].out) ∧ W.cell? ⟨b, off + j * 5 + 2, none⟩ = some (.slice A2 l[j].name.length c2) ∧ W.cell? ⟨b, off + j * 5 + 3, none⟩ = some (.slice A3 l[j].text.length c3) ∧ W.cell? ⟨b, off + j * 5 + 4, none⟩ = some (.int .i64 l[j].arg) ∧ In1 w (raw l[j].name) (.slice A2 l[j].name.length c2) ∧ In1 w (raw l[j].text) (.slice A3 l[j].text.length c3) := by
  obtain ⟨F, h⟩ := h
  obtain ⟨b, off, c, us, Fj, e, hl, hr, hi, _⟩ := h.elem (fun x : DOp => x.cells_len) hj
  obtain ⟨A2, c2, A3, c3, rfl, i2, i3⟩ := DOp.view ⟨Fj, hi⟩
  refine ⟨b, off, c, A2, c2, A3, c3, e, (fun e2 => by rw [e] at e2; injection e2 with e2; exact e2.symm), hl, ?_, ?_, ?_, ?_, ?_, i2, i3⟩
  · exact (hb.cell (p := ⟨b, off + j * 5 + 0, none⟩) hl).trans (hr 0 _ rfl)
  · exact (hb.cell (p := ⟨b, off + j * 5 + 1, none⟩) hl).trans (hr 1 _ rfl)
  · exact (hb.cell (p := ⟨b, off + j * 5 + 2, none⟩) hl).trans (hr 2 _ rfl)
  · exact (hb.cell (p := ⟨b, off + j * 5 + 3, none⟩) hl).trans (hr 3 _ rfl)
  · exact (hb.cell (p := ⟨b, off + j * 5 + 4, none⟩) hl).trans (hr 4 _ rfl)
theorem DIn.elem {w W : World} {l : List DIn} {v : Value} (h : In1 w (seqOf 2 DIn.cells l) v) (hb : Below w.heap.size w W) {j : Nat} (hj : j < l.length) :
    ∃ b off c A0 c0 A1 c1, v = .slice (some ⟨b, off, none⟩) l.length c ∧ (∀ {X : Option Addr} {n m : Nat}, v = .slice X n m → X = some ⟨b, off, none⟩) ∧ b < w.heap.size ∧ W.cell? ⟨b, off + j * 2, none⟩ = some (.slice A0 l[j].drv.length c0) ∧ W.cell? ⟨b, off + j * 2 + 1, none⟩ = some (.slice A1 l[j].out.length c1) ∧ In1 w (raw l[j].drv) (.slice A0 l[j].drv.length c0) ∧ In1 w (raw l[j].out) (.slice A1 l[j].out.length c1) := by
  obtain ⟨F, h⟩ := h
  obtain ⟨b, off, c, us, Fj, e, hl, hr, hi, _⟩ := h.elem (fun x : DIn => x.cells_len) hj
  obtain ⟨A0, c0, A1, c1, rfl, i0, i1⟩ := DIn.view ⟨Fj, hi⟩
  refine ⟨b, off, c, A0, c0, A1, c1, e, (fun e2 => by rw [e] at e2; injection e2 with e2; exact e2.symm), hl, ?_, ?_, i0, i1⟩
  · exact (hb.cell (p := ⟨b, off + j * 2 + 0, none⟩) hl).trans (hr 0 _ rfl)
  · exact (hb.cell (p := ⟨b, off + j * 2 + 1, none⟩) hl).trans (hr 1 _ rfl)
theorem DObj.elem {w W : World} {l : List DObj} {v : Value} (h : In1 w (seqOf 9 DObj.cells l) v) (hb : Below w.heap.size w W) {j : Nat} (hj : j < l.length) :
    ∃ b off c A0 c0 A3 c3 A4 c4 A5 c5 A6 c6 A7 c7 A8 c8, v = .slice (some ⟨b, off, none⟩) l.length c ∧ (∀ {X : Option Addr} {n m : Nat}, v = .slice X n m → X = some ⟨b, off, none⟩) ∧ b < w.heap.size ∧ W.cell? ⟨b, off + j * 9, none⟩ = some (.slice A0 l[j].name.length c0) ∧ W.cell? ⟨b, off + j * 9 + 1, none⟩ = some (.int .i64 l[j].kind) ∧ W.cell? ⟨b, off + j * 9 + 2, none⟩ = some (.int .i64 l[j].tree.kind) ∧ W.cell? ⟨b, off + j * 9 + 3, none⟩ = some (.slice A3 l[j].tree.data.length c3) ∧ W.cell? ⟨b, off + j * 9 + 4, none⟩ = some (.slice A4 l[j].tree.names.length c4) ∧ W.cell? ⟨b, off + j * 9 + 5, none⟩ = some (.slice A5 l[j].tree.kids.length c5) ∧ W.cell? ⟨b, off + j * 9 + 6, none⟩ = some (.slice A6 l[j].refs.length c6) ∧ W.cell? ⟨b, off + j * 9 + 7, none⟩ = some (.slice A7 l[j].frm.length c7) ∧ W.cell? ⟨b, off + j * 9 + 8, none⟩ = some (.slice A8 l[j].out.length c8) ∧ In1 w (raw l[j].name) (.slice A0 l[j].name.length c0) ∧ In1 w (raw l[j].tree.data) (.slice A3 l[j].tree.data.length c3) ∧ In1 w (Go.Proofs.YtigklnokgmcifaaDoor.names l[j].tree.names) (.slice A4 l[j].tree.names.length c4) ∧ In1 w (seqOf 4 T.cells l[j].tree.kids) (.slice A5 l[j].tree.kids.length c5) ∧ In1 w (Go.Proofs.YtigklnokgmcifaaDoor.names l[j].refs) (.slice A6 l[j].refs.length c6) ∧ In1 w (raw l[j].frm) (.slice A7 l[j].frm.length c7) ∧ In1 w (raw l[j].out) (.slice A8 l[j].out.length c8) := by
  obtain ⟨F, h⟩ := h
  obtain ⟨b, off, c, us, Fj, e, hl, hr, hi, _⟩ := h.elem (fun x : DObj => x.cells_len) hj
  obtain ⟨A0, c0, A3, c3, A4, c4, A5, c5, A6, c6, A7, c7, A8, c8, rfl, i0, i3, i4, i5, i6, i7, i8⟩ := DObj.view ⟨Fj, hi⟩
  refine ⟨b, off, c, A0, c0, A3, c3, A4, c4, A5, c5, A6, c6, A7, c7, A8, c8, e, (fun e2 => by rw [e] at e2; injection e2 with e2; exact e2.symm), hl, ?_, ?_, ?_, ?_, ?_, ?_, ?_, ?_, ?_, i0, i3, i4, i5, i6, i7, i8⟩
  · exact (hb.cell (p := ⟨b, off + j * 9 + 0, none⟩) hl).trans (hr 0 _ rfl)
  · exact (hb.cell (p := ⟨b, off + j * 9 + 1, none⟩) hl).trans (hr 1 _ rfl)
  · exact (hb.cell (p := ⟨b, off + j * 9 + 2, none⟩) hl).trans (hr 2 _ rfl)
  · exact (hb.cell (p := ⟨b, off + j * 9 + 3, none⟩) hl).trans (hr 3 _ rfl)
  · exact (hb.cell (p := ⟨b, off + j * 9 + 4, none⟩) hl).trans (hr 4 _ rfl)
  · exact (hb.cell (p := ⟨b, off + j * 9 + 5, none⟩) hl).trans (hr 5 _ rfl)
  · exact (hb.cell (p := ⟨b, off + j * 9 + 6, none⟩) hl).trans (hr 6 _ rfl)
  · exact (hb.cell (p := ⟨b, off + j * 9 + 7, none⟩) hl).trans (hr 7 _ rfl)
  · exact (hb.cell (p := ⟨b, off + j * 9 + 8, none⟩) hl).trans (hr 8 _ rfl)
theorem DDrv.elem {w W : World} {l : List DDrv} {v : Value} (h : In1 w (seqOf 4 DDrv.cells l) v) (hb : Below w.heap.size w W) {j : Nat} (hj : j < l.length) :
    ∃ b off c A0 c0 A1 c1 A2 c2 A3 c3, v = .slice (some ⟨b, off, none⟩) l.length c ∧ (∀ {X : Option Addr} {n m : Nat}, v = .slice X n m → X = some ⟨b, off, none⟩) ∧ b < w.heap.size ∧ W.cell? ⟨b, off + j * 4, none⟩ = some (.slice A0 l[j].srcs.length c0) ∧ W.cell? ⟨b, off + j * 4 + 1, none⟩ = some (.slice A1 l[j].ins.length c1) ∧ W.cell? ⟨b, off + j * 4 + 2, none⟩ = some (.slice A2 l[j].outs.length c2) ∧ W.cell? ⟨b, off + j * 4 + 3, none⟩ = some (.slice A3 l[j].ops.length c3) ∧ In1 w (Go.Proofs.YtigklnokgmcifaaDoor.names l[j].srcs) (.slice A0 l[j].srcs.length c0) ∧ In1 w (seqOf 2 DIn.cells l[j].ins) (.slice A1 l[j].ins.length c1) ∧ In1 w (Go.Proofs.YtigklnokgmcifaaDoor.names l[j].outs) (.slice A2 l[j].outs.length c2) ∧ In1 w (seqOf 5 DOp.cells l[j].ops) (.slice A3 l[j].ops.length c3) := by
  obtain ⟨F, h⟩ := h
  obtain ⟨b, off, c, us, Fj, e, hl, hr, hi, _⟩ := h.elem (fun x : DDrv => x.cells_len) hj
  obtain ⟨A0, c0, A1, c1, A2, c2, A3, c3, rfl, i0, i1, i2, i3⟩ := DDrv.view ⟨Fj, hi⟩
  refine ⟨b, off, c, A0, c0, A1, c1, A2, c2, A3, c3, e, (fun e2 => by rw [e] at e2; injection e2 with e2; exact e2.symm), hl, ?_, ?_, ?_, ?_, i0, i1, i2, i3⟩
  · exact (hb.cell (p := ⟨b, off + j * 4 + 0, none⟩) hl).trans (hr 0 _ rfl)
  · exact (hb.cell (p := ⟨b, off + j * 4 + 1, none⟩) hl).trans (hr 1 _ rfl)
  · exact (hb.cell (p := ⟨b, off + j * 4 + 2, none⟩) hl).trans (hr 2 _ rfl)
  · exact (hb.cell (p := ⟨b, off + j * 4 + 3, none⟩) hl).trans (hr 3 _ rfl)
theorem DJob.elem {w W : World} {l : List DJob} {v : Value} (h : In1 w (seqOf 8 DJob.cells l) v) (hb : Below w.heap.size w W) {j : Nat} (hj : j < l.length) :
    ∃ b off c A0 c0 A1 c1 A2 c2 A3 c3 A4 c4 A6 c6 A7 c7, v = .slice (some ⟨b, off, none⟩) l.length c ∧ (∀ {X : Option Addr} {n m : Nat}, v = .slice X n m → X = some ⟨b, off, none⟩) ∧ b < w.heap.size ∧ W.cell? ⟨b, off + j * 8, none⟩ = some (.slice A0 l[j].d.srcs.length c0) ∧ W.cell? ⟨b, off + j * 8 + 1, none⟩ = some (.slice A1 l[j].d.ins.length c1) ∧ W.cell? ⟨b, off + j * 8 + 2, none⟩ = some (.slice A2 l[j].d.outs.length c2) ∧ W.cell? ⟨b, off + j * 8 + 3, none⟩ = some (.slice A3 l[j].d.ops.length c3) ∧ W.cell? ⟨b, off + j * 8 + 4, none⟩ = some (.slice A4 l[j].name.length c4) ∧ W.cell? ⟨b, off + j * 8 + 5, none⟩ = some (.int .i64 l[j].pc) ∧ W.cell? ⟨b, off + j * 8 + 6, none⟩ = some (.slice A6 l[j].args.length c6) ∧ W.cell? ⟨b, off + j * 8 + 7, none⟩ = some (.slice A7 l[j].outs.length c7) ∧ In1 w (Go.Proofs.YtigklnokgmcifaaDoor.names l[j].d.srcs) (.slice A0 l[j].d.srcs.length c0) ∧ In1 w (seqOf 2 DIn.cells l[j].d.ins) (.slice A1 l[j].d.ins.length c1) ∧ In1 w (Go.Proofs.YtigklnokgmcifaaDoor.names l[j].d.outs) (.slice A2 l[j].d.outs.length c2) ∧ In1 w (seqOf 5 DOp.cells l[j].d.ops) (.slice A3 l[j].d.ops.length c3) ∧ In1 w (raw l[j].name) (.slice A4 l[j].name.length c4) ∧ In1 w (Go.Proofs.YtigklnokgmcifaaDoor.names l[j].args) (.slice A6 l[j].args.length c6) ∧ In1 w (seqOf 4 T.cells l[j].outs) (.slice A7 l[j].outs.length c7) := by
  obtain ⟨F, h⟩ := h
  obtain ⟨b, off, c, us, Fj, e, hl, hr, hi, _⟩ := h.elem (fun x : DJob => x.cells_len) hj
  obtain ⟨A0, c0, A1, c1, A2, c2, A3, c3, A4, c4, A6, c6, A7, c7, rfl, i0, i1, i2, i3, i4, i6, i7⟩ := DJob.view ⟨Fj, hi⟩
  refine ⟨b, off, c, A0, c0, A1, c1, A2, c2, A3, c3, A4, c4, A6, c6, A7, c7, e, (fun e2 => by rw [e] at e2; injection e2 with e2; exact e2.symm), hl, ?_, ?_, ?_, ?_, ?_, ?_, ?_, ?_, i0, i1, i2, i3, i4, i6, i7⟩
  · exact (hb.cell (p := ⟨b, off + j * 8 + 0, none⟩) hl).trans (hr 0 _ rfl)
  · exact (hb.cell (p := ⟨b, off + j * 8 + 1, none⟩) hl).trans (hr 1 _ rfl)
  · exact (hb.cell (p := ⟨b, off + j * 8 + 2, none⟩) hl).trans (hr 2 _ rfl)
  · exact (hb.cell (p := ⟨b, off + j * 8 + 3, none⟩) hl).trans (hr 3 _ rfl)
  · exact (hb.cell (p := ⟨b, off + j * 8 + 4, none⟩) hl).trans (hr 4 _ rfl)
  · exact (hb.cell (p := ⟨b, off + j * 8 + 5, none⟩) hl).trans (hr 5 _ rfl)
  · exact (hb.cell (p := ⟨b, off + j * 8 + 6, none⟩) hl).trans (hr 6 _ rfl)
  · exact (hb.cell (p := ⟨b, off + j * 8 + 7, none⟩) hl).trans (hr 7 _ rfl)
theorem DGoal.elem {w W : World} {l : List DGoal} {v : Value} (h : In1 w (seqOf 13 DGoal.cells l) v) (hb : Below w.heap.size w W) {j : Nat} (hj : j < l.length) :
    ∃ b off c A0 c0 A4 c4 A5 c5 A6 c6 A7 c7 A8 c8 A10 c10 A11 c11 A12 c12, v = .slice (some ⟨b, off, none⟩) l.length c ∧ (∀ {X : Option Addr} {n m : Nat}, v = .slice X n m → X = some ⟨b, off, none⟩) ∧ b < w.heap.size ∧ W.cell? ⟨b, off + j * 13, none⟩ = some (.slice A0 l[j].drv.length c0) ∧ W.cell? ⟨b, off + j * 13 + 1, none⟩ = some (.int .i64 l[j].state) ∧ W.cell? ⟨b, off + j * 13 + 2, none⟩ = some (.int .i64 l[j].err) ∧ W.cell? ⟨b, off + j * 13 + 3, none⟩ = some (.bool l[j].begun) ∧ W.cell? ⟨b, off + j * 13 + 4, none⟩ = some (.slice A4 l[j].job.d.srcs.length c4) ∧ W.cell? ⟨b, off + j * 13 + 5, none⟩ = some (.slice A5 l[j].job.d.ins.length c5) ∧ W.cell? ⟨b, off + j * 13 + 6, none⟩ = some (.slice A6 l[j].job.d.outs.length c6) ∧ W.cell? ⟨b, off + j * 13 + 7, none⟩ = some (.slice A7 l[j].job.d.ops.length c7) ∧ W.cell? ⟨b, off + j * 13 + 8, none⟩ = some (.slice A8 l[j].job.name.length c8) ∧ W.cell? ⟨b, off + j * 13 + 9, none⟩ = some (.int .i64 l[j].job.pc) ∧ W.cell? ⟨b, off + j * 13 + 10, none⟩ = some (.slice A10 l[j].job.args.length c10) ∧ W.cell? ⟨b, off + j * 13 + 11, none⟩ = some (.slice A11 l[j].job.outs.length c11) ∧ W.cell? ⟨b, off + j * 13 + 12, none⟩ = some (.slice A12 l[j].need.length c12) ∧ In1 w (raw l[j].drv) (.slice A0 l[j].drv.length c0) ∧ In1 w (Go.Proofs.YtigklnokgmcifaaDoor.names l[j].job.d.srcs) (.slice A4 l[j].job.d.srcs.length c4) ∧ In1 w (seqOf 2 DIn.cells l[j].job.d.ins) (.slice A5 l[j].job.d.ins.length c5) ∧ In1 w (Go.Proofs.YtigklnokgmcifaaDoor.names l[j].job.d.outs) (.slice A6 l[j].job.d.outs.length c6) ∧ In1 w (seqOf 5 DOp.cells l[j].job.d.ops) (.slice A7 l[j].job.d.ops.length c7) ∧ In1 w (raw l[j].job.name) (.slice A8 l[j].job.name.length c8) ∧ In1 w (Go.Proofs.YtigklnokgmcifaaDoor.names l[j].job.args) (.slice A10 l[j].job.args.length c10) ∧ In1 w (seqOf 4 T.cells l[j].job.outs) (.slice A11 l[j].job.outs.length c11) ∧ In1 w (Go.Proofs.YtigklnokgmcifaaDoor.names l[j].need) (.slice A12 l[j].need.length c12) := by
  obtain ⟨F, h⟩ := h
  obtain ⟨b, off, c, us, Fj, e, hl, hr, hi, _⟩ := h.elem (fun x : DGoal => x.cells_len) hj
  obtain ⟨A0, c0, A4, c4, A5, c5, A6, c6, A7, c7, A8, c8, A10, c10, A11, c11, A12, c12, rfl, i0, i4, i5, i6, i7, i8, i10, i11, i12⟩ := DGoal.view ⟨Fj, hi⟩
  refine ⟨b, off, c, A0, c0, A4, c4, A5, c5, A6, c6, A7, c7, A8, c8, A10, c10, A11, c11, A12, c12, e, (fun e2 => by rw [e] at e2; injection e2 with e2; exact e2.symm), hl, ?_, ?_, ?_, ?_, ?_, ?_, ?_, ?_, ?_, ?_, ?_, ?_, ?_, i0, i4, i5, i6, i7, i8, i10, i11, i12⟩
  · exact (hb.cell (p := ⟨b, off + j * 13 + 0, none⟩) hl).trans (hr 0 _ rfl)
  · exact (hb.cell (p := ⟨b, off + j * 13 + 1, none⟩) hl).trans (hr 1 _ rfl)
  · exact (hb.cell (p := ⟨b, off + j * 13 + 2, none⟩) hl).trans (hr 2 _ rfl)
  · exact (hb.cell (p := ⟨b, off + j * 13 + 3, none⟩) hl).trans (hr 3 _ rfl)
  · exact (hb.cell (p := ⟨b, off + j * 13 + 4, none⟩) hl).trans (hr 4 _ rfl)
  · exact (hb.cell (p := ⟨b, off + j * 13 + 5, none⟩) hl).trans (hr 5 _ rfl)
  · exact (hb.cell (p := ⟨b, off + j * 13 + 6, none⟩) hl).trans (hr 6 _ rfl)
  · exact (hb.cell (p := ⟨b, off + j * 13 + 7, none⟩) hl).trans (hr 7 _ rfl)
  · exact (hb.cell (p := ⟨b, off + j * 13 + 8, none⟩) hl).trans (hr 8 _ rfl)
  · exact (hb.cell (p := ⟨b, off + j * 13 + 9, none⟩) hl).trans (hr 9 _ rfl)
  · exact (hb.cell (p := ⟨b, off + j * 13 + 10, none⟩) hl).trans (hr 10 _ rfl)
  · exact (hb.cell (p := ⟨b, off + j * 13 + 11, none⟩) hl).trans (hr 11 _ rfl)
  · exact (hb.cell (p := ⟨b, off + j * 13 + 12, none⟩) hl).trans (hr 12 _ rfl)
theorem DReg.elem {w W : World} {l : List DReg} {v : Value} (h : In1 w (seqOf 14 DReg.cells l) v) (hb : Below w.heap.size w W) {j : Nat} (hj : j < l.length) :
    ∃ b off c A1 c1 A4 c4 A5 c5 A6 c6 A7 c7 A8 c8 A9 c9 A10 c10 A11 c11 A12 c12 A13 c13, v = .slice (some ⟨b, off, none⟩) l.length c ∧ (∀ {X : Option Addr} {n m : Nat}, v = .slice X n m → X = some ⟨b, off, none⟩) ∧ b < w.heap.size ∧ W.cell? ⟨b, off + j * 14, none⟩ = some (.int .i64 l[j].kind) ∧ W.cell? ⟨b, off + j * 14 + 1, none⟩ = some (.slice A1 l[j].obj.name.length c1) ∧ W.cell? ⟨b, off + j * 14 + 2, none⟩ = some (.int .i64 l[j].obj.kind) ∧ W.cell? ⟨b, off + j * 14 + 3, none⟩ = some (.int .i64 l[j].obj.tree.kind) ∧ W.cell? ⟨b, off + j * 14 + 4, none⟩ = some (.slice A4 l[j].obj.tree.data.length c4) ∧ W.cell? ⟨b, off + j * 14 + 5, none⟩ = some (.slice A5 l[j].obj.tree.names.length c5) ∧ W.cell? ⟨b, off + j * 14 + 6, none⟩ = some (.slice A6 l[j].obj.tree.kids.length c6) ∧ W.cell? ⟨b, off + j * 14 + 7, none⟩ = some (.slice A7 l[j].obj.refs.length c7) ∧ W.cell? ⟨b, off + j * 14 + 8, none⟩ = some (.slice A8 l[j].obj.frm.length c8) ∧ W.cell? ⟨b, off + j * 14 + 9, none⟩ = some (.slice A9 l[j].obj.out.length c9) ∧ W.cell? ⟨b, off + j * 14 + 10, none⟩ = some (.slice A10 l[j].real.drv.length c10) ∧ W.cell? ⟨b, off + j * 14 + 11, none⟩ = some (.slice A11 l[j].real.out.length c11) ∧ W.cell? ⟨b, off + j * 14 + 12, none⟩ = some (.slice A12 l[j].real.path.length c12) ∧ W.cell? ⟨b, off + j * 14 + 13, none⟩ = some (.slice A13 l[j].name.length c13) ∧ In1 w (raw l[j].obj.name) (.slice A1 l[j].obj.name.length c1) ∧ In1 w (raw l[j].obj.tree.data) (.slice A4 l[j].obj.tree.data.length c4) ∧ In1 w (Go.Proofs.YtigklnokgmcifaaDoor.names l[j].obj.tree.names) (.slice A5 l[j].obj.tree.names.length c5) ∧ In1 w (seqOf 4 T.cells l[j].obj.tree.kids) (.slice A6 l[j].obj.tree.kids.length c6) ∧ In1 w (Go.Proofs.YtigklnokgmcifaaDoor.names l[j].obj.refs) (.slice A7 l[j].obj.refs.length c7) ∧ In1 w (raw l[j].obj.frm) (.slice A8 l[j].obj.frm.length c8) ∧ In1 w (raw l[j].obj.out) (.slice A9 l[j].obj.out.length c9) ∧ In1 w (raw l[j].real.drv) (.slice A10 l[j].real.drv.length c10) ∧ In1 w (raw l[j].real.out) (.slice A11 l[j].real.out.length c11) ∧ In1 w (raw l[j].real.path) (.slice A12 l[j].real.path.length c12) ∧ In1 w (raw l[j].name) (.slice A13 l[j].name.length c13) := by
  obtain ⟨F, h⟩ := h
  obtain ⟨b, off, c, us, Fj, e, hl, hr, hi, _⟩ := h.elem (fun x : DReg => x.cells_len) hj
  obtain ⟨A1, c1, A4, c4, A5, c5, A6, c6, A7, c7, A8, c8, A9, c9, A10, c10, A11, c11, A12, c12, A13, c13, rfl, i1, i4, i5, i6, i7, i8, i9, i10, i11, i12, i13⟩ := DReg.view ⟨Fj, hi⟩
  refine ⟨b, off, c, A1, c1, A4, c4, A5, c5, A6, c6, A7, c7, A8, c8, A9, c9, A10, c10, A11, c11, A12, c12, A13, c13, e, (fun e2 => by rw [e] at e2; injection e2 with e2; exact e2.symm), hl, ?_, ?_, ?_, ?_, ?_, ?_, ?_, ?_, ?_, ?_, ?_, ?_, ?_, ?_, i1, i4, i5, i6, i7, i8, i9, i10, i11, i12, i13⟩
  · exact (hb.cell (p := ⟨b, off + j * 14 + 0, none⟩) hl).trans (hr 0 _ rfl)
  · exact (hb.cell (p := ⟨b, off + j * 14 + 1, none⟩) hl).trans (hr 1 _ rfl)
  · exact (hb.cell (p := ⟨b, off + j * 14 + 2, none⟩) hl).trans (hr 2 _ rfl)
  · exact (hb.cell (p := ⟨b, off + j * 14 + 3, none⟩) hl).trans (hr 3 _ rfl)
  · exact (hb.cell (p := ⟨b, off + j * 14 + 4, none⟩) hl).trans (hr 4 _ rfl)
  · exact (hb.cell (p := ⟨b, off + j * 14 + 5, none⟩) hl).trans (hr 5 _ rfl)
  · exact (hb.cell (p := ⟨b, off + j * 14 + 6, none⟩) hl).trans (hr 6 _ rfl)
  · exact (hb.cell (p := ⟨b, off + j * 14 + 7, none⟩) hl).trans (hr 7 _ rfl)
  · exact (hb.cell (p := ⟨b, off + j * 14 + 8, none⟩) hl).trans (hr 8 _ rfl)
  · exact (hb.cell (p := ⟨b, off + j * 14 + 9, none⟩) hl).trans (hr 9 _ rfl)
  · exact (hb.cell (p := ⟨b, off + j * 14 + 10, none⟩) hl).trans (hr 10 _ rfl)
  · exact (hb.cell (p := ⟨b, off + j * 14 + 11, none⟩) hl).trans (hr 11 _ rfl)
  · exact (hb.cell (p := ⟨b, off + j * 14 + 12, none⟩) hl).trans (hr 12 _ rfl)
  · exact (hb.cell (p := ⟨b, off + j * 14 + 13, none⟩) hl).trans (hr 13 _ rfl)
theorem DCmd.elem {w W : World} {l : List DCmd} {v : Value} (h : In1 w (seqOf 10 DCmd.cells l) v) (hb : Below w.heap.size w W) {j : Nat} (hj : j < l.length) :
    ∃ b off c A1 c1 A3 c3 A4 c4 A5 c5 A6 c6 A7 c7 A8 c8, v = .slice (some ⟨b, off, none⟩) l.length c ∧ (∀ {X : Option Addr} {n m : Nat}, v = .slice X n m → X = some ⟨b, off, none⟩) ∧ b < w.heap.size ∧ W.cell? ⟨b, off + j * 10, none⟩ = some (.int .i64 l[j].kind) ∧ W.cell? ⟨b, off + j * 10 + 1, none⟩ = some (.slice A1 l[j].text.length c1) ∧ W.cell? ⟨b, off + j * 10 + 2, none⟩ = some (.int .i64 l[j].tree.kind) ∧ W.cell? ⟨b, off + j * 10 + 3, none⟩ = some (.slice A3 l[j].tree.data.length c3) ∧ W.cell? ⟨b, off + j * 10 + 4, none⟩ = some (.slice A4 l[j].tree.names.length c4) ∧ W.cell? ⟨b, off + j * 10 + 5, none⟩ = some (.slice A5 l[j].tree.kids.length c5) ∧ W.cell? ⟨b, off + j * 10 + 6, none⟩ = some (.slice A6 l[j].name.length c6) ∧ W.cell? ⟨b, off + j * 10 + 7, none⟩ = some (.slice A7 l[j].out.length c7) ∧ W.cell? ⟨b, off + j * 10 + 8, none⟩ = some (.slice A8 l[j].picks.length c8) ∧ W.cell? ⟨b, off + j * 10 + 9, none⟩ = some (.int .i64 l[j].keep) ∧ In1 w (raw l[j].text) (.slice A1 l[j].text.length c1) ∧ In1 w (raw l[j].tree.data) (.slice A3 l[j].tree.data.length c3) ∧ In1 w (Go.Proofs.YtigklnokgmcifaaDoor.names l[j].tree.names) (.slice A4 l[j].tree.names.length c4) ∧ In1 w (seqOf 4 T.cells l[j].tree.kids) (.slice A5 l[j].tree.kids.length c5) ∧ In1 w (raw l[j].name) (.slice A6 l[j].name.length c6) ∧ In1 w (raw l[j].out) (.slice A7 l[j].out.length c7) ∧ In1 w (ints l[j].picks) (.slice A8 l[j].picks.length c8) := by
  obtain ⟨F, h⟩ := h
  obtain ⟨b, off, c, us, Fj, e, hl, hr, hi, _⟩ := h.elem (fun x : DCmd => x.cells_len) hj
  obtain ⟨A1, c1, A3, c3, A4, c4, A5, c5, A6, c6, A7, c7, A8, c8, rfl, i1, i3, i4, i5, i6, i7, i8⟩ := DCmd.view ⟨Fj, hi⟩
  refine ⟨b, off, c, A1, c1, A3, c3, A4, c4, A5, c5, A6, c6, A7, c7, A8, c8, e, (fun e2 => by rw [e] at e2; injection e2 with e2; exact e2.symm), hl, ?_, ?_, ?_, ?_, ?_, ?_, ?_, ?_, ?_, ?_, i1, i3, i4, i5, i6, i7, i8⟩
  · exact (hb.cell (p := ⟨b, off + j * 10 + 0, none⟩) hl).trans (hr 0 _ rfl)
  · exact (hb.cell (p := ⟨b, off + j * 10 + 1, none⟩) hl).trans (hr 1 _ rfl)
  · exact (hb.cell (p := ⟨b, off + j * 10 + 2, none⟩) hl).trans (hr 2 _ rfl)
  · exact (hb.cell (p := ⟨b, off + j * 10 + 3, none⟩) hl).trans (hr 3 _ rfl)
  · exact (hb.cell (p := ⟨b, off + j * 10 + 4, none⟩) hl).trans (hr 4 _ rfl)
  · exact (hb.cell (p := ⟨b, off + j * 10 + 5, none⟩) hl).trans (hr 5 _ rfl)
  · exact (hb.cell (p := ⟨b, off + j * 10 + 6, none⟩) hl).trans (hr 6 _ rfl)
  · exact (hb.cell (p := ⟨b, off + j * 10 + 7, none⟩) hl).trans (hr 7 _ rfl)
  · exact (hb.cell (p := ⟨b, off + j * 10 + 8, none⟩) hl).trans (hr 8 _ rfl)
  · exact (hb.cell (p := ⟨b, off + j * 10 + 9, none⟩) hl).trans (hr 9 _ rfl)
theorem DTold.elem {w W : World} {l : List DTold} {v : Value} (h : In1 w (seqOf 2 DTold.cells l) v) (hb : Below w.heap.size w W) {j : Nat} (hj : j < l.length) :
    ∃ b off c A1 c1, v = .slice (some ⟨b, off, none⟩) l.length c ∧ (∀ {X : Option Addr} {n m : Nat}, v = .slice X n m → X = some ⟨b, off, none⟩) ∧ b < w.heap.size ∧ W.cell? ⟨b, off + j * 2, none⟩ = some (.int .i64 l[j].code) ∧ W.cell? ⟨b, off + j * 2 + 1, none⟩ = some (.slice A1 l[j].name.length c1) ∧ In1 w (raw l[j].name) (.slice A1 l[j].name.length c1) := by
  obtain ⟨F, h⟩ := h
  obtain ⟨b, off, c, us, Fj, e, hl, hr, hi, _⟩ := h.elem (fun x : DTold => x.cells_len) hj
  obtain ⟨A1, c1, rfl, i1⟩ := DTold.view ⟨Fj, hi⟩
  refine ⟨b, off, c, A1, c1, e, (fun e2 => by rw [e] at e2; injection e2 with e2; exact e2.symm), hl, ?_, ?_, i1⟩
  · exact (hb.cell (p := ⟨b, off + j * 2 + 0, none⟩) hl).trans (hr 0 _ rfl)
  · exact (hb.cell (p := ⟨b, off + j * 2 + 1, none⟩) hl).trans (hr 1 _ rfl)

end Go.Proofs.YtigklnokgmcifaaDoor


/-
  From the laws' data that come in to data of Lean.
-/
namespace Go.Proofs.YtigklnokgmcifaaDoor
open Go.ChangeShapes Go.WideShapes Go.ChangeAt Go.RowKit
set_option linter.unusedVariables false
set_option linter.unusedSimpArgs false
section
variable {H : Type} {enc : TypeId × Value → H} {W : World}
theorem names_of_trod' {fuel : Nat} {v : Value} {x : DataW H × List MemPlace} (h : DataW.trod enc Tryd.prog W 0 (fun _ => true) true fuel 23 [v] = some x) : ∃ l : List (List Int), (names l).ok ∧ ∃ F, Lie W (names l) v F :=
  row_of_trod (α := List Int) (f := fun n => [raw n]) (n := 1) Tryd.underlying23 (by kernel_rfl) (by decide) (by decide) (fun m _ cs x hx => by
    rcases cs with _ | ⟨u, _ | ⟨u2, cs⟩⟩
    · exact absurd (DataW.trod_slice Tryd.underlying22 hx) (by rintro (⟨h, _⟩ | ⟨_, _, _, _, _, _, _, h, _⟩) <;> cases h)
    · obtain ⟨l, h1, F, h2⟩ := raw_of_trod hx
      exact ⟨l, by rw [oks]; exact ⟨h1, trivial⟩, F, lies_one h2⟩
    · exact absurd (DataW.trod_slice Tryd.underlying22 hx) (by rintro (⟨h, _⟩ | ⟨_, _, _, _, _, _, _, h, _⟩) <;> cases h)) h
theorem ints_of_trod {fuel : Nat} {v : Value} {x : DataW H × List MemPlace} (h : DataW.trod enc Tryd.prog W 0 (fun _ => true) true fuel 123 [v] = some x) : ∃ l : List Int, (ints l).ok ∧ ∃ F, Lie W (ints l) v F := by
  obtain ⟨l, h1, F, h2⟩ := row_of_trod (α := Int) (f := fun x => [Cel.num .i64 x]) (n := 1) Tryd.underlying123 (by kernel_rfl) (by decide) (by decide) (fun m _ cs x hx => by
    obtain ⟨k, rfl, _, hw⟩ := DataW.trod_int Tryd.underlying3 hx
    exact ⟨k, by rw [oks]; exact ⟨(num_ok_i64 k).2 (i64_of_wf hw), trivial⟩, [], lies_one (lie_num _ _ _)⟩) h
  exact ⟨l, by rw [ints_eq]; exact h1, F, by rw [ints_eq]; exact h2⟩
set_option maxRecDepth 100000 in
theorem Tree_of_trod (fuel : Nat) : ∀ (cs : List Value) (x : DataW H × List MemPlace), DataW.trod enc Tryd.prog W 0 (fun _ => true) true fuel 26 cs = some x → ∃ a : T, oks a.cells ∧ ∃ F, Lies W a.cells cs F := by
  induction fuel using Nat.strongRecOn with
  | ind fuel ih =>
    intro cs x h
    obtain ⟨xs, n, hfu, hx, hlen, hxl, hf⟩ := DataW.trod_struct Tryd.underlying26 h
    have hC : Program.cellsOf Tryd.prog 26 = 4 := by kernel_rfl
    rw [hC] at hlen
    match cs, hlen, xs, hxl with
    | [c0, c1, c2, c3], _, [y0, y1, y2, y3], _ =>
      have C0 : Program.cellsOf Tryd.prog 3 = 1 := by kernel_rfl
      have f0 : DataW.trod enc Tryd.prog W 0 (fun _ => true) true n 3 (([c0, c1, c2, c3].drop 0).take (Program.cellsOf Tryd.prog 3)) = some y0 := hf 0 _ rfl
      rw [C0] at f0
      replace f0 : DataW.trod enc Tryd.prog W 0 (fun _ => true) true n 3 [c0] = some y0 := f0
      have C1 : Program.cellsOf Tryd.prog 22 = 1 := by kernel_rfl
      have f1 : DataW.trod enc Tryd.prog W 0 (fun _ => true) true n 22 (([c0, c1, c2, c3].drop 1).take (Program.cellsOf Tryd.prog 22)) = some y1 := hf 1 _ rfl
      rw [C1] at f1
      replace f1 : DataW.trod enc Tryd.prog W 0 (fun _ => true) true n 22 [c1] = some y1 := f1
      have C2 : Program.cellsOf Tryd.prog 23 = 1 := by kernel_rfl
      have f2 : DataW.trod enc Tryd.prog W 0 (fun _ => true) true n 23 (([c0, c1, c2, c3].drop 2).take (Program.cellsOf Tryd.prog 23)) = some y2 := hf 2 _ rfl
      rw [C2] at f2
      replace f2 : DataW.trod enc Tryd.prog W 0 (fun _ => true) true n 23 [c2] = some y2 := f2
      have C3 : Program.cellsOf Tryd.prog 24 = 1 := by kernel_rfl
      have f3 : DataW.trod enc Tryd.prog W 0 (fun _ => true) true n 24 (([c0, c1, c2, c3].drop 3).take (Program.cellsOf Tryd.prog 24)) = some y3 := hf 3 _ rfl
      rw [C3] at f3
      replace f3 : DataW.trod enc Tryd.prog W 0 (fun _ => true) true n 24 [c3] = some y3 := f3
      obtain ⟨k0, e0, _, w0⟩ := DataW.trod_int Tryd.underlying3 f0
      obtain rfl := List.singleton_inj.1 e0
      obtain ⟨k1, o1, F1, l1⟩ := raw_of_trod f1
      obtain ⟨k2, o2, F2, l2⟩ := names_of_trod' f2
      obtain ⟨k3, o3, F3, l3⟩ := row_of_trod (α := T) (f := T.cells) (n := 4) Tryd.underlying24 (by kernel_rfl) (by decide) (by decide) (fun m hm cs x hx => ih m (by omega) cs x hx) f3
      refine ⟨T.node k0 k1 k2 k3, ?_, ?_⟩
      · rw [T.cells_top]
        simp only [oks, oks_app]
        exact ⟨(num_ok_i64 k0).2 (i64_of_wf w0), o1, o2, o3, trivial⟩
      · rw [T.cells_top]
        exact ⟨_, ((lies_one (lie_num W .i64 k0)).append ((lies_one l1).append ((lies_one l2).append (lies_one l3))))⟩
theorem TreeS_of_trod {fuel : Nat} {v : Value} {x : DataW H × List MemPlace} (h : DataW.trod enc Tryd.prog W 0 (fun _ => true) true fuel 24 [v] = some x) : ∃ l : List T, (seqOf 4 T.cells l).ok ∧ ∃ F, Lie W (seqOf 4 T.cells l) v F :=
  row_of_trod (α := T) (f := T.cells) (n := 4) Tryd.underlying24 (by kernel_rfl) (by decide) (by decide) (fun m _ cs x hx => Tree_of_trod m cs x hx) h
set_option maxRecDepth 100000 in
theorem Op_of_trod (fuel : Nat) : ∀ (cs : List Value) (x : DataW H × List MemPlace), DataW.trod enc Tryd.prog W 0 (fun _ => true) true fuel 102 cs = some x → ∃ a : DOp, oks a.cells ∧ ∃ F, Lies W a.cells cs F := by
    intro cs x h
    obtain ⟨xs, n, hfu, hx, hlen, hxl, hf⟩ := DataW.trod_struct Tryd.underlying102 h
    have hC : Program.cellsOf Tryd.prog 102 = 5 := by kernel_rfl
    rw [hC] at hlen
    match cs, hlen, xs, hxl with
    | [c0, c1, c2, c3, c4], _, [y0, y1, y2, y3, y4], _ =>
      have C0 : Program.cellsOf Tryd.prog 3 = 1 := by kernel_rfl
      have f0 : DataW.trod enc Tryd.prog W 0 (fun _ => true) true n 3 (([c0, c1, c2, c3, c4].drop 0).take (Program.cellsOf Tryd.prog 3)) = some y0 := hf 0 _ rfl
      rw [C0] at f0
      replace f0 : DataW.trod enc Tryd.prog W 0 (fun _ => true) true n 3 [c0] = some y0 := f0
      have C1 : Program.cellsOf Tryd.prog 3 = 1 := by kernel_rfl
      have f1 : DataW.trod enc Tryd.prog W 0 (fun _ => true) true n 3 (([c0, c1, c2, c3, c4].drop 1).take (Program.cellsOf Tryd.prog 3)) = some y1 := hf 1 _ rfl
      rw [C1] at f1
      replace f1 : DataW.trod enc Tryd.prog W 0 (fun _ => true) true n 3 [c1] = some y1 := f1
      have C2 : Program.cellsOf Tryd.prog 22 = 1 := by kernel_rfl
      have f2 : DataW.trod enc Tryd.prog W 0 (fun _ => true) true n 22 (([c0, c1, c2, c3, c4].drop 2).take (Program.cellsOf Tryd.prog 22)) = some y2 := hf 2 _ rfl
      rw [C2] at f2
      replace f2 : DataW.trod enc Tryd.prog W 0 (fun _ => true) true n 22 [c2] = some y2 := f2
      have C3 : Program.cellsOf Tryd.prog 22 = 1 := by kernel_rfl
      have f3 : DataW.trod enc Tryd.prog W 0 (fun _ => true) true n 22 (([c0, c1, c2, c3, c4].drop 3).take (Program.cellsOf Tryd.prog 22)) = some y3 := hf 3 _ rfl
      rw [C3] at f3
      replace f3 : DataW.trod enc Tryd.prog W 0 (fun _ => true) true n 22 [c3] = some y3 := f3
      have C4 : Program.cellsOf Tryd.prog 3 = 1 := by kernel_rfl
      have f4 : DataW.trod enc Tryd.prog W 0 (fun _ => true) true n 3 (([c0, c1, c2, c3, c4].drop 4).take (Program.cellsOf Tryd.prog 3)) = some y4 := hf 4 _ rfl
      rw [C4] at f4
      replace f4 : DataW.trod enc Tryd.prog W 0 (fun _ => true) true n 3 [c4] = some y4 := f4
      obtain ⟨k0, e0, _, w0⟩ := DataW.trod_int Tryd.underlying3 f0
      obtain rfl := List.singleton_inj.1 e0
      obtain ⟨k1, e1, _, w1⟩ := DataW.trod_int Tryd.underlying3 f1
      obtain rfl := List.singleton_inj.1 e1
      obtain ⟨k2, o2, F2, l2⟩ := raw_of_trod f2
      obtain ⟨k3, o3, F3, l3⟩ := raw_of_trod f3
      obtain ⟨k4, e4, _, w4⟩ := DataW.trod_int Tryd.underlying3 f4
      obtain rfl := List.singleton_inj.1 e4
      refine ⟨⟨k0, k1, k2, k3, k4⟩, ?_, ?_⟩
      · rw [DOp.cells_top]
        simp only [oks, oks_app]
        exact ⟨(num_ok_i64 k0).2 (i64_of_wf w0), (num_ok_i64 k1).2 (i64_of_wf w1), o2, o3, (num_ok_i64 k4).2 (i64_of_wf w4), trivial⟩
      · rw [DOp.cells_top]
        exact ⟨_, ((lies_one (lie_num W .i64 k0)).append ((lies_one (lie_num W .i64 k1)).append ((lies_one l2).append ((lies_one l3).append (lies_one (lie_num W .i64 k4))))))⟩
theorem OpS_of_trod {fuel : Nat} {v : Value} {x : DataW H × List MemPlace} (h : DataW.trod enc Tryd.prog W 0 (fun _ => true) true fuel 40 [v] = some x) : ∃ l : List DOp, (seqOf 5 DOp.cells l).ok ∧ ∃ F, Lie W (seqOf 5 DOp.cells l) v F :=
  row_of_trod (α := DOp) (f := DOp.cells) (n := 5) Tryd.underlying40 (by kernel_rfl) (by decide) (by decide) (fun m _ cs x hx => Op_of_trod m cs x hx) h
set_option maxRecDepth 100000 in
theorem In_of_trod (fuel : Nat) : ∀ (cs : List Value) (x : DataW H × List MemPlace), DataW.trod enc Tryd.prog W 0 (fun _ => true) true fuel 99 cs = some x → ∃ a : DIn, oks a.cells ∧ ∃ F, Lies W a.cells cs F := by
    intro cs x h
    obtain ⟨xs, n, hfu, hx, hlen, hxl, hf⟩ := DataW.trod_struct Tryd.underlying99 h
    have hC : Program.cellsOf Tryd.prog 99 = 2 := by kernel_rfl
    rw [hC] at hlen
    match cs, hlen, xs, hxl with
    | [c0, c1], _, [y0, y1], _ =>
      have C0 : Program.cellsOf Tryd.prog 22 = 1 := by kernel_rfl
      have f0 : DataW.trod enc Tryd.prog W 0 (fun _ => true) true n 22 (([c0, c1].drop 0).take (Program.cellsOf Tryd.prog 22)) = some y0 := hf 0 _ rfl
      rw [C0] at f0
      replace f0 : DataW.trod enc Tryd.prog W 0 (fun _ => true) true n 22 [c0] = some y0 := f0
      have C1 : Program.cellsOf Tryd.prog 22 = 1 := by kernel_rfl
      have f1 : DataW.trod enc Tryd.prog W 0 (fun _ => true) true n 22 (([c0, c1].drop 1).take (Program.cellsOf Tryd.prog 22)) = some y1 := hf 1 _ rfl
      rw [C1] at f1
      replace f1 : DataW.trod enc Tryd.prog W 0 (fun _ => true) true n 22 [c1] = some y1 := f1
      obtain ⟨k0, o0, F0, l0⟩ := raw_of_trod f0
      obtain ⟨k1, o1, F1, l1⟩ := raw_of_trod f1
      refine ⟨⟨k0, k1⟩, ?_, ?_⟩
      · rw [DIn.cells_top]
        simp only [oks, oks_app]
        exact ⟨o0, o1, trivial⟩
      · rw [DIn.cells_top]
        exact ⟨_, ((lies_one l0).append (lies_one l1))⟩
theorem InS_of_trod {fuel : Nat} {v : Value} {x : DataW H × List MemPlace} (h : DataW.trod enc Tryd.prog W 0 (fun _ => true) true fuel 39 [v] = some x) : ∃ l : List DIn, (seqOf 2 DIn.cells l).ok ∧ ∃ F, Lie W (seqOf 2 DIn.cells l) v F :=
  row_of_trod (α := DIn) (f := DIn.cells) (n := 2) Tryd.underlying39 (by kernel_rfl) (by decide) (by decide) (fun m _ cs x hx => In_of_trod m cs x hx) h
set_option maxRecDepth 100000 in
theorem Obj_of_trod (fuel : Nat) : ∀ (cs : List Value) (x : DataW H × List MemPlace), DataW.trod enc Tryd.prog W 0 (fun _ => true) true fuel 28 cs = some x → ∃ a : DObj, oks a.cells ∧ ∃ F, Lies W a.cells cs F := by
    intro cs x h
    obtain ⟨xs, n, hfu, hx, hlen, hxl, hf⟩ := DataW.trod_struct Tryd.underlying28 h
    have hC : Program.cellsOf Tryd.prog 28 = 9 := by kernel_rfl
    rw [hC] at hlen
    match cs, hlen, xs, hxl with
    | [c0, c1, c2, c3, c4, c5, c6, c7, c8], _, [y0, y1, y2, y3, y4, y5], _ =>
      have C0 : Program.cellsOf Tryd.prog 22 = 1 := by kernel_rfl
      have f0 : DataW.trod enc Tryd.prog W 0 (fun _ => true) true n 22 (([c0, c1, c2, c3, c4, c5, c6, c7, c8].drop 0).take (Program.cellsOf Tryd.prog 22)) = some y0 := hf 0 _ rfl
      rw [C0] at f0
      replace f0 : DataW.trod enc Tryd.prog W 0 (fun _ => true) true n 22 [c0] = some y0 := f0
      have C1 : Program.cellsOf Tryd.prog 3 = 1 := by kernel_rfl
      have f1 : DataW.trod enc Tryd.prog W 0 (fun _ => true) true n 3 (([c0, c1, c2, c3, c4, c5, c6, c7, c8].drop 1).take (Program.cellsOf Tryd.prog 3)) = some y1 := hf 1 _ rfl
      rw [C1] at f1
      replace f1 : DataW.trod enc Tryd.prog W 0 (fun _ => true) true n 3 [c1] = some y1 := f1
      have C2 : Program.cellsOf Tryd.prog 26 = 4 := by kernel_rfl
      have f2 : DataW.trod enc Tryd.prog W 0 (fun _ => true) true n 26 (([c0, c1, c2, c3, c4, c5, c6, c7, c8].drop 2).take (Program.cellsOf Tryd.prog 26)) = some y2 := hf 2 _ rfl
      rw [C2] at f2
      replace f2 : DataW.trod enc Tryd.prog W 0 (fun _ => true) true n 26 [c2, c3, c4, c5] = some y2 := f2
      have C3 : Program.cellsOf Tryd.prog 23 = 1 := by kernel_rfl
      have f3 : DataW.trod enc Tryd.prog W 0 (fun _ => true) true n 23 (([c0, c1, c2, c3, c4, c5, c6, c7, c8].drop 6).take (Program.cellsOf Tryd.prog 23)) = some y3 := hf 3 _ rfl
      rw [C3] at f3
      replace f3 : DataW.trod enc Tryd.prog W 0 (fun _ => true) true n 23 [c6] = some y3 := f3
      have C4 : Program.cellsOf Tryd.prog 22 = 1 := by kernel_rfl
      have f4 : DataW.trod enc Tryd.prog W 0 (fun _ => true) true n 22 (([c0, c1, c2, c3, c4, c5, c6, c7, c8].drop 7).take (Program.cellsOf Tryd.prog 22)) = some y4 := hf 4 _ rfl
      rw [C4] at f4
      replace f4 : DataW.trod enc Tryd.prog W 0 (fun _ => true) true n 22 [c7] = some y4 := f4
      have C5 : Program.cellsOf Tryd.prog 22 = 1 := by kernel_rfl
      have f5 : DataW.trod enc Tryd.prog W 0 (fun _ => true) true n 22 (([c0, c1, c2, c3, c4, c5, c6, c7, c8].drop 8).take (Program.cellsOf Tryd.prog 22)) = some y5 := hf 5 _ rfl
      rw [C5] at f5
      replace f5 : DataW.trod enc Tryd.prog W 0 (fun _ => true) true n 22 [c8] = some y5 := f5
      obtain ⟨k0, o0, F0, l0⟩ := raw_of_trod f0
      obtain ⟨k1, e1, _, w1⟩ := DataW.trod_int Tryd.underlying3 f1
      obtain rfl := List.singleton_inj.1 e1
      obtain ⟨k2, o2, F2, l2⟩ := Tree_of_trod _ _ _ f2
      obtain ⟨k3, o3, F3, l3⟩ := names_of_trod' f3
      obtain ⟨k4, o4, F4, l4⟩ := raw_of_trod f4
      obtain ⟨k5, o5, F5, l5⟩ := raw_of_trod f5
      refine ⟨⟨k0, k1, k2, k3, k4, k5⟩, ?_, ?_⟩
      · rw [DObj.cells_top]
        simp only [oks, oks_app]
        exact ⟨o0, (num_ok_i64 k1).2 (i64_of_wf w1), o2, o3, o4, o5, trivial⟩
      · rw [DObj.cells_top]
        exact ⟨_, ((lies_one l0).append ((lies_one (lie_num W .i64 k1)).append (l2.append ((lies_one l3).append ((lies_one l4).append (lies_one l5))))))⟩
set_option maxRecDepth 100000 in
theorem Drv_of_trod (fuel : Nat) : ∀ (cs : List Value) (x : DataW H × List MemPlace), DataW.trod enc Tryd.prog W 0 (fun _ => true) true fuel 42 cs = some x → ∃ a : DDrv, oks a.cells ∧ ∃ F, Lies W a.cells cs F := by
    intro cs x h
    obtain ⟨xs, n, hfu, hx, hlen, hxl, hf⟩ := DataW.trod_struct Tryd.underlying42 h
    have hC : Program.cellsOf Tryd.prog 42 = 4 := by kernel_rfl
    rw [hC] at hlen
    match cs, hlen, xs, hxl with
    | [c0, c1, c2, c3], _, [y0, y1, y2, y3], _ =>
      have C0 : Program.cellsOf Tryd.prog 23 = 1 := by kernel_rfl
      have f0 : DataW.trod enc Tryd.prog W 0 (fun _ => true) true n 23 (([c0, c1, c2, c3].drop 0).take (Program.cellsOf Tryd.prog 23)) = some y0 := hf 0 _ rfl
      rw [C0] at f0
      replace f0 : DataW.trod enc Tryd.prog W 0 (fun _ => true) true n 23 [c0] = some y0 := f0
      have C1 : Program.cellsOf Tryd.prog 39 = 1 := by kernel_rfl
      have f1 : DataW.trod enc Tryd.prog W 0 (fun _ => true) true n 39 (([c0, c1, c2, c3].drop 1).take (Program.cellsOf Tryd.prog 39)) = some y1 := hf 1 _ rfl
      rw [C1] at f1
      replace f1 : DataW.trod enc Tryd.prog W 0 (fun _ => true) true n 39 [c1] = some y1 := f1
      have C2 : Program.cellsOf Tryd.prog 23 = 1 := by kernel_rfl
      have f2 : DataW.trod enc Tryd.prog W 0 (fun _ => true) true n 23 (([c0, c1, c2, c3].drop 2).take (Program.cellsOf Tryd.prog 23)) = some y2 := hf 2 _ rfl
      rw [C2] at f2
      replace f2 : DataW.trod enc Tryd.prog W 0 (fun _ => true) true n 23 [c2] = some y2 := f2
      have C3 : Program.cellsOf Tryd.prog 40 = 1 := by kernel_rfl
      have f3 : DataW.trod enc Tryd.prog W 0 (fun _ => true) true n 40 (([c0, c1, c2, c3].drop 3).take (Program.cellsOf Tryd.prog 40)) = some y3 := hf 3 _ rfl
      rw [C3] at f3
      replace f3 : DataW.trod enc Tryd.prog W 0 (fun _ => true) true n 40 [c3] = some y3 := f3
      obtain ⟨k0, o0, F0, l0⟩ := names_of_trod' f0
      obtain ⟨k1, o1, F1, l1⟩ := InS_of_trod f1
      obtain ⟨k2, o2, F2, l2⟩ := names_of_trod' f2
      obtain ⟨k3, o3, F3, l3⟩ := OpS_of_trod f3
      refine ⟨⟨k0, k1, k2, k3⟩, ?_, ?_⟩
      · rw [DDrv.cells_top]
        simp only [oks, oks_app]
        exact ⟨o0, o1, o2, o3, trivial⟩
      · rw [DDrv.cells_top]
        exact ⟨_, ((lies_one l0).append ((lies_one l1).append ((lies_one l2).append (lies_one l3))))⟩
end
end Go.Proofs.YtigklnokgmcifaaDoor


/-
  The numbers of a struct lie in their bounds: field by field.
-/
namespace Go.Proofs.YtigklnokgmcifaaDoor
open Go.RowKit
set_option linter.unusedVariables false
set_option linter.unusedSimpArgs false

theorem flag_okT (b : Bool) : (Cel.flag b).ok ↔ True := by rw [Cel.ok]

theorem T.oks_iff (x : T) : oks x.cells ↔ (-9223372036854775808 ≤ x.kind ∧ x.kind ≤ 9223372036854775807) ∧ Byt x.data ∧ BytN x.names ∧ (∀ y ∈ x.kids, oks y.cells) := by
  rw [x.cells_top]
  simp only [oks, oks_app, num_ok_i64, raw_ok, names_ok, ints_ok, seqOf_ok, flag_okT, BytN, and_true, true_and, and_assoc]
theorem DReal.oks_iff (x : DReal) : oks x.cells ↔ Byt x.drv ∧ Byt x.out ∧ Byt x.path := by
  rw [x.cells_top]
  simp only [oks, oks_app, num_ok_i64, raw_ok, names_ok, ints_ok, seqOf_ok, flag_okT, BytN, and_true, true_and, and_assoc]
theorem DOp.oks_iff (x : DOp) : oks x.cells ↔ (-9223372036854775808 ≤ x.code ∧ x.code ≤ 9223372036854775807) ∧ (-9223372036854775808 ≤ x.out ∧ x.out ≤ 9223372036854775807) ∧ Byt x.name ∧ Byt x.text ∧ (-9223372036854775808 ≤ x.arg ∧ x.arg ≤ 9223372036854775807) := by
  rw [x.cells_top]
  simp only [oks, oks_app, num_ok_i64, raw_ok, names_ok, ints_ok, seqOf_ok, flag_okT, BytN, and_true, true_and, and_assoc]
theorem DIn.oks_iff (x : DIn) : oks x.cells ↔ Byt x.drv ∧ Byt x.out := by
  rw [x.cells_top]
  simp only [oks, oks_app, num_ok_i64, raw_ok, names_ok, ints_ok, seqOf_ok, flag_okT, BytN, and_true, true_and, and_assoc]
theorem DObj.oks_iff (x : DObj) : oks x.cells ↔ Byt x.name ∧ (-9223372036854775808 ≤ x.kind ∧ x.kind ≤ 9223372036854775807) ∧ oks x.tree.cells ∧ BytN x.refs ∧ Byt x.frm ∧ Byt x.out := by
  rw [x.cells_top]
  simp only [oks, oks_app, num_ok_i64, raw_ok, names_ok, ints_ok, seqOf_ok, flag_okT, BytN, and_true, true_and, and_assoc]
theorem DDrv.oks_iff (x : DDrv) : oks x.cells ↔ BytN x.srcs ∧ (∀ y ∈ x.ins, oks y.cells) ∧ BytN x.outs ∧ (∀ y ∈ x.ops, oks y.cells) := by
  rw [x.cells_top]
  simp only [oks, oks_app, num_ok_i64, raw_ok, names_ok, ints_ok, seqOf_ok, flag_okT, BytN, and_true, true_and, and_assoc]
theorem DStore.oks_iff (x : DStore) : oks x.cells ↔ (∀ y ∈ x.objs, oks y.cells) ∧ BytN x.roots ∧ (∀ y ∈ x.reals, oks y.cells) := by
  rw [x.cells_top]
  simp only [oks, oks_app, num_ok_i64, raw_ok, names_ok, ints_ok, seqOf_ok, flag_okT, BytN, and_true, true_and, and_assoc]
theorem DJob.oks_iff (x : DJob) : oks x.cells ↔ oks x.d.cells ∧ Byt x.name ∧ (-9223372036854775808 ≤ x.pc ∧ x.pc ≤ 9223372036854775807) ∧ BytN x.args ∧ (∀ y ∈ x.outs, oks y.cells) := by
  rw [x.cells_top]
  simp only [oks, oks_app, num_ok_i64, raw_ok, names_ok, ints_ok, seqOf_ok, flag_okT, BytN, and_true, true_and, and_assoc]
theorem DGoal.oks_iff (x : DGoal) : oks x.cells ↔ Byt x.drv ∧ (-9223372036854775808 ≤ x.state ∧ x.state ≤ 9223372036854775807) ∧ (-9223372036854775808 ≤ x.err ∧ x.err ≤ 9223372036854775807) ∧ True ∧ oks x.job.cells ∧ BytN x.need := by
  rw [x.cells_top]
  simp only [oks, oks_app, num_ok_i64, raw_ok, names_ok, ints_ok, seqOf_ok, flag_okT, BytN, and_true, true_and, and_assoc]
theorem DEngine.oks_iff (x : DEngine) : oks x.cells ↔ oks x.store.cells ∧ (∀ y ∈ x.goals, oks y.cells) := by
  rw [x.cells_top]
  simp only [oks, oks_app, num_ok_i64, raw_ok, names_ok, ints_ok, seqOf_ok, flag_okT, BytN, and_true, true_and, and_assoc]
theorem DReg.oks_iff (x : DReg) : oks x.cells ↔ (-9223372036854775808 ≤ x.kind ∧ x.kind ≤ 9223372036854775807) ∧ oks x.obj.cells ∧ oks x.real.cells ∧ Byt x.name := by
  rw [x.cells_top]
  simp only [oks, oks_app, num_ok_i64, raw_ok, names_ok, ints_ok, seqOf_ok, flag_okT, BytN, and_true, true_and, and_assoc]
theorem DJournal.oks_iff (x : DJournal) : oks x.cells ↔ oks x.base.cells ∧ (∀ y ∈ x.regs, oks y.cells) ∧ (-9223372036854775808 ≤ x.safe ∧ x.safe ≤ 9223372036854775807) := by
  rw [x.cells_top]
  simp only [oks, oks_app, num_ok_i64, raw_ok, names_ok, ints_ok, seqOf_ok, flag_okT, BytN, and_true, true_and, and_assoc]
theorem DCmd.oks_iff (x : DCmd) : oks x.cells ↔ (-9223372036854775808 ≤ x.kind ∧ x.kind ≤ 9223372036854775807) ∧ Byt x.text ∧ oks x.tree.cells ∧ Byt x.name ∧ Byt x.out ∧ (∀ y ∈ x.picks, -9223372036854775808 ≤ y ∧ y ≤ 9223372036854775807) ∧ (-9223372036854775808 ≤ x.keep ∧ x.keep ≤ 9223372036854775807) := by
  rw [x.cells_top]
  simp only [oks, oks_app, num_ok_i64, raw_ok, names_ok, ints_ok, seqOf_ok, flag_okT, BytN, and_true, true_and, and_assoc]
theorem DTold.oks_iff (x : DTold) : oks x.cells ↔ (-9223372036854775808 ≤ x.code ∧ x.code ≤ 9223372036854775807) ∧ Byt x.name := by
  rw [x.cells_top]
  simp only [oks, oks_app, num_ok_i64, raw_ok, names_ok, ints_ok, seqOf_ok, flag_okT, BytN, and_true, true_and, and_assoc]

end Go.Proofs.YtigklnokgmcifaaDoor


/-
  The model's Mentions.
-/
namespace Go.Proofs.YtigklnokgmcifaaDoor
open Go.RowKit
set_option linter.unusedVariables false

set_option maxRecDepth 20000 in
set_option maxHeartbeats 800000 in
theorem specMent (b n : List Int) (hB : Byt b) (hN : Byt n) (h0 : 0 < n.length) (vb vn : Value) (w : World) (hb : Rd w vb (bs b)) (hn : Rd w vn (bs n)) (hl : b.length ≤ 1099511627776) (hln : n.length ≤ 1099511627776) :
    Calls Tryd.prog 31 #[vb, vn] w fun e w' => e = .returned (.bool (contL b n)) ∧ Below w.heap.size w w' := by
  obtain ⟨A, c, rfl, hc1, hc2, hrd⟩ := hb
  obtain ⟨A', c', hV', hc1', hc2', _⟩ := id hn
  rw [bs_length] at *
  subst hV'
  have HC2 := hide hc2
  unfold maxLen at hc2 hc2'
  obtain ⟨N, hNl⟩ : ∃ N, n.length = N := ⟨_, rfl⟩
  obtain ⟨M, hMl⟩ : ∃ M, b.length = M := ⟨_, rfl⟩
  obtain ⟨R, hR⟩ : ∃ R, contL b n = R := ⟨_, rfl⟩
  have HR : Hid (contF b n (b.length + 1 - 0) 0 = R) := by rw [← hR, contL]; exact hide rfl
  rw [hR]
  rw [hNl] at hn hc1' h0 hln ⊢
  rw [hMl] at hc1 hl hrd ⊢
  have HN := hide hn
  have HRD := hide hrd
  have HNL := hide hNl
  have HML := hide hMl
  clear hR hn hrd hNl hMl
  go_enter Tryd.func31, Tryd.ntmps31
  go_wp2
  go_loopw [5] (fun i wr => ∃ k : Nat, k ≤ M + 1 ∧ i = .int .i64 k ∧ Hid (contF b n (b.length + 1 - k) k = R) ∧ Below w.heap.size w wr) (fun i _ => M + 1 - (intOf i).toNat)
  case atStart => exact ⟨0, by omega, rfl, HR, Below.refl _ _⟩
  case round =>
    obtain ⟨k, hk, rfl, hx, hbel⟩ := hrel
    have HB := hide hbel
    by_cases hlt : k + N ≤ M
    · obtain ⟨bb, off, rfl, hblt, hcell⟩ := HRD.out (by omega)
      have hm := contF_more (b := b) (n := n) (k := k) (by rw [HML.out]; omega)
      rw [hx.out] at hm
      have r1 : ∀ m, Rd (wr.drewN m) (.slice (some ⟨bb, off + k, none⟩) N (c - k)) (bs ((b.drop k).take N)) := fun m => Rd.part (fun i u hu => (hbel.cell (p := ⟨bb, off + i, none⟩) hblt).trans (hcell i u hu)) (Nat.lt_of_lt_of_le hblt hbel.size) (by rw [HML.out]; exact hlt) (by rw [HML.out]; exact hc1) HC2.out rfl
      have r2 : ∀ m, Rd (wr.drewN m) (.slice A' N c') (bs n) := fun m => HN.out.below (below_drewN hbel m)
      have cw1 := fun m => conv_rd (P := Tryd.prog) Tryd.underlying22 Tryd.underlying5 Tryd.underlying9 (r1 m)
      have cw2 := fun m => conv_rd (P := Tryd.prog) Tryd.underlying22 Tryd.underlying5 Tryd.underlying9 (r2 m)
      have cv1 := cw1 0
      have cv2 := cw2 0
      have hpiece : ((strOfNums ((b.drop k).take N)).toList == (strOfNums n).toList) = atL b n k := by
        rw [atL]
        by_cases h : (b.drop k).take n.length = n
        · rw [HNL.out] at h ⊢
          rw [h, decide_eq_true ⟨by rw [HML.out]; exact hlt, rfl⟩]; simp
        · rw [decide_eq_false (fun h2 => h h2.2)]
          simp only [beq_eq_false_iff_ne]
          intro e
          refine h ?_
          rw [HNL.out]
          exact str_inj ((hB.drop k).take _) hN e
      have k0 : (k : Int) + (N : Int) ≤ (M : Int) := by omega
      have k1 : (k : Int) + (N : Int) ≤ (c : Int) := by omega
      have k2 : IntKind.i64.wrap ((k : Int) + (N : Int)) = (k : Int) + (N : Int) := IntWalk.i64_in _ (by omega)
      have k3 : (0 : Int) ≤ (k : Int) := by omega
      have k4 : (k : Int).toNat = k := by omega
      have k5 : ((k : Int) + (N : Int)).toNat = k + N := by omega
      have k6 : k + N - k = N := by omega
      have k7 : (k : Int) ≤ (k : Int) + (N : Int) := by omega
      have k8 : ¬ c = k := by omega
      have HM := hide hm
      clear hm hbel hcell r1 r2
      generalize strOfNums ((b.drop k).take N) = s1 at *
      generalize strOfNums n = s2 at *
      cases hat : atL b n k with
      | true =>
        rw [hat] at hpiece
        have hR1 : R = true := by have := HM.out; rw [hat] at this; simpa using this
        have HR1 := hide hR1
        clear hR1 hat
        go_upto_region 4 with (fail)
        go_quiet (fail)
        go_wp2
        go_ret
        exact ⟨ret_bool HR1.out.symm, below_drewN HB.out _⟩
      | false =>
        rw [hat] at hpiece
        have hm2 : contF b n (b.length + 1 - (k + 1)) (k + 1) = R := by have := HM.out; rw [hat] at this; simpa using this.symm
        have HM2 := hide hm2
        clear hm2 hat
        go_upto_region 4 with (fail)
        go_quiet (fail)
        go_wp2
        go_roundw
        case rel => exact ⟨k + 1, by omega, by go_num, HM2, below_drewN HB.out _⟩
        case measure => simp [intOf]; omega
    · have hR1 : R = false := by rw [← hx.out, contF_end (by rw [HML.out, HNL.out]; omega)]
      have HR1 := hide hR1
      have k0 : ¬ (k : Int) + (N : Int) ≤ (M : Int) := by omega
      clear hR1 hbel
      go_wp2
      go_ret
      exact ⟨ret_bool HR1.out.symm, HB.out⟩

end Go.Proofs.YtigklnokgmcifaaDoor


/-
  The program's placesByStart.
-/
namespace Go.Proofs.YtigklnokgmcifaaDoor
open Go.RowKit Go.Maps Go.ChangeShapes Go.WideMaps
set_option linter.unusedVariables false

set_option maxRecDepth 100000 in
set_option maxHeartbeats 1600000 in
theorem implPlaces {H : Type} (ns : List (List Int)) (h4 : ∀ n ∈ ns, 4 ≤ n.length ∧ Byt n) (v : Value) (w : World) (hv : RdN w v ns) (hn : ns.length ≤ 1048576) :
    Calls Tryd.prog 102 #[v] w fun e w' => e = .returned (.map (some w.heap.size)) ∧ (∃ D : DataW H, w'.ownsGroups Tryd.prog 9 (w.heap.size + 1) 3 .i64 w.heap.size ns.length D ∧ Grp D ns ns.length) ∧ Below w.heap.size w w' ∧ w.heap.size + 1 ≤ w'.heap.size := by
  have hmm := @run_makeMap Tryd.prog
  obtain ⟨i0, hi, hz0, hz1, hz2⟩ := info_parts intsInfo
  obtain ⟨A, c, rfl, hc1, hc2⟩ := names_len hv
  obtain ⟨N, hN⟩ : ∃ N, ns.length = N := ⟨_, rfl⟩
  rw [hN] at hc1 hv hn ⊢
  unfold maxLen at hc2
  have HNL := hide hN
  have HNN := hide hv
  have H4 := hide h4
  clear hN hv h4
  go_enter Tryd.func102, Tryd.ntmps102
  go_wp2
  go_loopw [10] (fun i wr => ∃ k : Nat, k ≤ N ∧ i = .int .i64 k ∧ Hid (∃ D : DataW H, wr.ownsGroups Tryd.prog 9 (w.heap.size + 1) 3 .i64 w.heap.size k D ∧ Grp D ns k) ∧ Below w.heap.size w wr ∧ w.heap.size + 1 ≤ wr.heap.size)
    (fun i _ => N - (intOf i).toNat)
  case atStart => exact ⟨0, Nat.zero_le _, rfl, hide ⟨_, World.ownsGroups_made _ _ _ _ _, Grp.nil ns⟩, (Below.refl _ _).alloc (Nat.le_refl _) _, by simp⟩
  case round =>
    obtain ⟨k, hk, rfl, HO, hnx, hws⟩ := hrel
    by_cases hlt : k < N
    · have hkn : k < ns.length := by rw [HNL.out]; exact hlt
      obtain ⟨b, off, x, hA', hblt, cx, rx⟩ := HNN.out.get hkn
      subst hA'
      have q1 := (hnx.cell (p := ⟨b, off + k, none⟩) hblt).trans cx
      have rr1 := rx.below hnx
      have hmk : ns.getD k [] ∈ ns := by simp [List.getD, List.getElem?_eq_getElem hkn]
      obtain ⟨hl4, hBn⟩ := H4.out _ hmk
      obtain ⟨D, hown, hgrp⟩ := HO.out
      obtain ⟨s, hs⟩ : ∃ s, s = (ns.getD k []).take 4 := ⟨_, rfl⟩
      have hsB : Byt s := by rw [hs]; exact fun y hy => hBn y (List.mem_of_mem_take hy)
      have hsl : s.length = 4 := by rw [hs, List.length_take]; omega
      obtain ⟨A1, c1, rfl, hd1, hd2, hrd⟩ := rr1
      rw [bs_length] at hd1 hrd q1
      obtain ⟨b1, o1, rfl, hb1, hcell⟩ := hrd (by omega)
      have hp : Rd wr (.slice (some ⟨b1, o1, none⟩) 4 c1) (bs s) := by
        have := Rd.part (w := wr) (k := 0) (n := 4) hcell hb1 (by omega) hd1 hd2 (n' := 4) rfl
        rw [hs]
        simpa using this
      have hcv := conv_rd (P := Tryd.prog) Tryd.underlying22 Tryd.underlying5 Tryd.underlying9 hp
      have hkey := keyOf_s (s := s) (by omega)
      have HG := hide hgrp
      have HK := hide hs.symm
      have HSB := hide hsB
      have HB := hide hnx
      have hcap4 : 4 ≤ c1 := by omega
      obtain ⟨L, hL⟩ : ∃ L, (ns.getD k []).length = L := ⟨_, rfl⟩
      rw [hL] at q1 hl4 hd1
      unfold maxLen at hd2
      clear hp hs hgrp hsB rx cx hcell hrd HO hsl hBn hmk hL
      go_wp2_with (first
        | (at_lookup; refine wpList_lookup_groups _ rfl _ _ 120 rfl 9 123 3 .i64 strLaw Tryd.underlying120 (intsZero _) (w.heap.size + 1) w.heap.size k _ rfl hown (by unfold maxLen; omega) _ _ rfl hkey ?_; intro v zs hat hoi hzl hback)
        | (at_builtin; refine wpList_append_own_at _ rfl _ _ 123 rfl (w.heap.size + 1) 3 i0 (.int .i64 0) 1 8 Tryd.underlying123 hi hz0 hz1 hz2 rfl (by decide) _ _ _ rfl (hoi.1.alloc _) ⟨wr.heap.size, 0, none⟩ 1 1 [.int .i64 k] rfl rfl (cell_one_new _ _ _) (ints_oneCell .i64 [(k : Int)]) (by unfold maxLen; omega) (by omega) (by simp; omega) ?_; intro v' w1 hown' hgrow hnil hloc)
        | (at_mapUpdate; refine wpList_mapUpdate_back _ rfl _ _ _ 120 rfl hback rfl rfl rfl ((World.grownBy_alloc _ _ _).trans hgrow) (hoi.appended hown' (WalkArith.wf_i64 (by omega))) (by simp; omega) (hloc.imp id (fun h => ⟨_, h, by simp⟩)) ?_; intro w2 hown2 hgrow2))
      have hall := (World.grownBy_alloc wr _ _).trans hgrow
      have HS2 : Hid (∃ D : DataW H, w2.ownsGroups Tryd.prog 9 (w.heap.size + 1) 3 .i64 w.heap.size (k + 1) D ∧ Grp D ns (k + 1)) := hide (by
        have hd := (hoi.appended hown' (WalkArith.wf_i64 (by omega))).datum_pos (H := H) (by simp)
        have hg2 : Grp (D.put (keyS s) (rowDatum .i64 v' (zs ++ [(k : Int)]))) ns (k + 1) := by
          rw [hd, HG.out.row HSB.out hoi hat]
          exact HG.out.step HSB.out HK.out
        exact ⟨_, hown2, hg2⟩)
      have HB2 := hide (HB.out.groups hoi hall hgrow2 HB.out.size (Nat.le_succ _) (Nat.le_refl _))
      have HW2 := hide (Nat.le_trans hws (Nat.le_trans hall.size hgrow2.size))
      go_roundw
      case rel => exact ⟨k + 1, by omega, by go_num, HS2, HB2.out, HW2.out⟩
      case measure => simp [intOf]; omega
    · obtain rfl : k = N := by omega
      go_wp2
      go_ret
      exact ⟨rfl, HO.out, hnx, hws⟩

end Go.Proofs.YtigklnokgmcifaaDoor


/-
  The program's hash: the bytes of the result.
-/
namespace Go.Proofs.YtigklnokgmcifaaDoor
open Go.RowKit
set_option linter.unusedVariables false

set_option maxRecDepth 20000 in
set_option maxHeartbeats 1600000 in
theorem hashSum (ws : List Int) (h8 : ws.length = 8) (hu : U32 ws) (g : Nat) (w : World) (hg : At w g 135 (wd ws)) :
    Calls Tryd.prog 115 #[.pointer (some ⟨g, 0, none⟩)] w fun e w' => ∃ v', e = .returned v' ∧ Own 5 w.heap.size w'.heap.size w' v' (bs (outB ws)) ∧ Below w.heap.size w w' := by
  obtain ⟨i0, hi0, hz0, hz1, hz2⟩ := info_parts u8info
  have HG := hide hg
  have H8 := hide h8
  clear hg h8
  go_enter Tryd.func115, Tryd.ntmps115
  go_wp2
  go_loopw [3, 7] (fun v3 q wr => ∃ k : Nat, k ≤ 8 ∧ q = .int .i64 k ∧ wr.ownsRow w.heap.size 5 1 v3 (4 * k) (bs (outB (ws.take k))) ∧ Below w.heap.size w wr)
    (fun _ q _ => 8 - (intOf q).toNat)
  case atStart => exact ⟨0, by omega, rfl, own_cells (World.ownsRow_nil _ _ _ _) rfl, Below.refl _ _⟩
  case round =>
    obtain ⟨k, hk, rfl, hown, hbel⟩ := hrel
    have HO := hide hown
    have HB := hide hbel
    clear hown hbel
    have hsz := HB.out.size
    by_cases hlt : k < 8
    · have hc := (HG.out.below HB.out HG.out.lt).cell (i := k) (by rw [H8.out]; exact hlt)
      obtain ⟨x0, x1⟩ := hu.at_ k
      have hnx := outB_next (l := ws) (k := k) (by rw [H8.out]; exact hlt)
      generalize ws.getD k 0 = x at *
      have HN := hide hnx
      clear hnx
      go_wp2_with ((with_reducible refine at_slot 25 ?_); refine wpList_app _ rfl (.tmp 12) (.tmp 24) _ rfl w.heap.size 5 i0 _ 1 Tryd.underlying22 hi0 hz0 hz1 hz2 rfl _ _ _ rfl (HO.out.alloc _) _ _ rfl (rd_four _ _ _ _ _ _) (bs_one _) (by rw [bs_length]; simp only [maxLen, List.length_cons, List.length_nil]; omega) (by rw [bs_length]; simp only [List.length_cons, List.length_nil]; omega) (by simp; omega) ?_; intro v3 w3 own3 gr3)
      go_roundw
      case rel => exact ⟨k + 1, by omega, by go_num, own_len (own_cells own3 (by rw [HN.out, bs_append, show x / 16777216 % 256 = x / 16777216 by omega])) (by simp [bs]; omega), Below.row (HB.out.alloc hsz _) (by simp; omega) (HO.out.alloc _) gr3⟩
      case measure => simp [intOf]; omega
    · obtain rfl : k = 8 := by omega
      go_wp2
      go_ret
      have e : outB (ws.take 8) = outB ws := by rw [List.take_of_length_le (by rw [H8.out]; omega)]
      exact ⟨_, rfl, Own.of (own_cells HO.out (by rw [e])) (by rw [bs_length, outB_len, H8.out]), HB.out⟩

end Go.Proofs.YtigklnokgmcifaaDoor


/-
  The model's Sorted.
-/
namespace Go.Proofs.YtigklnokgmcifaaDoor
open Go.RowKit
set_option linter.unusedVariables false

set_option maxRecDepth 20000 in
set_option maxHeartbeats 1600000 in
theorem specSorted (ns : List (List Int)) (hB : BytN ns) (v : Value) (w : World) (hv : RdN w v ns) (hl : ∀ n ∈ ns, n.length ≤ 1048576) :
    Calls Tryd.prog 27 #[v] w fun e w' => e = .returned (.bool (ascP nameOk ns)) ∧ Below w.heap.size w w' := by
  obtain ⟨vs, A, c, hV, hc1, hc2, hvl⟩ : ∃ (vs : List Value) (A : Option Addr) (c : Nat), v = .slice A ns.length c ∧ ns.length ≤ c ∧ c ≤ maxLen ∧ vs.length = ns.length := by
    obtain ⟨vs, ⟨A, c, e, h1, h2, _⟩, h4, _⟩ := hv
    rw [h4] at e h1
    exact ⟨vs, A, c, e, h1, h2, h4⟩
  subst hV
  obtain ⟨N, hN⟩ : ∃ N, ns.length = N := ⟨_, rfl⟩
  rw [hN] at hc1 hv ⊢
  unfold maxLen at hc2
  have HNL := hide hN
  have HNN := hide hv
  have HBN := hide hB
  have HLL := hide hl
  obtain ⟨R, hR⟩ : ∃ R, ascP nameOk ns = R := ⟨_, rfl⟩
  rw [hR]
  have HR := hide hR
  clear hN hv hB hl hvl hR
  go_enter Tryd.func27, Tryd.ntmps27
  go_wp2
  go_loopw [3] (fun i wr => ∃ j : Nat, j ≤ N ∧ i = .int .i64 j ∧ Hid (∀ m, m < j → nameP nameOk ns m = true) ∧ Below w.heap.size w wr)
    (fun i _ => N - (intOf i).toNat)
  case atStart => exact ⟨0, Nat.zero_le _, rfl, hide (fun m hm => by omega), Below.refl _ _⟩
  case round =>
    obtain ⟨j, hj, rfl, HNM, hbel⟩ := hrel
    have HB := hide hbel
    by_cases hlt : j < N
    · have hjn : j < ns.length := by rw [HNL.out]; exact hlt
      obtain ⟨b, off, u, hA', hblt, cu, ru⟩ := HNN.out.get hjn
      subst hA'
      have q1 := (hbel.cell (p := ⟨b, off + j, none⟩) hblt).trans cu
      have rr1 := ru.below hbel
      have hmj : ns.getD j [] ∈ ns := by simp [List.getD, List.getElem?_eq_getElem hjn]
      have hBj : Byt (ns.getD j []) := HBN.out _ hmj
      have hLj := HLL.out _ hmj
      have hnm : nameP nameOk ns j = (nameOk (ns.getD j []) && (decide (j = 0) || lessL (ns.getD (j - 1) []) (ns.getD j []))) := rfl
      have hent : ∀ W, Rd W u (bs (ns.getD j [])) → Calls Tryd.prog 28 #[u] W fun e w' => e = .returned (.bool (nameOk (ns.getD j []))) ∧ ∃ m, w' = W.drewN m := fun W hr => (specNameQ (ns.getD j []) hBj u W hr (by omega)).mono fun e w' ⟨he, hw⟩ => ⟨he, 0, hw.symm⟩
      have k1 : (j : Int) < (N : Int) := by omega
      have k0 : (0 : Int) ≤ (j : Int) := by omega
      have k2 : (j : Int).toNat = j := by omega
      go_upto_region 4 with (fail)
      go_cut [33] (fun v wx => v = .bool (!nameP nameOk ns j) ∧ ∃ m, wx = wr.drewN m)
      case first =>
        have HE := hide hent
        have hq : ∀ m, Rd (wr.drewN m) u (bs (ns.getD j [])) := fun m => rr1
        have HQ := hide hq
        have HNA := hide hnm
        have hnn := HNN.out
        clear hent hq hnm
        cases he : nameOk (ns.getD j []) with
        | false =>
          rw [he] at HE HNA
          clear he hbel hnn
          go_quiet ((go_at_call 28; exact Calls.quiet_of (HE.out _ (HQ.out _))))
          go_wp2
          go_meet
          exact ⟨by rw [HNA.out]; rfl, _, rfl⟩
        | true =>
          rw [he, Bool.true_and] at HNA
          rw [he] at HE
          clear he
          by_cases hj0 : j = 0
          · subst hj0
            have q1' : wr.cell? ⟨b, off, none⟩ = some u := by simpa using q1
            clear hbel hnn
            go_quiet ((go_at_call 28; exact Calls.quiet_of (HE.out _ (HQ.out _))))
            go_wp2
            go_meet
            exact ⟨by rw [HNA.out]; rfl, _, rfl⟩
          · rw [decide_eq_false hj0, Bool.false_or] at HNA
            obtain ⟨b2, off2, u2, hA2, _, cu2, ru2⟩ := hnn.get (m := j - 1) (by omega)
            injection hA2 with hA3
            injection hA3 with hA4 hA5
            subst hA4 hA5
            have q2 := (hbel.cell (p := ⟨b, off + (j - 1), none⟩) hblt).trans cu2
            have rr2 := ru2.below hbel
            have hBi : Byt (ns.getD (j - 1) []) := HBN.out _ (by simp [List.getD, List.getElem?_eq_getElem (show j - 1 < ns.length by omega)])
            have cv1 := conv_rd (P := Tryd.prog) Tryd.underlying22 Tryd.underlying5 Tryd.underlying9 rr1
            have cv2 := conv_rd (P := Tryd.prog) Tryd.underlying22 Tryd.underlying5 Tryd.underlying9 rr2
            have cw1 := fun m => conv_rd (P := Tryd.prog) Tryd.underlying22 Tryd.underlying5 Tryd.underlying9 (show Rd (wr.drewN m) u (bs (ns.getD j [])) from rr1)
            have cw2 := fun m => conv_rd (P := Tryd.prog) Tryd.underlying22 Tryd.underlying5 Tryd.underlying9 (show Rd (wr.drewN m) u2 (bs (ns.getD (j - 1) [])) from rr2)
            have hls := less_str hBi hBj
            have k3 : (j : Int) - 1 < (N : Int) := by omega
            have k4 : (0 : Int) ≤ (j : Int) - 1 := by omega
            have k5 : ((j : Int) - 1).toNat = j - 1 := by omega
            have k6 : IntKind.i64.wrap ((j : Int) - 1) = (j : Int) - 1 := IntWalk.i64_in _ (by omega)
            have k7 : 0 < j := by omega
            generalize lessL (ns.getD (j - 1) []) (ns.getD j []) = L at *
            generalize strOfNums (ns.getD (j - 1) []) = s1 at *
            generalize strOfNums (ns.getD j []) = s2 at *
            clear hbel hnn rr2 hBi hBj hj0
            cases L with
            | true =>
              go_quiet ((go_at_call 28; exact Calls.quiet_of (HE.out _ (HQ.out _))))
              go_wp2
              go_meet
              exact ⟨by rw [HNA.out]; rfl, _, rfl⟩
            | false =>
              go_quiet ((go_at_call 28; exact Calls.quiet_of (HE.out _ (HQ.out _))))
              go_wp2
              go_meet
              exact ⟨by rw [HNA.out]; rfl, _, rfl⟩
      case rest =>
        obtain ⟨hv, m, hwm⟩ := hcut
        subst hwm
        have HB2 := hide (below_drewN hbel m)
        clear q1 cu ru rr1 hent hnm hBj hbel
        cases hna : nameP nameOk ns j with
        | false =>
          rw [hna] at hv
          subst hv
          have hm1 : R = false := by
            rw [← HR.out, Bool.eq_false_iff]
            intro h
            rw [ascP_at.1 h j hjn] at hna
            cases hna
          have HM1 := hide hm1
          clear hm1 hna
          go_wp2
          go_ret
          exact ⟨ret_bool HM1.out.symm, HB2.out⟩
        | true =>
          rw [hna] at hv
          subst hv
          have HNM2 : Hid (∀ m, m < j + 1 → nameP nameOk ns m = true) := hide (fun m hm => by
            by_cases h : m = j
            · subst h; exact hna
            · exact HNM.out m (by omega))
          clear hna
          go_wp2
          go_roundw
          case rel => exact ⟨j + 1, by omega, by go_num, HNM2, HB2.out⟩
          case measure => simp [intOf]; omega
    · obtain rfl : j = N := by omega
      have hm1 : R = true := by rw [← HR.out]; exact ascP_at.2 (fun m hm => HNM.out m (by rw [HNL.out] at hm; exact hm))
      have HM1 := hide hm1
      clear hm1 hbel
      go_wp2
      go_ret
      exact ⟨ret_bool HM1.out.symm, HB.out⟩

end Go.Proofs.YtigklnokgmcifaaDoor


/-
  Trees as cells, read as before.
-/
namespace Go.Proofs.YtigklnokgmcifaaDoor
open Go.RowKit
set_option linter.unusedVariables false

theorem Lies.trees {w : World} (ks : List T) (ih : ∀ t ∈ ks, ∀ us F, Lies w t.cells us F → ∃ q : Q, us = q.cells ∧ TIn w t q) : ∀ {us : List Value} {F : List Nat}, Lies w (T.cellss ks) us F → ∃ qs, us = qcells qs ∧ TIns w ks qs := by
  induction ks with
  | nil =>
    intro us F h
    rw [T.cellss, Lies] at h
    exact ⟨[], h.1, by rw [TIns]⟩
  | cons t ks ihk =>
    intro us F h
    rw [T.cellss] at h
    obtain ⟨ua, ub, Fa, Fb, rfl, rfl, h1, h2⟩ := h.parts
    obtain ⟨q, rfl, hq⟩ := ih t (List.mem_cons_self ..) _ _ h1
    obtain ⟨qs, rfl, hqs⟩ := ihk (fun t ht => ih t (List.mem_cons_of_mem _ ht)) h2
    exact ⟨q :: qs, rfl, by rw [TIns]; exact ⟨q, qs, rfl, hq, hqs⟩⟩
theorem qcells_at : ∀ {qs : List Q} {i : Nat} {q : Q}, qs[i]? = some q → (qcells qs)[4 * i]? = some (.int .i64 q.k) ∧ (qcells qs)[4 * i + 1]? = some q.d ∧ (qcells qs)[4 * i + 2]? = some q.n ∧ (qcells qs)[4 * i + 3]? = some q.c
  | [], i, q, h => by simp at h
  | q0 :: qs, 0, q, h => by
    obtain rfl : q0 = q := by simpa using h
    exact ⟨rfl, rfl, rfl, rfl⟩
  | q0 :: qs, i + 1, q, h => by
    have := qcells_at (qs := qs) (i := i) (by simpa using h)
    have e : 4 * (i + 1) = (4 * i) + 4 := by omega
    rw [e]
    exact this
theorem Rdc.rd4 {w : World} {v : Value} {n : Nat} {qs : List Q} (h : Rdc w v 4 n (qcells qs)) : Rd4 w v qs := by
  obtain ⟨A, c, rfl, h1, h2, h3, h4⟩ := h
  rw [qcells_len] at h3
  obtain rfl : n = qs.length := by omega
  refine ⟨A, c, rfl, h1, h2, fun hp => ?_⟩
  obtain ⟨b, off, rfl, hb, hr⟩ := h4 hp
  refine ⟨b, off, rfl, hb, fun i q hq => ?_⟩
  obtain ⟨c0, c1, c2, c3⟩ := qcells_at hq
  exact ⟨hr _ _ c0, hr _ _ c1, hr _ _ c2, hr _ _ c3⟩
theorem Lies.tin {w : World} : ∀ (t : T) {us : List Value} {F : List Nat}, Lies w t.cells us F → ∃ q : Q, us = q.cells ∧ TIn w t q := by
  intro t
  induction t using T.ind with
  | h k d ns ks ih =>
    intro us F h
    rw [T.cells, Lies] at h
    obtain ⟨u0, r0, F0, G0, rfl, rfl, h0, h⟩ := h
    rw [Lies] at h
    obtain ⟨u1, r1, F1, G1, rfl, rfl, h1, h⟩ := h
    rw [Lies] at h
    obtain ⟨u2, r2, F2, G2, rfl, rfl, h2, h⟩ := h
    rw [Lies] at h
    obtain ⟨u3, r3, F3, G3, rfl, rfl, h3, h⟩ := h
    rw [Lies] at h
    obtain ⟨rfl, rfl⟩ := h
    rw [Lie] at h0
    obtain ⟨rfl, rfl⟩ := h0
    rw [Lie] at h3
    obtain ⟨_, us, F5, k1, k2, rfl⟩ := h3
    obtain ⟨qs, rfl, hqs⟩ := k2.trees ks fun t ht us F h => ih t ht h
    refine ⟨⟨k, u1, u2, u3⟩, rfl, ?_⟩
    rw [TIn]
    exact ⟨rfl, h1.rd.1, h2.rdN, qs, k1.rd4, hqs⟩
theorem Ins.tin {w : World} {t : T} {us : List Value} (h : Ins w t.cells us) : ∃ q : Q, us = q.cells ∧ TIn w t q := h.elim fun F h => h.tin t


end Go.Proofs.YtigklnokgmcifaaDoor


/-
  The laws' copies of trees: the walks.
-/
namespace Go.Proofs.YtigklnokgmcifaaDoor
open Go.RowKit
set_option linter.unusedVariables false

def ToAt (t : T) : Prop := ∀ (q : Q) (w : World), t.bulk ≤ 1048576 → TIn w t q →
  Calls Tryd.prog 34 #[q.val] w fun e w' => ∃ q' : Q, e = .returned q'.val ∧ TOwn w' t w.heap.size q' w'.heap.size ∧ Below w.heap.size w w'

theorem T.bulks_mem {ts : List T} {t : T} (h : t ∈ ts) : t.bulk ≤ T.bulks ts := by
  induction ts with
  | nil => cases h
  | cons t0 ts ih =>
    rw [T.bulks]
    rcases List.mem_cons.1 h with rfl | h
    · omega
    · have := ih h; omega
theorem sumLen_mem {ns : List (List Int)} {n : List Int} (h : n ∈ ns) : n.length ≤ sumLen ns := by
  induction ns with
  | nil => cases h
  | cons n0 ns ih =>
    rw [sumLen]
    rcases List.mem_cons.1 h with rfl | h
    · omega
    · have := ih h; omega

/-- The four stores of a tree's cells. -/
theorem own4_store {w : World} {base g n cap : Nat} {xs : List Value} (h : w.ownsRow base 33 4 (.slice (some ⟨g, 0, none⟩) n cap) n xs) (o : Nat) (a b c d : Value) :
    (w.setCells g o [a, b, c, d]).ownsRow base 33 4 (.slice (some ⟨g, 0, none⟩) n cap) n ((((xs.set o a).set (o + 1) b).set (o + 2) c).set (o + 3) d) ∧ Outside g (g + 1) w (w.setCells g o [a, b, c, d]) := by
  refine ⟨?_, ?_⟩
  · exact ((((h.stored o a).1.stored (o + 1) b).1.stored (o + 2) c).1.stored (o + 3) d).1
  · exact ((outside_set w g o a).trans (outside_set _ g (o + 1) b)).trans ((outside_set _ g (o + 2) c).trans (outside_set _ g (o + 3) d))

theorem own4_there {w : World} {base g n cap : Nat} {xs : List Value} (h : w.ownsRow base 33 4 (.slice (some ⟨g, 0, none⟩) n cap) n xs) (hx : xs.length = 4 * n) (k : Nat) (hk : k < n) : w.there g (4 * k) 4 := fun j hj => by
  refine ⟨?_, h.frozenAt _⟩
  rw [h.cellAt (4 * k + j) (by omega), List.getElem?_eq_getElem (by omega)]
  rfl

theorem row_slice {w : World} {lo size : Nat} {e : TypeId} {n : Nat} {v : Value} {xs : List Value} (h : w.ownsRow lo e size v n xs) : ∃ A c, v = .slice A n c ∧ n ≤ c ∧ c ≤ maxLen := by
  rcases h.2 with ⟨rfl, h0⟩ | ⟨g, cap, cur, hv, hb, hg, hnc, hcm, _⟩
  · exact ⟨none, 0, by rw [h0], by omega, Nat.zero_le _⟩
  · exact ⟨_, cap, hv, hnc, hcm⟩
theorem TOwn.form {w : World} {t : T} {lo hi : Nat} {q : Q} (h : TOwn w t lo q hi) : (∃ A n c, q.d = .slice A n c) ∧ (∃ A n c, q.n = .slice A n c) ∧ (∃ A n c, q.c = .slice A n c) := by
  cases t with
  | node k d ns ks =>
    rw [TOwn] at h
    obtain ⟨_, m1, m2, m3, qs, _, _, h4, ⟨us, m, h5, _, _⟩, h6, _⟩ := h
    obtain ⟨A, c, e, _, _⟩ := row_slice h4.1
    obtain ⟨A', c', e', _, _⟩ := row_slice h5.1
    obtain ⟨A'', c'', e'', _, _⟩ := row_slice h6.1
    exact ⟨⟨_, _, _, e⟩, ⟨_, _, _, e'⟩, ⟨_, _, _, e''⟩⟩
theorem TOwn.one {w : World} {t : T} {lo hi : Nat} {q : Q} (h : TOwn w t lo q hi) : (#[.int .i64 q.k, q.d, q.n, q.c] : Array Value).all (·.oneCell') = true := by
  obtain ⟨⟨A, n, c, e⟩, ⟨A', n', c', e'⟩, ⟨A'', n'', c'', e''⟩⟩ := h.form
  rw [e, e', e'']
  simp [Value.oneCell']

set_option maxRecDepth 20000 in
set_option maxHeartbeats 1600000 in
theorem toKids (ks : List T) (hks : ∀ t ∈ ks, ToAt t) (v : Value) (qs : List Q) (w : World) (hl : ks.length + T.bulks ks ≤ 1048576) (hv : Rd4 w v qs) (hq : TIns w ks qs) :
    Calls Tryd.prog 65 #[v] w fun e w' => ∃ (v' : Value) (rs : List Q) (m : Nat), e = .returned v' ∧ Own4 w.heap.size m w' v' rs ∧ w.heap.size ≤ m ∧ TChain w' ks m rs w'.heap.size ∧ Below w.heap.size w w' := by
  obtain ⟨i0, hi0, hz0, hz1, hz2⟩ := info_parts treeInfo
  have hvl := hq.len
  obtain ⟨A, c, rfl, hc1, hc2, hrd⟩ := hv
  rw [hvl] at hc1 hrd ⊢
  unfold maxLen at hc2
  obtain ⟨n, hn⟩ : ∃ n, ks.length = n := ⟨_, rfl⟩
  have hn20 : n ≤ 1048576 := by omega
  have hbk : ∀ t ∈ ks, t.bulk ≤ 1048576 := fun t ht => by have := T.bulks_mem ht; omega
  have HN := hide hn
  have HRD := hide hrd
  have HQ := hide hq
  have HKS := hide hks
  have HBK := hide hbk
  rw [hn] at hc1 ⊢
  clear hn hvl hrd hq hks hbk hl
  go_enter Tryd.func65, Tryd.ntmps65
  go_wp2_with (at_make; refine wpList_make_full _ rfl _ _ 31 rfl w.heap.size 33 i0 _ 4 Tryd.underlying31 hi0 hz0 hz1 .i64 .i64 _ _ n rfl rfl rfl rfl (by rw [hz2]; omega) (by simp only [maxLen]; omega) (Nat.le_refl _) ?_; intro w1 own1 gr1)
  have own2 : w1.ownsRow w.heap.size 33 4 (.slice (some ⟨w.heap.size, 0, none⟩) n n) n (qcells (([] : List Q) ++ List.replicate (n - ([] : List Q).length) q0)) := by
    have e := made_q0 n
    rw [List.nil_append, List.length_nil, Nat.sub_zero, ← e]
    exact own1
  have hb1 : Below w.heap.size w w1 := (Below.refl _ _).grown gr1 (Nat.le_refl _) (fun _ h => by cases h)
  have hlt1 : w.heap.size + 1 ≤ w1.heap.size := (own2.lt w.heap.size rfl).2
  clear own1 gr1 hi0 hz0 hz1 hz2
  go_loopw [4] (fun i wr => ∃ (k : Nat) (us : List Q), k ≤ n ∧ i = .int .i64 k ∧ us.length = k ∧ wr.ownsRow w.heap.size 33 4 (.slice (some ⟨w.heap.size, 0, none⟩) n n) n (qcells (us ++ List.replicate (n - us.length) q0)) ∧ TChain wr (ks.take k) (w.heap.size + 1) us wr.heap.size ∧ Below w.heap.size w wr ∧ w.heap.size + 1 ≤ wr.heap.size)
    (fun i _ => n - (intOf i).toNat)
  case atStart => exact ⟨0, [], Nat.zero_le _, rfl, rfl, own2, by rw [List.take_zero, TChain]; exact ⟨rfl, hlt1⟩, hb1, hlt1⟩
  case round =>
    clear own2 hb1 hlt1
    obtain ⟨k, us, hk, rfl, hul, hown, hch, hbel, hsz⟩ := hrel
    by_cases hlt : k < n
    · have hkl : k < ks.length := by rw [HN.out]; exact hlt
      obtain ⟨b, off, rfl, hblt, hcell⟩ := HRD.out (by rw [HN.out]; omega)
      obtain ⟨q, hqk, hqt⟩ := HQ.out.at_ k ks[k] (List.getElem?_eq_getElem hkl)
      obtain ⟨e0, e1, e2, e3⟩ := hcell k q hqk
      have hld : wr.cell? ⟨b, off + k * 4, none⟩ = some (.int .i64 q.k) ∧ wr.cell? ⟨b, off + k * 4 + 1, none⟩ = some q.d ∧ wr.cell? ⟨b, off + k * 4 + 2, none⟩ = some q.n ∧ wr.cell? ⟨b, off + k * 4 + 3, none⟩ = some q.c := by
        rw [Nat.mul_comm k 4]
        exact ⟨(hbel.cell (p := ⟨b, off + 4 * k, none⟩) hblt).trans e0, (hbel.cell (p := ⟨b, off + (4 * k + 1), none⟩) hblt).trans e1, (hbel.cell (p := ⟨b, off + (4 * k + 2), none⟩) hblt).trans e2, (hbel.cell (p := ⟨b, off + (4 * k + 3), none⟩) hblt).trans e3⟩
      have hcall := HKS.out ks[k] (List.getElem_mem hkl) q wr (HBK.out _ (List.getElem_mem hkl)) (hqt.below hbel)
      have htake : ks.take (k + 1) = ks.take k ++ [ks[k]] := List.take_succ_eq_append_getElem hkl
      have HTK := hide htake
      generalize ks[k] = t at *
      have HO := hide hown
      have HCH := hide hch
      have HB := hide hbel
      have HUL := hide hul
      have HLD := hide hld
      have k1 : (k : Int) < (n : Int) := by omega
      clear hown hch hbel hcell htake hkl hul hqk hqt e0 e1 e2 e3 hld
      go_wp2_with (refine wpList_load4 rfl _ _ rfl b _ rfl q _ Tryd.underlying26 rfl (by kernel_rfl) HLD.out ?_)
      refine hcall.mono ?_
      rintro e w2 ⟨q2, rfl, o2, b2⟩
      have z2 := b2.size
      have hxs : (qcells (us ++ List.replicate (n - us.length) q0)).length = 4 * n := by
        rw [qcells_len, List.length_append, List.length_replicate, HUL.out]; omega
      have own2 : w2.ownsRow w.heap.size 33 4 (.slice (some ⟨w.heap.size, 0, none⟩) n n) n (qcells (us ++ List.replicate (n - us.length) q0)) := by
        refine ⟨HO.out.1, ?_⟩
        rcases HO.out.2 with hn | ⟨g, cap, cur, hv, hbg, hg, rest⟩
        · exact .inl hn
        · have hlt := (HO.out.lt w.heap.size rfl).2
          injection hv with hv1 _ hv3
          injection hv1 with hv2
          injection hv2 with hv4
          subst hv4
          exact .inr ⟨_, cap, cur, by rw [hv3], hbg, (b2.block _ hlt).trans hg, rest⟩
      have hth := own4_there own2 hxs k hlt
      obtain ⟨hst, hos⟩ := own4_store own2 (4 * k) (.int .i64 q2.k) q2.d q2.n q2.c
      have hset := qslots_set us n q2 (by rw [HUL.out]; exact hlt)
      rw [HUL.out] at hset hst
      rw [hset] at hst
      have hch2 := ((HCH.out.step b2).snoc o2).out hos (Nat.le_refl _)
      rw [← HTK.out] at hch2
      have b3 : Below w.heap.size w (w2.setCells w.heap.size (4 * k) [.int .i64 q2.k, q2.d, q2.n, q2.c]) := hos.below (HB.out.trans (b2.mono HB.out.size)) (Nat.le_refl _) (by omega)
      have z3 : (w2.setCells w.heap.size (4 * k) [.int .i64 q2.k, q2.d, q2.n, q2.c]).heap.size = w2.heap.size := by simp [World.setCells]
      have hone := o2.one
      rw [Nat.mul_comm 4 k] at hth hst hch2 b3 z3
      have HTH := hide hth
      have HONE := hide hone
      have HST := hide hst
      have HC2 := hide hch2
      have HB3 := hide b3
      have HZ3 := hide z3
      clear hst hset own2 hch2 b3 z3 hos hth hone hxs o2
      go_wp2_with ((with_reducible refine at_none ?_); refine wpList_store_mid rfl _ _ _ rfl w.heap.size (k * 4) #[.int .i64 q2.k, q2.d, q2.n, q2.c] rfl rfl HTH.out (by kernel_rfl) HONE.out ?_)
      go_roundw
      case rel => exact ⟨k + 1, us ++ [q2], by omega, by go_num, by rw [List.length_append, HUL.out]; rfl, HST.out, by have h := HC2.out; rw [← HZ3.out] at h; exact h, HB3.out, by have h := HZ3.out; omega⟩
      case measure => simp [intOf]; omega
    · obtain rfl : k = n := by omega
      have e1 : us ++ List.replicate (k - us.length) q0 = us := by rw [hul, Nat.sub_self, List.replicate_zero, List.append_nil]
      have e2 : ks.take k = ks := List.take_of_length_le (by rw [HN.out]; omega)
      rw [e1] at hown
      rw [e2] at hch
      have hfin : Own4 w.heap.size (w.heap.size + 1) wr (.slice (some ⟨w.heap.size, 0, none⟩) k k) us := by
        rw [← hul] at hown ⊢
        refine ⟨hown, by omega, fun g hg => ?_⟩
        have h2 : w.heap.size = g := Option.some.inj hg
        omega
      have HF := hide hfin
      have HB := hide hbel
      have HC := hide hch
      clear hfin hown hch hbel e1 e2
      go_wp2
      go_ret
      exact ⟨_, us, w.heap.size + 1, rfl, HF.out, by omega, HC.out, HB.out⟩

/-- A block of a tree's four cells. -/
def C4 (w : World) (g : Nat) (t : TypeId) (a b c d : Value) : Prop := w.heap[g]? = some (.cells #[a, b, c, d] t (0, 0))
section
variable {w w' : World} {g : Nat} {t : TypeId} {a b c d : Value}
theorem C4.lt (h : C4 w g t a b c d) : g < w.heap.size := (Array.getElem?_eq_some_iff.1 h).1
theorem C4.c0 (h : C4 w g t a b c d) : w.cell? ⟨g, 0, none⟩ = some a := by rw [cell_of_row w g 0 _ _ (0, 0) h]; rfl
theorem C4.c1 (h : C4 w g t a b c d) : w.cell? ⟨g, 1, none⟩ = some b := by rw [cell_of_row w g 1 _ _ (0, 0) h]; rfl
theorem C4.c2 (h : C4 w g t a b c d) : w.cell? ⟨g, 2, none⟩ = some c := by rw [cell_of_row w g 2 _ _ (0, 0) h]; rfl
theorem C4.c3 (h : C4 w g t a b c d) : w.cell? ⟨g, 3, none⟩ = some d := by rw [cell_of_row w g 3 _ _ (0, 0) h]; rfl
theorem C4.fz (h : C4 w g t a b c d) (j : Nat) : w.frozen? ⟨g, j, none⟩ = false := frozen_of_row w g j _ _ h
theorem C4.step (h : C4 w g t a b c d) (hb : Below w.heap.size w w') : C4 w' g t a b c d := (hb.block g h.lt).trans h
theorem C4.set1 (h : C4 w g t a b c d) (x : Value) : C4 (w.setCell ⟨g, 1, none⟩ x) g t a x c d := heap_setCell_same w g 1 _ _ _ h
theorem C4.set2 (h : C4 w g t a b c d) (x : Value) : C4 (w.setCell ⟨g, 2, none⟩ x) g t a b x d := heap_setCell_same w g 2 _ _ _ h
theorem C4.set3 (h : C4 w g t a b c d) (x : Value) : C4 (w.setCell ⟨g, 3, none⟩ x) g t a b c x := heap_setCell_same w g 3 _ _ _ h
theorem C4.set0 (h : C4 w g t a b c d) (x : Value) : C4 (w.setCell ⟨g, 0, none⟩ x) g t x b c d := heap_setCell_same w g 0 _ _ _ h
theorem C4.all (h : C4 w g t a b c d) (x0 x1 x2 x3 : Value) : C4 (w.setCells g 0 [x0, x1, x2, x3]) g t x0 x1 x2 x3 := (((h.set0 x0).set1 x1).set2 x2).set3 x3
theorem outside_sets (w : World) (g : Nat) (x0 x1 x2 x3 : Value) : Outside g (g + 1) w (w.setCells g 0 [x0, x1, x2, x3]) := ((outside_set w g 0 x0).trans (outside_set _ g 1 x1)).trans ((outside_set _ g 2 x2).trans (outside_set _ g 3 x3))
theorem C4.there (h : C4 w g t a b c d) : w.there g 0 4 := fun j hj => by
  refine ⟨?_, h.fz _⟩
  rw [Nat.zero_add]
  rcases (by omega : j = 0 ∨ j = 1 ∨ j = 2 ∨ j = 3) with rfl | rfl | rfl | rfl
  · rw [h.c0]; rfl
  · rw [h.c1]; rfl
  · rw [h.c2]; rfl
  · rw [h.c3]; rfl
theorem C4.out {lo hi : Nat} (h : C4 w g t a b c d) (ho : Outside lo hi w w') (hd : g < lo ∨ hi ≤ g) : C4 w' g t a b c d := (ho.block g h.lt hd).trans h
end

set_option maxRecDepth 20000 in
set_option maxHeartbeats 1600000 in
theorem toTree : ∀ t : T, ToAt t := by
  intro t
  induction t using T.ind with
  | h k d ns ks ih =>
    intro q w hb hq
    rw [TIn] at hq
    obtain ⟨rfl, hd, hn, qs, hk, hks⟩ := hq
    rw [T.bulk] at hb
    have c1 := fun W (hb2 : Below w.heap.size w W) => toBytes d q.d W (hd.below hb2) (by omega)
    have c2 := fun W (hb2 : Below w.heap.size w W) => toNames ns q.n W (hn.below hb2) (by omega) (fun n hn => by have := sumLen_mem hn; omega)
    have c3 := fun W (hb2 : Below w.heap.size w W) => toKids ks ih q.c qs W (by omega) (hk.below hb2) (TIns.mk hks.len fun i t q h6 h7 => by
      obtain ⟨q', h8, h9⟩ := hks.at_ i t h6
      obtain rfl : q' = q := Option.some.inj (h8.symm.trans h7)
      exact h9.below hb2)
    have C1 := hide c1
    have C2 := hide c2
    have C3 := hide c3
    clear c1 c2 c3 ih hd hn hk hks
    go_enter Tryd.func34, Tryd.ntmps34
    go_wp2_with fail
    obtain ⟨wa, hwa⟩ : ∃ wa, ((w.alloc (.cells #[.int .i64 q.k, q.d, q.n, q.c] 26)).alloc (.cells #[.int .i64 0, .slice none 0 0, .slice none 0 0, .slice none 0 0] 33)).alloc (.cells #[.int .i64 q.k, .slice none 0 0, .slice none 0 0, .slice none 0 0] 33) = wa := ⟨_, rfl⟩
    rw [hwa]
    have za : wa.heap.size = w.heap.size + 3 := by rw [← hwa]; simp
    have ba : Below w.heap.size w wa := by rw [← hwa]; exact (((Below.refl _ _).alloc (Nat.le_refl _) _).alloc (by simp) _).alloc (by simp; omega) _
    have aA : C4 wa w.heap.size 26 (.int .i64 q.k) q.d q.n q.c := by
      rw [← hwa]
      have h : C4 (w.alloc (.cells #[.int .i64 q.k, q.d, q.n, q.c] 26)) w.heap.size 26 (.int .i64 q.k) q.d q.n q.c := heap_alloc_new w _
      exact (h.step ((Below.refl _ _).alloc (Nat.le_refl _) _)).step ((Below.refl _ _).alloc (Nat.le_refl _) _)
    have aR : C4 wa (w.heap.size + 1) 33 (.int .i64 0) (.slice none 0 0) (.slice none 0 0) (.slice none 0 0) := by
      rw [← hwa]
      have h := heap_alloc_new (w.alloc (.cells #[.int .i64 q.k, q.d, q.n, q.c] 26)) (.cells #[.int .i64 0, .slice none 0 0, .slice none 0 0, .slice none 0 0] 33)
      rw [World.size_alloc] at h
      exact C4.step h ((Below.refl _ _).alloc (Nat.le_refl _) _)
    have aO : C4 wa (w.heap.size + 1 + 1) 33 (.int .i64 q.k) (.slice none 0 0) (.slice none 0 0) (.slice none 0 0) := by
      rw [← hwa]
      have h := heap_alloc_new ((w.alloc (.cells #[.int .i64 q.k, q.d, q.n, q.c] 26)).alloc (.cells #[.int .i64 0, .slice none 0 0, .slice none 0 0, .slice none 0 0] 33)) (.cells #[.int .i64 q.k, .slice none 0 0, .slice none 0 0, .slice none 0 0] 33)
      rw [World.size_alloc, World.size_alloc] at h
      exact h
    clear hwa
    refine (C1.out wa ba).mono ?_
    rintro e w1 ⟨v1, rfl, o1, b1⟩
    obtain ⟨A1, c1, rfl, _, _⟩ := own_slice o1.1
    have aA1 := aA.step b1
    have aR1 := aR.step b1
    have aO1 := aO.step b1
    have x1 := aO1.c1
    have f1 := aO1.fz 1
    have x2 := aA1.c2
    have z1 := b1.size
    go_wp2_with fail
    -- behind the first field
    obtain ⟨ws, hws⟩ : ∃ ws, w1.setCell ⟨w.heap.size + 1 + 1, 1, none⟩ (.slice A1 (bs d).length c1) = ws := ⟨_, rfl⟩
    have os := outside_set w1 (w.heap.size + 1 + 1) 1 (.slice A1 (bs d).length c1)
    have aO2 := aO1.set1 (.slice A1 (bs d).length c1)
    have zs : (w1.setCell ⟨w.heap.size + 1 + 1, 1, none⟩ (.slice A1 (bs d).length c1)).heap.size = w1.heap.size := by simp
    rw [hws] at os aO2 zs ⊢
    have aA2 := aA1.out os (by omega)
    have aR2 := aR1.out os (by omega)
    have o1s := o1.outside os (.inr (by omega))
    have bs1 : Below w.heap.size w ws := os.below (ba.trans (b1.mono (by omega))) (by omega) (by omega)
    clear hws aA aR aO aA1 aR1 aO1 x1 f1 x2 o1 b1 os
    refine (C2.out ws bs1).mono ?_
    rintro e w2 ⟨v2, rfl, o2, b2⟩
    have o2k := o2
    obtain ⟨us2, m2, o2a, _, _⟩ := o2
    obtain ⟨A2, c2, rfl, _, _⟩ := own_slice o2a.1
    have aA3 := aA2.step b2
    have aR3 := aR2.step b2
    have aO3 := aO2.step b2
    have x1 := aO3.c2
    have f1 := aO3.fz 2
    have x2 := aA3.c3
    have z2 := b2.size
    have o1t := o1s.step b2
    go_wp2_with fail
    -- behind the second
    obtain ⟨wt, hwt⟩ : ∃ wt, w2.setCell ⟨w.heap.size + 1 + 1, 2, none⟩ (.slice A2 us2.length c2) = wt := ⟨_, rfl⟩
    have os := outside_set w2 (w.heap.size + 1 + 1) 2 (.slice A2 us2.length c2)
    have aO4 := aO3.set2 (.slice A2 us2.length c2)
    have zt : (w2.setCell ⟨w.heap.size + 1 + 1, 2, none⟩ (.slice A2 us2.length c2)).heap.size = w2.heap.size := by simp
    rw [hwt] at os aO4 zt ⊢
    have aA4 := aA3.out os (by omega)
    have aR4 := aR3.out os (by omega)
    have o1u := o1t.outside os (.inr (by omega))
    have o2u := o2k.out os (by omega)
    have bs2 : Below w.heap.size w wt := os.below (bs1.trans (b2.mono (by omega))) (by omega) (by omega)
    clear hwt aA2 aR2 aO2 aA3 aR3 aO3 x1 f1 x2 o2k o2a o1t o1s b2 os
    refine (C3.out wt bs2).mono ?_
    rintro e w3 ⟨v3, rs, m3, rfl, o3, hm3, ch3, b3⟩
    obtain ⟨A3, c3, rfl, _, _⟩ := row_slice o3.1
    have aR5 := aR4.step b3
    have aO5 := aO4.step b3
    have z3 := b3.size
    have x1 := aO5.c3
    have f1 := aO5.fz 3
    have o1v := o1u.step b3
    have o2v := o2u.out (Outside.of_below b3 0 0) (Nat.zero_le _)
    obtain ⟨wu, hwu⟩ : ∃ wu, w3.setCell ⟨w.heap.size + 1 + 1, 3, none⟩ (.slice A3 rs.length c3) = wu := ⟨_, rfl⟩
    have os := outside_set w3 (w.heap.size + 1 + 1) 3 (.slice A3 rs.length c3)
    have aO6 := aO5.set3 (.slice A3 rs.length c3)
    have zu : (w3.setCell ⟨w.heap.size + 1 + 1, 3, none⟩ (.slice A3 rs.length c3)).heap.size = w3.heap.size := by simp
    rw [hwu] at os aO6 zu
    have aR6 := aR5.out os (by omega)
    have o1w := o1v.outside os (.inr (by omega))
    have o2w := o2v.out os (by omega)
    have o3w := o3.out os (.inr (by omega))
    have ch3w := ch3.out os (by omega)
    have bs3 : Below w.heap.size w wu := os.below (bs2.trans (b3.mono (by omega))) (by omega) (by omega)
    -- the result's cells
    obtain ⟨q', hq'⟩ : ∃ q' : Q, q' = ⟨q.k, .slice A1 (bs d).length c1, .slice A2 us2.length c2, .slice A3 rs.length c3⟩ := ⟨_, rfl⟩
    have hval : q'.val = .agg #[.int .i64 q.k, .slice A1 (bs d).length c1, .slice A2 us2.length c2, .slice A3 rs.length c3] := by rw [hq']
    have own : ∀ W, Outside (w.heap.size + 1) (w.heap.size + 1 + 1) wu W → TOwn W (.node q.k d ns ks) w.heap.size q' wu.heap.size ∧ Below w.heap.size w W := fun W ho => by
      refine ⟨?_, ho.below bs3 (by omega) (by omega)⟩
      rw [hq', TOwn]
      refine ⟨rfl, ws.heap.size, wt.heap.size, m3, rs, by omega, by omega, ?_, ?_, ?_, ?_⟩
      · exact (o1w.outside ho (.inr (by omega))).wide (by omega) (by omega) (by have := ho.size; omega)
      · have h := o2w.out ho (by omega)
        rw [zt]
        exact h
      · exact o3w.out ho (.inr (by omega))
      · have h := ch3w.out ho (by omega)
        rw [zu]
        exact h
    have OWN := hide own
    have hgo : wu.rangeAt (w.heap.size + 1 + 1) 0 [.int .i64 q.k, .slice A1 (bs d).length c1, .slice A2 us2.length c2, .slice A3 rs.length c3] := fun j v hv => by
      rw [Nat.zero_add]
      match j, hv with
      | 0, hv => simp at hv; subst hv; exact aO6.c0
      | 1, hv => simp at hv; subst hv; exact aO6.c1
      | 2, hv => simp at hv; subst hv; exact aO6.c2
      | 3, hv => simp at hv; subst hv; exact aO6.c3
    have HGO := hide hgo
    have HR6 := hide aR6
    clear own hgo aR6 o1u o1v o1w o2u o2v o2w o3 o3w ch3 ch3w bs1 bs2 bs3 aA4 aR4 aO4 aR5 aO5 aO6 os b3 ba
    have HW : Hid (q'.val = .agg #[.int .i64 q.k, .slice A1 (bs d).length c1, .slice A2 us2.length c2, .slice A3 rs.length c3]) := hide hval
    have hwu2 : wu = wu := rfl
    have fin : ∀ W, C4 W (w.heap.size + 1) 33 (.int .i64 q.k) (.slice A1 (bs d).length c1) (.slice A2 us2.length c2) (.slice A3 rs.length c3) → Outside (w.heap.size + 1) (w.heap.size + 1 + 1) wu W → W.heap.size = wu.heap.size →
        ∃ q'' : Q, (Ending.returned (.agg #[.int .i64 q.k, .slice A1 (bs d).length c1, .slice A2 us2.length c2, .slice A3 rs.length c3]) = .returned q''.val) ∧ TOwn W (.node q.k d ns ks) w.heap.size q'' W.heap.size ∧ Below w.heap.size w W := fun W _ ho hz => by
      obtain ⟨h1, h2⟩ := OWN.out W ho
      rw [hz]
      exact ⟨q', by rw [HW.out], h1, h2⟩
    have FIN := hide fin
    clear fin hq' hval
    go_wp2_with (first
      | ((with_reducible refine at_slot 19 ?_); refine wpList_load_mid rfl _ _ rfl (w.heap.size + 1 + 1) 0 rfl [.int .i64 q.k, .slice A1 (bs d).length c1, .slice A2 us2.length c2, .slice A3 rs.length c3] _ HGO.out Tryd.underlying33 rfl (by kernel_rfl) ?_)
      | ((with_reducible refine at_none ?_); refine wpList_store_mid rfl _ _ _ rfl (w.heap.size + 1) 0 #[.int .i64 q.k, .slice A1 (bs d).length c1, .slice A2 us2.length c2, .slice A3 rs.length c3] rfl rfl HR6.out.there (by kernel_rfl) (by simp [Value.oneCell']) ?_))
    exact bodyPost_ret (results_cell_row rfl _ _ (w.heap.size + 1) 33 #[.int .i64 q.k, .slice A1 (bs d).length c1, .slice A2 us2.length c2, .slice A3 rs.length c3] (0, 0) _ rfl (HR6.out.all _ _ _ _) Tryd.underlying33 rfl (by kernel_rfl)) rfl (FIN.out _ (HR6.out.all _ _ _ _) (outside_sets _ _ _ _ _ _) (by simp [World.setCells]))

end Go.Proofs.YtigklnokgmcifaaDoor
