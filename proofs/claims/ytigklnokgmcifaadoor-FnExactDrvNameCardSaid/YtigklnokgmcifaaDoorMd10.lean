/-
  Parts of the proof: BulkC, DElem, DLift, DOk, ShaJ, SortS.
-/
import Derived.Test.YtigklnokgmcifaaDoorMd9
import Derived.Test.YtigklnokgmcifaaDoorMd8
import Derived.Test.YtigklnokgmcifaaDoorMd7
import Derived.Deep.QuietTactic
import Derived.BigQuiet
import Derived.Deep.Cut
import Derived.Deep.DeepCutAuto
import Derived.IntWalk

/-
  The sizes of structs, field by field.
-/
namespace Go.Proofs.YtigklnokgmcifaaDoor
open Go.RowKit
set_option linter.unusedVariables false
set_option linter.unusedSimpArgs false

theorem bulks_mem {α : Type} {f : α → List Cel} {l : List α} {x : α} (h : x ∈ l) : bulks (f x) ≤ bulks (cells f l) := by
  induction l with
  | nil => cases h
  | cons y l ih =>
    rw [cells, bulks_app]
    rcases List.mem_cons.1 h with rfl | h
    · omega
    · have := ih h; omega
theorem seq_bulk {α : Type} (sz : Nat) (f : α → List Cel) (l : List α) : (seqOf sz f l).bulk = l.length + bulks (cells f l) := rfl
theorem num_bulk0 (k : IntKind) (n : Int) : (Cel.num k n).bulk = 0 := rfl
theorem sumLen_mem2 {ns : List (List Int)} {n : List Int} (h : n ∈ ns) : n.length ≤ sumLen ns := by
  induction ns with
  | nil => cases h
  | cons y l ih =>
    rw [sumLen]
    rcases List.mem_cons.1 h with rfl | h
    · omega
    · have := ih h; omega
theorem raws_bulk (ns : List (List Int)) : bulks (cells (fun n => [raw n]) ns) = sumLen ns := by
  have := names_bulk ns
  rw [names, Cel.bulk] at this
  omega
theorem bulk_T (x : T) : bulks x.cells = x.data.length + ((x.names.length + sumLen x.names) + (x.kids.length + bulks (cells T.cells x.kids))) := by
  rw [x.cells_eq]
  simp only [bulks, raw_bulkT, raws_bulk, seq_bulk, num_bulk0]
  omega
theorem bulk_Obj (x : DObj) : bulks x.cells = x.name.length + (bulks x.tree.cells + ((x.refs.length + sumLen x.refs) + (x.frm.length + x.out.length))) := by
  rw [x.cells_top]
  simp only [bulks, bulks_app, raw_bulkT, raws_bulk, seq_bulk, num_bulk0]
  omega
theorem bulk_Real (x : DReal) : bulks x.cells = x.drv.length + (x.out.length + x.path.length) := by
  rw [x.cells_top]
  simp only [bulks, bulks_app, raw_bulkT, raws_bulk, seq_bulk, num_bulk0]
  omega
theorem bulk_Store (x : DStore) : bulks x.cells = (x.objs.length + bulks (cells DObj.cells x.objs)) + ((x.roots.length + sumLen x.roots) + (x.reals.length + bulks (cells DReal.cells x.reals))) := by
  rw [x.cells_top]
  simp only [bulks, bulks_app, raw_bulkT, raws_bulk, seq_bulk, num_bulk0]
  omega
theorem bulk_Op (x : DOp) : bulks x.cells = x.name.length + x.text.length := by
  rw [x.cells_top]
  simp only [bulks, bulks_app, raw_bulkT, raws_bulk, seq_bulk, num_bulk0]
  omega
theorem bulk_In (x : DIn) : bulks x.cells = x.drv.length + x.out.length := by
  rw [x.cells_top]
  simp only [bulks, bulks_app, raw_bulkT, raws_bulk, seq_bulk, num_bulk0]
  omega
theorem bulk_Drv (x : DDrv) : bulks x.cells = (x.srcs.length + sumLen x.srcs) + ((x.ins.length + bulks (cells DIn.cells x.ins)) + ((x.outs.length + sumLen x.outs) + (x.ops.length + bulks (cells DOp.cells x.ops)))) := by
  rw [x.cells_top]
  simp only [bulks, bulks_app, raw_bulkT, raws_bulk, seq_bulk, num_bulk0]
  omega
end Go.Proofs.YtigklnokgmcifaaDoor


/-
  An element of a row of structs, seen cell by cell.
-/
namespace Go.Proofs.YtigklnokgmcifaaDoor
open Go.RowKit
set_option linter.unusedVariables false

theorem T.elem {w W : World} {l : List T} {v : Value} (h : In1 w (seqOf 4 T.cells l) v) (hb : Below w.heap.size w W) {j : Nat} (hj : j < l.length) :
    ∃ b off c A1 c1 A2 c2 A3 c3, v = .slice (some ⟨b, off, none⟩) l.length c ∧ (∀ {X : Option Addr} {n m : Nat}, v = .slice X n m → X = some ⟨b, off, none⟩) ∧ b < w.heap.size ∧ W.cell? ⟨b, off + j * 4, none⟩ = some (.int .i64 l[j].kind) ∧ W.cell? ⟨b, off + j * 4 + 1, none⟩ = some (.slice A1 l[j].data.length c1) ∧ W.cell? ⟨b, off + j * 4 + 2, none⟩ = some (.slice A2 l[j].names.length c2) ∧ W.cell? ⟨b, off + j * 4 + 3, none⟩ = some (.slice A3 l[j].kids.length c3) ∧ In1 w (raw l[j].data) (.slice A1 l[j].data.length c1) ∧ In1 w (Go.Proofs.YtigklnokgmcifaaDoor.names l[j].names) (.slice A2 l[j].names.length c2) ∧ In1 w (seqOf 4 T.cells l[j].kids) (.slice A3 l[j].kids.length c3) := by
  obtain ⟨F, h⟩ := h
  obtain ⟨b, off, c, us, Fj, e, hl, hr, hi, _⟩ := h.elem (fun x : T => x.cells_len) hj
  obtain ⟨A1, c1, A2, c2, A3, c3, rfl, i1, i2, i3⟩ := T.view ⟨Fj, hi⟩
  refine ⟨b, off, c, A1, c1, A2, c2, A3, c3, e, (fun e2 => by rw [e] at e2; injection e2 with e2; exact e2.symm), hl, ?_, ?_, ?_, ?_, i1, i2, i3⟩
  · exact (hb.cell (p := ⟨b, off + j * 4 + 0, none⟩) hl).trans (hr 0 _ rfl)
  · exact (hb.cell (p := ⟨b, off + j * 4 + 1, none⟩) hl).trans (hr 1 _ rfl)
  · exact (hb.cell (p := ⟨b, off + j * 4 + 2, none⟩) hl).trans (hr 2 _ rfl)
  · exact (hb.cell (p := ⟨b, off + j * 4 + 3, none⟩) hl).trans (hr 3 _ rfl)
theorem DReal.elem {w W : World} {l : List DReal} {v : Value} (h : In1 w (seqOf 3 DReal.cells l) v) (hb : Below w.heap.size w W) {j : Nat} (hj : j < l.length) :
    ∃ b off c A0 c0 A1 c1 A2 c2, v = .slice (some ⟨b, off, none⟩) l.length c ∧ (∀ {X : Option Addr} {n m : Nat}, v = .slice X n m → X = some ⟨b, off, none⟩) ∧ b < w.heap.size ∧ W.cell? ⟨b, off + j * 3, none⟩ = some (.slice A0 l[j].drv.length c0) ∧ W.cell? ⟨b, off + j * 3 + 1, none⟩ = some (.slice A1 l[j].out.length c1) ∧ W.cell? ⟨b, off + j * 3 + 2, none⟩ = some (.slice A2 l[j].path.length c2) ∧ In1 w (raw l[j].drv) (.slice A0 l[j].drv.length c0) ∧ In1 w (raw l[j].out) (.slice A1 l[j].out.length c1) ∧ In1 w (raw l[j].path) (.slice A2 l[j].path.length c2) := by
  obtain ⟨F, h⟩ := h
  obtain ⟨b, off, c, us, Fj, e, hl, hr, hi, _⟩ := h.elem (fun x : DReal => x.cells_len) hj
  obtain ⟨A0, c0, A1, c1, A2, c2, rfl, i0, i1, i2⟩ := DReal.view ⟨Fj, hi⟩
  refine ⟨b, off, c, A0, c0, A1, c1, A2, c2, e, (fun e2 => by rw [e] at e2; injection e2 with e2; exact e2.symm), hl, ?_, ?_, ?_, i0, i1, i2⟩
  · exact (hb.cell (p := ⟨b, off + j * 3 + 0, none⟩) hl).trans (hr 0 _ rfl)
  · exact (hb.cell (p := ⟨b, off + j * 3 + 1, none⟩) hl).trans (hr 1 _ rfl)
  · exact (hb.cell (p := ⟨b, off + j * 3 + 2, none⟩) hl).trans (hr 2 _ rfl)
theorem DOp.elem {w W : World} {l : List DOp} {v : Value} (h : In1 w (seqOf 5 DOp.cells l) v) (hb : Below w.heap.size w W) {j : Nat} (hj : j < l.length) :
    ∃ b off c A2 c2 A3 c3, v = .slice (some ⟨b, off, none⟩) l.length c ∧ (∀ {X : Option Addr} {n m : Nat}, v = .slice X n m → X = some ⟨b, off, none⟩) ∧ b < w.heap.size ∧ W.cell? ⟨b, off + j * 5, none⟩ = some (.int .i64 l[j].code) ∧ W.cell? ⟨b, off + j * 5 + 1, none⟩ = some (.int .i64 l[j].out) ∧ W.cell? ⟨b, off + j * 5 + 2, none⟩ = some (.slice A2 l[j].name.length c2) ∧ W.cell? ⟨b, off + j * 5 + 3, none⟩ = some (.slice A3 l[j].text.length c3) ∧ W.cell? ⟨b, off + j * 5 + 4, none⟩ = some (.int .i64 l[j].arg) ∧ In1 w (raw l[j].name) (.slice A2 l[j].name.length c2) ∧ In1 w (raw l[j].text) (.slice A3 l[j].text.length c3) := by
  obtain ⟨F, h⟩ := h
  obtain ⟨b, off, c, us, Fj, e, hl, hr, hi, _⟩ := h.elem (fun x : DOp => x.cells_len) hj
  obtain ⟨A2, c2, A3, c3, rfl, i2, i3⟩ := DOp.view ⟨Fj, hi⟩
  refine ⟨b, off, c, A2, c2, A3, c3, e, (fun e2 => by rw [e] at e2; injection e2 with e2; exact e2.symm), hl, ?_, ?_, ?_, ?_, ?_, i2, i3⟩
  · exact (hb.cell (p := ⟨b, off + j * 5 + 0, none⟩) hl).trans (hr 0 _ rfl)
  · exact (hb.cell (p := ⟨b, off + j * 5 + 1, none⟩) hl).trans (hr 1 _ rfl)
  · exact (hb.cell (p := ⟨b, off + j * 5 + 2, none⟩) hl).trans (hr 2 _ rfl)
  · exact (hb.cell (p := ⟨b, off + j * 5 + 3, none⟩) hl).trans (hr 3 _ rfl)
  · exact (hb.cell (p := ⟨b, off + j * 5 + 4, none⟩) hl).trans (hr 4 _ rfl)
theorem DIn.elem {w W : World} {l : List DIn} {v : Value} (h : In1 w (seqOf 2 DIn.cells l) v) (hb : Below w.heap.size w W) {j : Nat} (hj : j < l.length) :
    ∃ b off c A0 c0 A1 c1, v = .slice (some ⟨b, off, none⟩) l.length c ∧ (∀ {X : Option Addr} {n m : Nat}, v = .slice X n m → X = some ⟨b, off, none⟩) ∧ b < w.heap.size ∧ W.cell? ⟨b, off + j * 2, none⟩ = some (.slice A0 l[j].drv.length c0) ∧ W.cell? ⟨b, off + j * 2 + 1, none⟩ = some (.slice A1 l[j].out.length c1) ∧ In1 w (raw l[j].drv) (.slice A0 l[j].drv.length c0) ∧ In1 w (raw l[j].out) (.slice A1 l[j].out.length c1) := by
  obtain ⟨F, h⟩ := h
  obtain ⟨b, off, c, us, Fj, e, hl, hr, hi, _⟩ := h.elem (fun x : DIn => x.cells_len) hj
  obtain ⟨A0, c0, A1, c1, rfl, i0, i1⟩ := DIn.view ⟨Fj, hi⟩
  refine ⟨b, off, c, A0, c0, A1, c1, e, (fun e2 => by rw [e] at e2; injection e2 with e2; exact e2.symm), hl, ?_, ?_, i0, i1⟩
  · exact (hb.cell (p := ⟨b, off + j * 2 + 0, none⟩) hl).trans (hr 0 _ rfl)
  · exact (hb.cell (p := ⟨b, off + j * 2 + 1, none⟩) hl).trans (hr 1 _ rfl)
theorem DObj.elem {w W : World} {l : List DObj} {v : Value} (h : In1 w (seqOf 9 DObj.cells l) v) (hb : Below w.heap.size w W) {j : Nat} (hj : j < l.length) :
    ∃ b off c A0 c0 A3 c3 A4 c4 A5 c5 A6 c6 A7 c7 A8 c8, v = .slice (some ⟨b, off, none⟩) l.length c ∧ (∀ {X : Option Addr} {n m : Nat}, v = .slice X n m → X = some ⟨b, off, none⟩) ∧ b < w.heap.size ∧ W.cell? ⟨b, off + j * 9, none⟩ = some (.slice A0 l[j].name.length c0) ∧ W.cell? ⟨b, off + j * 9 + 1, none⟩ = some (.int .i64 l[j].kind) ∧ W.cell? ⟨b, off + j * 9 + 2, none⟩ = some (.int .i64 l[j].tree.kind) ∧ W.cell? ⟨b, off + j * 9 + 3, none⟩ = some (.slice A3 l[j].tree.data.length c3) ∧ W.cell? ⟨b, off + j * 9 + 4, none⟩ = some (.slice A4 l[j].tree.names.length c4) ∧ W.cell? ⟨b, off + j * 9 + 5, none⟩ = some (.slice A5 l[j].tree.kids.length c5) ∧ W.cell? ⟨b, off + j * 9 + 6, none⟩ = some (.slice A6 l[j].refs.length c6) ∧ W.cell? ⟨b, off + j * 9 + 7, none⟩ = some (.slice A7 l[j].frm.length c7) ∧ W.cell? ⟨b, off + j * 9 + 8, none⟩ = some (.slice A8 l[j].out.length c8) ∧ In1 w (raw l[j].name) (.slice A0 l[j].name.length c0) ∧ In1 w (raw l[j].tree.data) (.slice A3 l[j].tree.data.length c3) ∧ In1 w (Go.Proofs.YtigklnokgmcifaaDoor.names l[j].tree.names) (.slice A4 l[j].tree.names.length c4) ∧ In1 w (seqOf 4 T.cells l[j].tree.kids) (.slice A5 l[j].tree.kids.length c5) ∧ In1 w (Go.Proofs.YtigklnokgmcifaaDoor.names l[j].refs) (.slice A6 l[j].refs.length c6) ∧ In1 w (raw l[j].frm) (.slice A7 l[j].frm.length c7) ∧ In1 w (raw l[j].out) (.slice A8 l[j].out.length c8) := by
  obtain ⟨F, h⟩ := h
  obtain ⟨b, off, c, us, Fj, e, hl, hr, hi, _⟩ := h.elem (fun x : DObj => x.cells_len) hj
  obtain ⟨A0, c0, A3, c3, A4, c4, A5, c5, A6, c6, A7, c7, A8, c8, rfl, i0, i3, i4, i5, i6, i7, i8⟩ := DObj.view ⟨Fj, hi⟩
  refine ⟨b, off, c, A0, c0, A3, c3, A4, c4, A5, c5, A6, c6, A7, c7, A8, c8, e, (fun e2 => by rw [e] at e2; injection e2 with e2; exact e2.symm), hl, ?_, ?_, ?_, ?_, ?_, ?_, ?_, ?_, ?_, i0, i3, i4, i5, i6, i7, i8⟩
  · exact (hb.cell (p := ⟨b, off + j * 9 + 0, none⟩) hl).trans (hr 0 _ rfl)
  · exact (hb.cell (p := ⟨b, off + j * 9 + 1, none⟩) hl).trans (hr 1 _ rfl)
  · exact (hb.cell (p := ⟨b, off + j * 9 + 2, none⟩) hl).trans (hr 2 _ rfl)
  · exact (hb.cell (p := ⟨b, off + j * 9 + 3, none⟩) hl).trans (hr 3 _ rfl)
  · exact (hb.cell (p := ⟨b, off + j * 9 + 4, none⟩) hl).trans (hr 4 _ rfl)
  · exact (hb.cell (p := ⟨b, off + j * 9 + 5, none⟩) hl).trans (hr 5 _ rfl)
  · exact (hb.cell (p := ⟨b, off + j * 9 + 6, none⟩) hl).trans (hr 6 _ rfl)
  · exact (hb.cell (p := ⟨b, off + j * 9 + 7, none⟩) hl).trans (hr 7 _ rfl)
  · exact (hb.cell (p := ⟨b, off + j * 9 + 8, none⟩) hl).trans (hr 8 _ rfl)
theorem DDrv.elem {w W : World} {l : List DDrv} {v : Value} (h : In1 w (seqOf 4 DDrv.cells l) v) (hb : Below w.heap.size w W) {j : Nat} (hj : j < l.length) :
    ∃ b off c A0 c0 A1 c1 A2 c2 A3 c3, v = .slice (some ⟨b, off, none⟩) l.length c ∧ (∀ {X : Option Addr} {n m : Nat}, v = .slice X n m → X = some ⟨b, off, none⟩) ∧ b < w.heap.size ∧ W.cell? ⟨b, off + j * 4, none⟩ = some (.slice A0 l[j].srcs.length c0) ∧ W.cell? ⟨b, off + j * 4 + 1, none⟩ = some (.slice A1 l[j].ins.length c1) ∧ W.cell? ⟨b, off + j * 4 + 2, none⟩ = some (.slice A2 l[j].outs.length c2) ∧ W.cell? ⟨b, off + j * 4 + 3, none⟩ = some (.slice A3 l[j].ops.length c3) ∧ In1 w (Go.Proofs.YtigklnokgmcifaaDoor.names l[j].srcs) (.slice A0 l[j].srcs.length c0) ∧ In1 w (seqOf 2 DIn.cells l[j].ins) (.slice A1 l[j].ins.length c1) ∧ In1 w (Go.Proofs.YtigklnokgmcifaaDoor.names l[j].outs) (.slice A2 l[j].outs.length c2) ∧ In1 w (seqOf 5 DOp.cells l[j].ops) (.slice A3 l[j].ops.length c3) := by
  obtain ⟨F, h⟩ := h
  obtain ⟨b, off, c, us, Fj, e, hl, hr, hi, _⟩ := h.elem (fun x : DDrv => x.cells_len) hj
  obtain ⟨A0, c0, A1, c1, A2, c2, A3, c3, rfl, i0, i1, i2, i3⟩ := DDrv.view ⟨Fj, hi⟩
  refine ⟨b, off, c, A0, c0, A1, c1, A2, c2, A3, c3, e, (fun e2 => by rw [e] at e2; injection e2 with e2; exact e2.symm), hl, ?_, ?_, ?_, ?_, i0, i1, i2, i3⟩
  · exact (hb.cell (p := ⟨b, off + j * 4 + 0, none⟩) hl).trans (hr 0 _ rfl)
  · exact (hb.cell (p := ⟨b, off + j * 4 + 1, none⟩) hl).trans (hr 1 _ rfl)
  · exact (hb.cell (p := ⟨b, off + j * 4 + 2, none⟩) hl).trans (hr 2 _ rfl)
  · exact (hb.cell (p := ⟨b, off + j * 4 + 3, none⟩) hl).trans (hr 3 _ rfl)
theorem DJob.elem {w W : World} {l : List DJob} {v : Value} (h : In1 w (seqOf 8 DJob.cells l) v) (hb : Below w.heap.size w W) {j : Nat} (hj : j < l.length) :
    ∃ b off c A0 c0 A1 c1 A2 c2 A3 c3 A4 c4 A6 c6 A7 c7, v = .slice (some ⟨b, off, none⟩) l.length c ∧ (∀ {X : Option Addr} {n m : Nat}, v = .slice X n m → X = some ⟨b, off, none⟩) ∧ b < w.heap.size ∧ W.cell? ⟨b, off + j * 8, none⟩ = some (.slice A0 l[j].d.srcs.length c0) ∧ W.cell? ⟨b, off + j * 8 + 1, none⟩ = some (.slice A1 l[j].d.ins.length c1) ∧ W.cell? ⟨b, off + j * 8 + 2, none⟩ = some (.slice A2 l[j].d.outs.length c2) ∧ W.cell? ⟨b, off + j * 8 + 3, none⟩ = some (.slice A3 l[j].d.ops.length c3) ∧ W.cell? ⟨b, off + j * 8 + 4, none⟩ = some (.slice A4 l[j].name.length c4) ∧ W.cell? ⟨b, off + j * 8 + 5, none⟩ = some (.int .i64 l[j].pc) ∧ W.cell? ⟨b, off + j * 8 + 6, none⟩ = some (.slice A6 l[j].args.length c6) ∧ W.cell? ⟨b, off + j * 8 + 7, none⟩ = some (.slice A7 l[j].outs.length c7) ∧ In1 w (Go.Proofs.YtigklnokgmcifaaDoor.names l[j].d.srcs) (.slice A0 l[j].d.srcs.length c0) ∧ In1 w (seqOf 2 DIn.cells l[j].d.ins) (.slice A1 l[j].d.ins.length c1) ∧ In1 w (Go.Proofs.YtigklnokgmcifaaDoor.names l[j].d.outs) (.slice A2 l[j].d.outs.length c2) ∧ In1 w (seqOf 5 DOp.cells l[j].d.ops) (.slice A3 l[j].d.ops.length c3) ∧ In1 w (raw l[j].name) (.slice A4 l[j].name.length c4) ∧ In1 w (Go.Proofs.YtigklnokgmcifaaDoor.names l[j].args) (.slice A6 l[j].args.length c6) ∧ In1 w (seqOf 4 T.cells l[j].outs) (.slice A7 l[j].outs.length c7) := by
  obtain ⟨F, h⟩ := h
  obtain ⟨b, off, c, us, Fj, e, hl, hr, hi, _⟩ := h.elem (fun x : DJob => x.cells_len) hj
  obtain ⟨A0, c0, A1, c1, A2, c2, A3, c3, A4, c4, A6, c6, A7, c7, rfl, i0, i1, i2, i3, i4, i6, i7⟩ := DJob.view ⟨Fj, hi⟩
  refine ⟨b, off, c, A0, c0, A1, c1, A2, c2, A3, c3, A4, c4, A6, c6, A7, c7, e, (fun e2 => by rw [e] at e2; injection e2 with e2; exact e2.symm), hl, ?_, ?_, ?_, ?_, ?_, ?_, ?_, ?_, i0, i1, i2, i3, i4, i6, i7⟩
  · exact (hb.cell (p := ⟨b, off + j * 8 + 0, none⟩) hl).trans (hr 0 _ rfl)
  · exact (hb.cell (p := ⟨b, off + j * 8 + 1, none⟩) hl).trans (hr 1 _ rfl)
  · exact (hb.cell (p := ⟨b, off + j * 8 + 2, none⟩) hl).trans (hr 2 _ rfl)
  · exact (hb.cell (p := ⟨b, off + j * 8 + 3, none⟩) hl).trans (hr 3 _ rfl)
  · exact (hb.cell (p := ⟨b, off + j * 8 + 4, none⟩) hl).trans (hr 4 _ rfl)
  · exact (hb.cell (p := ⟨b, off + j * 8 + 5, none⟩) hl).trans (hr 5 _ rfl)
  · exact (hb.cell (p := ⟨b, off + j * 8 + 6, none⟩) hl).trans (hr 6 _ rfl)
  · exact (hb.cell (p := ⟨b, off + j * 8 + 7, none⟩) hl).trans (hr 7 _ rfl)
theorem DGoal.elem {w W : World} {l : List DGoal} {v : Value} (h : In1 w (seqOf 13 DGoal.cells l) v) (hb : Below w.heap.size w W) {j : Nat} (hj : j < l.length) :
    ∃ b off c A0 c0 A4 c4 A5 c5 A6 c6 A7 c7 A8 c8 A10 c10 A11 c11 A12 c12, v = .slice (some ⟨b, off, none⟩) l.length c ∧ (∀ {X : Option Addr} {n m : Nat}, v = .slice X n m → X = some ⟨b, off, none⟩) ∧ b < w.heap.size ∧ W.cell? ⟨b, off + j * 13, none⟩ = some (.slice A0 l[j].drv.length c0) ∧ W.cell? ⟨b, off + j * 13 + 1, none⟩ = some (.int .i64 l[j].state) ∧ W.cell? ⟨b, off + j * 13 + 2, none⟩ = some (.int .i64 l[j].err) ∧ W.cell? ⟨b, off + j * 13 + 3, none⟩ = some (.bool l[j].begun) ∧ W.cell? ⟨b, off + j * 13 + 4, none⟩ = some (.slice A4 l[j].job.d.srcs.length c4) ∧ W.cell? ⟨b, off + j * 13 + 5, none⟩ = some (.slice A5 l[j].job.d.ins.length c5) ∧ W.cell? ⟨b, off + j * 13 + 6, none⟩ = some (.slice A6 l[j].job.d.outs.length c6) ∧ W.cell? ⟨b, off + j * 13 + 7, none⟩ = some (.slice A7 l[j].job.d.ops.length c7) ∧ W.cell? ⟨b, off + j * 13 + 8, none⟩ = some (.slice A8 l[j].job.name.length c8) ∧ W.cell? ⟨b, off + j * 13 + 9, none⟩ = some (.int .i64 l[j].job.pc) ∧ W.cell? ⟨b, off + j * 13 + 10, none⟩ = some (.slice A10 l[j].job.args.length c10) ∧ W.cell? ⟨b, off + j * 13 + 11, none⟩ = some (.slice A11 l[j].job.outs.length c11) ∧ W.cell? ⟨b, off + j * 13 + 12, none⟩ = some (.slice A12 l[j].need.length c12) ∧ In1 w (raw l[j].drv) (.slice A0 l[j].drv.length c0) ∧ In1 w (Go.Proofs.YtigklnokgmcifaaDoor.names l[j].job.d.srcs) (.slice A4 l[j].job.d.srcs.length c4) ∧ In1 w (seqOf 2 DIn.cells l[j].job.d.ins) (.slice A5 l[j].job.d.ins.length c5) ∧ In1 w (Go.Proofs.YtigklnokgmcifaaDoor.names l[j].job.d.outs) (.slice A6 l[j].job.d.outs.length c6) ∧ In1 w (seqOf 5 DOp.cells l[j].job.d.ops) (.slice A7 l[j].job.d.ops.length c7) ∧ In1 w (raw l[j].job.name) (.slice A8 l[j].job.name.length c8) ∧ In1 w (Go.Proofs.YtigklnokgmcifaaDoor.names l[j].job.args) (.slice A10 l[j].job.args.length c10) ∧ In1 w (seqOf 4 T.cells l[j].job.outs) (.slice A11 l[j].job.outs.length c11) ∧ In1 w (Go.Proofs.YtigklnokgmcifaaDoor.names l[j].need) (.slice A12 l[j].need.length c12) := by
  obtain ⟨F, h⟩ := h
  obtain ⟨b, off, c, us, Fj, e, hl, hr, hi, _⟩ := h.elem (fun x : DGoal => x.cells_len) hj
  obtain ⟨A0, c0, A4, c4, A5, c5, A6, c6, A7, c7, A8, c8, A10, c10, A11, c11, A12, c12, rfl, i0, i4, i5, i6, i7, i8, i10, i11, i12⟩ := DGoal.view ⟨Fj, hi⟩
  refine ⟨b, off, c, A0, c0, A4, c4, A5, c5, A6, c6, A7, c7, A8, c8, A10, c10, A11, c11, A12, c12, e, (fun e2 => by rw [e] at e2; injection e2 with e2; exact e2.symm), hl, ?_, ?_, ?_, ?_, ?_, ?_, ?_, ?_, ?_, ?_, ?_, ?_, ?_, i0, i4, i5, i6, i7, i8, i10, i11, i12⟩
  · exact (hb.cell (p := ⟨b, off + j * 13 + 0, none⟩) hl).trans (hr 0 _ rfl)
  · exact (hb.cell (p := ⟨b, off + j * 13 + 1, none⟩) hl).trans (hr 1 _ rfl)
  · exact (hb.cell (p := ⟨b, off + j * 13 + 2, none⟩) hl).trans (hr 2 _ rfl)
  · exact (hb.cell (p := ⟨b, off + j * 13 + 3, none⟩) hl).trans (hr 3 _ rfl)
  · exact (hb.cell (p := ⟨b, off + j * 13 + 4, none⟩) hl).trans (hr 4 _ rfl)
  · exact (hb.cell (p := ⟨b, off + j * 13 + 5, none⟩) hl).trans (hr 5 _ rfl)
  · exact (hb.cell (p := ⟨b, off + j * 13 + 6, none⟩) hl).trans (hr 6 _ rfl)
  · exact (hb.cell (p := ⟨b, off + j * 13 + 7, none⟩) hl).trans (hr 7 _ rfl)
  · exact (hb.cell (p := ⟨b, off + j * 13 + 8, none⟩) hl).trans (hr 8 _ rfl)
  · exact (hb.cell (p := ⟨b, off + j * 13 + 9, none⟩) hl).trans (hr 9 _ rfl)
  · exact (hb.cell (p := ⟨b, off + j * 13 + 10, none⟩) hl).trans (hr 10 _ rfl)
  · exact (hb.cell (p := ⟨b, off + j * 13 + 11, none⟩) hl).trans (hr 11 _ rfl)
  · exact (hb.cell (p := ⟨b, off + j * 13 + 12, none⟩) hl).trans (hr 12 _ rfl)
theorem DReg.elem {w W : World} {l : List DReg} {v : Value} (h : In1 w (seqOf 14 DReg.cells l) v) (hb : Below w.heap.size w W) {j : Nat} (hj : j < l.length) :
    ∃ b off c A1 c1 A4 c4 A5 c5 A6 c6 A7 c7 A8 c8 A9 c9 A10 c10 A11 c11 A12 c12 A13 c13, v = .slice (some ⟨b, off, none⟩) l.length c ∧ (∀ {X : Option Addr} {n m : Nat}, v = .slice X n m → X = some ⟨b, off, none⟩) ∧ b < w.heap.size ∧ W.cell? ⟨b, off + j * 14, none⟩ = some (.int .i64 l[j].kind) ∧ W.cell? ⟨b, off + j * 14 + 1, none⟩ = some (.slice A1 l[j].obj.name.length c1) ∧ W.cell? ⟨b, off + j * 14 + 2, none⟩ = some (.int .i64 l[j].obj.kind) ∧ W.cell? ⟨b, off + j * 14 + 3, none⟩ = some (.int .i64 l[j].obj.tree.kind) ∧ W.cell? ⟨b, off + j * 14 + 4, none⟩ = some (.slice A4 l[j].obj.tree.data.length c4) ∧ W.cell? ⟨b, off + j * 14 + 5, none⟩ = some (.slice A5 l[j].obj.tree.names.length c5) ∧ W.cell? ⟨b, off + j * 14 + 6, none⟩ = some (.slice A6 l[j].obj.tree.kids.length c6) ∧ W.cell? ⟨b, off + j * 14 + 7, none⟩ = some (.slice A7 l[j].obj.refs.length c7) ∧ W.cell? ⟨b, off + j * 14 + 8, none⟩ = some (.slice A8 l[j].obj.frm.length c8) ∧ W.cell? ⟨b, off + j * 14 + 9, none⟩ = some (.slice A9 l[j].obj.out.length c9) ∧ W.cell? ⟨b, off + j * 14 + 10, none⟩ = some (.slice A10 l[j].real.drv.length c10) ∧ W.cell? ⟨b, off + j * 14 + 11, none⟩ = some (.slice A11 l[j].real.out.length c11) ∧ W.cell? ⟨b, off + j * 14 + 12, none⟩ = some (.slice A12 l[j].real.path.length c12) ∧ W.cell? ⟨b, off + j * 14 + 13, none⟩ = some (.slice A13 l[j].name.length c13) ∧ In1 w (raw l[j].obj.name) (.slice A1 l[j].obj.name.length c1) ∧ In1 w (raw l[j].obj.tree.data) (.slice A4 l[j].obj.tree.data.length c4) ∧ In1 w (Go.Proofs.YtigklnokgmcifaaDoor.names l[j].obj.tree.names) (.slice A5 l[j].obj.tree.names.length c5) ∧ In1 w (seqOf 4 T.cells l[j].obj.tree.kids) (.slice A6 l[j].obj.tree.kids.length c6) ∧ In1 w (Go.Proofs.YtigklnokgmcifaaDoor.names l[j].obj.refs) (.slice A7 l[j].obj.refs.length c7) ∧ In1 w (raw l[j].obj.frm) (.slice A8 l[j].obj.frm.length c8) ∧ In1 w (raw l[j].obj.out) (.slice A9 l[j].obj.out.length c9) ∧ In1 w (raw l[j].real.drv) (.slice A10 l[j].real.drv.length c10) ∧ In1 w (raw l[j].real.out) (.slice A11 l[j].real.out.length c11) ∧ In1 w (raw l[j].real.path) (.slice A12 l[j].real.path.length c12) ∧ In1 w (raw l[j].name) (.slice A13 l[j].name.length c13) := by
  obtain ⟨F, h⟩ := h
  obtain ⟨b, off, c, us, Fj, e, hl, hr, hi, _⟩ := h.elem (fun x : DReg => x.cells_len) hj
  obtain ⟨A1, c1, A4, c4, A5, c5, A6, c6, A7, c7, A8, c8, A9, c9, A10, c10, A11, c11, A12, c12, A13, c13, rfl, i1, i4, i5, i6, i7, i8, i9, i10, i11, i12, i13⟩ := DReg.view ⟨Fj, hi⟩
  refine ⟨b, off, c, A1, c1, A4, c4, A5, c5, A6, c6, A7, c7, A8, c8, A9, c9, A10, c10, A11, c11, A12, c12, A13, c13, e, (fun e2 => by rw [e] at e2; injection e2 with e2; exact e2.symm), hl, ?_, ?_, ?_, ?_, ?_, ?_, ?_, ?_, ?_, ?_, ?_, ?_, ?_, ?_, i1, i4, i5, i6, i7, i8, i9, i10, i11, i12, i13⟩
  · exact (hb.cell (p := ⟨b, off + j * 14 + 0, none⟩) hl).trans (hr 0 _ rfl)
  · exact (hb.cell (p := ⟨b, off + j * 14 + 1, none⟩) hl).trans (hr 1 _ rfl)
  · exact (hb.cell (p := ⟨b, off + j * 14 + 2, none⟩) hl).trans (hr 2 _ rfl)
  · exact (hb.cell (p := ⟨b, off + j * 14 + 3, none⟩) hl).trans (hr 3 _ rfl)
  · exact (hb.cell (p := ⟨b, off + j * 14 + 4, none⟩) hl).trans (hr 4 _ rfl)
  · exact (hb.cell (p := ⟨b, off + j * 14 + 5, none⟩) hl).trans (hr 5 _ rfl)
  · exact (hb.cell (p := ⟨b, off + j * 14 + 6, none⟩) hl).trans (hr 6 _ rfl)
  · exact (hb.cell (p := ⟨b, off + j * 14 + 7, none⟩) hl).trans (hr 7 _ rfl)
  · exact (hb.cell (p := ⟨b, off + j * 14 + 8, none⟩) hl).trans (hr 8 _ rfl)
  · exact (hb.cell (p := ⟨b, off + j * 14 + 9, none⟩) hl).trans (hr 9 _ rfl)
  · exact (hb.cell (p := ⟨b, off + j * 14 + 10, none⟩) hl).trans (hr 10 _ rfl)
  · exact (hb.cell (p := ⟨b, off + j * 14 + 11, none⟩) hl).trans (hr 11 _ rfl)
  · exact (hb.cell (p := ⟨b, off + j * 14 + 12, none⟩) hl).trans (hr 12 _ rfl)
  · exact (hb.cell (p := ⟨b, off + j * 14 + 13, none⟩) hl).trans (hr 13 _ rfl)
theorem DCmd.elem {w W : World} {l : List DCmd} {v : Value} (h : In1 w (seqOf 10 DCmd.cells l) v) (hb : Below w.heap.size w W) {j : Nat} (hj : j < l.length) :
    ∃ b off c A1 c1 A3 c3 A4 c4 A5 c5 A6 c6 A7 c7 A8 c8, v = .slice (some ⟨b, off, none⟩) l.length c ∧ (∀ {X : Option Addr} {n m : Nat}, v = .slice X n m → X = some ⟨b, off, none⟩) ∧ b < w.heap.size ∧ W.cell? ⟨b, off + j * 10, none⟩ = some (.int .i64 l[j].kind) ∧ W.cell? ⟨b, off + j * 10 + 1, none⟩ = some (.slice A1 l[j].text.length c1) ∧ W.cell? ⟨b, off + j * 10 + 2, none⟩ = some (.int .i64 l[j].tree.kind) ∧ W.cell? ⟨b, off + j * 10 + 3, none⟩ = some (.slice A3 l[j].tree.data.length c3) ∧ W.cell? ⟨b, off + j * 10 + 4, none⟩ = some (.slice A4 l[j].tree.names.length c4) ∧ W.cell? ⟨b, off + j * 10 + 5, none⟩ = some (.slice A5 l[j].tree.kids.length c5) ∧ W.cell? ⟨b, off + j * 10 + 6, none⟩ = some (.slice A6 l[j].name.length c6) ∧ W.cell? ⟨b, off + j * 10 + 7, none⟩ = some (.slice A7 l[j].out.length c7) ∧ W.cell? ⟨b, off + j * 10 + 8, none⟩ = some (.slice A8 l[j].picks.length c8) ∧ W.cell? ⟨b, off + j * 10 + 9, none⟩ = some (.int .i64 l[j].keep) ∧ In1 w (raw l[j].text) (.slice A1 l[j].text.length c1) ∧ In1 w (raw l[j].tree.data) (.slice A3 l[j].tree.data.length c3) ∧ In1 w (Go.Proofs.YtigklnokgmcifaaDoor.names l[j].tree.names) (.slice A4 l[j].tree.names.length c4) ∧ In1 w (seqOf 4 T.cells l[j].tree.kids) (.slice A5 l[j].tree.kids.length c5) ∧ In1 w (raw l[j].name) (.slice A6 l[j].name.length c6) ∧ In1 w (raw l[j].out) (.slice A7 l[j].out.length c7) ∧ In1 w (ints l[j].picks) (.slice A8 l[j].picks.length c8) := by
  obtain ⟨F, h⟩ := h
  obtain ⟨b, off, c, us, Fj, e, hl, hr, hi, _⟩ := h.elem (fun x : DCmd => x.cells_len) hj
  obtain ⟨A1, c1, A3, c3, A4, c4, A5, c5, A6, c6, A7, c7, A8, c8, rfl, i1, i3, i4, i5, i6, i7, i8⟩ := DCmd.view ⟨Fj, hi⟩
  refine ⟨b, off, c, A1, c1, A3, c3, A4, c4, A5, c5, A6, c6, A7, c7, A8, c8, e, (fun e2 => by rw [e] at e2; injection e2 with e2; exact e2.symm), hl, ?_, ?_, ?_, ?_, ?_, ?_, ?_, ?_, ?_, ?_, i1, i3, i4, i5, i6, i7, i8⟩
  · exact (hb.cell (p := ⟨b, off + j * 10 + 0, none⟩) hl).trans (hr 0 _ rfl)
  · exact (hb.cell (p := ⟨b, off + j * 10 + 1, none⟩) hl).trans (hr 1 _ rfl)
  · exact (hb.cell (p := ⟨b, off + j * 10 + 2, none⟩) hl).trans (hr 2 _ rfl)
  · exact (hb.cell (p := ⟨b, off + j * 10 + 3, none⟩) hl).trans (hr 3 _ rfl)
  · exact (hb.cell (p := ⟨b, off + j * 10 + 4, none⟩) hl).trans (hr 4 _ rfl)
  · exact (hb.cell (p := ⟨b, off + j * 10 + 5, none⟩) hl).trans (hr 5 _ rfl)
  · exact (hb.cell (p := ⟨b, off + j * 10 + 6, none⟩) hl).trans (hr 6 _ rfl)
  · exact (hb.cell (p := ⟨b, off + j * 10 + 7, none⟩) hl).trans (hr 7 _ rfl)
  · exact (hb.cell (p := ⟨b, off + j * 10 + 8, none⟩) hl).trans (hr 8 _ rfl)
  · exact (hb.cell (p := ⟨b, off + j * 10 + 9, none⟩) hl).trans (hr 9 _ rfl)
theorem DTold.elem {w W : World} {l : List DTold} {v : Value} (h : In1 w (seqOf 2 DTold.cells l) v) (hb : Below w.heap.size w W) {j : Nat} (hj : j < l.length) :
    ∃ b off c A1 c1, v = .slice (some ⟨b, off, none⟩) l.length c ∧ (∀ {X : Option Addr} {n m : Nat}, v = .slice X n m → X = some ⟨b, off, none⟩) ∧ b < w.heap.size ∧ W.cell? ⟨b, off + j * 2, none⟩ = some (.int .i64 l[j].code) ∧ W.cell? ⟨b, off + j * 2 + 1, none⟩ = some (.slice A1 l[j].name.length c1) ∧ In1 w (raw l[j].name) (.slice A1 l[j].name.length c1) := by
  obtain ⟨F, h⟩ := h
  obtain ⟨b, off, c, us, Fj, e, hl, hr, hi, _⟩ := h.elem (fun x : DTold => x.cells_len) hj
  obtain ⟨A1, c1, rfl, i1⟩ := DTold.view ⟨Fj, hi⟩
  refine ⟨b, off, c, A1, c1, e, (fun e2 => by rw [e] at e2; injection e2 with e2; exact e2.symm), hl, ?_, ?_, i1⟩
  · exact (hb.cell (p := ⟨b, off + j * 2 + 0, none⟩) hl).trans (hr 0 _ rfl)
  · exact (hb.cell (p := ⟨b, off + j * 2 + 1, none⟩) hl).trans (hr 1 _ rfl)

end Go.Proofs.YtigklnokgmcifaaDoor


/-
  From the laws' data that come in to data of Lean.
-/
namespace Go.Proofs.YtigklnokgmcifaaDoor
open Go.ChangeShapes Go.WideShapes Go.ChangeAt Go.RowKit
set_option linter.unusedVariables false
set_option linter.unusedSimpArgs false
section
variable {H : Type} {enc : TypeId × Value → H} {W : World}
theorem names_of_trod' {fuel : Nat} {v : Value} {x : DataW H × List MemPlace} (h : DataW.trod enc Tryd.prog W 0 (fun _ => true) true fuel 23 [v] = some x) : ∃ l : List (List Int), (names l).ok ∧ ∃ F, Lie W (names l) v F :=
  row_of_trod (α := List Int) (f := fun n => [raw n]) (n := 1) Tryd.underlying23 (by kernel_rfl) (by decide) (by decide) (fun m _ cs x hx => by
    rcases cs with _ | ⟨u, _ | ⟨u2, cs⟩⟩
    · exact absurd (DataW.trod_slice Tryd.underlying22 hx) (by rintro (⟨h, _⟩ | ⟨_, _, _, _, _, _, _, h, _⟩) <;> cases h)
    · obtain ⟨l, h1, F, h2⟩ := raw_of_trod hx
      exact ⟨l, by rw [oks]; exact ⟨h1, trivial⟩, F, lies_one h2⟩
    · exact absurd (DataW.trod_slice Tryd.underlying22 hx) (by rintro (⟨h, _⟩ | ⟨_, _, _, _, _, _, _, h, _⟩) <;> cases h)) h
theorem ints_of_trod {fuel : Nat} {v : Value} {x : DataW H × List MemPlace} (h : DataW.trod enc Tryd.prog W 0 (fun _ => true) true fuel 123 [v] = some x) : ∃ l : List Int, (ints l).ok ∧ ∃ F, Lie W (ints l) v F := by
  obtain ⟨l, h1, F, h2⟩ := row_of_trod (α := Int) (f := fun x => [Cel.num .i64 x]) (n := 1) Tryd.underlying123 (by kernel_rfl) (by decide) (by decide) (fun m _ cs x hx => by
    obtain ⟨k, rfl, _, hw⟩ := DataW.trod_int Tryd.underlying3 hx
    exact ⟨k, by rw [oks]; exact ⟨(num_ok_i64 k).2 (i64_of_wf hw), trivial⟩, [], lies_one (lie_num _ _ _)⟩) h
  exact ⟨l, by rw [ints_eq]; exact h1, F, by rw [ints_eq]; exact h2⟩
set_option maxRecDepth 100000 in
theorem Tree_of_trod (fuel : Nat) : ∀ (cs : List Value) (x : DataW H × List MemPlace), DataW.trod enc Tryd.prog W 0 (fun _ => true) true fuel 26 cs = some x → ∃ a : T, oks a.cells ∧ ∃ F, Lies W a.cells cs F := by
  induction fuel using Nat.strongRecOn with
  | ind fuel ih =>
    intro cs x h
    obtain ⟨xs, n, hfu, hx, hlen, hxl, hf⟩ := DataW.trod_struct Tryd.underlying26 h
    have hC : Program.cellsOf Tryd.prog 26 = 4 := by kernel_rfl
    rw [hC] at hlen
    match cs, hlen, xs, hxl with
    | [c0, c1, c2, c3], _, [y0, y1, y2, y3], _ =>
      have C0 : Program.cellsOf Tryd.prog 3 = 1 := by kernel_rfl
      have f0 : DataW.trod enc Tryd.prog W 0 (fun _ => true) true n 3 (([c0, c1, c2, c3].drop 0).take (Program.cellsOf Tryd.prog 3)) = some y0 := hf 0 _ rfl
      rw [C0] at f0
      replace f0 : DataW.trod enc Tryd.prog W 0 (fun _ => true) true n 3 [c0] = some y0 := f0
      have C1 : Program.cellsOf Tryd.prog 22 = 1 := by kernel_rfl
      have f1 : DataW.trod enc Tryd.prog W 0 (fun _ => true) true n 22 (([c0, c1, c2, c3].drop 1).take (Program.cellsOf Tryd.prog 22)) = some y1 := hf 1 _ rfl
      rw [C1] at f1
      replace f1 : DataW.trod enc Tryd.prog W 0 (fun _ => true) true n 22 [c1] = some y1 := f1
      have C2 : Program.cellsOf Tryd.prog 23 = 1 := by kernel_rfl
      have f2 : DataW.trod enc Tryd.prog W 0 (fun _ => true) true n 23 (([c0, c1, c2, c3].drop 2).take (Program.cellsOf Tryd.prog 23)) = some y2 := hf 2 _ rfl
      rw [C2] at f2
      replace f2 : DataW.trod enc Tryd.prog W 0 (fun _ => true) true n 23 [c2] = some y2 := f2
      have C3 : Program.cellsOf Tryd.prog 24 = 1 := by kernel_rfl
      have f3 : DataW.trod enc Tryd.prog W 0 (fun _ => true) true n 24 (([c0, c1, c2, c3].drop 3).take (Program.cellsOf Tryd.prog 24)) = some y3 := hf 3 _ rfl
      rw [C3] at f3
      replace f3 : DataW.trod enc Tryd.prog W 0 (fun _ => true) true n 24 [c3] = some y3 := f3
      obtain ⟨k0, e0, _, w0⟩ := DataW.trod_int Tryd.underlying3 f0
      obtain rfl := List.singleton_inj.1 e0
      obtain ⟨k1, o1, F1, l1⟩ := raw_of_trod f1
      obtain ⟨k2, o2, F2, l2⟩ := names_of_trod' f2
      obtain ⟨k3, o3, F3, l3⟩ := row_of_trod (α := T) (f := T.cells) (n := 4) Tryd.underlying24 (by kernel_rfl) (by decide) (by decide) (fun m hm cs x hx => ih m (by omega) cs x hx) f3
      refine ⟨T.node k0 k1 k2 k3, ?_, ?_⟩
      · rw [T.cells_top]
        simp only [oks, oks_app]
        exact ⟨(num_ok_i64 k0).2 (i64_of_wf w0), o1, o2, o3, trivial⟩
      · rw [T.cells_top]
        exact ⟨_, ((lies_one (lie_num W .i64 k0)).append ((lies_one l1).append ((lies_one l2).append (lies_one l3))))⟩
theorem TreeS_of_trod {fuel : Nat} {v : Value} {x : DataW H × List MemPlace} (h : DataW.trod enc Tryd.prog W 0 (fun _ => true) true fuel 24 [v] = some x) : ∃ l : List T, (seqOf 4 T.cells l).ok ∧ ∃ F, Lie W (seqOf 4 T.cells l) v F :=
  row_of_trod (α := T) (f := T.cells) (n := 4) Tryd.underlying24 (by kernel_rfl) (by decide) (by decide) (fun m _ cs x hx => Tree_of_trod m cs x hx) h
set_option maxRecDepth 100000 in
theorem Op_of_trod (fuel : Nat) : ∀ (cs : List Value) (x : DataW H × List MemPlace), DataW.trod enc Tryd.prog W 0 (fun _ => true) true fuel 102 cs = some x → ∃ a : DOp, oks a.cells ∧ ∃ F, Lies W a.cells cs F := by
    intro cs x h
    obtain ⟨xs, n, hfu, hx, hlen, hxl, hf⟩ := DataW.trod_struct Tryd.underlying102 h
    have hC : Program.cellsOf Tryd.prog 102 = 5 := by kernel_rfl
    rw [hC] at hlen
    match cs, hlen, xs, hxl with
    | [c0, c1, c2, c3, c4], _, [y0, y1, y2, y3, y4], _ =>
      have C0 : Program.cellsOf Tryd.prog 3 = 1 := by kernel_rfl
      have f0 : DataW.trod enc Tryd.prog W 0 (fun _ => true) true n 3 (([c0, c1, c2, c3, c4].drop 0).take (Program.cellsOf Tryd.prog 3)) = some y0 := hf 0 _ rfl
      rw [C0] at f0
      replace f0 : DataW.trod enc Tryd.prog W 0 (fun _ => true) true n 3 [c0] = some y0 := f0
      have C1 : Program.cellsOf Tryd.prog 3 = 1 := by kernel_rfl
      have f1 : DataW.trod enc Tryd.prog W 0 (fun _ => true) true n 3 (([c0, c1, c2, c3, c4].drop 1).take (Program.cellsOf Tryd.prog 3)) = some y1 := hf 1 _ rfl
      rw [C1] at f1
      replace f1 : DataW.trod enc Tryd.prog W 0 (fun _ => true) true n 3 [c1] = some y1 := f1
      have C2 : Program.cellsOf Tryd.prog 22 = 1 := by kernel_rfl
      have f2 : DataW.trod enc Tryd.prog W 0 (fun _ => true) true n 22 (([c0, c1, c2, c3, c4].drop 2).take (Program.cellsOf Tryd.prog 22)) = some y2 := hf 2 _ rfl
      rw [C2] at f2
      replace f2 : DataW.trod enc Tryd.prog W 0 (fun _ => true) true n 22 [c2] = some y2 := f2
      have C3 : Program.cellsOf Tryd.prog 22 = 1 := by kernel_rfl
      have f3 : DataW.trod enc Tryd.prog W 0 (fun _ => true) true n 22 (([c0, c1, c2, c3, c4].drop 3).take (Program.cellsOf Tryd.prog 22)) = some y3 := hf 3 _ rfl
      rw [C3] at f3
      replace f3 : DataW.trod enc Tryd.prog W 0 (fun _ => true) true n 22 [c3] = some y3 := f3
      have C4 : Program.cellsOf Tryd.prog 3 = 1 := by kernel_rfl
      have f4 : DataW.trod enc Tryd.prog W 0 (fun _ => true) true n 3 (([c0, c1, c2, c3, c4].drop 4).take (Program.cellsOf Tryd.prog 3)) = some y4 := hf 4 _ rfl
      rw [C4] at f4
      replace f4 : DataW.trod enc Tryd.prog W 0 (fun _ => true) true n 3 [c4] = some y4 := f4
      obtain ⟨k0, e0, _, w0⟩ := DataW.trod_int Tryd.underlying3 f0
      obtain rfl := List.singleton_inj.1 e0
      obtain ⟨k1, e1, _, w1⟩ := DataW.trod_int Tryd.underlying3 f1
      obtain rfl := List.singleton_inj.1 e1
      obtain ⟨k2, o2, F2, l2⟩ := raw_of_trod f2
      obtain ⟨k3, o3, F3, l3⟩ := raw_of_trod f3
      obtain ⟨k4, e4, _, w4⟩ := DataW.trod_int Tryd.underlying3 f4
      obtain rfl := List.singleton_inj.1 e4
      refine ⟨⟨k0, k1, k2, k3, k4⟩, ?_, ?_⟩
      · rw [DOp.cells_top]
        simp only [oks, oks_app]
        exact ⟨(num_ok_i64 k0).2 (i64_of_wf w0), (num_ok_i64 k1).2 (i64_of_wf w1), o2, o3, (num_ok_i64 k4).2 (i64_of_wf w4), trivial⟩
      · rw [DOp.cells_top]
        exact ⟨_, ((lies_one (lie_num W .i64 k0)).append ((lies_one (lie_num W .i64 k1)).append ((lies_one l2).append ((lies_one l3).append (lies_one (lie_num W .i64 k4))))))⟩
theorem OpS_of_trod {fuel : Nat} {v : Value} {x : DataW H × List MemPlace} (h : DataW.trod enc Tryd.prog W 0 (fun _ => true) true fuel 40 [v] = some x) : ∃ l : List DOp, (seqOf 5 DOp.cells l).ok ∧ ∃ F, Lie W (seqOf 5 DOp.cells l) v F :=
  row_of_trod (α := DOp) (f := DOp.cells) (n := 5) Tryd.underlying40 (by kernel_rfl) (by decide) (by decide) (fun m _ cs x hx => Op_of_trod m cs x hx) h
set_option maxRecDepth 100000 in
theorem In_of_trod (fuel : Nat) : ∀ (cs : List Value) (x : DataW H × List MemPlace), DataW.trod enc Tryd.prog W 0 (fun _ => true) true fuel 99 cs = some x → ∃ a : DIn, oks a.cells ∧ ∃ F, Lies W a.cells cs F := by
    intro cs x h
    obtain ⟨xs, n, hfu, hx, hlen, hxl, hf⟩ := DataW.trod_struct Tryd.underlying99 h
    have hC : Program.cellsOf Tryd.prog 99 = 2 := by kernel_rfl
    rw [hC] at hlen
    match cs, hlen, xs, hxl with
    | [c0, c1], _, [y0, y1], _ =>
      have C0 : Program.cellsOf Tryd.prog 22 = 1 := by kernel_rfl
      have f0 : DataW.trod enc Tryd.prog W 0 (fun _ => true) true n 22 (([c0, c1].drop 0).take (Program.cellsOf Tryd.prog 22)) = some y0 := hf 0 _ rfl
      rw [C0] at f0
      replace f0 : DataW.trod enc Tryd.prog W 0 (fun _ => true) true n 22 [c0] = some y0 := f0
      have C1 : Program.cellsOf Tryd.prog 22 = 1 := by kernel_rfl
      have f1 : DataW.trod enc Tryd.prog W 0 (fun _ => true) true n 22 (([c0, c1].drop 1).take (Program.cellsOf Tryd.prog 22)) = some y1 := hf 1 _ rfl
      rw [C1] at f1
      replace f1 : DataW.trod enc Tryd.prog W 0 (fun _ => true) true n 22 [c1] = some y1 := f1
      obtain ⟨k0, o0, F0, l0⟩ := raw_of_trod f0
      obtain ⟨k1, o1, F1, l1⟩ := raw_of_trod f1
      refine ⟨⟨k0, k1⟩, ?_, ?_⟩
      · rw [DIn.cells_top]
        simp only [oks, oks_app]
        exact ⟨o0, o1, trivial⟩
      · rw [DIn.cells_top]
        exact ⟨_, ((lies_one l0).append (lies_one l1))⟩
theorem InS_of_trod {fuel : Nat} {v : Value} {x : DataW H × List MemPlace} (h : DataW.trod enc Tryd.prog W 0 (fun _ => true) true fuel 39 [v] = some x) : ∃ l : List DIn, (seqOf 2 DIn.cells l).ok ∧ ∃ F, Lie W (seqOf 2 DIn.cells l) v F :=
  row_of_trod (α := DIn) (f := DIn.cells) (n := 2) Tryd.underlying39 (by kernel_rfl) (by decide) (by decide) (fun m _ cs x hx => In_of_trod m cs x hx) h
set_option maxRecDepth 100000 in
theorem Obj_of_trod (fuel : Nat) : ∀ (cs : List Value) (x : DataW H × List MemPlace), DataW.trod enc Tryd.prog W 0 (fun _ => true) true fuel 28 cs = some x → ∃ a : DObj, oks a.cells ∧ ∃ F, Lies W a.cells cs F := by
    intro cs x h
    obtain ⟨xs, n, hfu, hx, hlen, hxl, hf⟩ := DataW.trod_struct Tryd.underlying28 h
    have hC : Program.cellsOf Tryd.prog 28 = 9 := by kernel_rfl
    rw [hC] at hlen
    match cs, hlen, xs, hxl with
    | [c0, c1, c2, c3, c4, c5, c6, c7, c8], _, [y0, y1, y2, y3, y4, y5], _ =>
      have C0 : Program.cellsOf Tryd.prog 22 = 1 := by kernel_rfl
      have f0 : DataW.trod enc Tryd.prog W 0 (fun _ => true) true n 22 (([c0, c1, c2, c3, c4, c5, c6, c7, c8].drop 0).take (Program.cellsOf Tryd.prog 22)) = some y0 := hf 0 _ rfl
      rw [C0] at f0
      replace f0 : DataW.trod enc Tryd.prog W 0 (fun _ => true) true n 22 [c0] = some y0 := f0
      have C1 : Program.cellsOf Tryd.prog 3 = 1 := by kernel_rfl
      have f1 : DataW.trod enc Tryd.prog W 0 (fun _ => true) true n 3 (([c0, c1, c2, c3, c4, c5, c6, c7, c8].drop 1).take (Program.cellsOf Tryd.prog 3)) = some y1 := hf 1 _ rfl
      rw [C1] at f1
      replace f1 : DataW.trod enc Tryd.prog W 0 (fun _ => true) true n 3 [c1] = some y1 := f1
      have C2 : Program.cellsOf Tryd.prog 26 = 4 := by kernel_rfl
      have f2 : DataW.trod enc Tryd.prog W 0 (fun _ => true) true n 26 (([c0, c1, c2, c3, c4, c5, c6, c7, c8].drop 2).take (Program.cellsOf Tryd.prog 26)) = some y2 := hf 2 _ rfl
      rw [C2] at f2
      replace f2 : DataW.trod enc Tryd.prog W 0 (fun _ => true) true n 26 [c2, c3, c4, c5] = some y2 := f2
      have C3 : Program.cellsOf Tryd.prog 23 = 1 := by kernel_rfl
      have f3 : DataW.trod enc Tryd.prog W 0 (fun _ => true) true n 23 (([c0, c1, c2, c3, c4, c5, c6, c7, c8].drop 6).take (Program.cellsOf Tryd.prog 23)) = some y3 := hf 3 _ rfl
      rw [C3] at f3
      replace f3 : DataW.trod enc Tryd.prog W 0 (fun _ => true) true n 23 [c6] = some y3 := f3
      have C4 : Program.cellsOf Tryd.prog 22 = 1 := by kernel_rfl
      have f4 : DataW.trod enc Tryd.prog W 0 (fun _ => true) true n 22 (([c0, c1, c2, c3, c4, c5, c6, c7, c8].drop 7).take (Program.cellsOf Tryd.prog 22)) = some y4 := hf 4 _ rfl
      rw [C4] at f4
      replace f4 : DataW.trod enc Tryd.prog W 0 (fun _ => true) true n 22 [c7] = some y4 := f4
      have C5 : Program.cellsOf Tryd.prog 22 = 1 := by kernel_rfl
      have f5 : DataW.trod enc Tryd.prog W 0 (fun _ => true) true n 22 (([c0, c1, c2, c3, c4, c5, c6, c7, c8].drop 8).take (Program.cellsOf Tryd.prog 22)) = some y5 := hf 5 _ rfl
      rw [C5] at f5
      replace f5 : DataW.trod enc Tryd.prog W 0 (fun _ => true) true n 22 [c8] = some y5 := f5
      obtain ⟨k0, o0, F0, l0⟩ := raw_of_trod f0
      obtain ⟨k1, e1, _, w1⟩ := DataW.trod_int Tryd.underlying3 f1
      obtain rfl := List.singleton_inj.1 e1
      obtain ⟨k2, o2, F2, l2⟩ := Tree_of_trod _ _ _ f2
      obtain ⟨k3, o3, F3, l3⟩ := names_of_trod' f3
      obtain ⟨k4, o4, F4, l4⟩ := raw_of_trod f4
      obtain ⟨k5, o5, F5, l5⟩ := raw_of_trod f5
      refine ⟨⟨k0, k1, k2, k3, k4, k5⟩, ?_, ?_⟩
      · rw [DObj.cells_top]
        simp only [oks, oks_app]
        exact ⟨o0, (num_ok_i64 k1).2 (i64_of_wf w1), o2, o3, o4, o5, trivial⟩
      · rw [DObj.cells_top]
        exact ⟨_, ((lies_one l0).append ((lies_one (lie_num W .i64 k1)).append (l2.append ((lies_one l3).append ((lies_one l4).append (lies_one l5))))))⟩
set_option maxRecDepth 100000 in
theorem Drv_of_trod (fuel : Nat) : ∀ (cs : List Value) (x : DataW H × List MemPlace), DataW.trod enc Tryd.prog W 0 (fun _ => true) true fuel 42 cs = some x → ∃ a : DDrv, oks a.cells ∧ ∃ F, Lies W a.cells cs F := by
    intro cs x h
    obtain ⟨xs, n, hfu, hx, hlen, hxl, hf⟩ := DataW.trod_struct Tryd.underlying42 h
    have hC : Program.cellsOf Tryd.prog 42 = 4 := by kernel_rfl
    rw [hC] at hlen
    match cs, hlen, xs, hxl with
    | [c0, c1, c2, c3], _, [y0, y1, y2, y3], _ =>
      have C0 : Program.cellsOf Tryd.prog 23 = 1 := by kernel_rfl
      have f0 : DataW.trod enc Tryd.prog W 0 (fun _ => true) true n 23 (([c0, c1, c2, c3].drop 0).take (Program.cellsOf Tryd.prog 23)) = some y0 := hf 0 _ rfl
      rw [C0] at f0
      replace f0 : DataW.trod enc Tryd.prog W 0 (fun _ => true) true n 23 [c0] = some y0 := f0
      have C1 : Program.cellsOf Tryd.prog 39 = 1 := by kernel_rfl
      have f1 : DataW.trod enc Tryd.prog W 0 (fun _ => true) true n 39 (([c0, c1, c2, c3].drop 1).take (Program.cellsOf Tryd.prog 39)) = some y1 := hf 1 _ rfl
      rw [C1] at f1
      replace f1 : DataW.trod enc Tryd.prog W 0 (fun _ => true) true n 39 [c1] = some y1 := f1
      have C2 : Program.cellsOf Tryd.prog 23 = 1 := by kernel_rfl
      have f2 : DataW.trod enc Tryd.prog W 0 (fun _ => true) true n 23 (([c0, c1, c2, c3].drop 2).take (Program.cellsOf Tryd.prog 23)) = some y2 := hf 2 _ rfl
      rw [C2] at f2
      replace f2 : DataW.trod enc Tryd.prog W 0 (fun _ => true) true n 23 [c2] = some y2 := f2
      have C3 : Program.cellsOf Tryd.prog 40 = 1 := by kernel_rfl
      have f3 : DataW.trod enc Tryd.prog W 0 (fun _ => true) true n 40 (([c0, c1, c2, c3].drop 3).take (Program.cellsOf Tryd.prog 40)) = some y3 := hf 3 _ rfl
      rw [C3] at f3
      replace f3 : DataW.trod enc Tryd.prog W 0 (fun _ => true) true n 40 [c3] = some y3 := f3
      obtain ⟨k0, o0, F0, l0⟩ := names_of_trod' f0
      obtain ⟨k1, o1, F1, l1⟩ := InS_of_trod f1
      obtain ⟨k2, o2, F2, l2⟩ := names_of_trod' f2
      obtain ⟨k3, o3, F3, l3⟩ := OpS_of_trod f3
      refine ⟨⟨k0, k1, k2, k3⟩, ?_, ?_⟩
      · rw [DDrv.cells_top]
        simp only [oks, oks_app]
        exact ⟨o0, o1, o2, o3, trivial⟩
      · rw [DDrv.cells_top]
        exact ⟨_, ((lies_one l0).append ((lies_one l1).append ((lies_one l2).append (lies_one l3))))⟩
end
end Go.Proofs.YtigklnokgmcifaaDoor


/-
  The numbers of a struct lie in their bounds: field by field.
-/
namespace Go.Proofs.YtigklnokgmcifaaDoor
open Go.RowKit
set_option linter.unusedVariables false
set_option linter.unusedSimpArgs false

theorem flag_okT (b : Bool) : (Cel.flag b).ok ↔ True := by rw [Cel.ok]

theorem T.oks_iff (x : T) : oks x.cells ↔ (-9223372036854775808 ≤ x.kind ∧ x.kind ≤ 9223372036854775807) ∧ Byt x.data ∧ BytN x.names ∧ (∀ y ∈ x.kids, oks y.cells) := by
  rw [x.cells_top]
  simp only [oks, oks_app, num_ok_i64, raw_ok, names_ok, ints_ok, seqOf_ok, flag_okT, BytN, and_true, true_and, and_assoc]
theorem DReal.oks_iff (x : DReal) : oks x.cells ↔ Byt x.drv ∧ Byt x.out ∧ Byt x.path := by
  rw [x.cells_top]
  simp only [oks, oks_app, num_ok_i64, raw_ok, names_ok, ints_ok, seqOf_ok, flag_okT, BytN, and_true, true_and, and_assoc]
theorem DOp.oks_iff (x : DOp) : oks x.cells ↔ (-9223372036854775808 ≤ x.code ∧ x.code ≤ 9223372036854775807) ∧ (-9223372036854775808 ≤ x.out ∧ x.out ≤ 9223372036854775807) ∧ Byt x.name ∧ Byt x.text ∧ (-9223372036854775808 ≤ x.arg ∧ x.arg ≤ 9223372036854775807) := by
  rw [x.cells_top]
  simp only [oks, oks_app, num_ok_i64, raw_ok, names_ok, ints_ok, seqOf_ok, flag_okT, BytN, and_true, true_and, and_assoc]
theorem DIn.oks_iff (x : DIn) : oks x.cells ↔ Byt x.drv ∧ Byt x.out := by
  rw [x.cells_top]
  simp only [oks, oks_app, num_ok_i64, raw_ok, names_ok, ints_ok, seqOf_ok, flag_okT, BytN, and_true, true_and, and_assoc]
theorem DObj.oks_iff (x : DObj) : oks x.cells ↔ Byt x.name ∧ (-9223372036854775808 ≤ x.kind ∧ x.kind ≤ 9223372036854775807) ∧ oks x.tree.cells ∧ BytN x.refs ∧ Byt x.frm ∧ Byt x.out := by
  rw [x.cells_top]
  simp only [oks, oks_app, num_ok_i64, raw_ok, names_ok, ints_ok, seqOf_ok, flag_okT, BytN, and_true, true_and, and_assoc]
theorem DDrv.oks_iff (x : DDrv) : oks x.cells ↔ BytN x.srcs ∧ (∀ y ∈ x.ins, oks y.cells) ∧ BytN x.outs ∧ (∀ y ∈ x.ops, oks y.cells) := by
  rw [x.cells_top]
  simp only [oks, oks_app, num_ok_i64, raw_ok, names_ok, ints_ok, seqOf_ok, flag_okT, BytN, and_true, true_and, and_assoc]
theorem DStore.oks_iff (x : DStore) : oks x.cells ↔ (∀ y ∈ x.objs, oks y.cells) ∧ BytN x.roots ∧ (∀ y ∈ x.reals, oks y.cells) := by
  rw [x.cells_top]
  simp only [oks, oks_app, num_ok_i64, raw_ok, names_ok, ints_ok, seqOf_ok, flag_okT, BytN, and_true, true_and, and_assoc]
theorem DJob.oks_iff (x : DJob) : oks x.cells ↔ oks x.d.cells ∧ Byt x.name ∧ (-9223372036854775808 ≤ x.pc ∧ x.pc ≤ 9223372036854775807) ∧ BytN x.args ∧ (∀ y ∈ x.outs, oks y.cells) := by
  rw [x.cells_top]
  simp only [oks, oks_app, num_ok_i64, raw_ok, names_ok, ints_ok, seqOf_ok, flag_okT, BytN, and_true, true_and, and_assoc]
theorem DGoal.oks_iff (x : DGoal) : oks x.cells ↔ Byt x.drv ∧ (-9223372036854775808 ≤ x.state ∧ x.state ≤ 9223372036854775807) ∧ (-9223372036854775808 ≤ x.err ∧ x.err ≤ 9223372036854775807) ∧ True ∧ oks x.job.cells ∧ BytN x.need := by
  rw [x.cells_top]
  simp only [oks, oks_app, num_ok_i64, raw_ok, names_ok, ints_ok, seqOf_ok, flag_okT, BytN, and_true, true_and, and_assoc]
theorem DEngine.oks_iff (x : DEngine) : oks x.cells ↔ oks x.store.cells ∧ (∀ y ∈ x.goals, oks y.cells) := by
  rw [x.cells_top]
  simp only [oks, oks_app, num_ok_i64, raw_ok, names_ok, ints_ok, seqOf_ok, flag_okT, BytN, and_true, true_and, and_assoc]
theorem DReg.oks_iff (x : DReg) : oks x.cells ↔ (-9223372036854775808 ≤ x.kind ∧ x.kind ≤ 9223372036854775807) ∧ oks x.obj.cells ∧ oks x.real.cells ∧ Byt x.name := by
  rw [x.cells_top]
  simp only [oks, oks_app, num_ok_i64, raw_ok, names_ok, ints_ok, seqOf_ok, flag_okT, BytN, and_true, true_and, and_assoc]
theorem DJournal.oks_iff (x : DJournal) : oks x.cells ↔ oks x.base.cells ∧ (∀ y ∈ x.regs, oks y.cells) ∧ (-9223372036854775808 ≤ x.safe ∧ x.safe ≤ 9223372036854775807) := by
  rw [x.cells_top]
  simp only [oks, oks_app, num_ok_i64, raw_ok, names_ok, ints_ok, seqOf_ok, flag_okT, BytN, and_true, true_and, and_assoc]
theorem DCmd.oks_iff (x : DCmd) : oks x.cells ↔ (-9223372036854775808 ≤ x.kind ∧ x.kind ≤ 9223372036854775807) ∧ Byt x.text ∧ oks x.tree.cells ∧ Byt x.name ∧ Byt x.out ∧ (∀ y ∈ x.picks, -9223372036854775808 ≤ y ∧ y ≤ 9223372036854775807) ∧ (-9223372036854775808 ≤ x.keep ∧ x.keep ≤ 9223372036854775807) := by
  rw [x.cells_top]
  simp only [oks, oks_app, num_ok_i64, raw_ok, names_ok, ints_ok, seqOf_ok, flag_okT, BytN, and_true, true_and, and_assoc]
theorem DTold.oks_iff (x : DTold) : oks x.cells ↔ (-9223372036854775808 ≤ x.code ∧ x.code ≤ 9223372036854775807) ∧ Byt x.name := by
  rw [x.cells_top]
  simp only [oks, oks_app, num_ok_i64, raw_ok, names_ok, ints_ok, seqOf_ok, flag_okT, BytN, and_true, true_and, and_assoc]

end Go.Proofs.YtigklnokgmcifaaDoor


/-
  The program's hash: the bytes of the result.
-/
namespace Go.Proofs.YtigklnokgmcifaaDoor
open Go.RowKit
set_option linter.unusedVariables false

set_option maxRecDepth 20000 in
set_option maxHeartbeats 1600000 in
theorem hashSum (ws : List Int) (h8 : ws.length = 8) (hu : U32 ws) (g : Nat) (w : World) (hg : At w g 135 (wd ws)) :
    Calls Tryd.prog 115 #[.pointer (some ⟨g, 0, none⟩)] w fun e w' => ∃ v', e = .returned v' ∧ Own 5 w.heap.size w'.heap.size w' v' (bs (outB ws)) ∧ Below w.heap.size w w' := by
  obtain ⟨i0, hi0, hz0, hz1, hz2⟩ := info_parts u8info
  have HG := hide hg
  have H8 := hide h8
  clear hg h8
  go_enter Tryd.func115, Tryd.ntmps115
  go_wp2
  go_loopw [3, 7] (fun v3 q wr => ∃ k : Nat, k ≤ 8 ∧ q = .int .i64 k ∧ wr.ownsRow w.heap.size 5 1 v3 (4 * k) (bs (outB (ws.take k))) ∧ Below w.heap.size w wr)
    (fun _ q _ => 8 - (intOf q).toNat)
  case atStart => exact ⟨0, by omega, rfl, own_cells (World.ownsRow_nil _ _ _ _) rfl, Below.refl _ _⟩
  case round =>
    obtain ⟨k, hk, rfl, hown, hbel⟩ := hrel
    have HO := hide hown
    have HB := hide hbel
    clear hown hbel
    have hsz := HB.out.size
    by_cases hlt : k < 8
    · have hc := (HG.out.below HB.out HG.out.lt).cell (i := k) (by rw [H8.out]; exact hlt)
      obtain ⟨x0, x1⟩ := hu.at_ k
      have hnx := outB_next (l := ws) (k := k) (by rw [H8.out]; exact hlt)
      generalize ws.getD k 0 = x at *
      have HN := hide hnx
      clear hnx
      go_wp2_with ((with_reducible refine at_slot 25 ?_); refine wpList_app _ rfl (.tmp 12) (.tmp 24) _ rfl w.heap.size 5 i0 _ 1 Tryd.underlying22 hi0 hz0 hz1 hz2 rfl _ _ _ rfl (HO.out.alloc _) _ _ rfl (rd_four _ _ _ _ _ _) (bs_one _) (by rw [bs_length]; simp only [maxLen, List.length_cons, List.length_nil]; omega) (by rw [bs_length]; simp only [List.length_cons, List.length_nil]; omega) (by simp; omega) ?_; intro v3 w3 own3 gr3)
      go_roundw
      case rel => exact ⟨k + 1, by omega, by go_num, own_len (own_cells own3 (by rw [HN.out, bs_append, show x / 16777216 % 256 = x / 16777216 by omega])) (by simp [bs]; omega), Below.row (HB.out.alloc hsz _) (by simp; omega) (HO.out.alloc _) gr3⟩
      case measure => simp [intOf]; omega
    · obtain rfl : k = 8 := by omega
      go_wp2
      go_ret
      have e : outB (ws.take 8) = outB ws := by rw [List.take_of_length_le (by rw [H8.out]; omega)]
      exact ⟨_, rfl, Own.of (own_cells HO.out (by rw [e])) (by rw [bs_length, outB_len, H8.out]), HB.out⟩

end Go.Proofs.YtigklnokgmcifaaDoor


/-
  The model's Sorted.
-/
namespace Go.Proofs.YtigklnokgmcifaaDoor
open Go.RowKit
set_option linter.unusedVariables false

set_option maxRecDepth 20000 in
set_option maxHeartbeats 1600000 in
theorem specSorted (ns : List (List Int)) (hB : BytN ns) (v : Value) (w : World) (hv : RdN w v ns) (hl : ∀ n ∈ ns, n.length ≤ 1048576) :
    Calls Tryd.prog 27 #[v] w fun e w' => e = .returned (.bool (ascP nameOk ns)) ∧ Below w.heap.size w w' := by
  obtain ⟨vs, A, c, hV, hc1, hc2, hvl⟩ : ∃ (vs : List Value) (A : Option Addr) (c : Nat), v = .slice A ns.length c ∧ ns.length ≤ c ∧ c ≤ maxLen ∧ vs.length = ns.length := by
    obtain ⟨vs, ⟨A, c, e, h1, h2, _⟩, h4, _⟩ := hv
    rw [h4] at e h1
    exact ⟨vs, A, c, e, h1, h2, h4⟩
  subst hV
  obtain ⟨N, hN⟩ : ∃ N, ns.length = N := ⟨_, rfl⟩
  rw [hN] at hc1 hv ⊢
  unfold maxLen at hc2
  have HNL := hide hN
  have HNN := hide hv
  have HBN := hide hB
  have HLL := hide hl
  obtain ⟨R, hR⟩ : ∃ R, ascP nameOk ns = R := ⟨_, rfl⟩
  rw [hR]
  have HR := hide hR
  clear hN hv hB hl hvl hR
  go_enter Tryd.func27, Tryd.ntmps27
  go_wp2
  go_loopw [3] (fun i wr => ∃ j : Nat, j ≤ N ∧ i = .int .i64 j ∧ Hid (∀ m, m < j → nameP nameOk ns m = true) ∧ Below w.heap.size w wr)
    (fun i _ => N - (intOf i).toNat)
  case atStart => exact ⟨0, Nat.zero_le _, rfl, hide (fun m hm => by omega), Below.refl _ _⟩
  case round =>
    obtain ⟨j, hj, rfl, HNM, hbel⟩ := hrel
    have HB := hide hbel
    by_cases hlt : j < N
    · have hjn : j < ns.length := by rw [HNL.out]; exact hlt
      obtain ⟨b, off, u, hA', hblt, cu, ru⟩ := HNN.out.get hjn
      subst hA'
      have q1 := (hbel.cell (p := ⟨b, off + j, none⟩) hblt).trans cu
      have rr1 := ru.below hbel
      have hmj : ns.getD j [] ∈ ns := by simp [List.getD, List.getElem?_eq_getElem hjn]
      have hBj : Byt (ns.getD j []) := HBN.out _ hmj
      have hLj := HLL.out _ hmj
      have hnm : nameP nameOk ns j = (nameOk (ns.getD j []) && (decide (j = 0) || lessL (ns.getD (j - 1) []) (ns.getD j []))) := rfl
      have hent : ∀ W, Rd W u (bs (ns.getD j [])) → Calls Tryd.prog 28 #[u] W fun e w' => e = .returned (.bool (nameOk (ns.getD j []))) ∧ ∃ m, w' = W.drewN m := fun W hr => (specNameQ (ns.getD j []) hBj u W hr (by omega)).mono fun e w' ⟨he, hw⟩ => ⟨he, 0, hw.symm⟩
      have k1 : (j : Int) < (N : Int) := by omega
      have k0 : (0 : Int) ≤ (j : Int) := by omega
      have k2 : (j : Int).toNat = j := by omega
      go_upto_region 4 with (fail)
      go_cut [33] (fun v wx => v = .bool (!nameP nameOk ns j) ∧ ∃ m, wx = wr.drewN m)
      case first =>
        have HE := hide hent
        have hq : ∀ m, Rd (wr.drewN m) u (bs (ns.getD j [])) := fun m => rr1
        have HQ := hide hq
        have HNA := hide hnm
        have hnn := HNN.out
        clear hent hq hnm
        cases he : nameOk (ns.getD j []) with
        | false =>
          rw [he] at HE HNA
          clear he hbel hnn
          go_quiet ((go_at_call 28; exact Calls.quiet_of (HE.out _ (HQ.out _))))
          go_wp2
          go_meet
          exact ⟨by rw [HNA.out]; rfl, _, rfl⟩
        | true =>
          rw [he, Bool.true_and] at HNA
          rw [he] at HE
          clear he
          by_cases hj0 : j = 0
          · subst hj0
            have q1' : wr.cell? ⟨b, off, none⟩ = some u := by simpa using q1
            clear hbel hnn
            go_quiet ((go_at_call 28; exact Calls.quiet_of (HE.out _ (HQ.out _))))
            go_wp2
            go_meet
            exact ⟨by rw [HNA.out]; rfl, _, rfl⟩
          · rw [decide_eq_false hj0, Bool.false_or] at HNA
            obtain ⟨b2, off2, u2, hA2, _, cu2, ru2⟩ := hnn.get (m := j - 1) (by omega)
            injection hA2 with hA3
            injection hA3 with hA4 hA5
            subst hA4 hA5
            have q2 := (hbel.cell (p := ⟨b, off + (j - 1), none⟩) hblt).trans cu2
            have rr2 := ru2.below hbel
            have hBi : Byt (ns.getD (j - 1) []) := HBN.out _ (by simp [List.getD, List.getElem?_eq_getElem (show j - 1 < ns.length by omega)])
            have cv1 := conv_rd (P := Tryd.prog) Tryd.underlying22 Tryd.underlying5 Tryd.underlying9 rr1
            have cv2 := conv_rd (P := Tryd.prog) Tryd.underlying22 Tryd.underlying5 Tryd.underlying9 rr2
            have cw1 := fun m => conv_rd (P := Tryd.prog) Tryd.underlying22 Tryd.underlying5 Tryd.underlying9 (show Rd (wr.drewN m) u (bs (ns.getD j [])) from rr1)
            have cw2 := fun m => conv_rd (P := Tryd.prog) Tryd.underlying22 Tryd.underlying5 Tryd.underlying9 (show Rd (wr.drewN m) u2 (bs (ns.getD (j - 1) [])) from rr2)
            have hls := less_str hBi hBj
            have k3 : (j : Int) - 1 < (N : Int) := by omega
            have k4 : (0 : Int) ≤ (j : Int) - 1 := by omega
            have k5 : ((j : Int) - 1).toNat = j - 1 := by omega
            have k6 : IntKind.i64.wrap ((j : Int) - 1) = (j : Int) - 1 := IntWalk.i64_in _ (by omega)
            have k7 : 0 < j := by omega
            generalize lessL (ns.getD (j - 1) []) (ns.getD j []) = L at *
            generalize strOfNums (ns.getD (j - 1) []) = s1 at *
            generalize strOfNums (ns.getD j []) = s2 at *
            clear hbel hnn rr2 hBi hBj hj0
            cases L with
            | true =>
              go_quiet ((go_at_call 28; exact Calls.quiet_of (HE.out _ (HQ.out _))))
              go_wp2
              go_meet
              exact ⟨by rw [HNA.out]; rfl, _, rfl⟩
            | false =>
              go_quiet ((go_at_call 28; exact Calls.quiet_of (HE.out _ (HQ.out _))))
              go_wp2
              go_meet
              exact ⟨by rw [HNA.out]; rfl, _, rfl⟩
      case rest =>
        obtain ⟨hv, m, hwm⟩ := hcut
        subst hwm
        have HB2 := hide (below_drewN hbel m)
        clear q1 cu ru rr1 hent hnm hBj hbel
        cases hna : nameP nameOk ns j with
        | false =>
          rw [hna] at hv
          subst hv
          have hm1 : R = false := by
            rw [← HR.out, Bool.eq_false_iff]
            intro h
            rw [ascP_at.1 h j hjn] at hna
            cases hna
          have HM1 := hide hm1
          clear hm1 hna
          go_wp2
          go_ret
          exact ⟨ret_bool HM1.out.symm, HB2.out⟩
        | true =>
          rw [hna] at hv
          subst hv
          have HNM2 : Hid (∀ m, m < j + 1 → nameP nameOk ns m = true) := hide (fun m hm => by
            by_cases h : m = j
            · subst h; exact hna
            · exact HNM.out m (by omega))
          clear hna
          go_wp2
          go_roundw
          case rel => exact ⟨j + 1, by omega, by go_num, HNM2, HB2.out⟩
          case measure => simp [intOf]; omega
    · obtain rfl : j = N := by omega
      have hm1 : R = true := by rw [← HR.out]; exact ascP_at.2 (fun m hm => HNM.out m (by rw [HNL.out] at hm; exact hm))
      have HM1 := hide hm1
      clear hm1 hbel
      go_wp2
      go_ret
      exact ⟨ret_bool HM1.out.symm, HB.out⟩

end Go.Proofs.YtigklnokgmcifaaDoor
