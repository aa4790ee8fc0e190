
/-
  The sizes of structs, field by field.
-/
import Derived.Test.YtnloknhcdlannaaDView
import Derived.Test.YtnloknhcdlannaaNLie
import Derived.Test.YtnloknhcdlannaaDatV
namespace Go.Proofs.Ytnloknhcdlannaa
open Go.RowKit
set_option linter.unusedVariables false
set_option linter.unusedSimpArgs false

theorem bulks_mem {α : Type} {f : α → List Cel} {l : List α} {x : α} (h : x ∈ l) : bulks (f x) ≤ bulks (cells f l) := by
  induction l with
  | nil => cases h
  | cons y l ih =>
    rw [cells, bulks_app]
    rcases List.mem_cons.1 h with rfl | h
    · omega
    · have := ih h; omega
theorem seq_bulk {α : Type} (sz : Nat) (f : α → List Cel) (l : List α) : (seqOf sz f l).bulk = l.length + bulks (cells f l) := rfl
theorem num_bulk0 (k : IntKind) (n : Int) : (Cel.num k n).bulk = 0 := rfl
theorem sumLen_mem2 {ns : List (List Int)} {n : List Int} (h : n ∈ ns) : n.length ≤ sumLen ns := by
  induction ns with
  | nil => cases h
  | cons y l ih =>
    rw [sumLen]
    rcases List.mem_cons.1 h with rfl | h
    · omega
    · have := ih h; omega
theorem raws_bulk (ns : List (List Int)) : bulks (cells (fun n => [raw n]) ns) = sumLen ns := by
  have := names_bulk ns
  rw [names, Cel.bulk] at this
  omega
theorem bulk_T (x : T) : bulks x.cells = x.data.length + ((x.names.length + sumLen x.names) + (x.kids.length + bulks (cells T.cells x.kids))) := by
  rw [x.cells_eq]
  simp only [bulks, raw_bulkT, raws_bulk, seq_bulk, num_bulk0]
  omega
theorem bulk_Obj (x : DObj) : bulks x.cells = x.name.length + (bulks x.tree.cells + ((x.refs.length + sumLen x.refs) + (x.frm.length + x.out.length))) := by
  rw [x.cells_top]
  simp only [bulks, bulks_app, raw_bulkT, raws_bulk, seq_bulk, num_bulk0]
  omega
theorem bulk_Real (x : DReal) : bulks x.cells = x.drv.length + (x.out.length + x.path.length) := by
  rw [x.cells_top]
  simp only [bulks, bulks_app, raw_bulkT, raws_bulk, seq_bulk, num_bulk0]
  omega
theorem bulk_Store (x : DStore) : bulks x.cells = (x.objs.length + bulks (cells DObj.cells x.objs)) + ((x.roots.length + sumLen x.roots) + (x.reals.length + bulks (cells DReal.cells x.reals))) := by
  rw [x.cells_top]
  simp only [bulks, bulks_app, raw_bulkT, raws_bulk, seq_bulk, num_bulk0]
  omega
theorem bulk_Op (x : DOp) : bulks x.cells = x.name.length + x.text.length := by
  rw [x.cells_top]
  simp only [bulks, bulks_app, raw_bulkT, raws_bulk, seq_bulk, num_bulk0]
  omega
theorem bulk_In (x : DIn) : bulks x.cells = x.drv.length + x.out.length := by
  rw [x.cells_top]
  simp only [bulks, bulks_app, raw_bulkT, raws_bulk, seq_bulk, num_bulk0]
  omega
theorem bulk_Drv (x : DDrv) : bulks x.cells = (x.srcs.length + sumLen x.srcs) + ((x.ins.length + bulks (cells DIn.cells x.ins)) + ((x.outs.length + sumLen x.outs) + (x.ops.length + bulks (cells DOp.cells x.ops)))) := by
  rw [x.cells_top]
  simp only [bulks, bulks_app, raw_bulkT, raws_bulk, seq_bulk, num_bulk0]
  omega
end Go.Proofs.Ytnloknhcdlannaa
