
/-
  Arrays of words in blocks of their own.
-/
import Derived.Test.YtnloknhcdlannaaDoorBase
import Derived.Test.YtnloknhcdlannaaDoorOwn
import Derived.Laws.Tables
namespace Go.Proofs.YtnloknhcdlannaaDoor
open Go.RowKit

def wd (ws : List Int) : Array Value := (ws.map (Value.int .u32)).toArray
theorem wd_size (ws : List Int) : (wd ws).size = ws.length := by simp [wd]
theorem wd_one (ws : List Int) : (wd ws).all (·.oneCell') = true := by
  rw [Array.all_eq_true_iff_forall_mem]
  intro v hv
  simp only [wd, List.mem_toArray] at hv
  obtain ⟨_, _, rfl⟩ := List.mem_map.1 hv
  rfl
/-- Block g is just these cells, none of them frozen. -/
def At (w : World) (g : Nat) (t : TypeId) (cs : Array Value) : Prop := w.heap[g]? = some (.cells cs t (0, 0))
section
variable {w w' : World} {g : Nat} {t : TypeId} {cs : Array Value} {ws : List Int}
theorem At.lt (h : At w g t cs) : g < w.heap.size := (Array.getElem?_eq_some_iff.1 h).1
theorem At.cell (h : At w g t (wd ws)) {i : Nat} (hi : i < ws.length) : w.cell? ⟨g, i, none⟩ = some (.int .u32 (ws.getD i 0)) := by
  rw [cell_of_row w g i _ t (0, 0) h]
  simp [wd, List.getD, hi]
theorem At.frozen (h : At w g t cs) (i : Nat) : w.frozen? ⟨g, i, none⟩ = false := frozen_of_row w g i cs t h
theorem At.set_ (h : At w g t (wd ws)) (i : Nat) (x : Int) : At (w.setCell ⟨g, i, none⟩ (.int .u32 x)) g t (wd (ws.set i x)) := by
  have e : wd (ws.set i x) = (wd ws).setIfInBounds i (.int .u32 x) := by
    apply Array.ext'
    simp [wd, List.map_set]
  rw [e]
  exact heap_setCell_same w g i _ t _ h
theorem At.below {B : Nat} (h : At w g t cs) (hb : Below B w w') (hg : g < B) : At w' g t cs := (hb.block g hg).trans h
theorem At.step (h : At w g t cs) (hb : Below w.heap.size w w') : At w' g t cs := h.below hb h.lt
theorem At.far (h : At w g t cs) {p : Addr} (hp : g ≠ p.block) (u : Value) : At (w.setCell p u) g t cs := (Below.heap_setCell w p u g hp).trans h
theorem At.drewN (h : At w g t cs) (n : Nat) : At (w.drewN n) g t cs := h
theorem At.alloc (h : At w g t cs) (o : Obj) : At (w.alloc o) g t cs := (Below.heap_alloc w o g h.lt).trans h
theorem At.setRow (h : At w g t cs) (cs' : Array Value) : At (w.setRow g cs') g t cs' := setRow_heap w g cs cs' t _ h
end
theorem below_setRow {B : Nat} {a w : World} (h : Below B a w) {g : Nat} (hg : B ≤ g) (cs : Array Value) : Below B a (w.setRow g cs) :=
  h.trans ⟨rfl, rfl, rfl, by simp, fun k hk => setRow_other w g k cs (by omega)⟩
theorem setRow_size (w : World) (g : Nat) (cs : Array Value) : (w.setRow g cs).heap.size = w.heap.size := by simp

theorem run_alloc_zero {P : Program} (w : World) (ty : TypeId) (i : TypeInfo) (z : Value) (hi : P.info? ty = some i) (hz : i.zero = some z) : (Instr.alloc ty true (.tuple #[])).run P w = .ok (.pointer (some ⟨w.heap.size, 0, none⟩)) (w.alloc (.cells z.cells ty)) := by
  simp [Instr.alloc, typeInfo, hi, zeroValue, hz, newVar, newRow, go_sem]

section
variable {P : Program} {ops : Array Oper} {rest : List Oper} {o : Oper} {a : Act} {w : World} {Q : Exit → Act → World → Prop}
/-- A literal, under a name. -/
theorem wpList_build_as (cells : Array Value) (hg : o.guard = none) (t : TypeId) (parts : Array (Nat × Operand)) (ho : o.op = .build t parts)
    (hf : P.built t (parts.map fun (i, x) => (i, a.eval x)).toList = some cells)
    (h : wpList P ops Q rest (a.put o.dst (.agg cells)) w) : wpList P ops Q (o :: rest) a w :=
  wpList_build hg t parts ho (by rw [hf]; rfl) (by rw [hf]; exact h)
/-- A new variable of an array type, zeros in it. -/
theorem wpList_alloc_zero (hg : o.guard = none) (ty : TypeId) (ho : o.op = .alloc ty) (zs : Array Value) (hz : ((P.info? ty).bind fun i => i.zero.map fun z => z.cells) = some zs)
    (h : ∀ w', At w' w.heap.size ty zs → Below w.heap.size w w' → w'.heap.size = w.heap.size + 1 → wpList P ops Q rest (a.put o.dst (.pointer (some ⟨w.heap.size, 0, none⟩))) w') : wpList P ops Q (o :: rest) a w := by
  refine wpList_plain hg fun K hK => ?_
  cases hi : P.info? ty with
  | none => simp [hi] at hz
  | some i =>
    cases hzz : i.zero with
    | none => simp [hi, hzz] at hz
    | some z =>
      simp only [hi, hzz, Option.bind_some, Option.map_some, Option.some.injEq] at hz
      subst hz
      have hrun := run_alloc_zero (P := P) w ty i z hi hzz
      unfold Oper.wp
      simp only [execOp, ho, Sem.run_bind, hrun, Result.andThen_ok]
      exact hK _ _ (h _ (heap_alloc_new w _) ((Below.refl _ _).alloc (Nat.le_refl _) _) (by simp))
/-- A whole array stored. -/
theorem wpList_store_all (hgd : o.guard = none) (ty : TypeId) (x y : Operand) (ho : o.op = .store ty x y)
    (g : Nat) (cells : Array Value) (hx : a.eval x = .pointer (some ⟨g, 0, none⟩)) (hy : a.eval y = .agg cells)
    (t : TypeId) (old : Array Value) (hg : At w g t old) (hi : (P.info? ty).map (·.size) = some cells.size)
    (hold : old.size = cells.size) (h1 : cells.all (·.oneCell') = true)
    (h : ∀ w', At w' g t cells → (∀ B, B ≤ g → Below B w w') → w'.heap.size = w.heap.size → (∀ k, k ≠ g → w'.heap[k]? = w.heap[k]?) → wpList P ops Q rest (a.put o.dst undef) w') : wpList P ops Q (o :: rest) a w :=
  wpList_store_row hgd ty x y ho g cells hx hy t old hg hi hold h1 (h _ (hg.setRow cells) (fun B hB => below_setRow (Below.refl B w) hB cells) (setRow_size _ _ _) (fun k hk => setRow_other w g k cells hk))
end

end Go.Proofs.YtnloknhcdlannaaDoor
