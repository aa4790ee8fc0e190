/-
  Parts of the proof: DatC.
-/
import Derived.Test.YtigklnokgmcifaaDoorMo35
import Derived.Test.YtigklnokgmcifaaDoorMo29
import Derived.RangeFuncBox

/-
  What a loop that gathers bytes in a box keeps between two rounds.
-/
namespace Go.Proofs.YtigklnokgmcifaaDoor
open Go.RowKit Go.Shelf
set_option linter.unusedVariables false

/-- The box c holds a slice of the call's own that reads as l. -/
def Held (lo c : Nat) (l : List Int) (W : World) : Prop := ∃ v, Boxed W c 22 v ∧ W.ownsRow lo 5 1 v l.length (bs l)
theorem Held.step {lo c : Nat} {l : List Int} {W W' : World} (h : Held lo c l W) (hb : Below W.heap.size W W') : Held lo c l W' := by
  obtain ⟨v, h1, h2⟩ := h
  exact ⟨v, (hb.block _ h1.lt).trans h1, own_step h2 hb⟩
theorem Held.put {lo c : Nat} {l : List Int} {W : World} {k : Nat} {r : Loop} (h : Held lo c l W) (hl : W.heap[k]? = some (.loop r)) (o : Obj) : Held lo c l (W.putObj k o) := by
  obtain ⟨v, h1, h2⟩ := h
  exact ⟨v, boxed_put h1 hl o, ownsRow_putObj h2 o hl rfl⟩
/-- Behind a call that gave a longer row, and the store of it into the box. -/
theorem held_stored {lo c n m : Nat} {W w1 : World} {v v' : Value} {xs ys : List Value} (hv : Boxed W c 22 v) (hr : W.ownsRow lo 5 1 v n xs) (hlo : lo ≤ W.heap.size) (hc : lo ≤ c)
    (hr' : w1.ownsRow lo 5 1 v' m ys) (hg : W.grownBy w1 v.ownBlock) :
    Boxed w1 c 22 v ∧ Boxed (w1.setCell ⟨c, 0, none⟩ v') c 22 v' ∧ (w1.setCell ⟨c, 0, none⟩ v').ownsRow lo 5 1 v' m ys ∧ KeepsOthers W (w1.setCell ⟨c, 0, none⟩ v') ∧ Holds lo W (w1.setCell ⟨c, 0, none⟩ v') := by
  have hne : 22 ≠ 5 := by decide
  have hv1 : Boxed w1 c 22 v := hv.kept hg (hv.not_row hne hr)
  refine ⟨hv1, hv1.set v', hr'.kept (grownBy_setCell' w1 c v') (.inr (hv1.not_row hne hr').symm), ?_, (holds_row hr hg hlo).trans (Holds.box hv1 (by decide) (by decide) hc v')⟩
  refine (KeepsOthers.of_grownBy hg fun j o ej hj => ?_).trans (KeepsOthers.setCell _ _ _)
  rcases hr.2 with ⟨rfl, _⟩ | ⟨g, cap, cur, rfl, _, hgb, _⟩
  · simp [Value.ownBlock] at ej
  · obtain rfl : g = j := by simpa [Value.ownBlock] using ej
    rw [hgb] at hj; cases hj; rfl

/-- Between two rounds of a loop that gathers bytes in the box c. -/
def DatI (w : World) (c : Nat) (f : List (Nd w) → List Int) (xs : List (Nd w)) (W : World) : Prop := Held w.heap.size c (f xs) W ∧ (∀ y ∈ xs, y.good) ∧ Below w.heap.size w W
theorem DatI.step {w : World} {c : Nat} {f : List (Nd w) → List Int} {xs : List (Nd w)} {W W' : World} (h : DatI w c f xs W) (hb : Below W.heap.size W W') : DatI w c f xs W' :=
  ⟨h.1.step hb, h.2.1, h.2.2.trans (hb.mono h.2.2.size)⟩
theorem DatI.put {w : World} {c : Nat} {f : List (Nd w) → List Int} {xs : List (Nd w)} {W : World} {l : Nat} {r : Loop} (h : DatI w c f xs W) (hl : W.heap[l]? = some (.loop r)) (hn : w.heap.size ≤ l) (o : Obj) : DatI w c f xs (W.putObj l o) :=
  ⟨h.1.put hl o, h.2.1, h.2.2.trans (Holds.put hl hn o).below⟩

theorem datOf_bulk (t : T) : (datOf t).length ≤ t.bulk := by
  unfold datOf
  split
  · exact t.dat_bulk
  · simp

/-- The data of nodes, in order. -/
def dkx : List (Nat × List Int × T) → List Int
  | [] => []
  | k :: r => k.2.2.data ++ dkx r
theorem dkx_append (a b : List (Nat × List Int × T)) : dkx (a ++ b) = dkx a ++ dkx b := by
  induction a with
  | nil => rfl
  | cons k a ih => rw [List.cons_append, dkx, dkx, ih, List.append_assoc]
theorem T.pres_dk (ks : List T) (h : ∀ t ∈ ks, ∀ s nm, dkx (t.pre s nm) = t.dat) (ns : List (List Int)) (s : Nat) : dkx (T.pres ks ns s) = T.dats ks := by
  induction ks generalizing ns with
  | nil => rfl
  | cons t r ih => rw [T.pres, dkx_append, T.dats, h t (List.mem_cons_self ..), ih (fun t ht => h t (List.mem_cons_of_mem _ ht))]
theorem T.pre_dk : ∀ (t : T) (s : Nat) (nm : List Int), dkx (t.pre s nm) = t.dat := by
  intro t
  induction t using T.ind with
  | h k d ns ks ih =>
    intro s nm
    rw [T.pre, T.dat, dkx, T.pres_dk ks ih]
    rfl
theorem dkx_prefix {a b : List (Nat × List Int × T)} (h : a <+: b) : (dkx a).length ≤ (dkx b).length := by
  obtain ⟨c, rfl⟩ := h
  rw [dkx_append, List.length_append]
  omega
theorem TIn.dt {w : World} {t : T} {q : Q} (h : TIn w t q) : Rd w q.d (bs t.data) := by
  obtain ⟨k, d, ns, ks⟩ := t
  rw [TIn] at h
  exact h.2.1

end Go.Proofs.YtigklnokgmcifaaDoor
