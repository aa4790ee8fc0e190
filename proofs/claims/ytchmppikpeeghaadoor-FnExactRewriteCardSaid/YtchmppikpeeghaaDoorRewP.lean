/-
  One name in the place of another one: plain lists.
-/
import Derived.Test.YtchmppikpeeghaaDoorConv
import Derived.Test.YtchmppikpeeghaaDoorOwn
import Derived.Test.YtchmppikpeeghaaDoorApp
import Derived.Laws.CopyOwn
import Derived.Laws.BytesArg
import Derived.IntWalk
import Derived.Deep.QuietTactic
import Derived.BigQuiet
import Derived.Deep.Cut
import Derived.Deep.DeepCutAuto
import Derived.Deep.CutBlock
namespace Go.Proofs.YtchmppikpeeghaaDoor
open Go.RowKit
set_option linter.unusedVariables false

def rwF (f t : List Int) : Nat → List Int → List Int
  | 0, l => l
  | n + 1, l => if f.length ≤ l.length then (if l.take f.length = f then t ++ rwF f t n (l.drop f.length) else l.take 1 ++ rwF f t n (l.drop 1)) else l
def rewL (b f t : List Int) : List Int := rwF f t (b.length + 1) b
theorem rwF_hit {f t l : List Int} {n : Nat} (h : f.length ≤ l.length) (h2 : l.take f.length = f) : rwF f t (n + 1) l = t ++ rwF f t n (l.drop f.length) := by rw [rwF, if_pos h, if_pos h2]
theorem rwF_miss {f t l : List Int} {n : Nat} (h : f.length ≤ l.length) (h2 : ¬ l.take f.length = f) : rwF f t (n + 1) l = l.take 1 ++ rwF f t n (l.drop 1) := by rw [rwF, if_pos h, if_neg h2]
theorem rwF_end {f t l : List Int} {n : Nat} (h : ¬ f.length ≤ l.length) : rwF f t n l = l := by
  cases n with
  | zero => rfl
  | succ n => rw [rwF, if_neg h]

/-- A row of the call's own behind a copy into it. -/
theorem own_spliced {w w2 : World} {lo g n cap off : Nat} {e : TypeId} {xs cs : List Value} {cur : List Value} (h : w.ownsRow lo e 1 (.slice (some ⟨g, 0, none⟩) n cap) n xs) (hcur : w.heap[g]? = some (.cells cur.toArray e (0, 0))) (hfit : off + cs.length ≤ n)
    (h2 : w2.heap[g]? = some (.cells (splice cur off cs).toArray e (0, 0))) : w2.ownsRow lo e 1 (.slice (some ⟨g, 0, none⟩) n cap) n (splice xs off cs) := by
  obtain ⟨hx, h'⟩ := h
  rcases h' with ⟨hv, _⟩ | ⟨g', cap', cur', hv, hb, hh, hnc, hcm, hcs, ht⟩
  · simp at hv
  · simp only [Value.slice.injEq, Option.some.injEq, Addr.mk.injEq, and_true, true_and] at hv
    obtain ⟨rfl, rfl⟩ := hv
    rw [hcur] at hh
    simp only [Option.some.injEq, Obj.cells.injEq, and_true] at hh
    subst hh
    have hl : cur.length = cap := by simpa using hcs
    refine ⟨by rw [length_splice _ _ _ (by omega)]; exact hx, .inr ⟨g, cap, _, rfl, hb, h2, hnc, hcm, by simp [length_splice _ _ _ (show off + cs.length ≤ cur.length by omega), hl], ?_⟩⟩
    have e1 : cur.take n = xs := by rw [← ht]; simp
    have hxl : xs.length = n := by simpa using hx
    obtain ⟨Y, hY⟩ : ∃ Y, cur = xs ++ Y := ⟨cur.drop n, by rw [← e1, List.take_append_drop]⟩
    have e2 : splice cur off cs = splice xs off cs ++ Y := by
      rw [hY]
      unfold splice
      rw [List.take_append_of_le_length (by omega), List.drop_append_of_le_length (by omega)]
      simp
    show (splice cur off cs).take (n * 1) = splice xs off cs
    rw [e2, Nat.mul_one]
    exact List.take_left' (by rw [length_splice _ _ _ (by omega)]; exact hxl)
theorem own_cells_at {w : World} {lo g n cap : Nat} {e : TypeId} {xs : List Value} (h : w.ownsRow lo e 1 (.slice (some ⟨g, 0, none⟩) n cap) n xs) : ∃ cur : List Value, w.heap[g]? = some (.cells cur.toArray e (0, 0)) ∧ cur.length = cap := by
  rcases h.2 with ⟨hv, _⟩ | ⟨g', cap', cur', hv, hb, hh, hnc, hcm, hcs, ht⟩
  · simp at hv
  · simp only [Value.slice.injEq, Option.some.injEq, Addr.mk.injEq, and_true, true_and] at hv
    obtain ⟨rfl, rfl⟩ := hv
    exact ⟨cur'.toList, by simpa using hh, by simpa using hcs⟩
theorem splice_bs {pre l t : List Int} {k F : Nat} (hp : pre.length = k) (ht : t.length = F) : splice (bs (pre ++ l)) k (bs t) = bs ((pre ++ t) ++ l.drop F) := by
  subst hp ht
  unfold splice bs
  rw [← List.map_take, ← List.map_drop, ← List.map_append, ← List.map_append]
  simp

end Go.Proofs.YtchmppikpeeghaaDoor
