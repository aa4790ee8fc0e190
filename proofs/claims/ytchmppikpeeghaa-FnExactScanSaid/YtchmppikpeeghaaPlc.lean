/-
  placesByStart: for each four bytes, the places of the names that begin so.
-/
import Derived.Test.YtchmppikpeeghaaConv
import Derived.Test.YtchmppikpeeghaaCopyT
import Derived.Maps.OwnRows
import Derived.Maps.Views
import Derived.Maps.Keyed
namespace Go.Proofs.Ytchmppikpeeghaa
open Go.RowKit Go.Maps Go.ChangeShapes Go.WideMaps
set_option linter.unusedVariables false

def plc (ns : List (List Int)) (s : List Int) (k : Nat) : List Int := ((List.range k).filter fun j => decide ((ns.getD j []).take 4 = s)).map Int.ofNat
theorem plc_next (ns : List (List Int)) (s : List Int) (k : Nat) : plc ns s (k + 1) = if (ns.getD k []).take 4 = s then plc ns s k ++ [(k : Int)] else plc ns s k := by
  unfold plc
  rw [List.range_succ, List.filter_append, List.map_append]
  by_cases h : (ns.getD k []).take 4 = s
  · rw [if_pos h, List.filter_cons_of_pos (by simpa using h)]
    simp
  · rw [if_neg h, List.filter_cons_of_neg (by simpa using h)]
    simp
theorem plc_mem {ns : List (List Int)} {s : List Int} {k : Nat} {z : Int} (h : z ∈ plc ns s k) : ∃ j : Nat, z = (j : Int) ∧ j < k ∧ (ns.getD j []).take 4 = s := by
  unfold plc at h
  obtain ⟨j, hj, rfl⟩ := List.mem_map.1 h
  obtain ⟨h1, h2⟩ := List.mem_filter.1 hj
  exact ⟨j, rfl, List.mem_range.1 h1, by simpa using h2⟩
theorem mem_plc {ns : List (List Int)} {s : List Int} {k j : Nat} (hj : j < k) (h : (ns.getD j []).take 4 = s) : (j : Int) ∈ plc ns s k :=
  List.mem_map.2 ⟨j, List.mem_filter.2 ⟨List.mem_range.2 hj, by simpa using h⟩, rfl⟩
theorem plc_len (ns : List (List Int)) (s : List Int) (k : Nat) : (plc ns s k).length ≤ k := by
  unfold plc
  rw [List.length_map]
  exact Nat.le_trans (List.length_filter_le _ _) (by simp)

/-- The key of some bytes. -/
def keyS (s : List Int) : Lit := .string (strOfNums s).data.toList
theorem keyS_inj {a b : List Int} (ha : Byt a) (hb : Byt b) (h : keyS a = keyS b) : a = b := by
  unfold keyS at h
  injection h with h
  refine str_inj ha hb ?_
  rw [ByteArray.toList_eq, ByteArray.toList_eq, h]
def rowLit {H : Type} (zs : List Int) : DataW H := if zs = [] then .nil else .slice (lits .i64 zs) []
theorem lits_inj {H : Type} {a b : List Int} (h : lits (H := H) .i64 a = lits .i64 b) : a = b := by
  unfold lits at h
  exact (List.map_inj_right (fun x y hxy => by injection hxy with h1; injection h1)).1 h
theorem rowLit_inj {H : Type} {w : World} {base : Nat} {e : TypeId} {v : Value} {zs ys : List Int} (ho : w.ownsInts base e .i64 v zs) (h : rowDatum (H := H) .i64 v zs = rowLit ys) : zs = ys := by
  unfold rowLit at h
  rcases ho.datum (H := H) with ⟨h1, rfl⟩ | h1
  · rw [h1] at h
    by_cases hy : ys = []
    · exact hy.symm
    · rw [if_neg hy] at h; cases h
  · rw [h1] at h
    by_cases hy : ys = []
    · rw [if_pos hy] at h; cases h
    · rw [if_neg hy] at h
      injection h with h2
      exact lits_inj h2

/-- What the map holds behind k names. -/
structure Grp {H : Type} (D : DataW H) (ns : List (List Int)) (k : Nat) : Prop where
  map : IsMap D
  at_ : ∀ s : List Int, Byt s → D.atKey (keyS s) .nil = rowLit (plc ns s k)
theorem Grp.nil {H : Type} (ns : List (List Int)) : Grp (.map [] : DataW H) ns 0 := ⟨isMap_empty, fun s _ => rfl⟩
theorem Grp.row {H : Type} {D : DataW H} {ns : List (List Int)} {k : Nat} (h : Grp D ns k) {s : List Int} (hs : Byt s) {w : World} {base : Nat} {e : TypeId} {v : Value} {zs : List Int} (ho : w.ownsInts base e .i64 v zs)
    (hat : D.atKey (keyS s) .nil = rowDatum .i64 v zs) : zs = plc ns s k := rowLit_inj ho (hat.symm.trans (h.at_ s hs))
theorem Grp.step {H : Type} {D : DataW H} {ns : List (List Int)} {k : Nat} (h : Grp D ns k) {s : List Int} (hs : Byt s) (hk : (ns.getD k []).take 4 = s) : Grp (D.put (keyS s) (.slice (lits .i64 (plc ns s k ++ [(k : Int)])) [])) ns (k + 1) := by
  refine ⟨h.map.put _ _, fun s' hs' => ?_⟩
  rw [plc_next]
  by_cases e : s' = s
  · subst e
    rw [atKey_put_same h.map (show WideAt.IsKeyLit (keyS s') from trivial), if_pos hk, rowLit, if_neg (by simp)]
  · rw [atKey_put_other (fun h' => e (keyS_inj hs' hs h')), if_neg (fun h' => e (h'.symm.trans hk)), h.at_ s' hs']

theorem strLaw : Keyed Try.prog 9 := string_keyed Try.underlying9
theorem intsInfo : (Try.prog.info? 3).map (fun i => (i.zero, i.size, i.bytes)) = some (some (.int .i64 0), 1, 8) := by kernel_rfl
theorem intsZero (w : World) : (zeroValue 68).run Try.prog w = .ok (.slice none 0 0) w := by kernel_rfl
theorem keyOf_s {s : List Int} (h : s.length ≤ 100) : keyOf Try.prog 9 (.string (strOfNums s)) = some (keyS s) := by
  refine keyOf_string_mk Try.underlying9 ?_
  rw [strOfNums_size]
  unfold maxLen
  omega

end Go.Proofs.Ytchmppikpeeghaa
