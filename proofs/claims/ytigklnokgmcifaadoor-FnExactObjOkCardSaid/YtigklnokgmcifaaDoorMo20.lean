/-
  Parts of the proof: ScanP.
-/
import Derived.Test.YtigklnokgmcifaaDoorMo7
import Derived.Test.YtigklnokgmcifaaDoorMo12
import Derived.Test.YtigklnokgmcifaaDoorMo16
import Derived.Maps.GroupsBeside

/-
  The program's Scan: what the rounds keep.
-/
namespace Go.Proofs.YtigklnokgmcifaaDoor
open Go.RowKit Go.Maps Go.ChangeShapes Go.WideMaps
set_option linter.unusedVariables false

theorem grown_none {w w' : World} (hb : Below w.heap.size w w') : w.grownBy w' none := ⟨hb.os, hb.tape, hb.output, hb.size, fun i hi _ => hb.block i hi⟩
theorem groups_below {H : Type} {P : Program} {k : TypeId} {w w' : World} {base : Nat} {e : TypeId} {q : IntKind} {b n : Nat} {D : DataW H} (h : w.ownsGroups P k base e q b n D) (hb : Below w.heap.size w w') : w'.ownsGroups P k base e q b n D :=
  h.kept (grown_none hb) (by simp) (fun es clock _ x _ => by cases x.val.ownBlock <;> simp)
theorem shuns_all {H : Type} {P : Program} {k : TypeId} {w w' : World} {base : Nat} {e : TypeId} {q : IntKind} {b n : Nat} {D : DataW H} (h : w.ownsGroups P k base e q b n D) (hblt : b < w.heap.size) (hb : Below w.heap.size w w') : w'.Shuns b (fun g => w.heap.size ≤ g) := by
  have h0 : w.Shuns b (fun _ => False) := fun es clock _ x _ g _ hf => hf
  have h1 : w.Shuns b (fun g => w.heap.size ≤ g) := h0.reno h (fun g hg => .inr hg)
  exact h1.kept (grown_none hb) hblt (by simp)


theorem scanOf_room (b : List Int) (ns : List (List Int)) : (scanOf b ns).length ≤ ns.length ∧ sumLen (scanOf b ns) ≤ sumLen ns := by
  unfold scanOf
  split
  · exact ⟨scanL_le b ns, scanL_sum b ns⟩
  · simp [sumLen]

/-- The places before k have been looked at. -/
def seen (b n : List Int) (k : Nat) : Bool := (List.range k).any fun i => atL b n i
theorem seen_zero (b n : List Int) : seen b n 0 = false := rfl
theorem seen_next (b n : List Int) (k : Nat) : seen b n (k + 1) = (seen b n k || atL b n k) := by
  rw [seen, List.range_succ, List.any_append]
  simp [seen]
theorem seen_end {b n : List Int} {k : Nat} (h : b.length < k + n.length) : seen b n k = contL b n := by
  rw [Bool.eq_iff_iff, contL_iff, seen, List.any_eq_true]
  constructor
  · rintro ⟨i, _, hi⟩; exact ⟨i, hi⟩
  · rintro ⟨i, hi⟩
    have h2 := of_decide_eq_true hi
    exact ⟨i, List.mem_range.2 (by omega), hi⟩

/-- A row of bools. -/
def OB (w : World) (lo B N : Nat) (f : Nat → Bool) : Prop := w.ownsRow lo 4 1 (.slice (some ⟨B, 0, none⟩) N N) N ((List.range N).map fun j => Value.bool (f j))
theorem OB.step {w w' : World} {lo B N : Nat} {f : Nat → Bool} (h : OB w lo B N f) (hb : Below w.heap.size w w') : OB w' lo B N f := own_step h hb
theorem OB.eq {w : World} {lo B N : Nat} {f g : Nat → Bool} (h : OB w lo B N f) (he : ∀ j, j < N → f j = g j) : OB w lo B N g := by
  unfold OB at *
  have : (List.range N).map (fun j => Value.bool (f j)) = (List.range N).map (fun j => Value.bool (g j)) := List.map_congr_left (fun j hj => by rw [he j (List.mem_range.1 hj)])
  rw [← this]
  exact h
theorem OB.cell {w : World} {lo B N : Nat} {f : Nat → Bool} (h : OB w lo B N f) {j : Nat} (hj : j < N) : w.cell? ⟨B, j, none⟩ = some (.bool (f j)) := by
  have := World.ownsRow.cellAt h j (by omega)
  rw [this, List.getElem?_map, List.getElem?_range hj]
  rfl
theorem OB.fz {w : World} {lo B N : Nat} {f : Nat → Bool} (h : OB w lo B N f) (j : Nat) : w.frozen? ⟨B, j, none⟩ = false := World.ownsRow.frozenAt h j
theorem OB.set {w : World} {lo B N : Nat} {f : Nat → Bool} (h : OB w lo B N f) (p : Nat) : OB (w.setCell ⟨B, p, none⟩ (.bool true)) lo B N (fun j => f j || decide (j = p)) := by
  have := (World.ownsRow.stored h p (.bool true)).1
  unfold OB
  have e : ((List.range N).map (fun j => Value.bool (f j))).set p (.bool true) = (List.range N).map (fun j => Value.bool (f j || decide (j = p))) := by
    apply List.ext_getElem?
    intro j
    rw [List.getElem?_set, List.getElem?_map, List.getElem?_map]
    by_cases hj : j < N
    · rw [List.getElem?_range hj]
      by_cases hp : p = j
      · subst hp; simp [hj]
      · rw [if_neg hp]
        simp [Ne.symm hp]
    · rw [List.getElem?_eq_none (by simp; omega)]
      by_cases hp : p = j
      · simp [hp]; omega
      · simp [hp]
  rw [← e]
  exact this

/-- Inside a round: the places before r of zs have been looked at, too. -/
def inF (b : List Int) (ns : List (List Int)) (zs : List Int) (k r : Nat) (j : Nat) : Bool := seen b (ns.getD j []) k || ((zs.take r).contains (j : Int) && atL b (ns.getD j []) k)
theorem inF_zero (b : List Int) (ns : List (List Int)) (zs : List Int) (k j : Nat) : inF b ns zs k 0 j = seen b (ns.getD j []) k := by simp [inF]
theorem inF_next {b : List Int} {ns : List (List Int)} {zs : List Int} {k r p : Nat} (hr : r < zs.length) (hp : zs.getD r 0 = (p : Int)) (j : Nat) : inF b ns zs k (r + 1) j = (inF b ns zs k r j || (decide (j = p) && atL b (ns.getD p []) k)) := by
  have e : zs[r] = (p : Int) := by rw [← hp]; simp [List.getD, List.getElem?_eq_getElem hr]
  have hc : (zs.take (r + 1)).contains (j : Int) = ((zs.take r).contains (j : Int) || decide (j = p)) := by
    have hi : ((j : Int) = (p : Int)) ↔ j = p := by omega
    rw [List.take_succ_eq_append_getElem hr, e, Bool.eq_iff_iff]
    simp [hi]
  rw [inF, hc, inF]
  by_cases h : j = p
  · subst h
    cases seen b (ns.getD j []) k <;> cases atL b (ns.getD j []) k <;> cases (zs.take r).contains (j : Int) <;> simp
  · simp [h]
theorem inF_end {b : List Int} {ns : List (List Int)} {k : Nat} (h16 : ∀ n ∈ ns, n.length = 16) {j : Nat} (hj : j < ns.length) {N : Nat} (hN : ns.length = N) :
    inF b ns (plc ns (((b.drop k).take 16).take 4) N) k (plc ns (((b.drop k).take 16).take 4) N).length j = seen b (ns.getD j []) (k + 1) := by
  rw [inF, List.take_length, seen_next]
  cases hat : atL b (ns.getD j []) k with
  | false => simp
  | true =>
    have h1 := of_decide_eq_true hat
    have hm : ns.getD j [] ∈ ns := by simp [List.getD, List.getElem?_eq_getElem hj]
    rw [h16 _ hm] at h1
    have : (j : Int) ∈ plc ns (((b.drop k).take 16).take 4) N := mem_plc (by omega) (by rw [h1.2])
    simp [this]

end Go.Proofs.YtigklnokgmcifaaDoor
