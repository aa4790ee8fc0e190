
/-
  Small words for rows of the call's own.
-/
import Derived.Test.YtnloknhcdlannaaDoorBase
namespace Go.Proofs.YtnloknhcdlannaaDoor
open Go.RowKit

theorem own_len {w : World} {base : Nat} {e : TypeId} {v : Value} {n m : Nat} {xs : List Value} (h : w.ownsRow base e 1 v n xs) (hm : n = m) : w.ownsRow base e 1 v m xs := hm ▸ h
theorem own_cells {w : World} {base : Nat} {e : TypeId} {v : Value} {n : Nat} {xs ys : List Value} (h : w.ownsRow base e 1 v n xs) (hm : xs = ys) : w.ownsRow base e 1 v n ys := hm ▸ h
theorem own_slice {w : World} {lo : Nat} {e : TypeId} {n : Nat} {v : Value} {xs : List Value} (h : w.ownsRow lo e 1 v n xs) : ∃ A c, v = .slice A n c ∧ n ≤ c ∧ c ≤ maxLen := by
  rcases h.2 with ⟨rfl, h0⟩ | ⟨g, cap, cur, hv, hb, hg, hnc, hcm, _⟩
  · exact ⟨none, 0, by rw [h0], by omega, Nat.zero_le _⟩
  · exact ⟨_, cap, hv, hnc, hcm⟩
def lenV : Value → Nat
  | .slice _ n _ => n
  | _ => 0
/-- A part of a slice that reads as l. -/
theorem Rd.part {w : World} {b off c k n : Nat} {l : List Int} (h : ∀ i u, (bs l)[i]? = some u → w.cell? ⟨b, off + i, none⟩ = some u) (hb : b < w.heap.size) (hk : k + n ≤ l.length) (hc : l.length ≤ c) (hc2 : c ≤ maxLen) {n' : Nat} (hn : n' = n) :
    Rd w (.slice (some ⟨b, off + k, none⟩) n' (c - k)) (bs ((l.drop k).take n)) := by
  subst hn
  have e : (bs ((l.drop k).take n')).length = n' := by rw [bs_length, List.length_take, List.length_drop]; omega
  refine ⟨some ⟨b, off + k, none⟩, c - k, by rw [e], by omega, by omega, fun _ => ⟨b, off + k, rfl, hb, fun i u hu => ?_⟩⟩
  obtain ⟨hi, rfl⟩ := bs_get_inv hu
  have hin : i < n' := by rw [List.length_take] at hi; omega
  have h1 := h (k + i) _ (bs_get (by omega))
  rw [Nat.add_assoc, h1]
  simp [List.getD, hin]
theorem Rd.empty {w : World} {A : Option Addr} {n c : Nat} (hn : n = 0) (hc2 : c ≤ maxLen) : Rd w (.slice A n c) (bs []) := by
  subst hn
  exact ⟨A, c, rfl, Nat.zero_le _, hc2, fun h => by simp [bs] at h⟩
theorem rd_four (w : World) (x y z u : Int) (t : TypeId) : Rd (w.alloc (.cells #[.int .u8 x, .int .u8 y, .int .u8 z, .int .u8 u] t)) (.slice (some ⟨w.heap.size, 0, none⟩) 4 4) (bs [x, y, z, u]) := by
  refine ⟨_, 4, rfl, Nat.le_refl _, by simp [maxLen], fun _ => ⟨w.heap.size, 0, rfl, by simp, fun i v hv => ?_⟩⟩
  obtain ⟨hi, rfl⟩ := bs_get_inv hv
  have h4 : i < 4 := by simpa using hi
  rw [World.cell?_alloc_at _ _ _ _ rfl]
  rcases (by omega : i = 0 ∨ i = 1 ∨ i = 2 ∨ i = 3) with rfl | rfl | rfl | rfl <;> rfl
/-- Guards: the next operation writes slot n; the next operation writes no slot. -/
theorem at_slot (n : Nat) {P : Program} {ops : Array Oper} {rest : List Oper} {op : Op} {ty : TypeId} {pos : String} {after : Array Edge} {guard : Option (Tmp × Bool)} {a : Act} {w : World} {Q : Exit → Act → World → Prop}
    (h : wpList P ops Q (⟨some n, op, ty, pos, after, guard⟩ :: rest) a w) : wpList P ops Q (⟨some n, op, ty, pos, after, guard⟩ :: rest) a w := h
theorem at_none {P : Program} {ops : Array Oper} {rest : List Oper} {op : Op} {ty : TypeId} {pos : String} {after : Array Edge} {guard : Option (Tmp × Bool)} {a : Act} {w : World} {Q : Exit → Act → World → Prop}
    (h : wpList P ops Q (⟨none, op, ty, pos, after, guard⟩ :: rest) a w) : wpList P ops Q (⟨none, op, ty, pos, after, guard⟩ :: rest) a w := h

end Go.Proofs.YtnloknhcdlannaaDoor
