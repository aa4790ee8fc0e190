/-
  Numbers: the model's GetNum and the program's GetNum read the same number.
-/
import Derived.Test.YtopdflifgimadaaBytes
namespace Go.Proofs.Ytopdflifgimadaa
open Go.RowKit

/-- The varint at the index at: up to f bytes more are read; i are read already, their number is n. -/
def gnum (l : List Int) (at_ : Nat) : Nat → Nat → Int → Int × Int
  | 0, _, _ => (0, -1)
  | f + 1, i, n =>
    if at_ + i < l.length then
      if l.getD (at_ + i) 0 < 128 then
        if (l.getD (at_ + i) 0 = 0 ∧ 0 < i) ∨ 2147483647 < n + l.getD (at_ + i) 0 % 128 * 128 ^ i then (0, -1) else (n + l.getD (at_ + i) 0 % 128 * 128 ^ i, (at_ : Int) + i + 1)
      else gnum l at_ f (i + 1) (n + l.getD (at_ + i) 0 % 128 * 128 ^ i)
    else (0, -1)

/-- What GetNum answers. -/
def getNum (l : List Int) (at_ : Int) : Int × Int := if at_ < 0 then (0, -1) else gnum l at_.toNat 5 0 0

section
variable {l : List Int} {at_ f k : Nat} {x y : Int}
theorem gnum_none (h : ¬ at_ + k < l.length) : gnum l at_ f k x = (0, -1) := by
  cases f with
  | zero => rfl
  | succ f => rw [gnum, if_neg h]
theorem gnum_bad (h : at_ + k < l.length) (hy : l.getD (at_ + k) 0 = y) (h1 : y < 128) (h2 : (y = 0 ∧ 0 < k) ∨ 2147483647 < x + y % 128 * 128 ^ k) : gnum l at_ (f + 1) k x = (0, -1) := by
  subst hy
  rw [gnum, if_pos h, if_pos h1, if_pos h2]
theorem gnum_good (h : at_ + k < l.length) (hy : l.getD (at_ + k) 0 = y) (h1 : y < 128) (h2 : ¬ ((y = 0 ∧ 0 < k) ∨ 2147483647 < x + y % 128 * 128 ^ k)) : gnum l at_ (f + 1) k x = (x + y % 128 * 128 ^ k, (at_ : Int) + k + 1) := by
  subst hy
  rw [gnum, if_pos h, if_pos h1, if_neg h2]
theorem gnum_more (h : at_ + k < l.length) (hy : l.getD (at_ + k) 0 = y) (h1 : ¬ y < 128) : gnum l at_ (f + 1) k x = gnum l at_ f (k + 1) (x + y % 128 * 128 ^ k) := by
  subst hy
  rw [gnum, if_pos h, if_neg h1]
end
theorem ret2 {R : Int × Int} {a b : Int} (h : R = (a, b)) : Ending.returned (.tuple #[.int .i64 a, .int .i64 b]) = .returned (.tuple #[.int .i64 R.1, .int .i64 R.2]) := by subst h; rfl

set_option maxHeartbeats 800000 in
theorem specGetNum (l : List Int) (hB : Byt l) (v : Value) (at_ : Nat) (w : World) (hv : Rd w v (bs l)) (ha : at_ ≤ 9223372036854775807) (hl : l.length ≤ 1099511627776) :
    Calls Try.prog 16 #[v, .int .i64 at_] w fun e w' => e = .returned (.tuple #[.int .i64 (gnum l at_ 5 0 0).1, .int .i64 (gnum l at_ 5 0 0).2]) ∧ Below w.heap.size w w' := by
  obtain ⟨A, c, rfl, hc1, hc2, hrd⟩ := hv
  rw [bs_length] at *
  unfold maxLen at hc2
  obtain ⟨R, hR⟩ : ∃ R, R = gnum l at_ 5 0 0 := ⟨_, rfl⟩
  rw [← hR]
  have HR := hide hR
  clear hR
  go_enter Try.func16, Try.ntmps16
  go_wp2
  go_loopw [6, 7, 8] (fun n s i wr => ∃ (k : Nat) (x : Int), k ≤ 5 ∧ i = .int .i64 k ∧ s = .int .i64 (128 ^ k) ∧ n = .int .i64 x ∧ 0 ≤ x ∧ x < 128 ^ k ∧ Hid (gnum l at_ (5 - k) k x = R) ∧ Below w.heap.size w wr)
    (fun _ _ i _ => 5 - (intOf i).toNat)
  case atStart => exact ⟨0, 0, by omega, rfl, rfl, rfl, by omega, by omega, HR.out.symm, Below.refl _ _⟩
  case round =>
    obtain ⟨k, x, hk, rfl, rfl, rfl, hx0, hx1, HG, hbel⟩ := hrel
    have HB := hide hbel
    by_cases hk5 : k = 5
    · subst hk5
      clear hbel
      go_wp2
      go_ret2
      exact ⟨ret2 HG.out.symm, HB.out⟩
    · by_cases hlt : at_ + k < l.length
      · obtain ⟨b, off, rfl, hblt, hcell⟩ := hrd (by omega)
        have hin : wr.cell? ⟨b, off + (at_ + k), none⟩ = some (.int .u8 (l.getD (at_ + k) 0)) := (hbel.cell (p := ⟨b, off + (at_ + k), none⟩) hblt).trans (hcell _ _ (bs_get hlt))
        obtain ⟨y0, y1⟩ := hB.at_ (at_ + k)
        generalize hy : l.getD (at_ + k) 0 = y at *
        have HY := hide hy
        clear hy hcell hrd hbel
        rcases (by omega : k = 0 ∨ k = 1 ∨ k = 2 ∨ k = 3 ∨ k = 4) with rfl | rfl | rfl | rfl | rfl
        all_goals
          try rw [Nat.add_zero] at hin
          go_wp2
          all_goals first
            | (go_ret2
               first
                 | exact ⟨ret2 (HG.out.symm.trans (gnum_bad hlt HY.out (by omega) (by omega))), HB.out⟩
                 | exact ⟨ret2 (HG.out.symm.trans (gnum_good hlt HY.out (by omega) (by omega))), HB.out⟩
                 | exact ⟨ret2 (HG.out.symm.trans ((gnum_good hlt HY.out (by omega) (by omega)).trans (Prod.ext (by dsimp only; omega) (by dsimp only; omega)))), HB.out⟩)
            | (go_roundw
               case rel => first
                 | exact ⟨1, _, by omega, rfl, rfl, by go_num, by omega, by omega, hide ((gnum_more hlt HY.out (by omega)).symm.trans HG.out), HB.out⟩
                 | exact ⟨2, _, by omega, rfl, rfl, rfl, by omega, by omega, hide ((gnum_more hlt HY.out (by omega)).symm.trans HG.out), HB.out⟩
                 | exact ⟨3, _, by omega, rfl, rfl, rfl, by omega, by omega, hide ((gnum_more hlt HY.out (by omega)).symm.trans HG.out), HB.out⟩
                 | exact ⟨4, _, by omega, rfl, rfl, rfl, by omega, by omega, hide ((gnum_more hlt HY.out (by omega)).symm.trans HG.out), HB.out⟩
                 | exact ⟨5, _, by omega, rfl, rfl, rfl, by omega, by omega, hide ((gnum_more hlt HY.out (by omega)).symm.trans HG.out), HB.out⟩
               case measure => simp [intOf])
      · clear hbel hrd
        go_wp2
        go_ret2
        exact ⟨ret2 (HG.out.symm.trans (gnum_none hlt)), HB.out⟩

end Go.Proofs.Ytopdflifgimadaa
