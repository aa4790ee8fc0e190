/-
  The program's GetNum reads the same number.
-/
import Derived.Test.YtopdflifgimadaaNum
namespace Go.Proofs.Ytopdflifgimadaa
open Go.RowKit

set_option maxHeartbeats 1600000 in
theorem implGetNum (l : List Int) (hB : Byt l) (v : Value) (at_ : Nat) (w : World) (hv : Rd w v (bs l)) (ha : at_ < l.length) (hl : l.length ≤ 1099511627776) :
    Calls Try.prog 17 #[v, .int .i64 at_] w fun e w' => e = .returned (.tuple #[.int .i64 (gnum l at_ 5 0 0).1, .int .i64 (gnum l at_ 5 0 0).2]) ∧ Below w.heap.size w w' := by
  obtain ⟨A, c, rfl, hc1, hc2, hrd⟩ := hv
  rw [bs_length] at *
  unfold maxLen at hc2
  obtain ⟨R, hR⟩ : ∃ R, R = gnum l at_ 5 0 0 := ⟨_, rfl⟩
  rw [← hR]
  have HR := hide hR
  clear hR
  obtain ⟨b, off, rfl, hblt, hcell⟩ := hrd (by omega)
  have HC := hide hcell
  clear hrd hcell
  have hne : ¬ c = at_ := by omega
  by_cases h5 : at_ + 5 ≤ l.length
  all_goals
    go_enter Try.func17, Try.ntmps17
    go_wp2
    go_loopw [6, 26] (fun n i wr => ∃ (k : Nat) (x : Int), k ≤ 5 ∧ at_ + k ≤ l.length ∧ i = .int .i64 k ∧ n = .int .i64 x ∧ 0 ≤ x ∧ x < 128 ^ k ∧ Hid (gnum l at_ (5 - k) k x = R) ∧ Below w.heap.size w wr)
      (fun _ i _ => 5 - (intOf i).toNat)
    case atStart => exact ⟨0, 0, by omega, by omega, rfl, rfl, by omega, by omega, HR.out.symm, Below.refl _ _⟩
    case round =>
      obtain ⟨k, x, hk, hkl, rfl, rfl, hx0, hx1, HG, hbel⟩ := hrel
      have HB := hide hbel
      by_cases hk5 : k = 5
      · subst hk5
        clear hbel
        go_wp2
        all_goals go_ret2
        all_goals exact ⟨ret2 HG.out.symm, HB.out⟩
      · by_cases hlt : at_ + k < l.length
        · have hin : wr.cell? ⟨b, off + at_ + k, none⟩ = some (.int .u8 (l.getD (at_ + k) 0)) := by
            rw [Nat.add_assoc]
            exact (hbel.cell (p := ⟨b, off + (at_ + k), none⟩) hblt).trans (HC.out _ _ (bs_get hlt))
          obtain ⟨y0, y1⟩ := hB.at_ (at_ + k)
          generalize hy : l.getD (at_ + k) 0 = y at *
          have HY := hide hy
          clear hy hbel
          have hand := and127 y0 y1
          rcases (by omega : k = 0 ∨ k = 1 ∨ k = 2 ∨ k = 3 ∨ k = 4) with rfl | rfl | rfl | rfl | rfl
          · rw [Nat.add_zero] at hin
            have hor : bits .or .i64 x (y % 128) = x + y % 128 := by simpa using or_above (x := x) (c := y % 128) 0 hx0 (by omega) (by omega) (by omega)
            go_wp2
            all_goals first
              | (go_ret2
                 first
                   | exact ⟨ret2 (HG.out.symm.trans (gnum_bad hlt HY.out (by omega) (by omega))), HB.out⟩
                   | exact ⟨ret2 (HG.out.symm.trans (gnum_good hlt HY.out (by omega) (by omega))), HB.out⟩
                   | exact ⟨ret2 (HG.out.symm.trans ((gnum_good hlt HY.out (by omega) (by omega)).trans (Prod.ext (by dsimp only; omega) (by dsimp only; omega)))), HB.out⟩)
              | (go_roundw
                 case rel => exact ⟨1, _, by omega, by omega, rfl, by go_num, by omega, by omega, hide ((gnum_more hlt HY.out (by omega)).symm.trans HG.out), HB.out⟩
                 case measure => simp [intOf])
          · have hor : bits .or .i64 x (y % 128 * 128) = x + y % 128 * 128 := or_above 7 hx0 (by omega) (by omega) (by omega)
            go_wp2
            all_goals first
              | (go_ret2
                 first
                   | exact ⟨ret2 (HG.out.symm.trans (gnum_bad hlt HY.out (by omega) (by omega))), HB.out⟩
                   | exact ⟨ret2 (HG.out.symm.trans (gnum_good hlt HY.out (by omega) (by omega))), HB.out⟩
                   | exact ⟨ret2 (HG.out.symm.trans ((gnum_good hlt HY.out (by omega) (by omega)).trans (Prod.ext (by dsimp only; omega) (by dsimp only; omega)))), HB.out⟩)
              | (go_roundw
                 case rel => exact ⟨2, _, by omega, by omega, rfl, rfl, by omega, by omega, hide ((gnum_more hlt HY.out (by omega)).symm.trans HG.out), HB.out⟩
                 case measure => simp [intOf])
          · have hor : bits .or .i64 x (y % 128 * 16384) = x + y % 128 * 16384 := or_above 14 hx0 (by omega) (by omega) (by omega)
            go_wp2
            all_goals first
              | (go_ret2
                 first
                   | exact ⟨ret2 (HG.out.symm.trans (gnum_bad hlt HY.out (by omega) (by omega))), HB.out⟩
                   | exact ⟨ret2 (HG.out.symm.trans (gnum_good hlt HY.out (by omega) (by omega))), HB.out⟩
                   | exact ⟨ret2 (HG.out.symm.trans ((gnum_good hlt HY.out (by omega) (by omega)).trans (Prod.ext (by dsimp only; omega) (by dsimp only; omega)))), HB.out⟩)
              | (go_roundw
                 case rel => exact ⟨3, _, by omega, by omega, rfl, rfl, by omega, by omega, hide ((gnum_more hlt HY.out (by omega)).symm.trans HG.out), HB.out⟩
                 case measure => simp [intOf])
          · have hor : bits .or .i64 x (y % 128 * 2097152) = x + y % 128 * 2097152 := or_above 21 hx0 (by omega) (by omega) (by omega)
            go_wp2
            all_goals first
              | (go_ret2
                 first
                   | exact ⟨ret2 (HG.out.symm.trans (gnum_bad hlt HY.out (by omega) (by omega))), HB.out⟩
                   | exact ⟨ret2 (HG.out.symm.trans (gnum_good hlt HY.out (by omega) (by omega))), HB.out⟩
                   | exact ⟨ret2 (HG.out.symm.trans ((gnum_good hlt HY.out (by omega) (by omega)).trans (Prod.ext (by dsimp only; omega) (by dsimp only; omega)))), HB.out⟩)
              | (go_roundw
                 case rel => exact ⟨4, _, by omega, by omega, rfl, rfl, by omega, by omega, hide ((gnum_more hlt HY.out (by omega)).symm.trans HG.out), HB.out⟩
                 case measure => simp [intOf])
          · have hor : bits .or .i64 x (y % 128 * 268435456) = x + y % 128 * 268435456 := or_above 28 hx0 (by omega) (by omega) (by omega)
            go_wp2
            all_goals first
              | (go_ret2
                 first
                   | exact ⟨ret2 (HG.out.symm.trans (gnum_bad hlt HY.out (by omega) (by omega))), HB.out⟩
                   | exact ⟨ret2 (HG.out.symm.trans (gnum_good hlt HY.out (by omega) (by omega))), HB.out⟩
                   | exact ⟨ret2 (HG.out.symm.trans ((gnum_good hlt HY.out (by omega) (by omega)).trans (Prod.ext (by dsimp only; omega) (by dsimp only; omega)))), HB.out⟩)
              | (go_roundw
                 case rel => exact ⟨5, _, by omega, by omega, rfl, rfl, by omega, by omega, hide ((gnum_more hlt HY.out (by omega)).symm.trans HG.out), HB.out⟩
                 case measure => simp [intOf])
        · clear hbel
          go_wp2
          all_goals go_ret2
          all_goals exact ⟨ret2 (HG.out.symm.trans (gnum_none hlt)), HB.out⟩

end Go.Proofs.Ytopdflifgimadaa
