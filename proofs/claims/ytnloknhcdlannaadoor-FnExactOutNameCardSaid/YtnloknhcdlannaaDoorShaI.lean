
/-
  The program's hash: what is put behind the message.
-/
import Derived.Test.YtnloknhcdlannaaDoorClone
import Derived.Test.YtnloknhcdlannaaDoorShaS
import Derived.StillTailTactics
import Derived.IntWalk
import Derived.Deep.DeepCutAuto
import Derived.Deep.CutBlock
namespace Go.Proofs.YtnloknhcdlannaaDoor
open Go.RowKit
set_option linter.unusedVariables false

set_option maxRecDepth 20000 in
set_option maxHeartbeats 1600000 in
theorem padded (r : List Int) (v : Value) (n : Nat) (w : World) (hv : Rd w v (bs r)) (hn : n ≤ 100000) (hr : r.length ≤ 64) (hm : zpad r.length = zpad n) :
    Calls Tryd.prog 73 #[v, .int .i64 n] w fun e w' => ∃ v', e = .returned v' ∧ w'.ownsRow w.heap.size 5 1 v' (r ++ tailB n).length (bs (r ++ tailB n)) ∧ Below w.heap.size w w' := by
  obtain ⟨i0, hi0, hz0, hz1, hz2⟩ := info_parts u8info
  have HV := hide hv
  clear hv
  have hz : zpad r.length = (119 - r.length % 64) % 64 := rfl
  rw [hm] at hz
  generalize hzp : zpad n = z at *
  have HZP := hide hzp
  have HZ := hide hz
  have hz64 : z < 64 := by omega
  clear hzp hm hz
  go_enter Tryd.func73, Tryd.ntmps73
  go_upto_block 0 with (first
    | (go_at_call 77; (with_reducible refine (clone r v w HV.out (by omega)).mono ?_); rintro e w1 ⟨v1, rfl, own1, b1⟩)
    | ((with_reducible refine at_slot 10 ?_); refine wpList_app _ rfl (.tmp 8) (.tmp 9) _ rfl w.heap.size 5 i0 _ 1 Tryd.underlying28 hi0 hz0 hz1 hz2 rfl _ _ _ rfl (own1.alloc _) _ _ rfl (rd_one _ _ _) (bs_one _) (by rw [bs_length]; simp only [maxLen, List.length_singleton]; omega) (by rw [bs_length]; simp only [List.length_singleton]; omega) (by have := b1.size; simp; omega) ?_; intro v2 w2 own2 gr2))
  have b2 : Below w.heap.size w w2 := Below.row (b1.alloc b1.size _) (by have := b1.size; simp; omega) (own1.alloc _) gr2
  have o2 : w2.ownsRow w.heap.size 5 1 v2 (r.length + 1 + 0) (bs (r ++ [128] ++ zeros 0)) := own_len (own_cells own2 (by simp [bs, zeros])) (by simp [bs])
  clear own1 b1 own2 gr2
  go_cut [5] (fun v5 wx => wx.ownsRow w.heap.size 5 1 v5 (r.length + 1 + z) (bs (r ++ [128] ++ zeros z)) ∧ Below w.heap.size w wx)
  case first =>
    go_wp2
    go_loopw [5] (fun v5 wr => ∃ k : Nat, k ≤ z ∧ wr.ownsRow w.heap.size 5 1 v5 (r.length + 1 + k) (bs (r ++ [128] ++ zeros k)) ∧ Below w.heap.size w wr)
      (fun v5 _ => 200 - lenV v5)
    case atStart => exact ⟨0, by omega, o2, b2⟩
    case round =>
      clear o2 b2
      obtain ⟨k, hk, hown, hbel⟩ := hrel
      obtain ⟨A, c, rfl, hc1, hc2⟩ := own_slice hown
      have HO := hide hown
      have HB := hide hbel
      clear hown hbel
      have hsz := HB.out.size
      by_cases hlt : k < z
      · have h56 : ((r.length : Int) + 1 + (k : Int)) % 64 ≠ 56 := by have hz := HZ.out; omega
        go_wp2_with ((with_reducible refine at_slot 17 ?_); refine wpList_app _ rfl (.tmp 15) (.tmp 16) _ rfl w.heap.size 5 i0 _ 1 Tryd.underlying28 hi0 hz0 hz1 hz2 rfl _ _ _ rfl (HO.out.alloc _) _ _ rfl (rd_one _ _ _) (bs_one _) (by rw [bs_length]; simp only [maxLen, List.length_singleton]; omega) (by rw [bs_length]; simp only [List.length_singleton]; omega) (by simp; omega) ?_; intro v3 w3 own3 gr3)
        obtain ⟨A3, c3, rfl, _, _⟩ := own_slice own3
        go_roundw
        case rel => exact ⟨k + 1, by omega, own_len (own_cells own3 (by rw [← zeros_next, ← List.append_assoc, bs_append _ [0]])) (by simp [bs]; omega), Below.row (HB.out.alloc hsz _) (by simp; omega) (HO.out.alloc _) gr3⟩
        case measure => simp [lenV, bs_length]; omega
      · have hkz : k = z := by omega
        subst hkz
        have h56 : ((r.length : Int) + 1 + (k : Int)) % 64 = 56 := by have hz := HZ.out; omega
        go_wp2
        go_meet
        exact ⟨HO.out, HB.out⟩
  case rest =>
    clear o2 b2
    obtain ⟨o2, b2⟩ := hcut
    have o3 := own_len (own_cells o2 (ys := bs (r ++ [128] ++ zeros z ++ lenB n 0)) (by simp [lenB])) (m := r.length + 1 + z + 0) rfl
    clear o2
    go_wp2
    go_loopw [5, 6] (fun v5 q wr => ∃ j : Nat, j ≤ 8 ∧ q = .int .i64 (56 - 8 * j) ∧ wr.ownsRow w.heap.size 5 1 v5 (r.length + 1 + z + j) (bs (r ++ [128] ++ zeros z ++ lenB n j)) ∧ Below w.heap.size w wr)
      (fun _ q _ => (intOf q + 8).toNat)
    case atStart => exact ⟨0, by omega, by go_num, o3, b2⟩
    case round =>
      clear o3 b2
      obtain ⟨j, hj, rfl, hown, hbel⟩ := hrel
      have HO := hide hown
      have HB := hide hbel
      clear hown hbel
      have hsz := HB.out.size
      by_cases hlt : j < 8
      · have hsh : ((56 : Int) - 8 * (j : Int)).toNat = 8 * (7 - j) := by omega
        go_wp2_with ((with_reducible refine at_slot 29 ?_); refine wpList_app _ rfl (.tmp 22) (.tmp 28) _ rfl w.heap.size 5 i0 _ 1 Tryd.underlying28 hi0 hz0 hz1 hz2 rfl _ _ _ rfl (HO.out.alloc _) _ _ rfl (rd_one _ _ _) (bs_one _) (by rw [bs_length]; simp only [maxLen, List.length_singleton]; omega) (by rw [bs_length]; simp only [List.length_singleton]; omega) (by simp; omega) ?_; intro v3 w3 own3 gr3)
        go_roundw
        case rel => exact ⟨j + 1, by omega, by go_num, own_len (own_cells own3 (by rw [lenB, ← List.append_assoc, bs_append _ [_]])) (by simp [bs]; omega), Below.row (HB.out.alloc hsz _) (by simp; omega) (HO.out.alloc _) gr3⟩
        case measure => simp [intOf]; omega
      · obtain rfl : j = 8 := by omega
        go_wp2
        go_ret
        refine ⟨_, rfl, own_len (own_cells HO.out ?_) ?_, HB.out⟩
        · rw [tailB, HZP.out]; simp
        · rw [List.length_append, tailB_len, HZP.out]; omega

end Go.Proofs.YtnloknhcdlannaaDoor
