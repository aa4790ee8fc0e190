
/-
  The program's hash: the bytes of the result.
-/
import Derived.Test.YtnloknhcdlannaaDoorShaI
namespace Go.Proofs.YtnloknhcdlannaaDoor
open Go.RowKit
set_option linter.unusedVariables false

set_option maxRecDepth 20000 in
set_option maxHeartbeats 1600000 in
theorem hashSum (ws : List Int) (h8 : ws.length = 8) (hu : U32 ws) (g : Nat) (w : World) (hg : At w g 88 (wd ws)) :
    Calls Tryd.prog 74 #[.pointer (some ⟨g, 0, none⟩)] w fun e w' => ∃ v', e = .returned v' ∧ Own 5 w.heap.size w'.heap.size w' v' (bs (outB ws)) ∧ Below w.heap.size w w' := by
  obtain ⟨i0, hi0, hz0, hz1, hz2⟩ := info_parts u8info
  have HG := hide hg
  have H8 := hide h8
  clear hg h8
  go_enter Tryd.func74, Tryd.ntmps74
  go_wp2
  go_loopw [3, 7] (fun v3 q wr => ∃ k : Nat, k ≤ 8 ∧ q = .int .i64 k ∧ wr.ownsRow w.heap.size 5 1 v3 (4 * k) (bs (outB (ws.take k))) ∧ Below w.heap.size w wr)
    (fun _ q _ => 8 - (intOf q).toNat)
  case atStart => exact ⟨0, by omega, rfl, own_cells (World.ownsRow_nil _ _ _ _) rfl, Below.refl _ _⟩
  case round =>
    obtain ⟨k, hk, rfl, hown, hbel⟩ := hrel
    have HO := hide hown
    have HB := hide hbel
    clear hown hbel
    have hsz := HB.out.size
    by_cases hlt : k < 8
    · have hc := (HG.out.below HB.out HG.out.lt).cell (i := k) (by rw [H8.out]; exact hlt)
      obtain ⟨x0, x1⟩ := hu.at_ k
      have hnx := outB_next (l := ws) (k := k) (by rw [H8.out]; exact hlt)
      generalize ws.getD k 0 = x at *
      have HN := hide hnx
      clear hnx
      go_wp2_with ((with_reducible refine at_slot 25 ?_); refine wpList_app _ rfl (.tmp 12) (.tmp 24) _ rfl w.heap.size 5 i0 _ 1 Tryd.underlying28 hi0 hz0 hz1 hz2 rfl _ _ _ rfl (HO.out.alloc _) _ _ rfl (rd_four _ _ _ _ _ _) (bs_one _) (by rw [bs_length]; simp only [maxLen, List.length_cons, List.length_nil]; omega) (by rw [bs_length]; simp only [List.length_cons, List.length_nil]; omega) (by simp; omega) ?_; intro v3 w3 own3 gr3)
      go_roundw
      case rel => exact ⟨k + 1, by omega, by go_num, own_len (own_cells own3 (by rw [HN.out, bs_append, show x / 16777216 % 256 = x / 16777216 by omega])) (by simp [bs]; omega), Below.row (HB.out.alloc hsz _) (by simp; omega) (HO.out.alloc _) gr3⟩
      case measure => simp [intOf]; omega
    · obtain rfl : k = 8 := by omega
      go_wp2
      go_ret
      have e : outB (ws.take 8) = outB ws := by rw [List.take_of_length_le (by rw [H8.out]; omega)]
      exact ⟨_, rfl, Own.of (own_cells HO.out (by rw [e])) (by rw [bs_length, outB_len, H8.out]), HB.out⟩

end Go.Proofs.YtnloknhcdlannaaDoor
