
/-
  bytes.Clone, appendNum and the program's PutNum.
-/
import Derived.Test.YtnloknhcdlannaaDoorPut
import Derived.Test.YtnloknhcdlannaaDoorClone
namespace Go.Proofs.YtnloknhcdlannaaDoor
open Go.RowKit

set_option maxHeartbeats 400000 in
theorem appendNumOut (l : List Int) (v : Value) (n : Int) (lo : Nat) (w : World) (hv : w.ownsRow lo 5 1 v l.length (bs l)) (hn : n < 0 ∨ 2147483647 < n) :
    Calls Tryd.prog 85 #[v, .int .i64 n] w fun e w' => ∃ v', e = .returned v' ∧ w'.ownsRow lo 5 1 v' l.length (bs l) ∧ Below lo w w' := by
  have HV := hide hv
  clear hv
  by_cases h0 : n < 0
  all_goals
    go_enter Tryd.func85, Tryd.ntmps85
    go_wp2
    go_ret
    exact ⟨_, rfl, HV.out, Below.refl _ _⟩

set_option maxRecDepth 20000 in
set_option maxHeartbeats 800000 in
theorem appendNumIn (l : List Int) (v : Value) (n : Nat) (lo : Nat) (w : World) (hv : w.ownsRow lo 5 1 v l.length (bs l)) (hlo : lo ≤ w.heap.size) (hl : l.length ≤ 1099511627776) (hn : n ≤ 2147483647) :
    Calls Tryd.prog 85 #[v, .int .i64 n] w fun e w' => ∃ v', e = .returned v' ∧ w'.ownsRow lo 5 1 v' (l ++ vint n).length (bs (l ++ vint n)) ∧ Below lo w w' := by
  obtain ⟨i0, hi0, hz0, hz1, hz2⟩ := info_parts u8info
  have HV := hide hv
  clear hv
  go_enter Tryd.func85, Tryd.ntmps85
  go_wp2
  go_loopw [0, 1] (fun v t wr => ∃ (m : Nat) (xs : List Int), m ≤ 2147483647 ∧ t = .int .i64 m ∧ wr.ownsRow lo 5 1 v xs.length (bs xs) ∧ Hid (xs ++ vint m = l ++ vint n) ∧ Below lo w wr)
    (fun _ t _ => (intOf t).toNat)
  case atStart => exact ⟨n, l, hn, rfl, HV.out, hide rfl, Below.refl _ _⟩
  case round =>
    obtain ⟨m, xs, hm, rfl, hown, hx, hbel⟩ := hrel
    have hroom := vint_room hn hx.out
    have hlo2 : lo ≤ wr.heap.size := Nat.le_trans hlo hbel.size
    have hor : bits .or .u8 ((m : Int) % 256) 128 = (m : Int) % 128 + 128 := by rw [or128 (by omega) (by omega)]; omega
    have HO := hide hor
    clear hor

    by_cases h128 : m < 128
    · go_wp2_with (at_builtin; refine wpList_app _ rfl (.tmp 22) (.tmp 25) _ rfl lo 5 i0 _ 1 Tryd.underlying28 hi0 hz0 hz1 hz2 rfl _ _ _ rfl (hown.alloc _) _ _ rfl (rd_one _ _ _) (bs_one _) (by rw [bs_length]; simp only [maxLen, List.length_singleton]; omega) (by rw [bs_length]; simp only [List.length_singleton]; omega) (by simp; omega) ?_; intro v3 w3 own3 gr3)
      go_ret
      refine ⟨_, rfl, own_len (own_cells own3 ?_) (by rw [bs_length, ← hx.out, vint_last h128]; simp), ?_⟩
      · rw [← bs_append, ← hx.out, vint_last h128]
      · exact Below.row (hbel.alloc hlo2 _) (by simp; omega) (hown.alloc _) gr3
    · go_wp2_with (at_builtin; refine wpList_app _ rfl (.tmp 16) (.tmp 20) _ rfl lo 5 i0 _ 1 Tryd.underlying28 hi0 hz0 hz1 hz2 rfl _ _ _ rfl (hown.alloc _) _ _ rfl (rd_one _ _ _) (bs_one _) (by rw [bs_length]; simp only [maxLen, List.length_singleton]; omega) (by rw [bs_length]; simp only [List.length_singleton]; omega) (by simp; omega) ?_; intro v3 w3 own3 gr3)
      go_roundw
      case rel => exact ⟨m / 128, xs ++ [(m : Int) % 128 + 128], by omega, by go_num, own_len (own_cells own3 (by rw [HO.out, bs_append])) (by simp [bs]), hide (vint_step h128 hx.out), Below.row (hbel.alloc hlo2 _) (by simp; omega) (hown.alloc _) gr3⟩
      case measure => simp [intOf]; omega

theorem appendNum (l : List Int) (v : Value) (n : Int) (lo : Nat) (w : World) (hv : w.ownsRow lo 5 1 v l.length (bs l)) (hlo : lo ≤ w.heap.size) (hl : l.length ≤ 1099511627776) :
    Calls Tryd.prog 85 #[v, .int .i64 n] w fun e w' => ∃ v', e = .returned v' ∧ w'.ownsRow lo 5 1 v' (putNum l n).length (bs (putNum l n)) ∧ Below lo w w' := by
  by_cases h : n < 0 ∨ 2147483647 < n
  · rw [putNum, if_pos h]
    exact appendNumOut l v n lo w hv h
  · rw [putNum, if_neg h]
    obtain ⟨k, rfl⟩ := Int.eq_ofNat_of_zero_le (by omega : 0 ≤ n)
    exact appendNumIn l v k lo w hv hlo hl (by omega)

theorem specPutNum (l : List Int) (v : Value) (n : Int) (w : World) (hv : Rd w v (bs l)) (hl : l.length ≤ 1099511627776) :
    Calls Tryd.prog 63 #[v, .int .i64 n] w fun e w' => ∃ v', e = .returned v' ∧ Own 5 w.heap.size w'.heap.size w' v' (bs (putNum l n)) ∧ Below w.heap.size w w' := by
  by_cases h : n < 0 ∨ 2147483647 < n
  · rw [putNum, if_pos h]
    exact specPutNumOut l v n w hv hl h
  · rw [putNum, if_neg h]
    obtain ⟨k, rfl⟩ := Int.eq_ofNat_of_zero_le (by omega : 0 ≤ n)
    exact specPutNumIn l v k w hv hl (by omega)

end Go.Proofs.YtnloknhcdlannaaDoor
