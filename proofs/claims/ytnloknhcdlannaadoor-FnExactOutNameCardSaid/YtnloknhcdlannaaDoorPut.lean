
/-
  PutNum: the model and the program write the same bytes.
-/
import Derived.Test.YtnloknhcdlannaaDoorBytes
import Derived.Test.YtnloknhcdlannaaDoorOwn
namespace Go.Proofs.YtnloknhcdlannaaDoor
open Go.RowKit

/-- The bytes of a number, the lowest seven bits first. -/
def vint (n : Nat) : List Int := if n < 128 then [(n : Int)] else ((n : Int) % 128 + 128) :: vint (n / 128)
theorem vint_last {n : Nat} (h : n < 128) : vint n = [(n : Int)] := by rw [vint, if_pos h]
theorem vint_more {n : Nat} (h : ¬ n < 128) : vint n = ((n : Int) % 128 + 128) :: vint (n / 128) := by rw [vint, if_neg h]
theorem vint_byt (n : Nat) : Byt (vint n) := by
  induction n using Nat.strongRecOn with
  | _ n ih =>
    by_cases h : n < 128
    · rw [vint_last h]
      exact Byt.one (by omega) (by omega)
    · rw [vint_more h]
      intro x hx
      rcases List.mem_cons.1 hx with rfl | hx
      · omega
      · exact ih (n / 128) (by omega) x hx

/-- What PutNum answers. -/
def putNum (l : List Int) (n : Int) : List Int := if n < 0 ∨ 2147483647 < n then l else l ++ vint n.toNat
theorem putNum_byt {l : List Int} (h : Byt l) (n : Int) : Byt (putNum l n) := by
  unfold putNum
  split
  · exact h
  · exact h.app (vint_byt _)

theorem vint_len (n : Nat) (h : n ≤ 2147483647) : (vint n).length ≤ 5 := by
  by_cases h1 : n < 128
  · rw [vint_last h1]; simp
  by_cases h2 : n / 128 < 128
  · rw [vint_more h1, vint_last h2]; simp
  by_cases h3 : n / 128 / 128 < 128
  · rw [vint_more h1, vint_more h2, vint_last h3]; simp
  by_cases h4 : n / 128 / 128 / 128 < 128
  · rw [vint_more h1, vint_more h2, vint_more h3, vint_last h4]; simp
  have h5 : n / 128 / 128 / 128 / 128 < 128 := by omega
  rw [vint_more h1, vint_more h2, vint_more h3, vint_more h4, vint_last h5]; simp
theorem vint_step {xs l : List Int} {m n : Nat} (h : ¬ m < 128) (hx : xs ++ vint m = l ++ vint n) : (xs ++ [(m : Int) % 128 + 128]) ++ vint (m / 128) = l ++ vint n := by
  rw [vint_more h] at hx
  rw [← hx]
  simp
theorem vint_room {xs l : List Int} {m n : Nat} (hn : n ≤ 2147483647) (hx : xs ++ vint m = l ++ vint n) : xs.length ≤ l.length + 5 := by
  have := congrArg List.length hx
  have h5 := vint_len n hn
  simp at this
  omega
theorem putNum_room (l : List Int) (n : Int) (hl : l.length ≤ 1048576) : (putNum l n).length ≤ 1099511627776 := by
  unfold putNum
  split
  · omega
  · rw [List.length_append]
    have := vint_len n.toNat (by omega)
    omega

set_option maxRecDepth 20000 in
set_option maxHeartbeats 800000 in
theorem specPutNumOut (l : List Int) (v : Value) (n : Int) (w : World) (hv : Rd w v (bs l)) (hl : l.length ≤ 1099511627776) (hn : n < 0 ∨ 2147483647 < n) :
    Calls Tryd.prog 63 #[v, .int .i64 n] w fun e w' => ∃ v', e = .returned v' ∧ Own 5 w.heap.size w'.heap.size w' v' (bs l) ∧ Below w.heap.size w w' := by
  obtain ⟨i0, hi0, hz0, hz1, hz2⟩ := info_parts u8info
  obtain ⟨A, c, hV, _, _, _⟩ := id hv
  rw [bs_length] at *
  subst hV
  have HV := hide hv
  clear hv
  by_cases h0 : n < 0
  all_goals
    go_enter Tryd.func63, Tryd.ntmps63
    go_wp2_with (at_builtin; refine wpList_app _ rfl (.tmp 6) (.tmp 7) _ rfl w.heap.size 5 i0 _ 1 Tryd.underlying28 hi0 hz0 hz1 hz2 rfl _ 0 [] rfl (own_lit0 w _) _ (bs l) rfl (HV.out.alloc _) (bs_one l) (by rw [bs_length]; simp only [maxLen]; omega) (by rw [bs_length]; omega) (by simp) ?_; intro v1 w1 own1 gr1)
    go_ret
    exact ⟨_, rfl, Own.of (own_cells own1 (List.nil_append _)) (by simp), below_app0 gr1⟩

set_option maxRecDepth 20000 in
set_option maxHeartbeats 800000 in
theorem specPutNumIn (l : List Int) (v : Value) (n : Nat) (w : World) (hv : Rd w v (bs l)) (hl : l.length ≤ 1099511627776) (hn : n ≤ 2147483647) :
    Calls Tryd.prog 63 #[v, .int .i64 n] w fun e w' => ∃ v', e = .returned v' ∧ Own 5 w.heap.size w'.heap.size w' v' (bs (l ++ vint n)) ∧ Below w.heap.size w w' := by
  obtain ⟨i0, hi0, hz0, hz1, hz2⟩ := info_parts u8info
  obtain ⟨A, c, hV, _, _, _⟩ := id hv
  rw [bs_length] at *
  subst hV
  have HV := hide hv
  clear hv
  go_enter Tryd.func63, Tryd.ntmps63
  go_wp2_with (at_builtin; refine wpList_app _ rfl (.tmp 6) (.tmp 7) _ rfl w.heap.size 5 i0 _ 1 Tryd.underlying28 hi0 hz0 hz1 hz2 rfl _ 0 [] rfl (own_lit0 w _) _ (bs l) rfl (HV.out.alloc _) (bs_one l) (by rw [bs_length]; simp only [maxLen]; omega) (by rw [bs_length]; omega) (by simp) ?_; intro v1 w1 own1 gr1)
  have c1 : Below w.heap.size w w1 := below_app0 gr1
  have own2 : w1.ownsRow w.heap.size 5 1 v1 l.length (bs l) := own_len (own_cells own1 (List.nil_append _)) (by rw [bs_length]; omega)
  clear own1 gr1
  go_loopw [1, 5] (fun t v wr => ∃ (m : Nat) (xs : List Int), m ≤ 2147483647 ∧ t = .int .i64 m ∧ wr.ownsRow w.heap.size 5 1 v xs.length (bs xs) ∧ Hid (xs ++ vint m = l ++ vint n) ∧ Below w.heap.size w wr)
    (fun t _ _ => (intOf t).toNat)
  case atStart => exact ⟨n, l, hn, rfl, own2, hide rfl, c1⟩
  case round =>
    obtain ⟨m, xs, hm, rfl, hown, hx, hbel⟩ := hrel
    have hroom := vint_room hn hx.out
    by_cases h128 : m < 128
    · go_wp2_with (at_builtin; refine wpList_app _ rfl (.tmp 27) (.tmp 30) _ rfl w.heap.size 5 i0 _ 1 Tryd.underlying28 hi0 hz0 hz1 hz2 rfl _ _ _ rfl (hown.alloc _) _ _ rfl (rd_one _ _ _) (bs_one _) (by rw [bs_length]; simp only [maxLen, List.length_singleton]; omega) (by rw [bs_length]; simp only [List.length_singleton]; omega) (by have := hbel.size; simp; omega) ?_; intro v3 w3 own3 gr3)
      go_ret
      refine ⟨_, rfl, Own.of (own_cells own3 ?_) (by rw [bs_length, ← hx.out, vint_last h128]; simp [bs]), ?_⟩
      · rw [← bs_append, ← hx.out, vint_last h128]
      · exact Below.row (hbel.alloc hbel.size _) (by have := hbel.size; simp; omega) (hown.alloc _) gr3
    · go_wp2_with (at_builtin; refine wpList_app _ rfl (.tmp 18) (.tmp 23) _ rfl w.heap.size 5 i0 _ 1 Tryd.underlying28 hi0 hz0 hz1 hz2 rfl _ _ _ rfl (hown.alloc _) _ _ rfl (rd_one _ _ _) (bs_one _) (by rw [bs_length]; simp only [maxLen, List.length_singleton]; omega) (by rw [bs_length]; simp only [List.length_singleton]; omega) (by have := hbel.size; simp; omega) ?_; intro v3 w3 own3 gr3)
      go_roundw
      case rel => exact ⟨m / 128, xs ++ [(m : Int) % 128 + 128], by omega, by go_num, own_len (own_cells own3 (bs_append _ _).symm) (by simp [bs]), hide (vint_step h128 hx.out), Below.row (hbel.alloc hbel.size _) (by have := hbel.size; simp; omega) (hown.alloc _) gr3⟩
      case measure => simp [intOf]; omega

end Go.Proofs.YtnloknhcdlannaaDoor
