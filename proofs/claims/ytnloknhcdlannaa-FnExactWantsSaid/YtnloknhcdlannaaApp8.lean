
/-
  appendNum and appendText turn nothing but rows of bytes; rows of bytes that a call collects, beside boxes of structs.
-/
import Derived.Test.YtnloknhcdlannaaAcc
import Derived.Test.YtnloknhcdlannaaDat
namespace Go.Proofs.Ytnloknhcdlannaa
open Go.RowKit
set_option linter.unusedVariables false

/-- Nothing below lo turns, and no row of another type than bytes. -/
structure Grow8 (lo : Nat) (w w' : World) : Prop where
  below : Below lo w w'
  rows : ∀ (k : Nat) (cs : Array Value) (t : TypeId) (r : Nat × Nat), w.heap[k]? = some (Obj.cells cs t r) → t ≠ 5 → w'.heap[k]? = some (Obj.cells cs t r)
theorem Grow8.refl (lo : Nat) (w : World) : Grow8 lo w w := ⟨Below.refl _ _, fun _ _ _ _ h _ => h⟩
theorem Grow8.trans {lo : Nat} {a b c : World} (h : Grow8 lo a b) (k : Grow8 lo b c) : Grow8 lo a c :=
  ⟨h.below.trans k.below, fun i cs t r hi ht => k.rows i cs t r (h.rows i cs t r hi ht) ht⟩
theorem Grow8.of_below {lo : Nat} {w w' : World} (h : Below w.heap.size w w') (hl : lo ≤ w.heap.size) : Grow8 lo w w' :=
  ⟨h.mono hl, fun k cs t r hk _ => (h.block k (Array.getElem?_eq_some_iff.1 hk).1).trans hk⟩
theorem Grow8.alloc {lo : Nat} {a w : World} (h : Grow8 lo a w) (hl : lo ≤ w.heap.size) (o : Obj) : Grow8 lo a (w.alloc o) := h.trans (Grow8.of_below ((Below.refl _ _).alloc (Nat.le_refl _) o) hl)
theorem Grow8.row {lo n : Nat} {a w w' : World} {v : Value} {xs : List Value} (h : Grow8 lo a w) (hl : lo ≤ w.heap.size) (hr : w.ownsRow lo 5 1 v n xs) (hg : w.grownBy w' v.ownBlock) : Grow8 lo a w' := by
  refine h.trans ⟨(Below.refl lo w).grown hg hl fun g hgk => (hr.lt g hgk).1, fun k cs t r hk ht => ?_⟩
  refine (hg.block k (Array.getElem?_eq_some_iff.1 hk).1 (fun e => ?_)).trans hk
  rcases hr.2 with ⟨rfl, _⟩ | ⟨g, cap, cur, rfl, _, hgb, _⟩
  · simp [Value.ownBlock] at e
  · obtain rfl : k = g := by simpa [Value.ownBlock] using e
    rw [hgb] at hk
    injection hk with hk
    injection hk with _ hk _
    exact ht hk.symm
theorem Grow8.box {lo : Nat} {w w' : World} (h : Grow8 lo w w') {g : Nat} {t : TypeId} {us : List Value} (hb : Box w g t us) (ht : t ≠ 5) : Box w' g t us := h.rows _ _ _ _ hb ht

set_option maxHeartbeats 400000 in
theorem appendNumOut8 (l : List Int) (v : Value) (n : Int) (lo : Nat) (w : World) (hv : w.ownsRow lo 5 1 v l.length (bs l)) (hn : n < 0 ∨ 2147483647 < n) :
    Calls Try.prog 95 #[v, .int .i64 n] w fun e w' => ∃ v', e = .returned v' ∧ w'.ownsRow lo 5 1 v' l.length (bs l) ∧ Grow8 lo w w' := by
  have HV := hide hv
  clear hv
  by_cases h0 : n < 0
  all_goals
    go_enter Try.func95, Try.ntmps95
    go_wp2
    go_ret
    exact ⟨_, rfl, HV.out, Grow8.refl _ _⟩

set_option maxRecDepth 20000 in
set_option maxHeartbeats 800000 in
theorem appendNumIn8 (l : List Int) (v : Value) (n : Nat) (lo : Nat) (w : World) (hv : w.ownsRow lo 5 1 v l.length (bs l)) (hlo : lo ≤ w.heap.size) (hl : l.length ≤ 1099511627776) (hn : n ≤ 2147483647) :
    Calls Try.prog 95 #[v, .int .i64 n] w fun e w' => ∃ v', e = .returned v' ∧ w'.ownsRow lo 5 1 v' (l ++ vint n).length (bs (l ++ vint n)) ∧ Grow8 lo w w' := by
  obtain ⟨i0, hi0, hz0, hz1, hz2⟩ := info_parts u8info
  have HV := hide hv
  clear hv
  go_enter Try.func95, Try.ntmps95
  go_wp2
  go_loopw [0, 1] (fun v t wr => ∃ (m : Nat) (xs : List Int), m ≤ 2147483647 ∧ t = .int .i64 m ∧ wr.ownsRow lo 5 1 v xs.length (bs xs) ∧ Hid (xs ++ vint m = l ++ vint n) ∧ Grow8 lo w wr)
    (fun _ t _ => (intOf t).toNat)
  case atStart => exact ⟨n, l, hn, rfl, HV.out, hide rfl, Grow8.refl _ _⟩
  case round =>
    obtain ⟨m, xs, hm, rfl, hown, hx, hbel⟩ := hrel
    have hroom := vint_room hn hx.out
    have hlo2 : lo ≤ wr.heap.size := Nat.le_trans hlo hbel.below.size
    have hor : bits .or .u8 ((m : Int) % 256) 128 = (m : Int) % 128 + 128 := by rw [or128 (by omega) (by omega)]; omega
    have HO := hide hor
    clear hor

    by_cases h128 : m < 128
    · go_wp2_with (at_builtin; refine wpList_app _ rfl (.tmp 22) (.tmp 25) _ rfl lo 5 i0 _ 1 Try.underlying22 hi0 hz0 hz1 hz2 rfl _ _ _ rfl (hown.alloc _) _ _ rfl (rd_one _ _ _) (bs_one _) (by rw [bs_length]; simp only [maxLen, List.length_singleton]; omega) (by rw [bs_length]; simp only [List.length_singleton]; omega) (by simp; omega) ?_; intro v3 w3 own3 gr3)
      go_ret
      refine ⟨_, rfl, own_len (own_cells own3 ?_) (by rw [bs_length, ← hx.out, vint_last h128]; simp), ?_⟩
      · rw [← bs_append, ← hx.out, vint_last h128]
      · exact Grow8.row (hbel.alloc hlo2 _) (by simp; omega) (hown.alloc _) gr3
    · go_wp2_with (at_builtin; refine wpList_app _ rfl (.tmp 16) (.tmp 20) _ rfl lo 5 i0 _ 1 Try.underlying22 hi0 hz0 hz1 hz2 rfl _ _ _ rfl (hown.alloc _) _ _ rfl (rd_one _ _ _) (bs_one _) (by rw [bs_length]; simp only [maxLen, List.length_singleton]; omega) (by rw [bs_length]; simp only [List.length_singleton]; omega) (by simp; omega) ?_; intro v3 w3 own3 gr3)
      go_roundw
      case rel => exact ⟨m / 128, xs ++ [(m : Int) % 128 + 128], by omega, by go_num, own_len (own_cells own3 (by rw [HO.out, bs_append])) (by simp [bs]), hide (vint_step h128 hx.out), Grow8.row (hbel.alloc hlo2 _) (by simp; omega) (hown.alloc _) gr3⟩
      case measure => simp [intOf]; omega

theorem appendNum8 (l : List Int) (v : Value) (n : Int) (lo : Nat) (w : World) (hv : w.ownsRow lo 5 1 v l.length (bs l)) (hlo : lo ≤ w.heap.size) (hl : l.length ≤ 1099511627776) :
    Calls Try.prog 95 #[v, .int .i64 n] w fun e w' => ∃ v', e = .returned v' ∧ w'.ownsRow lo 5 1 v' (putNum l n).length (bs (putNum l n)) ∧ Grow8 lo w w' := by
  by_cases h : n < 0 ∨ 2147483647 < n
  · rw [putNum, if_pos h]
    exact appendNumOut8 l v n lo w hv h
  · rw [putNum, if_neg h]
    obtain ⟨k, rfl⟩ := Int.eq_ofNat_of_zero_le (by omega : 0 ≤ n)
    exact appendNumIn8 l v k lo w hv hlo hl (by omega)

set_option maxRecDepth 20000 in
set_option maxHeartbeats 800000 in
theorem appendText8 (l : List Int) (v : Value) (t : List Int) (u : Value) (lo : Nat) (w w0 : World) (hv : w.ownsRow lo 5 1 v l.length (bs l)) (hu : Rd w0 u (bs t)) (h0 : w0.heap.size = lo) (hb : Below lo w0 w) (hl : l.length ≤ 1099511627776) :
    Calls Try.prog 84 #[v, u] w fun e w' => ∃ v', e = .returned v' ∧ w'.ownsRow lo 5 1 v' (putText l t).length (bs (putText l t)) ∧ Grow8 lo w w' := by
  obtain ⟨i0, hi0, hz0, hz1, hz2⟩ := info_parts u8info
  obtain ⟨A', c', hU, hc1', hc2', _⟩ := id hu
  rw [bs_length] at *
  unfold maxLen at hc2'
  subst hU
  have HV := hide hv
  have HU := hide hu
  clear hv hu
  have hlo : lo ≤ w.heap.size := by rw [← h0]; exact hb.size
  have HB := hide hb
  have H0 := hide h0
  clear hb h0
  by_cases h4 : 400 < t.length
  · rw [putText, if_pos h4]
    go_enter Try.func84, Try.ntmps84
    go_wp2
    go_ret
    exact ⟨_, rfl, HV.out, Grow8.refl _ _⟩
  · rw [putText, if_neg h4]
    obtain ⟨P, hP⟩ : ∃ P, putNum l t.length = P := ⟨_, rfl⟩
    have hroom : P.length ≤ l.length + 5 := by rw [← hP]; exact putNum_len l t.length
    rw [hP]
    have HP := hide hP
    clear hP
    go_enter Try.func84, Try.ntmps84
    go_wp2_with fail
    refine (appendNum8 l _ t.length lo w HV.out hlo (by omega)).mono ?_
    rintro e w1 ⟨v1, rfl, o1, b1⟩
    rw [HP.out] at o1
    have hu1 : Rd w1 (.slice A' t.length c') (bs t) := HU.out.below (by rw [H0.out]; exact HB.out.trans b1.below)
    have hlo1 : lo ≤ w1.heap.size := Nat.le_trans hlo b1.below.size
    go_wp2_with (at_builtin; refine wpList_app _ rfl (.tmp 12) (.tmp 13) _ rfl lo 5 i0 _ 1 Try.underlying22 hi0 hz0 hz1 hz2 rfl _ _ _ rfl o1 _ (bs t) rfl hu1 (bs_one t) (by rw [bs_length]; simp only [maxLen]; omega) (by rw [bs_length]; omega) hlo1 ?_; intro v2 w2 own2 gr2)
    go_ret
    exact ⟨_, rfl, own_len (own_cells own2 (bs_append _ _).symm) (by simp [bs]), Grow8.row b1 hlo1 o1 gr2⟩



theorem Acc.text8 {w0 W : World} {L t : List Int} {v u : Value} (h : Acc w0 L v W) (hu : Rd w0 u (bs t)) (hl : L.length ≤ 1099511627776) :
    Calls Try.prog 84 #[v, u] W fun e w' => ∃ v', e = .returned v' ∧ Acc w0 (L ++ etx t) v' w' ∧ Grow8 w0.heap.size W w' := by
  refine (appendText8 L v t u w0.heap.size W w0 h.row hu rfl h.below hl).mono ?_
  rintro e w' ⟨v', rfl, h1, h2⟩
  rw [putText_etx] at h1
  exact ⟨v', rfl, Acc.of h1 (h.below.trans h2.below), h2⟩
/-- Behind an append to the row. -/
theorem Acc.app8 {w0 W W2 : World} {L S : List Int} {A : Option Addr} {n c : Nat} {v2 : Value} (hn : n = L.length) (ho : W.ownsRow w0.heap.size 5 1 (.slice A n c) n (bs L)) (hb : Below w0.heap.size w0 W)
    (o2 : W2.ownsRow w0.heap.size 5 1 v2 (n + (bs S).length) (bs L ++ bs S)) (g2 : W.grownBy W2 (Value.slice A n c).ownBlock) : Acc w0 (L ++ S) v2 W2 ∧ Grow8 w0.heap.size W W2 :=
  ⟨Acc.app hn ho hb o2 g2, (Grow8.refl _ _).row hb.size ho g2⟩

end Go.Proofs.Ytnloknhcdlannaa
