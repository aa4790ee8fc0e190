/-
  appendNum and appendText turn nothing but rows of bytes.
-/
import Derived.Test.YtchmppikpeeghaaText
import Derived.Test.YtchmppikpeeghaaDatC
namespace Go.Proofs.Ytchmppikpeeghaa
open Go.RowKit Go.Shelf
set_option linter.unusedVariables false

/-- Nothing below lo turns, no row of another type than bytes, nothing that is no row. -/
structure Grows (lo : Nat) (w w' : World) : Prop where
  below : Below lo w w'
  rows : ∀ (k : Nat) (cs : Array Value) (t : TypeId) (r : Nat × Nat), w.heap[k]? = some (Obj.cells cs t r) → t ≠ 5 → w'.heap[k]? = some (Obj.cells cs t r)
  others : KeepsOthers w w'
theorem Grows.refl (lo : Nat) (w : World) : Grows lo w w := ⟨Below.refl _ _, fun _ _ _ _ h _ => h, KeepsOthers.refl _⟩
theorem Grows.trans {lo : Nat} {a b c : World} (h : Grows lo a b) (k : Grows lo b c) : Grows lo a c :=
  ⟨h.below.trans k.below, fun i cs t r hi ht => k.rows i cs t r (h.rows i cs t r hi ht) ht, h.others.trans k.others⟩
theorem Grows.of_below {lo : Nat} {w w' : World} (h : Below w.heap.size w w') (hl : lo ≤ w.heap.size) : Grows lo w w' :=
  ⟨h.mono hl, fun k cs t r hk _ => (h.block k (Array.getElem?_eq_some_iff.1 hk).1).trans hk, ⟨h.size, fun k o hk _ => (h.block k (Array.getElem?_eq_some_iff.1 hk).1).trans hk⟩⟩
theorem Grows.alloc {lo : Nat} {a w : World} (h : Grows lo a w) (hl : lo ≤ w.heap.size) (o : Obj) : Grows lo a (w.alloc o) := h.trans (Grows.of_below ((Below.refl _ _).alloc (Nat.le_refl _) o) hl)
theorem Grows.row {lo n : Nat} {a w w' : World} {v : Value} {xs : List Value} (h : Grows lo a w) (hl : lo ≤ w.heap.size) (hr : w.ownsRow lo 5 1 v n xs) (hg : w.grownBy w' v.ownBlock) : Grows lo a w' := by
  refine h.trans ⟨(Below.refl lo w).grown hg hl fun g hgk => (hr.lt g hgk).1, fun k cs t r hk ht => ?_, KeepsOthers.of_grownBy hg fun j o ej hj => ?_⟩
  · refine (hg.block k (Array.getElem?_eq_some_iff.1 hk).1 (fun e => ?_)).trans hk
    rcases hr.2 with ⟨rfl, _⟩ | ⟨g, cap, cur, rfl, _, hgb, _⟩
    · simp [Value.ownBlock] at e
    · obtain rfl : k = g := by simpa [Value.ownBlock] using e
      rw [hgb] at hk
      injection hk with hk
      injection hk with _ hk _
      exact ht hk.symm
  · rcases hr.2 with ⟨rfl, _⟩ | ⟨g, cap, cur, rfl, _, hgb, _⟩
    · simp [Value.ownBlock] at ej
    · obtain rfl : g = j := by simpa [Value.ownBlock] using ej
      rw [hgb] at hj; cases hj; rfl
/-- The same, and rows of slices of bytes may turn, too. -/
structure Steps (lo : Nat) (w w' : World) : Prop where
  below : Below lo w w'
  rows : ∀ (k : Nat) (cs : Array Value) (t : TypeId) (r : Nat × Nat), w.heap[k]? = some (Obj.cells cs t r) → t ≠ 5 → t ≠ 22 → w'.heap[k]? = some (Obj.cells cs t r)
  others : KeepsOthers w w'
theorem Steps.refl (lo : Nat) (w : World) : Steps lo w w := ⟨Below.refl _ _, fun _ _ _ _ h _ _ => h, KeepsOthers.refl _⟩
theorem Steps.trans {lo : Nat} {a b c : World} (h : Steps lo a b) (k : Steps lo b c) : Steps lo a c :=
  ⟨h.below.trans k.below, fun i cs t r hi ht hu => k.rows i cs t r (h.rows i cs t r hi ht hu) ht hu, h.others.trans k.others⟩
theorem Steps.holds {lo : Nat} {w w' : World} (h : Steps lo w w') : Holds lo w w' := ⟨h.below, fun k cs t r hk ht => h.rows k cs t r hk (by rcases ht with rfl | rfl <;> decide) (by rcases ht with rfl | rfl <;> decide)⟩
/-- A longer row is stored into the box. -/
theorem stored_step {lo c : Nat} {W w1 : World} {v v' : Value} {l' : List Int} (hv : Boxed W c 22 v) (hc : lo ≤ c) (hr' : w1.ownsRow lo 5 1 v' l'.length (bs l')) (hg : Grows lo W w1) :
    ∃ W2, w1.setCell ⟨c, 0, none⟩ v' = W2 ∧ w1.cell? ⟨c, 0, none⟩ = some v ∧ w1.frozen? ⟨c, 0, none⟩ = false ∧ Boxed W2 c 22 v' ∧ W2.ownsRow lo 5 1 v' l'.length (bs l') ∧ Steps lo W W2 := by
  have hv1 : Boxed w1 c 22 v := hg.rows _ _ _ _ hv (by decide)
  refine ⟨_, rfl, hv1.cell, hv1.frozen, hv1.set v', hr'.kept (grownBy_setCell' w1 c v') (.inr (hv1.not_row (by decide) hr').symm), hg.below.setCell (p := ⟨c, 0, none⟩) hc v', fun k cs t r hk ht hu => ?_, hg.others.trans (KeepsOthers.setCell _ _ _)⟩
  refine (Below.heap_setCell w1 ⟨c, 0, none⟩ v' k (fun e => ?_)).trans (hg.rows k cs t r hk ht)
  dsimp only at e
  subst e
  have hb2 : W.heap[k]? = _ := hv
  rw [hk] at hb2
  injection hb2 with hb2
  injection hb2 with _ hb2 _
  exact hu hb2

set_option maxHeartbeats 400000 in
theorem appendNumOutG (l : List Int) (v : Value) (n : Int) (lo : Nat) (w : World) (hv : w.ownsRow lo 5 1 v l.length (bs l)) (hn : n < 0 ∨ 2147483647 < n) :
    Calls Try.prog 83 #[v, .int .i64 n] w fun e w' => ∃ v', e = .returned v' ∧ w'.ownsRow lo 5 1 v' l.length (bs l) ∧ Grows lo w w' := by
  have HV := hide hv
  clear hv
  by_cases h0 : n < 0
  all_goals
    go_enter Try.func83, Try.ntmps83
    go_wp2
    go_ret
    exact ⟨_, rfl, HV.out, Grows.refl _ _⟩

set_option maxRecDepth 20000 in
set_option maxHeartbeats 800000 in
theorem appendNumInG (l : List Int) (v : Value) (n : Nat) (lo : Nat) (w : World) (hv : w.ownsRow lo 5 1 v l.length (bs l)) (hlo : lo ≤ w.heap.size) (hl : l.length ≤ 1099511627776) (hn : n ≤ 2147483647) :
    Calls Try.prog 83 #[v, .int .i64 n] w fun e w' => ∃ v', e = .returned v' ∧ w'.ownsRow lo 5 1 v' (l ++ vint n).length (bs (l ++ vint n)) ∧ Grows lo w w' := by
  obtain ⟨i0, hi0, hz0, hz1, hz2⟩ := info_parts u8info
  have HV := hide hv
  clear hv
  go_enter Try.func83, Try.ntmps83
  go_wp2
  go_loopw [0, 1] (fun v t wr => ∃ (m : Nat) (xs : List Int), m ≤ 2147483647 ∧ t = .int .i64 m ∧ wr.ownsRow lo 5 1 v xs.length (bs xs) ∧ Hid (xs ++ vint m = l ++ vint n) ∧ Grows lo w wr)
    (fun _ t _ => (intOf t).toNat)
  case atStart => exact ⟨n, l, hn, rfl, HV.out, hide rfl, Grows.refl _ _⟩
  case round =>
    obtain ⟨m, xs, hm, rfl, hown, hx, hbel⟩ := hrel
    have hroom := vint_room hn hx.out
    have hlo2 : lo ≤ wr.heap.size := Nat.le_trans hlo hbel.below.size
    have hor : bits .or .u8 ((m : Int) % 256) 128 = (m : Int) % 128 + 128 := by rw [or128 (by omega) (by omega)]; omega
    have HO := hide hor
    clear hor

    by_cases h128 : m < 128
    · go_wp2_with (at_builtin; refine wpList_app _ rfl (.tmp 22) (.tmp 25) _ rfl lo 5 i0 _ 1 Try.underlying22 hi0 hz0 hz1 hz2 rfl _ _ _ rfl (hown.alloc _) _ _ rfl (rd_one _ _ _) (bs_one _) (by rw [bs_length]; simp only [maxLen, List.length_singleton]; omega) (by rw [bs_length]; simp only [List.length_singleton]; omega) (by simp; omega) ?_; intro v3 w3 own3 gr3)
      go_ret
      refine ⟨_, rfl, own_len (own_cells own3 ?_) (by rw [bs_length, ← hx.out, vint_last h128]; simp), ?_⟩
      · rw [← bs_append, ← hx.out, vint_last h128]
      · exact Grows.row (hbel.alloc hlo2 _) (by simp; omega) (hown.alloc _) gr3
    · go_wp2_with (at_builtin; refine wpList_app _ rfl (.tmp 16) (.tmp 20) _ rfl lo 5 i0 _ 1 Try.underlying22 hi0 hz0 hz1 hz2 rfl _ _ _ rfl (hown.alloc _) _ _ rfl (rd_one _ _ _) (bs_one _) (by rw [bs_length]; simp only [maxLen, List.length_singleton]; omega) (by rw [bs_length]; simp only [List.length_singleton]; omega) (by simp; omega) ?_; intro v3 w3 own3 gr3)
      go_roundw
      case rel => exact ⟨m / 128, xs ++ [(m : Int) % 128 + 128], by omega, by go_num, own_len (own_cells own3 (by rw [HO.out, bs_append])) (by simp [bs]), hide (vint_step h128 hx.out), Grows.row (hbel.alloc hlo2 _) (by simp; omega) (hown.alloc _) gr3⟩
      case measure => simp [intOf]; omega

theorem appendNumG (l : List Int) (v : Value) (n : Int) (lo : Nat) (w : World) (hv : w.ownsRow lo 5 1 v l.length (bs l)) (hlo : lo ≤ w.heap.size) (hl : l.length ≤ 1099511627776) :
    Calls Try.prog 83 #[v, .int .i64 n] w fun e w' => ∃ v', e = .returned v' ∧ w'.ownsRow lo 5 1 v' (putNum l n).length (bs (putNum l n)) ∧ Grows lo w w' := by
  by_cases h : n < 0 ∨ 2147483647 < n
  · rw [putNum, if_pos h]
    exact appendNumOutG l v n lo w hv h
  · rw [putNum, if_neg h]
    obtain ⟨k, rfl⟩ := Int.eq_ofNat_of_zero_le (by omega : 0 ≤ n)
    exact appendNumInG l v k lo w hv hlo hl (by omega)

set_option maxRecDepth 20000 in
set_option maxHeartbeats 800000 in
theorem appendTextG (l : List Int) (v : Value) (t : List Int) (u : Value) (lo : Nat) (w w0 : World) (hv : w.ownsRow lo 5 1 v l.length (bs l)) (hu : Rd w0 u (bs t)) (h0 : w0.heap.size = lo) (hb : Below lo w0 w) (hl : l.length ≤ 1099511627776) :
    Calls Try.prog 57 #[v, u] w fun e w' => ∃ v', e = .returned v' ∧ w'.ownsRow lo 5 1 v' (putText l t).length (bs (putText l t)) ∧ Grows lo w w' := by
  obtain ⟨i0, hi0, hz0, hz1, hz2⟩ := info_parts u8info
  obtain ⟨A', c', hU, hc1', hc2', _⟩ := id hu
  rw [bs_length] at *
  unfold maxLen at hc2'
  subst hU
  have HV := hide hv
  have HU := hide hu
  clear hv hu
  have hlo : lo ≤ w.heap.size := by rw [← h0]; exact hb.size
  have HB := hide hb
  have H0 := hide h0
  clear hb h0
  by_cases h4 : 400 < t.length
  · rw [putText, if_pos h4]
    go_enter Try.func57, Try.ntmps57
    go_wp2
    go_ret
    exact ⟨_, rfl, HV.out, Grows.refl _ _⟩
  · rw [putText, if_neg h4]
    obtain ⟨P, hP⟩ : ∃ P, putNum l t.length = P := ⟨_, rfl⟩
    have hroom : P.length ≤ l.length + 5 := by rw [← hP]; exact putNum_len l t.length
    rw [hP]
    have HP := hide hP
    clear hP
    go_enter Try.func57, Try.ntmps57
    go_wp2_with fail
    refine (appendNumG l _ t.length lo w HV.out hlo (by omega)).mono ?_
    rintro e w1 ⟨v1, rfl, o1, b1⟩
    rw [HP.out] at o1
    have hu1 : Rd w1 (.slice A' t.length c') (bs t) := HU.out.below (by rw [H0.out]; exact HB.out.trans b1.below)
    have hlo1 : lo ≤ w1.heap.size := Nat.le_trans hlo b1.below.size
    go_wp2_with (at_builtin; refine wpList_app _ rfl (.tmp 12) (.tmp 13) _ rfl lo 5 i0 _ 1 Try.underlying22 hi0 hz0 hz1 hz2 rfl _ _ _ rfl o1 _ (bs t) rfl hu1 (bs_one t) (by rw [bs_length]; simp only [maxLen]; omega) (by rw [bs_length]; omega) hlo1 ?_; intro v2 w2 own2 gr2)
    go_ret
    exact ⟨_, rfl, own_len (own_cells own2 (bs_append _ _).symm) (by simp [bs]), Grows.row b1 hlo1 o1 gr2⟩

end Go.Proofs.Ytchmppikpeeghaa
