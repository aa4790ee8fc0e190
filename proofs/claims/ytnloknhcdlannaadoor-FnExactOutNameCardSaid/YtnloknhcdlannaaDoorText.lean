
/-
  PutText: the model and the program write the same bytes.
-/
import Derived.Test.YtnloknhcdlannaaDoorPutI
namespace Go.Proofs.YtnloknhcdlannaaDoor
open Go.RowKit

/-- What PutText answers. -/
def putText (l t : List Int) : List Int := if 400 < t.length then l else putNum l t.length ++ t
theorem putText_byt {l t : List Int} (h : Byt l) (ht : Byt t) : Byt (putText l t) := by
  unfold putText
  split
  · exact h
  · exact (putNum_byt h _).app ht
theorem putNum_len (l : List Int) (n : Int) : (putNum l n).length ≤ l.length + 5 := by
  unfold putNum
  split
  · omega
  · rw [List.length_append]
    have := vint_len n.toNat (by omega)
    omega
theorem putText_room (l t : List Int) (hl : l.length ≤ 1048576) : (putText l t).length ≤ 1099511627776 := by
  unfold putText
  split
  · omega
  · rw [List.length_append]
    have := putNum_len l t.length
    omega


set_option maxRecDepth 20000 in
set_option maxHeartbeats 800000 in
theorem specPutText (l : List Int) (v : Value) (t : List Int) (u : Value) (w : World) (hv : Rd w v (bs l)) (hu : Rd w u (bs t)) (hl : l.length ≤ 1099511627776) :
    Calls Tryd.prog 46 #[v, u] w fun e w' => ∃ v', e = .returned v' ∧ Own 5 w.heap.size w'.heap.size w' v' (bs (putText l t)) ∧ Below w.heap.size w w' := by
  obtain ⟨i0, hi0, hz0, hz1, hz2⟩ := info_parts u8info
  obtain ⟨A, c, hV, hc1, hc2, _⟩ := id hv
  obtain ⟨A', c', hU, hc1', hc2', _⟩ := id hu
  rw [bs_length] at *
  unfold maxLen at hc2 hc2'
  subst hV hU
  have HV := hide hv
  have HU := hide hu
  clear hv hu
  by_cases h4 : 400 < t.length
  · rw [putText, if_pos h4]
    go_enter Tryd.func46, Tryd.ntmps46
    go_wp2_with (at_builtin; refine wpList_app _ rfl (.tmp 8) (.tmp 9) _ rfl w.heap.size 5 i0 _ 1 Tryd.underlying28 hi0 hz0 hz1 hz2 rfl _ 0 [] rfl (own_lit0 w _) _ (bs l) rfl (HV.out.alloc _) (bs_one l) (by rw [bs_length]; simp only [maxLen]; omega) (by rw [bs_length]; omega) (by simp) ?_; intro v1 w1 own1 gr1)
    go_ret
    exact ⟨_, rfl, Own.of (own_cells own1 (List.nil_append _)) (by simp), below_app0 gr1⟩
  · rw [putText, if_neg h4]
    obtain ⟨P, hP⟩ : ∃ P, putNum l t.length = P := ⟨_, rfl⟩
    have hroom : P.length ≤ l.length + 5 := by rw [← hP]; exact putNum_len l t.length
    rw [hP]
    have HP := hide hP
    clear hP
    go_enter Tryd.func46, Tryd.ntmps46
    go_wp2_with fail
    refine (specPutNum l _ t.length w HV.out (by omega)).mono ?_
    rintro e w1 ⟨v1, rfl, o1, b1⟩
    rw [HP.out] at o1
    go_wp2_with (at_builtin; refine wpList_app _ rfl (.tmp 14) (.tmp 15) _ rfl w.heap.size 5 i0 _ 1 Tryd.underlying28 hi0 hz0 hz1 hz2 rfl _ _ _ rfl o1.1 _ (bs t) rfl (HU.out.below b1) (bs_one t) (by rw [bs_length, bs_length]; simp only [maxLen]; omega) (by rw [bs_length, bs_length]; omega) b1.size ?_; intro v2 w2 own2 gr2)
    go_ret
    exact ⟨_, rfl, Own.of (own_cells own2 (bs_append _ _).symm) (by simp [bs]), Below.row b1 b1.size o1.1 gr2⟩

set_option maxRecDepth 20000 in
set_option maxHeartbeats 800000 in
theorem appendText (l : List Int) (v : Value) (t : List Int) (u : Value) (lo : Nat) (w w0 : World) (hv : w.ownsRow lo 5 1 v l.length (bs l)) (hu : Rd w0 u (bs t)) (h0 : w0.heap.size = lo) (hb : Below lo w0 w) (hl : l.length ≤ 1099511627776) :
    Calls Tryd.prog 71 #[v, u] w fun e w' => ∃ v', e = .returned v' ∧ w'.ownsRow lo 5 1 v' (putText l t).length (bs (putText l t)) ∧ Below lo w w' := by
  obtain ⟨i0, hi0, hz0, hz1, hz2⟩ := info_parts u8info
  obtain ⟨A', c', hU, hc1', hc2', _⟩ := id hu
  rw [bs_length] at *
  unfold maxLen at hc2'
  subst hU
  have HV := hide hv
  have HU := hide hu
  clear hv hu
  have hlo : lo ≤ w.heap.size := by rw [← h0]; exact hb.size
  have HB := hide hb
  have H0 := hide h0
  clear hb h0
  by_cases h4 : 400 < t.length
  · rw [putText, if_pos h4]
    go_enter Tryd.func71, Tryd.ntmps71
    go_wp2
    go_ret
    exact ⟨_, rfl, HV.out, Below.refl _ _⟩
  · rw [putText, if_neg h4]
    obtain ⟨P, hP⟩ : ∃ P, putNum l t.length = P := ⟨_, rfl⟩
    have hroom : P.length ≤ l.length + 5 := by rw [← hP]; exact putNum_len l t.length
    rw [hP]
    have HP := hide hP
    clear hP
    go_enter Tryd.func71, Tryd.ntmps71
    go_wp2_with fail
    refine (appendNum l _ t.length lo w HV.out hlo (by omega)).mono ?_
    rintro e w1 ⟨v1, rfl, o1, b1⟩
    rw [HP.out] at o1
    have hu1 : Rd w1 (.slice A' t.length c') (bs t) := HU.out.below (by rw [H0.out]; exact HB.out.trans b1)
    have hlo1 : lo ≤ w1.heap.size := Nat.le_trans hlo b1.size
    go_wp2_with (at_builtin; refine wpList_app _ rfl (.tmp 12) (.tmp 13) _ rfl lo 5 i0 _ 1 Tryd.underlying28 hi0 hz0 hz1 hz2 rfl _ _ _ rfl o1 _ (bs t) rfl hu1 (bs_one t) (by rw [bs_length]; simp only [maxLen]; omega) (by rw [bs_length]; omega) hlo1 ?_; intro v2 w2 own2 gr2)
    go_ret
    exact ⟨_, rfl, own_len (own_cells own2 (bs_append _ _).symm) (by simp [bs]), Below.row b1 hlo1 o1 gr2⟩

end Go.Proofs.YtnloknhcdlannaaDoor
