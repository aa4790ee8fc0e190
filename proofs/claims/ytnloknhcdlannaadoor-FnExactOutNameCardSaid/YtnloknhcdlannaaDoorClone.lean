
/-
  bytes.Clone.
-/
import Derived.Test.YtnloknhcdlannaaDoorApp
import Derived.Test.YtnloknhcdlannaaDoorOwn
namespace Go.Proofs.YtnloknhcdlannaaDoor
open Go.RowKit

set_option maxHeartbeats 400000 in
theorem clone (l : List Int) (v : Value) (w : World) (hv : Rd w v (bs l)) (hl : l.length ≤ 1099511627776) :
    Calls Tryd.prog 77 #[v] w fun e w' => ∃ v', e = .returned v' ∧ w'.ownsRow w.heap.size 5 1 v' l.length (bs l) ∧ Below w.heap.size w w' := by
  obtain ⟨i0, hi0, hz0, hz1, hz2⟩ := info_parts u8info
  obtain ⟨A, c, hV, _, _, hrd⟩ := id hv
  rw [bs_length] at *
  subst hV
  have HV := hide hv
  clear hv
  cases A with
  | none =>
    have h0 : l = [] := by
      rcases Nat.eq_zero_or_pos l.length with h | h
      · exact List.eq_nil_of_length_eq_zero h
      · obtain ⟨b, off, hA, _⟩ := hrd h
        cases hA
    subst h0
    have hq := fun (W : World) => Lib.run_eql_slice_nil (P := Tryd.prog) W 28 5 none 0 c 0 0 Tryd.underlying28
    go_enter Tryd.func77, Tryd.ntmps77
    go_wp2
    all_goals go_ret
    all_goals exact ⟨_, rfl, World.ownsRow_nil _ _ _ _, Below.refl _ _⟩
  | some ad =>
    clear hrd
    have hq := fun (W : World) => Lib.run_eql_slice_nil (P := Tryd.prog) W 28 5 (some ad) l.length c 0 0 Tryd.underlying28
    go_enter Tryd.func77, Tryd.ntmps77
    go_wp2_with (at_builtin; refine wpList_app _ rfl (.tmp 5) (.tmp 6) _ rfl w.heap.size 5 i0 _ 1 Tryd.underlying28 hi0 hz0 hz1 hz2 rfl _ 0 [] rfl (own_lit0 w _) _ (bs l) rfl (HV.out.alloc _) (bs_one l) (by rw [bs_length]; simp only [maxLen]; omega) (by rw [bs_length]; omega) (by simp) ?_; intro v1 w1 own1 gr1)
    go_ret
    exact ⟨_, rfl, own_len (own_cells own1 (List.nil_append _)) (by rw [bs_length]; omega), below_app0 gr1⟩

end Go.Proofs.YtnloknhcdlannaaDoor
