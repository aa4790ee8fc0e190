/-
  copyTexts.
-/
import Derived.Test.YtchmppikpeeghaaOwnS
import Derived.Test.YtchmppikpeeghaaClone
namespace Go.Proofs.Ytchmppikpeeghaa
open Go.RowKit
set_option linter.unusedVariables false

theorem names_len {w : World} {v : Value} {ns : List (List Int)} (hn : RdN w v ns) : ∃ (A : Option Addr) (c : Nat), v = .slice A ns.length c ∧ ns.length ≤ c ∧ c ≤ maxLen := by
  obtain ⟨vs, ⟨A, c, e, h1, h2, _⟩, h4, _⟩ := hn
  rw [h4] at e h1
  exact ⟨A, c, e, h1, h2⟩
/-- The row of slices grows by one: what the append wants and gives. -/
theorem names_room {lo : Nat} {w : World} {v : Value} {ns : List (List Int)} {us : List Value} (h : OwnU lo w v ns us) : us.length = ns.length := h.len

set_option maxRecDepth 20000 in
set_option maxHeartbeats 1600000 in
theorem copyTexts (ns : List (List Int)) (v : Value) (w : World) (hv : RdN w v ns) (hn : ns.length ≤ 1048576) (hl : ∀ n ∈ ns, n.length ≤ 1048576) :
    Calls Try.prog 63 #[v] w fun e w' => ∃ v', e = .returned v' ∧ OwnS w.heap.size w' v' ns ∧ Below w.heap.size w w' := by
  obtain ⟨i0, hi0, hz0, hz1, hz2⟩ := info_parts namesInfo
  obtain ⟨A, c, rfl, hc1, hc2⟩ := names_len hv
  obtain ⟨N, hN⟩ : ∃ N, ns.length = N := ⟨_, rfl⟩
  rw [hN] at hc1 hv hn ⊢
  unfold maxLen at hc2
  have HNL := hide hN
  have HNN := hide hv
  have HLL := hide hl
  clear hN hv hl
  go_enter Try.func63, Try.ntmps63
  go_wp2
  go_loopw [3, 8] (fun u i wr => ∃ j : Nat, j ≤ N ∧ i = .int .i64 j ∧ Hid (OwnS w.heap.size wr u (ns.take j)) ∧ Below w.heap.size w wr)
    (fun _ i _ => N - (intOf i).toNat)
  case atStart => exact ⟨0, Nat.zero_le _, rfl, hide (OwnS.nil _ _), Below.refl _ _⟩
  case round =>
    obtain ⟨j, hj, rfl, HO, hbel⟩ := hrel
    have HB := hide hbel
    by_cases hlt : j < N
    · have hjn : j < ns.length := by rw [HNL.out]; exact hlt
      obtain ⟨b, off, x, hA', hblt, cx, rx⟩ := HNN.out.get hjn
      subst hA'
      have q1 := (hbel.cell (p := ⟨b, off + j, none⟩) hblt).trans cx
      have rr1 := rx.below hbel
      have hmj : ns.getD j [] ∈ ns := by simp [List.getD, List.getElem?_eq_getElem hjn]
      have hlj := HLL.out _ hmj
      obtain ⟨us, hU⟩ := HO.out
      have hul : us.length = j := by rw [hU.len, List.length_take]; omega
      have htk : ns.take (j + 1) = ns.take j ++ [ns.getD j []] := by
        rw [List.take_succ_eq_append_getElem hjn]
        simp [List.getD, List.getElem?_eq_getElem hjn]
      generalize ns.getD j [] = n at *
      have hcl := clone n x wr rr1 (by omega)
      have HC := hide hcl
      have HU := hide hU
      have HT := hide htk
      have HUL := hide hul
      have hlw : w.heap.size ≤ wr.heap.size := hbel.size
      have k1 : (j : Int) < (N : Int) := by omega
      clear hcl hU htk hul HO cx rx rr1 hbel
      go_wp2_with fail
      refine HC.out.mono ?_
      rintro e w2 ⟨u2, rfl, o2, b2⟩
      have row2 := hide (own_step HU.out.row b2)
      have hl2 : w.heap.size ≤ w2.heap.size := Nat.le_trans hlw b2.size
      have hz := hide b2.size
      obtain ⟨A2, c2, hu2, -, -⟩ := own_slice o2
      subst hu2
      have HB2 := hide b2
      have HO2 := hide o2
      clear b2 o2 q1
      go_wp2_with (at_builtin; refine wpList_app _ rfl (.tmp 12) (.tmp 15) _ rfl w.heap.size 22 i0 _ 24 Try.underlying23 hi0 hz0 hz1 hz2 rfl _ _ _ rfl (row2.out.alloc _) _ _ rfl (rd_oneV _ _ _) slice_one (by rw [HUL.out]; simp [maxLen]; omega) (by rw [HUL.out]; simp; omega) (by simp; omega) ?_; intro v3 w3 own3 gr3)
      have hs := HU.out.snoc HB2.out HO2.out hlw _ own3 gr3
      have hS : OwnS w.heap.size w3 v3 (ns.take (j + 1)) := by rw [HT.out]; exact ⟨_, hs⟩
      have hb3 : Below w.heap.size w w3 := Below.row ((HB.out.trans (HB2.out.mono HB.out.size)).alloc hl2 _) (by simp; omega) (row2.out.alloc _) gr3
      have HS := hide hS
      have HB3 := hide hb3
      clear hs hS hb3 own3 gr3
      go_roundw
      case rel => exact ⟨j + 1, by omega, by go_num, HS, HB3.out⟩
      case measure => simp [intOf]; omega
    · obtain rfl : j = N := by omega
      have e2 : ns.take j = ns := List.take_of_length_le (by rw [HNL.out]; omega)
      rw [e2] at HO
      clear hbel e2
      go_wp2
      go_ret
      exact ⟨_, rfl, HO.out, HB.out⟩

end Go.Proofs.Ytchmppikpeeghaa
