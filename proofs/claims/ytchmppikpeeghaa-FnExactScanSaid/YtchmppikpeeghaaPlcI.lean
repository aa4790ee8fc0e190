/-
  The program's placesByStart.
-/
import Derived.Test.YtchmppikpeeghaaPlc
namespace Go.Proofs.Ytchmppikpeeghaa
open Go.RowKit Go.Maps Go.ChangeShapes Go.WideMaps
set_option linter.unusedVariables false

set_option maxRecDepth 100000 in
set_option maxHeartbeats 1600000 in
theorem implPlaces {H : Type} (ns : List (List Int)) (h4 : ∀ n ∈ ns, 4 ≤ n.length ∧ Byt n) (v : Value) (w : World) (hv : RdN w v ns) (hn : ns.length ≤ 1048576) :
    Calls Try.prog 70 #[v] w fun e w' => e = .returned (.map (some w.heap.size)) ∧ (∃ D : DataW H, w'.ownsGroups Try.prog 9 (w.heap.size + 1) 3 .i64 w.heap.size ns.length D ∧ Grp D ns ns.length) ∧ Below w.heap.size w w' ∧ w.heap.size + 1 ≤ w'.heap.size := by
  have hmm := @run_makeMap Try.prog
  obtain ⟨i0, hi, hz0, hz1, hz2⟩ := info_parts intsInfo
  obtain ⟨A, c, rfl, hc1, hc2⟩ := names_len hv
  obtain ⟨N, hN⟩ : ∃ N, ns.length = N := ⟨_, rfl⟩
  rw [hN] at hc1 hv hn ⊢
  unfold maxLen at hc2
  have HNL := hide hN
  have HNN := hide hv
  have H4 := hide h4
  clear hN hv h4
  go_enter Try.func70, Try.ntmps70
  go_wp2
  go_loopw [10] (fun i wr => ∃ k : Nat, k ≤ N ∧ i = .int .i64 k ∧ Hid (∃ D : DataW H, wr.ownsGroups Try.prog 9 (w.heap.size + 1) 3 .i64 w.heap.size k D ∧ Grp D ns k) ∧ Below w.heap.size w wr ∧ w.heap.size + 1 ≤ wr.heap.size)
    (fun i _ => N - (intOf i).toNat)
  case atStart => exact ⟨0, Nat.zero_le _, rfl, hide ⟨_, World.ownsGroups_made _ _ _ _ _, Grp.nil ns⟩, (Below.refl _ _).alloc (Nat.le_refl _) _, by simp⟩
  case round =>
    obtain ⟨k, hk, rfl, HO, hnx, hws⟩ := hrel
    by_cases hlt : k < N
    · have hkn : k < ns.length := by rw [HNL.out]; exact hlt
      obtain ⟨b, off, x, hA', hblt, cx, rx⟩ := HNN.out.get hkn
      subst hA'
      have q1 := (hnx.cell (p := ⟨b, off + k, none⟩) hblt).trans cx
      have rr1 := rx.below hnx
      have hmk : ns.getD k [] ∈ ns := by simp [List.getD, List.getElem?_eq_getElem hkn]
      obtain ⟨hl4, hBn⟩ := H4.out _ hmk
      obtain ⟨D, hown, hgrp⟩ := HO.out
      obtain ⟨s, hs⟩ : ∃ s, s = (ns.getD k []).take 4 := ⟨_, rfl⟩
      have hsB : Byt s := by rw [hs]; exact fun y hy => hBn y (List.mem_of_mem_take hy)
      have hsl : s.length = 4 := by rw [hs, List.length_take]; omega
      obtain ⟨A1, c1, rfl, hd1, hd2, hrd⟩ := rr1
      rw [bs_length] at hd1 hrd q1
      obtain ⟨b1, o1, rfl, hb1, hcell⟩ := hrd (by omega)
      have hp : Rd wr (.slice (some ⟨b1, o1, none⟩) 4 c1) (bs s) := by
        have := Rd.part (w := wr) (k := 0) (n := 4) hcell hb1 (by omega) hd1 hd2 (n' := 4) rfl
        rw [hs]
        simpa using this
      have hcv := conv_rd (P := Try.prog) Try.underlying22 Try.underlying5 Try.underlying9 hp
      have hkey := keyOf_s (s := s) (by omega)
      have HG := hide hgrp
      have HK := hide hs.symm
      have HSB := hide hsB
      have HB := hide hnx
      have hcap4 : 4 ≤ c1 := by omega
      obtain ⟨L, hL⟩ : ∃ L, (ns.getD k []).length = L := ⟨_, rfl⟩
      rw [hL] at q1 hl4 hd1
      unfold maxLen at hd2
      clear hp hs hgrp hsB rx cx hcell hrd HO hsl hBn hmk hL
      go_wp2_with (first
        | (at_lookup; refine wpList_lookup_groups _ rfl _ _ 65 rfl 9 68 3 .i64 strLaw Try.underlying65 (intsZero _) (w.heap.size + 1) w.heap.size k _ rfl hown (by unfold maxLen; omega) _ _ rfl hkey ?_; intro v zs hat hoi hzl hback)
        | (at_builtin; refine wpList_append_own_at _ rfl _ _ 68 rfl (w.heap.size + 1) 3 i0 (.int .i64 0) 1 8 Try.underlying68 hi hz0 hz1 hz2 rfl (by decide) _ _ _ rfl (hoi.1.alloc _) ⟨wr.heap.size, 0, none⟩ 1 1 [.int .i64 k] rfl rfl (cell_one_new _ _ _) (ints_oneCell .i64 [(k : Int)]) (by unfold maxLen; omega) (by omega) (by simp; omega) ?_; intro v' w1 hown' hgrow hnil hloc)
        | (at_mapUpdate; refine wpList_mapUpdate_back _ rfl _ _ _ 65 rfl hback rfl rfl rfl ((World.grownBy_alloc _ _ _).trans hgrow) (hoi.appended hown' (WalkArith.wf_i64 (by omega))) (by simp; omega) (hloc.imp id (fun h => ⟨_, h, by simp⟩)) ?_; intro w2 hown2 hgrow2))
      have hall := (World.grownBy_alloc wr _ _).trans hgrow
      have HS2 : Hid (∃ D : DataW H, w2.ownsGroups Try.prog 9 (w.heap.size + 1) 3 .i64 w.heap.size (k + 1) D ∧ Grp D ns (k + 1)) := hide (by
        have hd := (hoi.appended hown' (WalkArith.wf_i64 (by omega))).datum_pos (H := H) (by simp)
        have hg2 : Grp (D.put (keyS s) (rowDatum .i64 v' (zs ++ [(k : Int)]))) ns (k + 1) := by
          rw [hd, HG.out.row HSB.out hoi hat]
          exact HG.out.step HSB.out HK.out
        exact ⟨_, hown2, hg2⟩)
      have HB2 := hide (HB.out.groups hoi hall hgrow2 HB.out.size (Nat.le_succ _) (Nat.le_refl _))
      have HW2 := hide (Nat.le_trans hws (Nat.le_trans hall.size hgrow2.size))
      go_roundw
      case rel => exact ⟨k + 1, by omega, by go_num, HS2, HB2.out, HW2.out⟩
      case measure => simp [intOf]; omega
    · obtain rfl : k = N := by omega
      go_wp2
      go_ret
      exact ⟨rfl, HO.out, hnx, hws⟩

end Go.Proofs.Ytchmppikpeeghaa
