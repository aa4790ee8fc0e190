/-
  The model's TreeNames.
-/
import Derived.Test.YtchmppikpeeghaaCopyT
namespace Go.Proofs.Ytchmppikpeeghaa
open Go.RowKit
set_option linter.unusedVariables false

/-- What TreeNames answers. -/
def nmOf (t : T) : List (List Int) := if treeOk t then t.names else []
theorem TIn.nm {w : World} {t : T} {q : Q} (h : TIn w t q) : RdN w q.n t.names := by
  obtain ⟨k, d, ns, ks⟩ := t
  rw [TIn] at h
  exact h.2.2.1
theorem nm_bulk (t : T) : t.names.length + sumLen t.names ≤ t.bulk := by
  obtain ⟨k, d, ns, ks⟩ := t
  rw [T.bulk, T.names]
  omega

set_option maxRecDepth 20000 in
set_option maxHeartbeats 1600000 in
theorem specTreeNames (t : T) (hB : t.Byts) (hbk : t.bulk ≤ 1048576) (q : Q) (w : World) (hq : TIn w t q) :
    Calls Try.prog 33 #[q.val] w fun e w' => ∃ v, e = .returned v ∧ OwnS w.heap.size w' v (nmOf t) ∧ Below w.heap.size w w' := by
  obtain ⟨i0, hi0, hz0, hz1, hz2⟩ := info_parts namesInfo
  obtain ⟨j0, hj0, hy0, hy1, hy2⟩ := info_parts u8info
  obtain ⟨wa, hwa, box, ba, hz⟩ := boxed w q 31
  have hnb := nm_bulk t
  have hnm := hq.nm
  obtain ⟨A, c, hqn, hc1, hc2⟩ := names_len hnm
  have x0 := box.c0
  have x1 := box.c1
  have x2 := box.c2
  have x3 := box.c3
  have hok := specTreeOk t hB q wa (hq.below ba)
  have HBOX := hide box
  cases hv : treeOk t with
  | false =>
    have hS : nmOf t = [] := by rw [nmOf, hv]; rfl
    rw [hv] at hok
    have HS := hide hS
    have HOK := hide hok
    clear hok hS hv hB hq box hqn hnm
    go_enter Try.func33, Try.ntmps33
    go_wp2_with fail
    refine HOK.out.mono ?_
    rintro e w1 ⟨rfl, b1⟩
    go_wp2
    go_ret
    refine ⟨_, rfl, ?_, ba.trans (b1.mono ba.size)⟩
    rw [HS.out]
    exact OwnS.nil _ _
  | true =>
    have hS : nmOf t = t.names := by rw [nmOf, hv]; rfl
    rw [hv] at hok
    have hlen := fun n (hn : n ∈ t.names) => sumLen_mem hn
    generalize hns : t.names = ns at *
    obtain ⟨N, hN⟩ : ∃ N, ns.length = N := ⟨_, rfl⟩
    rw [hN] at hqn hc1 hnb
    have hln : ∀ n ∈ ns, n.length ≤ 1048576 := fun n hn => by have := hlen n hn; omega
    have hn6 : N ≤ 1048576 := by omega
    unfold maxLen at hc2
    rw [hqn] at hnm
    have HS := hide hS
    have HOK := hide hok
    have HNN := hide hnm
    have HNL := hide hN
    have HLL := hide hln
    have HQN := hide hqn
    clear hok hS hv hB hq box hnm hN hln hlen hns hqn hnb
    go_enter Try.func33, Try.ntmps33
    go_wp2_with fail
    refine HOK.out.mono ?_
    rintro e w1 ⟨rfl, b1⟩
    have HB1 := hide b1
    have d1 := hide (ba.trans (b1.mono ba.size))
    have hz1' : w.heap.size < w1.heap.size := by have := b1.size; omega
    clear x0 x1 x2 x3 b1
    go_wp2
    go_loopw [3, 4] (fun u i wr => ∃ j : Nat, j ≤ N ∧ i = .int .i64 j ∧ Hid (OwnS w1.heap.size wr u (ns.take j)) ∧ Below w1.heap.size w1 wr)
      (fun _ i _ => N - (intOf i).toNat)
    case atStart => exact ⟨0, Nat.zero_le _, rfl, hide (OwnS.nil _ _), Below.refl _ _⟩
    case round =>
      obtain ⟨j, hj, rfl, HO, hbel⟩ := hrel
      have HB := hide hbel
      have boxr := (HBOX.out.step HB1.out).step hbel
      have x2 := boxr.c2
      rw [HQN.out] at x2
      by_cases hlt : j < N
      · have hjn : j < ns.length := by rw [HNL.out]; exact hlt
        obtain ⟨b, off, x, hA', hblt, cx, rx⟩ := HNN.out.get hjn
        subst hA'
        have dw := d1.out.trans (hbel.mono d1.out.size)
        have q1 := (dw.cell (p := ⟨b, off + j, none⟩) hblt).trans cx
        have rr1 := rx.below dw
        have hmj : ns.getD j [] ∈ ns := by simp [List.getD, List.getElem?_eq_getElem hjn]
        have hlj := HLL.out _ hmj
        obtain ⟨us, hU⟩ := HO.out
        have hul : us.length = j := by rw [hU.len, List.length_take]; omega
        have htk : ns.take (j + 1) = ns.take j ++ [ns.getD j []] := by
          rw [List.take_succ_eq_append_getElem hjn]
          simp [List.getD, List.getElem?_eq_getElem hjn]
        generalize ns.getD j [] = n at *
        have HU := hide hU
        have HT := hide htk
        have HUL := hide hul
        have hlw : w1.heap.size ≤ wr.heap.size := hbel.size
        have k1 : (j : Int) < (N : Int) := by omega
        have k0 : (0 : Int) ≤ (j : Int) := by omega
        have k2 : (j : Int).toNat = j := by omega
        have RR := hide rr1
        have wlt : w.heap.size < wr.heap.size := by omega
        have blt : b < wr.heap.size := Nat.lt_of_lt_of_le hblt dw.size
        clear hU htk hul HO cx rx rr1 hbel boxr dw
        go_wp2_with (first
          | (at_builtin; refine wpList_app _ rfl (.tmp 16) (.tmp 21) _ rfl wr.heap.size 5 j0 _ 1 Try.underlying22 hj0 hy0 hy1 hy2 rfl _ 0 [] rfl (own_lit0 wr _) _ (bs n) rfl (RR.out.alloc _) (bs_one n) (by simp [bs, maxLen]; omega) (by simp [bs]; omega) (by simp) ?_; intro v2 w2 own2 gr2; have HB2 := hide (below_app0 gr2); have HO2 := hide (own_len (own_cells own2 (List.nil_append _)) (by simp [bs] : _ = n.length)); obtain ⟨A2, c2, hu2, -, -⟩ := own_slice HO2.out; subst hu2; have row2 := hide (own_step HU.out.row HB2.out); have hl2 : w1.heap.size ≤ w2.heap.size := Nat.le_trans hlw HB2.out.size; clear own2 gr2)
          | (at_builtin; refine wpList_app _ rfl (.tmp 15) (.tmp 23) _ rfl w1.heap.size 22 i0 _ 24 Try.underlying23 hi0 hz0 hz1 hz2 rfl _ _ _ rfl (row2.out.alloc _) _ _ rfl (rd_oneV _ _ _) slice_one (by rw [HUL.out]; simp [maxLen]; omega) (by rw [HUL.out]; simp; omega) (by simp; omega) ?_; intro v3 w3 own3 gr3; have HS3 : Hid (OwnS w1.heap.size w3 v3 (ns.take (j + 1))) := hide (by rw [HT.out]; exact ⟨_, HU.out.snoc HB2.out HO2.out hlw _ own3 gr3⟩); have HB3 := hide (Below.row ((HB.out.trans (HB2.out.mono HB.out.size)).alloc hl2 _) (by simp; omega) (row2.out.alloc _) gr3); clear own3 gr3))
        go_roundw
        case rel => exact ⟨j + 1, by omega, by go_num, HS3, HB3.out⟩
        case measure => simp [intOf]; omega
      · obtain rfl : j = N := by omega
        have e2 : ns.take j = ns := List.take_of_length_le (by rw [HNL.out]; omega)
        rw [e2] at HO
        have HD := hide (d1.out.trans (hbel.mono d1.out.size))
        clear hbel e2 boxr
        go_wp2
        go_ret
        refine ⟨_, rfl, ?_, HD.out⟩
        rw [HS.out]
        exact HO.out.base (Nat.le_of_lt hz1')

set_option maxRecDepth 20000 in
set_option maxHeartbeats 1600000 in
theorem implTreeNames (t : T) (hB : t.Byts) (hbk : t.bulk ≤ 1048576) (q : Q) (w : World) (hq : TIn w t q) :
    Calls Try.prog 34 #[q.val] w fun e w' => ∃ v, e = .returned v ∧ OwnS w.heap.size w' v (nmOf t) ∧ Below w.heap.size w w' := by
  obtain ⟨wa, hwa, box, ba, hz⟩ := boxed w q 31
  have hnb := nm_bulk t
  have x0 := box.c0
  have x1 := box.c1
  have x2 := box.c2
  have x3 := box.c3
  have hok := implTreeOk t hB q wa (hq.below ba)
  have HBOX := hide box
  cases hv : treeOk t with
  | false =>
    have hS : nmOf t = [] := by rw [nmOf, hv]; rfl
    rw [hv] at hok
    have HS := hide hS
    have HOK := hide hok
    clear hok hS hv hB hq box
    go_enter Try.func34, Try.ntmps34
    go_wp2_with fail
    refine HOK.out.mono ?_
    rintro e w1 ⟨rfl, b1⟩
    go_wp2
    go_ret
    refine ⟨_, rfl, ?_, ba.trans (b1.mono ba.size)⟩
    rw [HS.out]
    exact OwnS.nil _ _
  | true =>
    have hS : nmOf t = t.names := by rw [nmOf, hv]; rfl
    rw [hv] at hok
    have hcp := fun (W : World) (hW : Below w.heap.size w W) => copyTexts t.names q.n W (hq.nm.below hW) (by omega) (fun n hn => by have := sumLen_mem hn; omega)
    have HS := hide hS
    have HOK := hide hok
    have HCP := hide hcp
    clear hok hS hv hB hq box hcp
    go_enter Try.func34, Try.ntmps34
    go_wp2_with fail
    refine HOK.out.mono ?_
    rintro e w1 ⟨rfl, b1⟩
    have box1 := HBOX.out.step b1
    have d1 := hide (ba.trans (b1.mono ba.size))
    have x2 := box1.c2
    clear b1 box1 x0 x1 x3
    go_wp2_with fail
    refine (HCP.out w1 d1.out).mono ?_
    rintro e w2 ⟨v2, rfl, o2, b2⟩
    have HF : Hid (OwnS w.heap.size w2 v2 (nmOf t)) := hide (by rw [HS.out]; exact o2.base d1.out.size)
    have HB := hide (d1.out.trans (b2.mono d1.out.size))
    clear o2 b2 x2
    go_wp2
    go_ret
    exact ⟨_, rfl, HF.out, HB.out⟩

end Go.Proofs.Ytchmppikpeeghaa
