/-
  The model's Scan.
-/
import Derived.Test.YtchmppikpeeghaaCopyT
import Derived.Test.YtchmppikpeeghaaSortS
import Derived.Test.YtchmppikpeeghaaMentS
namespace Go.Proofs.Ytchmppikpeeghaa
open Go.RowKit
set_option linter.unusedVariables false

/-- What Scan answers. -/
def scanL (b : List Int) (ns : List (List Int)) : List (List Int) := ns.filter fun n => contL b n
def scanOf (b : List Int) (ns : List (List Int)) : List (List Int) := if ascP nameOk ns then scanL b ns else []
theorem scanL_next {b : List Int} {ns : List (List Int)} {j : Nat} (h : j < ns.length) : scanL b (ns.take (j + 1)) = if contL b (ns.getD j []) then scanL b (ns.take j) ++ [ns.getD j []] else scanL b (ns.take j) := by
  have e : ns.getD j [] = ns[j] := by simp [List.getD, List.getElem?_eq_getElem h]
  rw [e, scanL, List.take_succ_eq_append_getElem h, List.filter_append]
  by_cases hc : contL b ns[j] = true
  · rw [if_pos hc]; simp [scanL, hc]
  · rw [if_neg hc]; simp [scanL, hc]
theorem scanL_le (b : List Int) (ns : List (List Int)) : (scanL b ns).length ≤ ns.length := List.length_filter_le _ _
theorem scanL_mem {b : List Int} {ns : List (List Int)} {n : List Int} (h : n ∈ scanL b ns) : n ∈ ns := (List.mem_filter.1 h).1
theorem scanL_sum (b : List Int) (ns : List (List Int)) : sumLen (scanL b ns) ≤ sumLen ns := by
  induction ns with
  | nil => simp [scanL, sumLen]
  | cons n r ih =>
    rw [scanL, List.filter_cons]
    split
    · rw [sumLen, sumLen]
      have : sumLen (List.filter (fun n => contL b n) r) ≤ sumLen r := ih
      omega
    · rw [sumLen]
      have : sumLen (List.filter (fun n => contL b n) r) ≤ sumLen r := ih
      omega

set_option maxRecDepth 20000 in
set_option maxHeartbeats 1600000 in
theorem ownAll (ns : List (List Int)) (v : Value) (w : World) (hv : RdN w v ns) (hn : ns.length ≤ 1048576) (hl : ∀ n ∈ ns, n.length ≤ 1048576) :
    Calls Try.prog 68 #[v] w fun e w' => ∃ v', e = .returned v' ∧ OwnS w.heap.size w' v' ns ∧ Below w.heap.size w w' := by
  obtain ⟨i0, hi0, hz0, hz1, hz2⟩ := info_parts namesInfo
  obtain ⟨j0, hj0, hy0, hy1, hy2⟩ := info_parts u8info
  obtain ⟨A, c, rfl, hc1, hc2⟩ := names_len hv
  obtain ⟨N, hN⟩ : ∃ N, ns.length = N := ⟨_, rfl⟩
  rw [hN] at hc1 hv hn ⊢
  unfold maxLen at hc2
  have HNL := hide hN
  have HNN := hide hv
  have HLL := hide hl
  clear hN hv hl
  go_enter Try.func68, Try.ntmps68
  go_wp2
  go_loopw [3, 4] (fun u i wr => ∃ j : Nat, j ≤ N ∧ i = .int .i64 j ∧ Hid (OwnS w.heap.size wr u (ns.take j)) ∧ Below w.heap.size w wr)
    (fun _ i _ => N - (intOf i).toNat)
  case atStart => exact ⟨0, Nat.zero_le _, rfl, hide (OwnS.nil _ _), Below.refl _ _⟩
  case round =>
    obtain ⟨j, hj, rfl, HO, hbel⟩ := hrel
    have HB := hide hbel
    by_cases hlt : j < N
    · have hjn : j < ns.length := by rw [HNL.out]; exact hlt
      obtain ⟨b, off, x, hA', hblt, cx, rx⟩ := HNN.out.get hjn
      subst hA'
      have q1 := (hbel.cell (p := ⟨b, off + j, none⟩) hblt).trans cx
      have rr1 := rx.below hbel
      have hmj : ns.getD j [] ∈ ns := by simp [List.getD, List.getElem?_eq_getElem hjn]
      have hlj := HLL.out _ hmj
      obtain ⟨us, hU⟩ := HO.out
      have hul : us.length = j := by rw [hU.len, List.length_take]; omega
      have htk : ns.take (j + 1) = ns.take j ++ [ns.getD j []] := by
        rw [List.take_succ_eq_append_getElem hjn]
        simp [List.getD, List.getElem?_eq_getElem hjn]
      generalize ns.getD j [] = n at *
      have HU := hide hU
      have HT := hide htk
      have HUL := hide hul
      have hlw : w.heap.size ≤ wr.heap.size := hbel.size
      have k1 : (j : Int) < (N : Int) := by omega
      have k0 : (0 : Int) ≤ (j : Int) := by omega
      have k2 : (j : Int).toNat = j := by omega
      have RR := hide rr1
      have blt : b < wr.heap.size := Nat.lt_of_lt_of_le hblt hbel.size
      clear hU htk hul HO cx rx rr1 hbel
      go_wp2_with (first
        | (at_builtin; refine wpList_app _ rfl (.tmp 12) (.tmp 16) _ rfl wr.heap.size 5 j0 _ 1 Try.underlying22 hj0 hy0 hy1 hy2 rfl _ 0 [] rfl (own_lit0 wr _) _ (bs n) rfl (RR.out.alloc _) (bs_one n) (by simp [bs, maxLen]; omega) (by simp [bs]; omega) (by simp) ?_; intro v2 w2 own2 gr2; have HB2 := hide (below_app0 gr2); have HO2 := hide (own_len (own_cells own2 (List.nil_append _)) (by simp [bs] : _ = n.length)); obtain ⟨A2, c2, hu2, -, -⟩ := own_slice HO2.out; subst hu2; have row2 := hide (own_step HU.out.row HB2.out); have hl2 : w.heap.size ≤ w2.heap.size := Nat.le_trans hlw HB2.out.size; clear own2 gr2)
        | (at_builtin; refine wpList_app _ rfl (.tmp 11) (.tmp 18) _ rfl w.heap.size 22 i0 _ 24 Try.underlying23 hi0 hz0 hz1 hz2 rfl _ _ _ rfl (row2.out.alloc _) _ _ rfl (rd_oneV _ _ _) slice_one (by rw [HUL.out]; simp [maxLen]; omega) (by rw [HUL.out]; simp; omega) (by simp; omega) ?_; intro v3 w3 own3 gr3; have HS3 : Hid (OwnS w.heap.size w3 v3 (ns.take (j + 1))) := hide (by rw [HT.out]; exact ⟨_, HU.out.snoc HB2.out HO2.out hlw _ own3 gr3⟩); have HB3 := hide (Below.row ((HB.out.trans (HB2.out.mono HB.out.size)).alloc hl2 _) (by simp; omega) (row2.out.alloc _) gr3); clear own3 gr3))
      go_roundw
      case rel => exact ⟨j + 1, by omega, by go_num, HS3, HB3.out⟩
      case measure => simp [intOf]; omega
    · obtain rfl : j = N := by omega
      have e2 : ns.take j = ns := List.take_of_length_le (by rw [HNL.out]; omega)
      rw [e2] at HO
      clear hbel e2
      go_wp2
      go_ret
      exact ⟨_, rfl, HO.out, HB.out⟩

/-- A row of slices that were there before: each reads as a text. -/
structure AlU (lo : Nat) (w0 w : World) (v : Value) (ns : List (List Int)) (us : List Value) : Prop where
  len : us.length = ns.length
  row : w.ownsRow lo 22 1 v us.length us
  each : ∀ i u, us[i]? = some u → Rd w0 u (bs (ns.getD i []))
def AlS (lo : Nat) (w0 w : World) (v : Value) (ns : List (List Int)) : Prop := ∃ us, AlU lo w0 w v ns us
theorem AlS.rd {lo : Nat} {w0 w : World} {v : Value} {ns : List (List Int)} (h : AlS lo w0 w v ns) (hb : Below w0.heap.size w0 w) : RdN w v ns := h.elim fun us h =>
  ⟨us, own_rdV h.row rfl, h.len, fun i u hu => (h.each i u hu).below hb⟩
theorem AlS.nil (lo : Nat) (w0 w : World) : AlS lo w0 w (.slice none 0 0) [] := ⟨[], rfl, World.ownsRow_nil _ _ _ _, fun i u hu => by simp at hu⟩
theorem AlU.snoc {lo : Nat} {w0 W W3 : World} {v v' u : Value} {ns : List (List Int)} {n : List Int} {us : List Value} (h : AlU lo w0 W v ns us) (hu : Rd w0 u (bs n)) (own' : W3.ownsRow lo 22 1 v' (us.length + 1) (us ++ [u])) : AlU lo w0 W3 v' (ns ++ [n]) (us ++ [u]) := by
  refine ⟨by simp [h.len], own_len own' (by simp), fun i x hx => ?_⟩
  rcases Nat.lt_or_ge i us.length with hi | hi
  · rw [List.getElem?_append_left hi] at hx
    rw [getD_app (by rw [← h.len]; exact hi)]
    exact h.each i x hx
  · have hi2 : i = us.length := by
      have := (List.getElem?_eq_some_iff.1 hx).1
      simp at this
      omega
    subst hi2
    rw [List.getElem?_append_right (Nat.le_refl _), Nat.sub_self] at hx
    obtain rfl : u = x := by simpa using hx
    rw [h.len, getD_last]
    exact hu
theorem AlU.step {lo : Nat} {w0 w w' : World} {v : Value} {ns : List (List Int)} {us : List Value} (h : AlU lo w0 w v ns us) (hb : Below w.heap.size w w') : AlU lo w0 w' v ns us := ⟨h.len, own_step h.row hb, h.each⟩

set_option maxRecDepth 20000 in
set_option maxHeartbeats 1600000 in
theorem l3scan (b : List Int) (ns : List (List Int)) (hB : Byt b) (hN : BytN ns) (h0 : ∀ n ∈ ns, 0 < n.length ∧ n.length ≤ 1048576) (vb va : Value) (w : World) (hb : Rd w vb (bs b)) (hv : RdN w va ns) (hbl : b.length ≤ 1099511627776) (hn : ns.length ≤ 1048576) :
    Calls Try.prog 69 #[vb, va] w fun e w' => ∃ v', e = .returned v' ∧ AlS w.heap.size w w' v' (scanL b ns) ∧ Below w.heap.size w w' := by
  obtain ⟨i0, hi0, hz0, hz1, hz2⟩ := info_parts namesInfo
  obtain ⟨A, c, rfl, hc1, hc2⟩ := names_len hv
  obtain ⟨N, hNl⟩ : ∃ N, ns.length = N := ⟨_, rfl⟩
  rw [hNl] at hc1 hv hn
  unfold maxLen at hc2
  have HNL := hide hNl
  have HNN := hide hv
  have HH0 := hide h0
  have HBN := hide hN
  have HBB := hide hb
  rw [hNl]
  clear hNl hv h0 hN hb
  go_enter Try.func69, Try.ntmps69
  go_wp2
  go_loopw [5, 6] (fun u i wr => ∃ j : Nat, j ≤ N ∧ i = .int .i64 j ∧ Hid (AlS w.heap.size w wr u (scanL b (ns.take j))) ∧ Below w.heap.size w wr)
    (fun _ i _ => N - (intOf i).toNat)
  case atStart => exact ⟨0, Nat.zero_le _, rfl, hide (AlS.nil _ _ _), Below.refl _ _⟩
  case round =>
    obtain ⟨j, hj, rfl, HO, hbel⟩ := hrel
    have HB := hide hbel
    by_cases hlt : j < N
    · have hjn : j < ns.length := by rw [HNL.out]; exact hlt
      obtain ⟨b2, off, x, hA', hblt, cx, rx⟩ := HNN.out.get hjn
      subst hA'
      have q1 := (hbel.cell (p := ⟨b2, off + j, none⟩) hblt).trans cx
      have hmj : ns.getD j [] ∈ ns := by simp [List.getD, List.getElem?_eq_getElem hjn]
      obtain ⟨hl0, hl1⟩ := HH0.out _ hmj
      have hcall := specMent b (ns.getD j []) hB (HBN.out _ hmj) hl0 vb x wr (HBB.out.below hbel) (rx.below hbel) hbl (by omega)
      have hnx := scanL_next (b := b) hjn
      have hlen := scanL_le b (ns.take j)
      rw [List.length_take] at hlen
      obtain ⟨us, hU⟩ := HO.out
      have hul : us.length ≤ j := by rw [hU.len]; omega
      generalize ns.getD j [] = n at *
      have hlw : w.heap.size ≤ wr.heap.size := hbel.size
      have k1 : (j : Int) < (N : Int) := by omega
      have blt : b2 < wr.heap.size := Nat.lt_of_lt_of_le hblt hbel.size
      obtain ⟨Ax, cx', hxs, _, _, _⟩ := id rx
      cases hcn : contL b n with
      | false =>
        rw [hcn] at hcall hnx
        have HS : Hid (AlS w.heap.size w wr u5 (scanL b (ns.take (j + 1)))) := hide (by rw [hnx]; exact HO.out)
        obtain ⟨us1, hU1⟩ := HS.out
        have HU1 := hide hU1
        have HC := hide hcall
        clear hcall hnx hcn hU HO cx rx hbel hU1 hxs
        go_wp2_with fail
        refine HC.out.mono ?_
        rintro e w2 ⟨rfl, bb2⟩
        have HS2 : Hid (AlS w.heap.size w w2 u5 (scanL b (ns.take (j + 1)))) := hide ⟨_, HU1.out.step bb2⟩
        have HB2 := hide (HB.out.trans (bb2.mono HB.out.size))
        clear bb2
        go_wp2_with fail
        go_roundw
        case rel => exact ⟨j + 1, by omega, by go_num, HS2, HB2.out⟩
        case measure => simp [intOf]; omega
      | true =>
        rw [hcn] at hcall hnx
        have HC := hide hcall
        have HU := hide hU
        have HNX := hide hnx
        have HRX := hide rx
        subst hxs
        clear hcall hnx hcn hU HO cx rx hbel
        go_wp2_with fail
        refine HC.out.mono ?_
        rintro e w2 ⟨rfl, bb2⟩
        have row2 := hide (HU.out.step bb2).row
        have HB2 := hide (HB.out.trans (bb2.mono HB.out.size))
        have hl2 : w.heap.size ≤ w2.heap.size := HB2.out.size
        have q2 := (bb2.cell (p := ⟨b2, off + j, none⟩) blt).trans q1
        clear bb2 q1
        go_wp2_with (at_builtin; refine wpList_app _ rfl (.tmp 19) (.tmp 24) _ rfl w.heap.size 22 i0 _ 24 Try.underlying23 hi0 hz0 hz1 hz2 rfl _ _ _ rfl (row2.out.alloc _) _ _ rfl (rd_oneV _ _ _) slice_one (by simp [maxLen]; omega) (by simp; omega) (by simp; omega) ?_; intro v3 w3 own3 gr3; have HS3 : Hid (AlS w.heap.size w w3 v3 (scanL b (ns.take (j + 1)))) := hide (by rw [HNX.out]; exact ⟨_, HU.out.snoc HRX.out own3⟩); have HB3 := hide (Below.row (HB2.out.alloc hl2 _) (by simp; omega) (row2.out.alloc _) gr3); clear own3 gr3)
        go_roundw
        case rel => exact ⟨j + 1, by omega, by go_num, HS3, HB3.out⟩
        case measure => simp [intOf]; omega
    · obtain rfl : j = N := by omega
      have e2 : ns.take j = ns := List.take_of_length_le (by rw [HNL.out]; omega)
      rw [e2] at HO
      clear hbel e2
      go_wp2
      go_ret
      exact ⟨_, rfl, HO.out, HB.out⟩

theorem asc_names {ns : List (List Int)} (h : ascP nameOk ns = true) : ∀ n ∈ ns, n.length = 16 := by
  intro n hn
  obtain ⟨m, hm, rfl⟩ := List.getElem_of_mem hn
  have := ascP_at.1 h m hm
  rw [nameP, Bool.and_eq_true] at this
  have h1 := this.1
  simp [List.getD, List.getElem?_eq_getElem hm] at h1
  rw [nameOk, Bool.and_eq_true, decide_eq_true_eq] at h1
  exact h1.1

set_option maxRecDepth 20000 in
set_option maxHeartbeats 800000 in
theorem specScan (b : List Int) (ns : List (List Int)) (hB : Byt b) (hN : BytN ns) (vb va : Value) (w : World) (hb : Rd w vb (bs b)) (hv : RdN w va ns) (hbl : b.length ≤ 1099511627776) (hn : ns.length ≤ 1048576) (hl : ∀ n ∈ ns, n.length ≤ 1048576) :
    Calls Try.prog 42 #[vb, va] w fun e w' => ∃ v', e = .returned v' ∧ OwnS w.heap.size w' v' (scanOf b ns) ∧ Below w.heap.size w w' := by
  have hs := specSorted ns hN va w hv hl
  cases ha : ascP nameOk ns with
  | false =>
    have hS : scanOf b ns = [] := by rw [scanOf, ha]; rfl
    rw [ha] at hs
    have HS := hide hs
    have HE := hide hS
    clear hs hS ha hb hv
    go_enter Try.func42, Try.ntmps42
    go_wp2_with fail
    refine HS.out.mono ?_
    rintro e w1 ⟨rfl, b1⟩
    go_wp2_with fail
    go_ret
    rw [HE.out]
    exact ⟨_, rfl, OwnS.nil _ _, b1⟩
  | true =>
    have hS : scanOf b ns = scanL b ns := by rw [scanOf, ha]; rfl
    have h16 := asc_names ha
    rw [ha] at hs
    have hc1 := fun (W : World) (hW : Below w.heap.size w W) => l3scan b ns hB hN (fun n hn => by rw [h16 n hn]; omega) vb va W (hb.below hW) (hv.below hW) hbl hn
    have hc2 := fun (v : Value) (W : World) (h : RdN W v (scanL b ns)) => ownAll (scanL b ns) v W h (Nat.le_trans (scanL_le b ns) hn) (fun n hn => hl n (scanL_mem hn))
    have HS := hide hs
    have HE := hide hS
    have HC1 := hide hc1
    have HC2 := hide hc2
    clear hs hS ha hb hv hc1 hc2 h16
    go_enter Try.func42, Try.ntmps42
    go_wp2_with fail
    refine HS.out.mono ?_
    rintro e w1 ⟨rfl, b1⟩
    go_wp2_with fail
    refine (HC1.out w1 b1).mono ?_
    rintro e w2 ⟨v2, rfl, o2, b2⟩
    have d2 := hide (b1.trans (b2.mono b1.size))
    have r2 := hide (o2.rd b2)
    clear b1 b2 o2
    go_wp2_with fail
    refine (HC2.out v2 w2 r2.out).mono ?_
    rintro e w3 ⟨v3, rfl, o3, b3⟩
    have d3 := hide (d2.out.trans (b3.mono d2.out.size))
    have r3 := hide (o3.base d2.out.size)
    clear o3 b3
    go_wp2_with fail
    go_ret
    rw [HE.out]
    exact ⟨_, rfl, r3.out, d3.out⟩

end Go.Proofs.Ytchmppikpeeghaa
