/-
  Parts of the proof: DSMark.
-/
import Derived.Test.YtigklnokgmcifaaDoorMd8

/-
  The laws' helpers 'mark' over structs and their rows.
-/
namespace Go.Proofs.YtigklnokgmcifaaDoor
open Go.RowKit
set_option linter.unusedVariables false
set_option linter.unusedSimpArgs false
set_option maxRecDepth 20000 in
set_option maxHeartbeats 1600000 in
theorem dmarkTree (x : T) : MarkA Tryd.prog 59 x.cells := by
  intro us F s w h hnd hlv hs0 hs1
  have hd := h
  rw [x.cells_eq] at hd
  obtain ⟨r0, G0, rfl, q0⟩ := hd.nums1
  obtain ⟨A1, m1, c1, r1, G1, rfl, q1⟩ := q0.seqs1
  obtain ⟨A2, m2, c2, r2, G2, rfl, q2⟩ := q1.seqs1
  obtain ⟨A3, m3, c3, r3, G3, rfl, q3⟩ := q2.seqs1
  obtain rfl := q3.nil1
  clear q0 q1 q2 q3
  obtain ⟨us, hus⟩ : ∃ us : List Value, [.int .i64 x.kind, .slice A1 m1 c1, .slice A2 m2 c2, .slice A3 m3 c3] = us := ⟨_, rfl⟩
  obtain ⟨wa, hwa⟩ : ∃ wa, w.alloc (.cells #[.int .i64 x.kind, .slice A1 m1 c1, .slice A2 m2 c2, .slice A3 m3 c3] 33) = wa := ⟨_, rfl⟩
  have ba : Below w.heap.size w wa := by rw [← hwa]; exact (Below.refl _ _).alloc (Nat.le_refl _) _
  have bx0 : Box wa w.heap.size 33 us := by rw [← hwa, ← hus]; exact Box.new w _ _
  have hnf : w.heap.size ∉ F := fun hg => Nat.lt_irrefl _ (h.lt _ hg)
  have hlz : wa.heap.size = w.heap.size + 1 := by rw [← hwa]; simp
  rw [hus] at h
  obtain ⟨D1, hD1⟩ : ∃ D, (raw x.data).cnt = D := ⟨_, rfl⟩
  have hE1 : (raw x.data).cnt0 = D1 := hD1
  obtain ⟨D2, hD2⟩ : ∃ D, (Go.Proofs.YtigklnokgmcifaaDoor.names x.names).cnt = D := ⟨_, rfl⟩
  have hE2 : (Go.Proofs.YtigklnokgmcifaaDoor.names x.names).cnt0 = D2 := hD2
  obtain ⟨D3, hD3⟩ : ∃ D, (seqOf 4 T.cells x.kids).cnt = D := ⟨_, rfl⟩
  have hE3 : (seqOf 4 T.cells x.kids).cnt0 = D3 := hD3
  have hsum : cnts0 x.cells = D1 + D2 + D3 := by
    rw [x.cells_top]
    simp only [cnts0, hE1, hE2, hE3, num_cnt0]
    omega
  rw [hsum] at hs1 ⊢
  rw [x.cells_top] at h ⊢
  have P0 := MarkV.start (s := s) (h.step ba) hnd (hlv.step ba)
  have HUS := hide hus
  have HBA := hide ba
  have HNF := hide hnf
  clear h hnd hlv hus ba hnf hsum
  go_enter Tryd.func59, Tryd.ntmps59
  have P1 := P0.num
  clear P0
  obtain ⟨F1, s1, l1, n1, lv1, fin1⟩ := P1.call (p := 1) (by simp only [List.length_append, List.length_cons, List.length_nil]) (v := .slice A1 m1 c1) (by rw [← HUS.out]; rfl) (y := s) (by simp only [cnts0_app, cnts0, hE1, hE2, hE3, num_cnt0]; omega)
  have call1 := dmarkRaw x.data _ F1 (s) wa l1 n1 lv1 (by omega) (by rw [hD1]; omega)
  have cc1 : wa.cell? ⟨w.heap.size, 1, none⟩ = some (.slice A1 m1 c1) := bx0.cell (by rw [← HUS.out]; rfl)
  rw [hD1] at call1
  have CL1 := hide call1
  have HS1 := hide s1
  have FN1 := hide fin1
  have BX0 := hide bx0
  clear call1 fin1 l1 n1 lv1 bx0 s1 P1
  go_wp2_with fail
  refine CL1.out.mono ?_
  rintro e W1 ⟨rfl, k1, lw1, b1⟩
  have P2 := FN1.out W1 k1 lw1 b1
  have bx2 : Box W1 w.heap.size 33 us := BX0.out.keep (b1.block _ BX0.out.lt fun hg => HNF.out (HS1.out _ hg))
  clear FN1 CL1 k1 lw1 b1 BX0 cc1
  obtain ⟨F2, s2, l2, n2, lv2, fin2⟩ := P2.call (p := 2) (by simp only [List.length_append, List.length_cons, List.length_nil]) (v := .slice A2 m2 c2) (by rw [← HUS.out]; rfl) (y := s + D1) (by simp only [cnts0_app, cnts0, hE1, hE2, hE3, num_cnt0]; omega)
  have call2 := dmarkNames x.names _ F2 (s + D1) W1 l2 n2 lv2 (by omega) (by rw [hD2]; omega)
  have cc2 : W1.cell? ⟨w.heap.size, 2, none⟩ = some (.slice A2 m2 c2) := bx2.cell (by rw [← HUS.out]; rfl)
  rw [hD2] at call2
  have CL2 := hide call2
  have HS2 := hide s2
  have FN2 := hide fin2
  have BX2 := hide bx2
  clear call2 fin2 l2 n2 lv2 bx2 s2 P2
  go_wp2_with fail
  refine CL2.out.mono ?_
  rintro e W2 ⟨rfl, k2, lw2, b2⟩
  have P3 := FN2.out W2 k2 lw2 b2
  have bx3 : Box W2 w.heap.size 33 us := BX2.out.keep (b2.block _ BX2.out.lt fun hg => HNF.out (HS2.out _ hg))
  clear FN2 CL2 k2 lw2 b2 BX2 cc2
  obtain ⟨F3, s3, l3, n3, lv3, fin3⟩ := P3.call (p := 3) (by simp only [List.length_append, List.length_cons, List.length_nil]) (v := .slice A3 m3 c3) (by rw [← HUS.out]; rfl) (y := s + D1 + D2) (by simp only [cnts0_app, cnts0, hE1, hE2, hE3, num_cnt0]; omega)
  have call3 := dmarkTreeL x.kids _ F3 (s + D1 + D2) W2 l3 n3 lv3 (by omega) (by rw [hD3]; omega)
  have cc3 : W2.cell? ⟨w.heap.size, 3, none⟩ = some (.slice A3 m3 c3) := bx3.cell (by rw [← HUS.out]; rfl)
  rw [hD3] at call3
  have CL3 := hide call3
  have HS3 := hide s3
  have FN3 := hide fin3
  have BX3 := hide bx3
  clear call3 fin3 l3 n3 lv3 bx3 s3 P3
  go_wp2_with fail
  refine CL3.out.mono ?_
  rintro e W3 ⟨rfl, k3, lw3, b3⟩
  have P4 := FN3.out W3 k3 lw3 b3
  have bx4 : Box W3 w.heap.size 33 us := BX3.out.keep (b3.block _ BX3.out.lt fun hg => HNF.out (HS3.out _ hg))
  clear FN3 CL3 k3 lw3 b3 BX3 cc3
  go_wp2_with fail
  go_ret
  have fin := P4.stop HBA.out
  rw [← HUS.out] at fin
  simp only [List.append_assoc, List.cons_append, List.nil_append] at fin
  exact ⟨ret_i64 (by omega), fin⟩

set_option maxRecDepth 20000 in
set_option maxHeartbeats 1600000 in
theorem dmarkOpS (l : List DOp) : MarkC Tryd.prog 56 (seqOf 5 DOp.cells l) := by
  unfold seqOf
  intro v F s w h hnd hlv hs0 hs1
  have h0 := h
  obtain ⟨F2, hF, hm0⟩ := MarkL.start h hnd hlv s
  rw [Lie] at h
  obtain ⟨_, us, F3, ⟨A, c, hv, hc1, hc2, hul, _⟩, _, _⟩ := h
  obtain ⟨N, hN⟩ : ∃ N, l.length = N := ⟨_, rfl⟩
  obtain ⟨g, hg⟩ : ∃ g : DOp → List Cel, DOp.cells = g := ⟨_, rfl⟩
  have hgx : ∀ x, g x = [.num .i64 x.code, .num .i64 x.out, raw x.name, raw x.text, .num .i64 x.arg] := fun x => by subst hg; exact x.cells_eq
  rw [hg] at hm0 h0 hs1 ⊢
  rw [Cel.cnt] at hs1 ⊢
  rw [hN] at hv hc1 hm0 h0 ⊢
  obtain ⟨S, hS⟩ : ∃ S, cnts (cells g l) = S := ⟨_, rfl⟩
  rw [hS] at hs1 ⊢
  unfold maxLen at hc2
  have STOP := fun wr (hm : MarkL w v s F2 N (cells g l) [] wr) => MarkL.stop h0 hF hlv hm
  have HST := hide STOP
  have HS := hide hS
  have HN := hide hN
  have HG := hide hgx
  have HM0 := hide hm0
  subst hv
  clear STOP hS hN hg hgx hm0 h0 hul hnd hlv hF
  go_enter Tryd.func56, Tryd.ntmps56
  go_wp2
  go_loopw [1, 5] (fun q i wr => ∃ j z : Nat, j ≤ N ∧ i = .int .i64 j ∧ q = .int .i64 (s + z) ∧ z ≤ S ∧ Hid (cnts (cells g (l.take j)) = z ∧ MarkL w (.slice A N c) s F2 N (cells g (l.take j)) (cells g (l.drop j)) wr))
    (fun _ i _ => N - (intOf i).toNat)
  case atStart => exact ⟨0, 0, Nat.zero_le _, rfl, by go_num, Nat.zero_le _, hide ⟨by simp [cells, cnts], HM0.out⟩⟩
  case round =>
    obtain ⟨j, z, hj, rfl, rfl, hzS, HR⟩ := hrel
    by_cases hlt : j < N
    · obtain ⟨hz, hml⟩ := HR.out
      obtain ⟨b, off, c', us', hv, P0⟩ := hml.2 (by omega)
      injection hv with hv1 _ hv2
      subst hv1
      have hjn : j < l.length := by rw [HN.out]; exact hlt
      have htk := cells_take g hjn
      have hlen : j * 5 = (cells g (l.take j)).length := by rw [cells_len (sz := 5) (by intro x; rw [HG.out]; rfl), List.length_take]; omega
      rw [cells_drop g hjn] at P0
      obtain ⟨x, hxe⟩ : ∃ x, l[j] = x := ⟨_, rfl⟩
      have hmem : x ∈ l := hxe ▸ List.getElem_mem hjn
      rw [hxe, HG.out x] at P0 htk
      have hz2 := congrArg cnts htk
      rw [cnts_app, hz] at hz2
      have hz3 : cnts (cells g (l.take (j + 1))) ≤ S := by
        rw [← HS.out, cells_split g l (j + 1), cnts_app]; omega
      rw [hz2] at hz3
      simp only [cnts] at hz3 hz2
      obtain ⟨D2, hD2⟩ : ∃ D, (raw x.name).cnt = D := ⟨_, rfl⟩
      obtain ⟨D3, hD3⟩ : ∃ D, (raw x.text).cnt = D := ⟨_, rfl⟩
      simp only [hD2, hD3] at hz2 hz3
      simp only [num_cnt] at hz2 hz3
      simp only [List.cons_append, List.nil_append] at P0
      have HTK := hide htk
      have HZ2 := hide hz2
      have HLEN := hide hlen
      have HZ := hide hz
      have HD2 := hide hD2
      have HD3 := hide hD3
      have k1 : (j : Int) < (N : Int) := by omega
      clear htk hz2 hlen hz hml HR hjn hv2 hxe hD2 hD3
      obtain ⟨c0, f0, us0, P1⟩ := P0.num (p := j * 5) HLEN.out (y := s + z) (by rw [mk1_i64, HZ.out])
      try simp only [← Nat.add_assoc] at c0 f0 P1
      obtain ⟨W0, hW0⟩ : ∃ W, wr.setCell ⟨b, off + j * 5, none⟩ (.int .i64 (s + z)) = W := ⟨_, rfl⟩
      rw [hW0] at P1
      have HW0 := hide hW0
      clear hW0 P0
      obtain ⟨c1, f1, us1, P2⟩ := P1.num (p := j * 5 + 1) (by simp only [List.length_append, List.length_cons, List.length_nil]; have := HLEN.out; omega) (y := s + z + 1) (by rw [mk1_i64]; simp only [cnts_app, cnts, num_cnt]; have := HZ.out; omega)
      try simp only [← Nat.add_assoc] at c1 f1 P2
      rw [← HW0.out, World.cell?_setCell_other _ _ _ _ (by intro e; injection e with _ e2; omega)] at c1
      rw [← HW0.out, World.frozen?_setCell] at f1
      obtain ⟨W1, hW1⟩ : ∃ W, W0.setCell ⟨b, off + j * 5 + 1, none⟩ (.int .i64 (s + z + 1)) = W := ⟨_, rfl⟩
      rw [hW1] at P2
      have HW1 := hide hW1
      clear hW1 P1
      obtain ⟨v2, F2, c2, l2, n2, lv2, fin2⟩ := P2.call (p := j * 5 + 2) (by simp only [List.length_append, List.length_cons, List.length_nil]; have := HLEN.out; omega) (y := s + z + 1 + 1) (by simp only [cnts_app, cnts, num_cnt]; have := HZ.out; have := HZ.out; omega)
      try simp only [← Nat.add_assoc] at c2
      rw [← HW1.out, World.cell?_setCell_other _ _ _ _ (by intro e; injection e with _ e2; omega)] at c2
      rw [← HW0.out, World.cell?_setCell_other _ _ _ _ (by intro e; injection e with _ e2; omega)] at c2
      have call2 := (dmarkRaw x.name) v2 F2 (s + z + 1 + 1) W1 l2 n2 lv2 (by omega) (by rw [HD2.out]; omega)
      rw [HD2.out] at call2
      have FN2 := hide fin2
      have CL2 := hide call2
      clear fin2 call2 P2 l2 n2 lv2
      go_wp2_with fail
      rw [HW0.out]
      rw [HW1.out]
      refine CL2.out.mono ?_
      rintro e W2 ⟨rfl, m2, lv2, b2⟩
      have P3 := FN2.out W2 m2 lv2 b2
      clear FN2 CL2 c2 m2 lv2 b2 c0 f0 HW0 c1 f1 HW1
      obtain ⟨v3, F3, c3, l3, n3, lv3, fin3⟩ := P3.call (p := j * 5 + 3) (by simp only [List.length_append, List.length_cons, List.length_nil]; have := HLEN.out; omega) (y := s + z + 1 + 1 + D2) (by simp only [cnts_app, cnts, num_cnt, HD2.out]; have := HZ.out; have := HZ.out; omega)
      try simp only [← Nat.add_assoc] at c3
      have call3 := (dmarkRaw x.text) v3 F3 (s + z + 1 + 1 + D2) W2 l3 n3 lv3 (by omega) (by rw [HD3.out]; omega)
      rw [HD3.out] at call3
      have FN3 := hide fin3
      have CL3 := hide call3
      clear fin3 call3 P3 l3 n3 lv3
      go_wp2_with fail
      refine CL3.out.mono ?_
      rintro e W3 ⟨rfl, m3, lv3, b3⟩
      have P4 := FN3.out W3 m3 lv3 b3
      clear FN3 CL3 c3 m3 lv3 b3
      obtain ⟨c4, f4, us4, P5⟩ := P4.num (p := j * 5 + 4) (by simp only [List.length_append, List.length_cons, List.length_nil]; have := HLEN.out; omega) (y := s + z + 1 + 1 + D2 + D3) (by rw [mk1_i64]; simp only [cnts_app, cnts, num_cnt, HD2.out, HD3.out]; have := HZ.out; omega)
      try simp only [← Nat.add_assoc] at c4 f4 P5
      obtain ⟨W4, hW4⟩ : ∃ W, W3.setCell ⟨b, off + j * 5 + 4, none⟩ (.int .i64 (s + z + 1 + 1 + D2 + D3)) = W := ⟨_, rfl⟩
      rw [hW4] at P5
      have HW4 := hide hW4
      clear hW4 P4
      have fin := MarkL.round (n := N) (by omega) rfl P5 (c := c)
      try simp only [List.append_assoc, List.cons_append, List.nil_append] at fin
      rw [← HTK.out] at fin
      have FIN := hide (And.intro (HZ2.out.trans (show _ = z + (1 + 1 + D2 + D3 + 1) by omega)) fin)
      clear fin P5 HTK HZ2 HLEN HZ
      go_wp2_with fail
      rw [HW4.out]
      go_roundw
      case rel => exact ⟨j + 1, z + (1 + 1 + D2 + D3 + 1), by omega, by go_num, by go_num, by omega, FIN⟩
      case measure => simp [intOf]; omega
    · obtain rfl : j = N := by omega
      obtain ⟨hz, hml⟩ := HR.out
      rw [List.take_of_length_le (by rw [HN.out]; omega)] at hz hml
      rw [List.drop_eq_nil_of_le (by rw [HN.out]; omega)] at hml
      rw [HS.out] at hz
      subst hz
      have FIN := hide (HST.out wr hml)
      clear hml HR
      go_wp2
      go_ret
      exact ⟨rfl, FIN.out⟩

set_option maxRecDepth 20000 in
set_option maxHeartbeats 1600000 in
theorem dmarkInS (l : List DIn) : MarkC Tryd.prog 55 (seqOf 2 DIn.cells l) := by
  unfold seqOf
  intro v F s w h hnd hlv hs0 hs1
  have h0 := h
  obtain ⟨F2, hF, hm0⟩ := MarkL.start h hnd hlv s
  rw [Lie] at h
  obtain ⟨_, us, F3, ⟨A, c, hv, hc1, hc2, hul, _⟩, _, _⟩ := h
  obtain ⟨N, hN⟩ : ∃ N, l.length = N := ⟨_, rfl⟩
  obtain ⟨g, hg⟩ : ∃ g : DIn → List Cel, DIn.cells = g := ⟨_, rfl⟩
  have hgx : ∀ x, g x = [raw x.drv, raw x.out] := fun x => by subst hg; exact x.cells_eq
  rw [hg] at hm0 h0 hs1 ⊢
  rw [Cel.cnt] at hs1 ⊢
  rw [hN] at hv hc1 hm0 h0 ⊢
  obtain ⟨S, hS⟩ : ∃ S, cnts (cells g l) = S := ⟨_, rfl⟩
  rw [hS] at hs1 ⊢
  unfold maxLen at hc2
  have STOP := fun wr (hm : MarkL w v s F2 N (cells g l) [] wr) => MarkL.stop h0 hF hlv hm
  have HST := hide STOP
  have HS := hide hS
  have HN := hide hN
  have HG := hide hgx
  have HM0 := hide hm0
  subst hv
  clear STOP hS hN hg hgx hm0 h0 hul hnd hlv hF
  go_enter Tryd.func55, Tryd.ntmps55
  go_wp2
  go_loopw [1, 5] (fun q i wr => ∃ j z : Nat, j ≤ N ∧ i = .int .i64 j ∧ q = .int .i64 (s + z) ∧ z ≤ S ∧ Hid (cnts (cells g (l.take j)) = z ∧ MarkL w (.slice A N c) s F2 N (cells g (l.take j)) (cells g (l.drop j)) wr))
    (fun _ i _ => N - (intOf i).toNat)
  case atStart => exact ⟨0, 0, Nat.zero_le _, rfl, by go_num, Nat.zero_le _, hide ⟨by simp [cells, cnts], HM0.out⟩⟩
  case round =>
    obtain ⟨j, z, hj, rfl, rfl, hzS, HR⟩ := hrel
    by_cases hlt : j < N
    · obtain ⟨hz, hml⟩ := HR.out
      obtain ⟨b, off, c', us', hv, P0⟩ := hml.2 (by omega)
      injection hv with hv1 _ hv2
      subst hv1
      have hjn : j < l.length := by rw [HN.out]; exact hlt
      have htk := cells_take g hjn
      have hlen : j * 2 = (cells g (l.take j)).length := by rw [cells_len (sz := 2) (by intro x; rw [HG.out]; rfl), List.length_take]; omega
      rw [cells_drop g hjn] at P0
      obtain ⟨x, hxe⟩ : ∃ x, l[j] = x := ⟨_, rfl⟩
      have hmem : x ∈ l := hxe ▸ List.getElem_mem hjn
      rw [hxe, HG.out x] at P0 htk
      have hz2 := congrArg cnts htk
      rw [cnts_app, hz] at hz2
      have hz3 : cnts (cells g (l.take (j + 1))) ≤ S := by
        rw [← HS.out, cells_split g l (j + 1), cnts_app]; omega
      rw [hz2] at hz3
      simp only [cnts] at hz3 hz2
      obtain ⟨D0, hD0⟩ : ∃ D, (raw x.drv).cnt = D := ⟨_, rfl⟩
      obtain ⟨D1, hD1⟩ : ∃ D, (raw x.out).cnt = D := ⟨_, rfl⟩
      simp only [hD0, hD1] at hz2 hz3
      simp only [List.cons_append, List.nil_append] at P0
      have HTK := hide htk
      have HZ2 := hide hz2
      have HLEN := hide hlen
      have HZ := hide hz
      have HD0 := hide hD0
      have HD1 := hide hD1
      have k1 : (j : Int) < (N : Int) := by omega
      clear htk hz2 hlen hz hml HR hjn hv2 hxe hD0 hD1
      obtain ⟨v0, F0, c0, l0, n0, lv0, fin0⟩ := P0.call (p := j * 2) HLEN.out (y := s + z) (by rw [HZ.out])
      try simp only [← Nat.add_assoc] at c0
      have call0 := (dmarkRaw x.drv) v0 F0 (s + z) wr l0 n0 lv0 (by omega) (by rw [HD0.out]; omega)
      rw [HD0.out] at call0
      have FN0 := hide fin0
      have CL0 := hide call0
      clear fin0 call0 P0 l0 n0 lv0
      go_wp2_with fail
      refine CL0.out.mono ?_
      rintro e W0 ⟨rfl, m0, lv0, b0⟩
      have P1 := FN0.out W0 m0 lv0 b0
      clear FN0 CL0 c0 m0 lv0 b0
      obtain ⟨v1, F1, c1, l1, n1, lv1, fin1⟩ := P1.call (p := j * 2 + 1) (by simp only [List.length_append, List.length_cons, List.length_nil]; have := HLEN.out; omega) (y := s + z + D0) (by simp only [cnts_app, cnts, HD0.out]; have := HZ.out; have := HZ.out; omega)
      try simp only [← Nat.add_assoc] at c1
      have call1 := (dmarkRaw x.out) v1 F1 (s + z + D0) W0 l1 n1 lv1 (by omega) (by rw [HD1.out]; omega)
      rw [HD1.out] at call1
      have FN1 := hide fin1
      have CL1 := hide call1
      clear fin1 call1 P1 l1 n1 lv1
      go_wp2_with fail
      refine CL1.out.mono ?_
      rintro e W1 ⟨rfl, m1, lv1, b1⟩
      have P2 := FN1.out W1 m1 lv1 b1
      clear FN1 CL1 c1 m1 lv1 b1
      have fin := MarkL.round (n := N) (by omega) rfl P2 (c := c)
      try simp only [List.append_assoc, List.cons_append, List.nil_append] at fin
      rw [← HTK.out] at fin
      have FIN := hide (And.intro (HZ2.out.trans (show _ = z + (D0 + D1) by omega)) fin)
      clear fin P2 HTK HZ2 HLEN HZ
      go_wp2_with fail
      go_roundw
      case rel => exact ⟨j + 1, z + (D0 + D1), by omega, by go_num, by go_num, by omega, FIN⟩
      case measure => simp [intOf]; omega
    · obtain rfl : j = N := by omega
      obtain ⟨hz, hml⟩ := HR.out
      rw [List.take_of_length_le (by rw [HN.out]; omega)] at hz hml
      rw [List.drop_eq_nil_of_le (by rw [HN.out]; omega)] at hml
      rw [HS.out] at hz
      subst hz
      have FIN := hide (HST.out wr hml)
      clear hml HR
      go_wp2
      go_ret
      exact ⟨rfl, FIN.out⟩

set_option maxRecDepth 20000 in
set_option maxHeartbeats 1600000 in
theorem dmarkObj (x : DObj) : MarkA Tryd.prog 22 x.cells := by
  intro us F s w h hnd hlv hs0 hs1
  have hd := h
  rw [x.cells_eq] at hd
  obtain ⟨A0, m0, c0, r0, G0, rfl, q0⟩ := hd.seqs1
  obtain ⟨r1, G1, rfl, q1⟩ := q0.nums1
  obtain ⟨r2, G2, rfl, q2⟩ := q1.nums1
  obtain ⟨A3, m3, c3, r3, G3, rfl, q3⟩ := q2.seqs1
  obtain ⟨A4, m4, c4, r4, G4, rfl, q4⟩ := q3.seqs1
  obtain ⟨A5, m5, c5, r5, G5, rfl, q5⟩ := q4.seqs1
  obtain ⟨A6, m6, c6, r6, G6, rfl, q6⟩ := q5.seqs1
  obtain ⟨A7, m7, c7, r7, G7, rfl, q7⟩ := q6.seqs1
  obtain ⟨A8, m8, c8, r8, G8, rfl, q8⟩ := q7.seqs1
  obtain rfl := q8.nil1
  clear q0 q1 q2 q3 q4 q5 q6 q7 q8
  obtain ⟨us, hus⟩ : ∃ us : List Value, [.slice A0 m0 c0, .int .i64 x.kind, .int .i64 x.tree.kind, .slice A3 m3 c3, .slice A4 m4 c4, .slice A5 m5 c5, .slice A6 m6 c6, .slice A7 m7 c7, .slice A8 m8 c8] = us := ⟨_, rfl⟩
  obtain ⟨wa, hwa⟩ : ∃ wa, w.alloc (.cells #[.slice A0 m0 c0, .int .i64 x.kind, .int .i64 x.tree.kind, .slice A3 m3 c3, .slice A4 m4 c4, .slice A5 m5 c5, .slice A6 m6 c6, .slice A7 m7 c7, .slice A8 m8 c8] 35) = wa := ⟨_, rfl⟩
  have ba : Below w.heap.size w wa := by rw [← hwa]; exact (Below.refl _ _).alloc (Nat.le_refl _) _
  have bx0 : Box wa w.heap.size 35 us := by rw [← hwa, ← hus]; exact Box.new w _ _
  have hnf : w.heap.size ∉ F := fun hg => Nat.lt_irrefl _ (h.lt _ hg)
  have hlz : wa.heap.size = w.heap.size + 1 := by rw [← hwa]; simp
  rw [hus] at h
  obtain ⟨D0, hD0⟩ : ∃ D, (raw x.name).cnt = D := ⟨_, rfl⟩
  have hE0 : (raw x.name).cnt0 = D0 := hD0
  obtain ⟨D2, hD2⟩ : ∃ D, cnts0 x.tree.cells = D := ⟨_, rfl⟩
  obtain ⟨D3, hD3⟩ : ∃ D, (Go.Proofs.YtigklnokgmcifaaDoor.names x.refs).cnt = D := ⟨_, rfl⟩
  have hE3 : (Go.Proofs.YtigklnokgmcifaaDoor.names x.refs).cnt0 = D3 := hD3
  obtain ⟨D4, hD4⟩ : ∃ D, (raw x.frm).cnt = D := ⟨_, rfl⟩
  have hE4 : (raw x.frm).cnt0 = D4 := hD4
  obtain ⟨D5, hD5⟩ : ∃ D, (raw x.out).cnt = D := ⟨_, rfl⟩
  have hE5 : (raw x.out).cnt0 = D5 := hD5
  have hsum : cnts0 x.cells = D0 + D2 + D3 + D4 + D5 := by
    rw [x.cells_top]
    simp only [cnts0_app, cnts0, hE0, hD2, hE3, hE4, hE5, num_cnt0]
    omega
  rw [hsum] at hs1 ⊢
  rw [x.cells_top] at h ⊢
  have P0 := MarkV.start (s := s) (h.step ba) hnd (hlv.step ba)
  have HUS := hide hus
  have HBA := hide ba
  have HNF := hide hnf
  clear h hnd hlv hus ba hnf hsum
  go_enter Tryd.func22, Tryd.ntmps22
  obtain ⟨F0, s0, l0, n0, lv0, fin0⟩ := P0.call (p := 0) (by rfl) (v := .slice A0 m0 c0) (by rw [← HUS.out]; rfl) (y := s) (by simp only [cnts0_app, cnts0, hE0, hD2, hE3, hE4, hE5, num_cnt0]; omega)
  have call0 := dmarkRaw x.name _ F0 (s) wa l0 n0 lv0 (by omega) (by rw [hD0]; omega)
  have cc0 : wa.cell? ⟨w.heap.size, 0, none⟩ = some (.slice A0 m0 c0) := bx0.cell (by rw [← HUS.out]; rfl)
  rw [hD0] at call0
  have CL0 := hide call0
  have HS0 := hide s0
  have FN0 := hide fin0
  have BX0 := hide bx0
  clear call0 fin0 l0 n0 lv0 bx0 s0 P0
  go_wp2_with fail
  refine CL0.out.mono ?_
  rintro e W0 ⟨rfl, k0, lw0, b0⟩
  have P1 := FN0.out W0 k0 lw0 b0
  have bx1 : Box W0 w.heap.size 35 us := BX0.out.keep (b0.block _ BX0.out.lt fun hg => HNF.out (HS0.out _ hg))
  clear FN0 CL0 k0 lw0 b0 BX0 cc0
  have P2 := P1.num
  clear P1
  obtain ⟨F2, s2, l2, n2, lv2, fin2⟩ := P2.mid (p := 2) (n := 4) (by simp only [List.length_append, List.length_cons, List.length_nil]) (by rw [T.cells_len]) (ms := [.int .i64 x.tree.kind, .slice A3 m3 c3, .slice A4 m4 c4, .slice A5 m5 c5]) (by rw [← HUS.out]; rfl) (y := s + D0) (by simp only [cnts0_app, cnts0, hE0, hD2, hE3, hE4, hE5, num_cnt0]; omega)
  have call2 := dmarkTree x.tree [.int .i64 x.tree.kind, .slice A3 m3 c3, .slice A4 m4 c4, .slice A5 m5 c5] F2 (s + D0) W0 l2 n2 lv2 (by omega) (by rw [hD2]; omega)
  have rg2 : W0.rangeAt w.heap.size 2 [.int .i64 x.tree.kind, .slice A3 m3 c3, .slice A4 m4 c4, .slice A5 m5 c5] := by have := bx1.mid 2 4; rw [← HUS.out] at this; exact this
  rw [hD2] at call2
  have CL2 := hide call2
  have HS2 := hide s2
  have FN2 := hide fin2
  have BX1 := hide bx1
  clear call2 fin2 l2 n2 lv2 bx1 s2 P2
  have RG2 := hide rg2
  clear rg2
  go_wp2_with ((with_reducible refine at_load 33 ?_); refine wpList_load_mid rfl _ _ rfl w.heap.size 2 rfl _ _ RG2.out Tryd.underlying33 rfl (by kernel_rfl) ?_)
  refine CL2.out.mono ?_
  rintro e W2 ⟨rfl, k2, lw2, b2⟩
  have P3 := FN2.out W2 k2 lw2 b2
  have bx3 : Box W2 w.heap.size 35 us := BX1.out.keep (b2.block _ BX1.out.lt fun hg => HNF.out (HS2.out _ hg))
  clear FN2 CL2 k2 lw2 b2 BX1 RG2
  obtain ⟨F3, s3, l3, n3, lv3, fin3⟩ := P3.call (p := 6) (by simp only [List.length_append, List.length_cons, List.length_nil, T.cells_len]) (v := .slice A6 m6 c6) (by rw [← HUS.out]; rfl) (y := s + D0 + D2) (by simp only [cnts0_app, cnts0, hE0, hD2, hE3, hE4, hE5, num_cnt0]; omega)
  have call3 := dmarkNames x.refs _ F3 (s + D0 + D2) W2 l3 n3 lv3 (by omega) (by rw [hD3]; omega)
  have cc3 : W2.cell? ⟨w.heap.size, 6, none⟩ = some (.slice A6 m6 c6) := bx3.cell (by rw [← HUS.out]; rfl)
  rw [hD3] at call3
  have CL3 := hide call3
  have HS3 := hide s3
  have FN3 := hide fin3
  have BX3 := hide bx3
  clear call3 fin3 l3 n3 lv3 bx3 s3 P3
  go_wp2_with fail
  refine CL3.out.mono ?_
  rintro e W3 ⟨rfl, k3, lw3, b3⟩
  have P4 := FN3.out W3 k3 lw3 b3
  have bx4 : Box W3 w.heap.size 35 us := BX3.out.keep (b3.block _ BX3.out.lt fun hg => HNF.out (HS3.out _ hg))
  clear FN3 CL3 k3 lw3 b3 BX3 cc3
  obtain ⟨F4, s4, l4, n4, lv4, fin4⟩ := P4.call (p := 7) (by simp only [List.length_append, List.length_cons, List.length_nil, T.cells_len]) (v := .slice A7 m7 c7) (by rw [← HUS.out]; rfl) (y := s + D0 + D2 + D3) (by simp only [cnts0_app, cnts0, hE0, hD2, hE3, hE4, hE5, num_cnt0]; omega)
  have call4 := dmarkRaw x.frm _ F4 (s + D0 + D2 + D3) W3 l4 n4 lv4 (by omega) (by rw [hD4]; omega)
  have cc4 : W3.cell? ⟨w.heap.size, 7, none⟩ = some (.slice A7 m7 c7) := bx4.cell (by rw [← HUS.out]; rfl)
  rw [hD4] at call4
  have CL4 := hide call4
  have HS4 := hide s4
  have FN4 := hide fin4
  have BX4 := hide bx4
  clear call4 fin4 l4 n4 lv4 bx4 s4 P4
  go_wp2_with fail
  refine CL4.out.mono ?_
  rintro e W4 ⟨rfl, k4, lw4, b4⟩
  have P5 := FN4.out W4 k4 lw4 b4
  have bx5 : Box W4 w.heap.size 35 us := BX4.out.keep (b4.block _ BX4.out.lt fun hg => HNF.out (HS4.out _ hg))
  clear FN4 CL4 k4 lw4 b4 BX4 cc4
  obtain ⟨F5, s5, l5, n5, lv5, fin5⟩ := P5.call (p := 8) (by simp only [List.length_append, List.length_cons, List.length_nil, T.cells_len]) (v := .slice A8 m8 c8) (by rw [← HUS.out]; rfl) (y := s + D0 + D2 + D3 + D4) (by simp only [cnts0_app, cnts0, hE0, hD2, hE3, hE4, hE5, num_cnt0]; omega)
  have call5 := dmarkRaw x.out _ F5 (s + D0 + D2 + D3 + D4) W4 l5 n5 lv5 (by omega) (by rw [hD5]; omega)
  have cc5 : W4.cell? ⟨w.heap.size, 8, none⟩ = some (.slice A8 m8 c8) := bx5.cell (by rw [← HUS.out]; rfl)
  rw [hD5] at call5
  have CL5 := hide call5
  have HS5 := hide s5
  have FN5 := hide fin5
  have BX5 := hide bx5
  clear call5 fin5 l5 n5 lv5 bx5 s5 P5
  go_wp2_with fail
  refine CL5.out.mono ?_
  rintro e W5 ⟨rfl, k5, lw5, b5⟩
  have P6 := FN5.out W5 k5 lw5 b5
  have bx6 : Box W5 w.heap.size 35 us := BX5.out.keep (b5.block _ BX5.out.lt fun hg => HNF.out (HS5.out _ hg))
  clear FN5 CL5 k5 lw5 b5 BX5 cc5
  go_wp2_with fail
  go_ret
  have fin := P6.stop HBA.out
  rw [← HUS.out] at fin
  simp only [List.append_assoc, List.cons_append, List.nil_append] at fin
  exact ⟨ret_i64 (by omega), fin⟩

set_option maxRecDepth 20000 in
set_option maxHeartbeats 1600000 in
theorem dmarkDrv (x : DDrv) : MarkA Tryd.prog 17 x.cells := by
  intro us F s w h hnd hlv hs0 hs1
  have hd := h
  rw [x.cells_eq] at hd
  obtain ⟨A0, m0, c0, r0, G0, rfl, q0⟩ := hd.seqs1
  obtain ⟨A1, m1, c1, r1, G1, rfl, q1⟩ := q0.seqs1
  obtain ⟨A2, m2, c2, r2, G2, rfl, q2⟩ := q1.seqs1
  obtain ⟨A3, m3, c3, r3, G3, rfl, q3⟩ := q2.seqs1
  obtain rfl := q3.nil1
  clear q0 q1 q2 q3
  obtain ⟨us, hus⟩ : ∃ us : List Value, [.slice A0 m0 c0, .slice A1 m1 c1, .slice A2 m2 c2, .slice A3 m3 c3] = us := ⟨_, rfl⟩
  obtain ⟨wa, hwa⟩ : ∃ wa, w.alloc (.cells #[.slice A0 m0 c0, .slice A1 m1 c1, .slice A2 m2 c2, .slice A3 m3 c3] 49) = wa := ⟨_, rfl⟩
  have ba : Below w.heap.size w wa := by rw [← hwa]; exact (Below.refl _ _).alloc (Nat.le_refl _) _
  have bx0 : Box wa w.heap.size 49 us := by rw [← hwa, ← hus]; exact Box.new w _ _
  have hnf : w.heap.size ∉ F := fun hg => Nat.lt_irrefl _ (h.lt _ hg)
  have hlz : wa.heap.size = w.heap.size + 1 := by rw [← hwa]; simp
  rw [hus] at h
  obtain ⟨D0, hD0⟩ : ∃ D, (Go.Proofs.YtigklnokgmcifaaDoor.names x.srcs).cnt = D := ⟨_, rfl⟩
  have hE0 : (Go.Proofs.YtigklnokgmcifaaDoor.names x.srcs).cnt0 = D0 := hD0
  obtain ⟨D1, hD1⟩ : ∃ D, (seqOf 2 DIn.cells x.ins).cnt = D := ⟨_, rfl⟩
  have hE1 : (seqOf 2 DIn.cells x.ins).cnt0 = D1 := hD1
  obtain ⟨D2, hD2⟩ : ∃ D, (Go.Proofs.YtigklnokgmcifaaDoor.names x.outs).cnt = D := ⟨_, rfl⟩
  have hE2 : (Go.Proofs.YtigklnokgmcifaaDoor.names x.outs).cnt0 = D2 := hD2
  obtain ⟨D3, hD3⟩ : ∃ D, (seqOf 5 DOp.cells x.ops).cnt = D := ⟨_, rfl⟩
  have hE3 : (seqOf 5 DOp.cells x.ops).cnt0 = D3 := hD3
  have hsum : cnts0 x.cells = D0 + D1 + D2 + D3 := by
    rw [x.cells_top]
    simp only [cnts0, hE0, hE1, hE2, hE3]
    omega
  rw [hsum] at hs1 ⊢
  rw [x.cells_top] at h ⊢
  have P0 := MarkV.start (s := s) (h.step ba) hnd (hlv.step ba)
  have HUS := hide hus
  have HBA := hide ba
  have HNF := hide hnf
  clear h hnd hlv hus ba hnf hsum
  go_enter Tryd.func17, Tryd.ntmps17
  obtain ⟨F0, s0, l0, n0, lv0, fin0⟩ := P0.call (p := 0) (by rfl) (v := .slice A0 m0 c0) (by rw [← HUS.out]; rfl) (y := s) (by simp only [cnts0_app, cnts0, hE0, hE1, hE2, hE3]; omega)
  have call0 := dmarkNames x.srcs _ F0 (s) wa l0 n0 lv0 (by omega) (by rw [hD0]; omega)
  have cc0 : wa.cell? ⟨w.heap.size, 0, none⟩ = some (.slice A0 m0 c0) := bx0.cell (by rw [← HUS.out]; rfl)
  rw [hD0] at call0
  have CL0 := hide call0
  have HS0 := hide s0
  have FN0 := hide fin0
  have BX0 := hide bx0
  clear call0 fin0 l0 n0 lv0 bx0 s0 P0
  go_wp2_with fail
  refine CL0.out.mono ?_
  rintro e W0 ⟨rfl, k0, lw0, b0⟩
  have P1 := FN0.out W0 k0 lw0 b0
  have bx1 : Box W0 w.heap.size 49 us := BX0.out.keep (b0.block _ BX0.out.lt fun hg => HNF.out (HS0.out _ hg))
  clear FN0 CL0 k0 lw0 b0 BX0 cc0
  obtain ⟨F1, s1, l1, n1, lv1, fin1⟩ := P1.call (p := 1) (by simp only [List.length_append, List.length_cons, List.length_nil]) (v := .slice A1 m1 c1) (by rw [← HUS.out]; rfl) (y := s + D0) (by simp only [cnts0_app, cnts0, hE0, hE1, hE2, hE3]; omega)
  have call1 := dmarkInS x.ins _ F1 (s + D0) W0 l1 n1 lv1 (by omega) (by rw [hD1]; omega)
  have cc1 : W0.cell? ⟨w.heap.size, 1, none⟩ = some (.slice A1 m1 c1) := bx1.cell (by rw [← HUS.out]; rfl)
  rw [hD1] at call1
  have CL1 := hide call1
  have HS1 := hide s1
  have FN1 := hide fin1
  have BX1 := hide bx1
  clear call1 fin1 l1 n1 lv1 bx1 s1 P1
  go_wp2_with fail
  refine CL1.out.mono ?_
  rintro e W1 ⟨rfl, k1, lw1, b1⟩
  have P2 := FN1.out W1 k1 lw1 b1
  have bx2 : Box W1 w.heap.size 49 us := BX1.out.keep (b1.block _ BX1.out.lt fun hg => HNF.out (HS1.out _ hg))
  clear FN1 CL1 k1 lw1 b1 BX1 cc1
  obtain ⟨F2, s2, l2, n2, lv2, fin2⟩ := P2.call (p := 2) (by simp only [List.length_append, List.length_cons, List.length_nil]) (v := .slice A2 m2 c2) (by rw [← HUS.out]; rfl) (y := s + D0 + D1) (by simp only [cnts0_app, cnts0, hE0, hE1, hE2, hE3]; omega)
  have call2 := dmarkNames x.outs _ F2 (s + D0 + D1) W1 l2 n2 lv2 (by omega) (by rw [hD2]; omega)
  have cc2 : W1.cell? ⟨w.heap.size, 2, none⟩ = some (.slice A2 m2 c2) := bx2.cell (by rw [← HUS.out]; rfl)
  rw [hD2] at call2
  have CL2 := hide call2
  have HS2 := hide s2
  have FN2 := hide fin2
  have BX2 := hide bx2
  clear call2 fin2 l2 n2 lv2 bx2 s2 P2
  go_wp2_with fail
  refine CL2.out.mono ?_
  rintro e W2 ⟨rfl, k2, lw2, b2⟩
  have P3 := FN2.out W2 k2 lw2 b2
  have bx3 : Box W2 w.heap.size 49 us := BX2.out.keep (b2.block _ BX2.out.lt fun hg => HNF.out (HS2.out _ hg))
  clear FN2 CL2 k2 lw2 b2 BX2 cc2
  obtain ⟨F3, s3, l3, n3, lv3, fin3⟩ := P3.call (p := 3) (by simp only [List.length_append, List.length_cons, List.length_nil]) (v := .slice A3 m3 c3) (by rw [← HUS.out]; rfl) (y := s + D0 + D1 + D2) (by simp only [cnts0_app, cnts0, hE0, hE1, hE2, hE3]; omega)
  have call3 := dmarkOpS x.ops _ F3 (s + D0 + D1 + D2) W2 l3 n3 lv3 (by omega) (by rw [hD3]; omega)
  have cc3 : W2.cell? ⟨w.heap.size, 3, none⟩ = some (.slice A3 m3 c3) := bx3.cell (by rw [← HUS.out]; rfl)
  rw [hD3] at call3
  have CL3 := hide call3
  have HS3 := hide s3
  have FN3 := hide fin3
  have BX3 := hide bx3
  clear call3 fin3 l3 n3 lv3 bx3 s3 P3
  go_wp2_with fail
  refine CL3.out.mono ?_
  rintro e W3 ⟨rfl, k3, lw3, b3⟩
  have P4 := FN3.out W3 k3 lw3 b3
  have bx4 : Box W3 w.heap.size 49 us := BX3.out.keep (b3.block _ BX3.out.lt fun hg => HNF.out (HS3.out _ hg))
  clear FN3 CL3 k3 lw3 b3 BX3 cc3
  go_wp2_with fail
  go_ret
  have fin := P4.stop HBA.out
  rw [← HUS.out] at fin
  simp only [List.append_assoc, List.cons_append, List.nil_append] at fin
  exact ⟨ret_i64 (by omega), fin⟩

end Go.Proofs.YtigklnokgmcifaaDoor
