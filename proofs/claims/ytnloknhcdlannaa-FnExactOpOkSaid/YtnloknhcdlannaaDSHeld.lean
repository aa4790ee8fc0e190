
/-
  The laws' helpers 'held' over structs and their rows.
-/
import Derived.Test.YtnloknhcdlannaaDTyp
import Derived.Test.YtnloknhcdlannaaDMark
namespace Go.Proofs.Ytnloknhcdlannaa
open Go.RowKit
set_option linter.unusedVariables false
set_option linter.unusedSimpArgs false
set_option maxRecDepth 20000 in
set_option maxHeartbeats 1600000 in
theorem dheldOpS (l : List DOp) : HeldC Try.prog 64 (seqOf 5 DOp.cells l) := by
  unfold seqOf
  intro v F s w h hs0 hs1
  obtain ⟨F2, hm0⟩ := HeldL.start h
  rw [Cel.mk] at h
  obtain ⟨A, c, hv, hc1, hc2⟩ := h.form
  obtain ⟨N, hN⟩ : ∃ N, l.length = N := ⟨_, rfl⟩
  obtain ⟨g, hg⟩ : ∃ g : DOp → List Cel, DOp.cells = g := ⟨_, rfl⟩
  have hgx : ∀ x, g x = [.num .i64 x.code, .num .i64 x.out, raw x.name, raw x.text, .num .i64 x.arg] := fun x => by subst hg; exact x.cells_eq
  rw [hg] at hm0 hs1 ⊢
  rw [Cel.cnt] at hs1 ⊢
  rw [hN] at hv hc1 hm0
  obtain ⟨S, hS⟩ : ∃ S, cnts (cells g l) = S := ⟨_, rfl⟩
  rw [hS] at hs1 ⊢
  unfold maxLen at hc2
  have HS := hide hS
  have HN := hide hN
  have HG := hide hgx
  have HM0 := hide hm0
  subst hv
  clear hS hN hg hgx hm0 h
  go_enter Try.func64, Try.ntmps64
  go_wp2
  go_loopw [1, 5] (fun q i wr => ∃ j z : Nat, j ≤ N ∧ i = .int .i64 j ∧ q = .int .i64 (s + z) ∧ z ≤ S ∧ Hid (cnts (cells g (l.take j)) = z ∧ HeldL w (.slice A N c) s F2 N (cells g (l.take j)) (cells g (l.drop j)) wr))
    (fun _ i _ => N - (intOf i).toNat)
  case atStart => exact ⟨0, 0, Nat.zero_le _, rfl, by go_num, Nat.zero_le _, hide ⟨by simp [cells, cnts], HM0.out⟩⟩
  case round =>
    obtain ⟨j, z, hj, rfl, rfl, hzS, HR⟩ := hrel
    by_cases hlt : j < N
    · obtain ⟨hz, hml⟩ := HR.out
      obtain ⟨b, off, c', us', hv, P0⟩ := hml.2 (by omega)
      injection hv with hv1 _ hv2
      subst hv1
      have hjn : j < l.length := by rw [HN.out]; exact hlt
      have htk := cells_take g hjn
      have hlen : j * 5 = (cells g (l.take j)).length := by rw [cells_len (sz := 5) (by intro x; rw [HG.out]; rfl), List.length_take]; omega
      rw [cells_drop g hjn] at P0
      obtain ⟨x, hxe⟩ : ∃ x, l[j] = x := ⟨_, rfl⟩
      have hmem : x ∈ l := hxe ▸ List.getElem_mem hjn
      rw [hxe, HG.out x] at P0 htk
      have hz2 := congrArg cnts htk
      rw [cnts_app, hz] at hz2
      have hz3 : cnts (cells g (l.take (j + 1))) ≤ S := by
        rw [← HS.out, cells_split g l (j + 1), cnts_app]; omega
      rw [hz2] at hz3
      simp only [cnts] at hz3 hz2
      obtain ⟨D2, hD2⟩ : ∃ D, (raw x.name).cnt = D := ⟨_, rfl⟩
      obtain ⟨D3, hD3⟩ : ∃ D, (raw x.text).cnt = D := ⟨_, rfl⟩
      simp only [hD2, hD3] at hz2 hz3
      simp only [num_cnt] at hz2 hz3
      simp only [List.cons_append, List.nil_append] at P0
      have HTK := hide htk
      have HZ2 := hide hz2
      have HLEN := hide hlen
      have HZ := hide hz
      have HB0 := hide hml.1
      have HD2 := hide hD2
      have HD3 := hide hD3
      have k1 : (j : Int) < (N : Int) := by omega
      clear htk hz2 hlen hz hml HR hjn hv2 hxe hD2 hD3
      have c0 := P0.num (p := j * 5) HLEN.out (y := s + z) (by rw [mk1_i64, HZ.out])
      try simp only [← Nat.add_assoc] at c0
      have e0 : (((s + z) : Int) != s + z) = false := by simp
      have P1 := P0.next
      clear P0
      have c1 := P1.num (p := j * 5 + 1) (by simp only [List.length_append, List.length_cons, List.length_nil]; have := HLEN.out; omega) (y := s + z + 1) (by rw [mk1_i64]; simp only [cnts_app, cnts, num_cnt]; have := HZ.out; omega)
      try simp only [← Nat.add_assoc] at c1
      have e1 : (((s + z + 1) : Int) != s + z + 1) = false := by simp
      have P2 := P1.next
      clear P1
      obtain ⟨v2, F2, c2, l2⟩ := P2.call (p := j * 5 + 2) (by simp only [List.length_append, List.length_cons, List.length_nil]; have := HLEN.out; omega) (y := s + z + 1 + 1) (by simp only [cnts_app, cnts, num_cnt]; have := HZ.out; omega)
      try simp only [← Nat.add_assoc] at c2
      have call2 := (dheldRaw x.name) v2 F2 (s + z + 1 + 1) wr l2 (by omega) (by rw [HD2.out]; omega)
      rw [HD2.out] at call2
      have CL2 := hide call2
      have PN2 := P2.next
      clear call2 P2 l2
      have q2 : ¬ (s + z + 1 + 1 + (D2 : Int) < 0) := by omega
      go_wp2_with fail
      refine CL2.out.mono ?_
      rintro e W2 ⟨rfl, b2⟩
      have P3 := PN2.step b2
      have HB3 := hide (HB0.out.trans (b2.mono HB0.out.size))
      clear CL2 c2 b2 PN2 c0 e0 c1 e1
      obtain ⟨v3, F3, c3, l3⟩ := P3.call (p := j * 5 + 3) (by simp only [List.length_append, List.length_cons, List.length_nil]; have := HLEN.out; omega) (y := s + z + 1 + 1 + D2) (by simp only [cnts_app, cnts, num_cnt, HD2.out]; have := HZ.out; omega)
      try simp only [← Nat.add_assoc] at c3
      have call3 := (dheldRaw x.text) v3 F3 (s + z + 1 + 1 + D2) W2 l3 (by omega) (by rw [HD3.out]; omega)
      rw [HD3.out] at call3
      have CL3 := hide call3
      have PN3 := P3.next
      clear call3 P3 l3
      have q3 : ¬ (s + z + 1 + 1 + D2 + (D3 : Int) < 0) := by omega
      go_wp2_with fail
      refine CL3.out.mono ?_
      rintro e W3 ⟨rfl, b3⟩
      have P4 := PN3.step b3
      have HB4 := hide (HB3.out.trans (b3.mono HB3.out.size))
      clear CL3 c3 b3 PN3 q2
      have c4 := P4.num (p := j * 5 + 4) (by simp only [List.length_append, List.length_cons, List.length_nil]; have := HLEN.out; omega) (y := s + z + 1 + 1 + D2 + D3) (by rw [mk1_i64]; simp only [cnts_app, cnts, num_cnt, HD2.out, HD3.out]; have := HZ.out; omega)
      try simp only [← Nat.add_assoc] at c4
      have e4 : (((s + z + 1 + 1 + D2 + D3) : Int) != s + z + 1 + 1 + D2 + D3) = false := by simp
      have P5 := P4.next
      clear P4
      have fin := HeldL.round (n := N) (w := w) rfl P5 HB4.out (c := c)
      try simp only [List.append_assoc, List.cons_append, List.nil_append] at fin
      rw [← HTK.out] at fin
      have FIN := hide (And.intro (HZ2.out.trans (show _ = z + (1 + 1 + D2 + D3 + 1) by omega)) fin)
      clear fin P5 HTK HZ2 HLEN HZ
      go_wp2_with fail
      go_roundw
      case rel => exact ⟨j + 1, z + (1 + 1 + D2 + D3 + 1), by omega, by go_num, by go_num, by omega, FIN⟩
      case measure => simp [intOf]; omega
    · obtain rfl : j = N := by omega
      obtain ⟨hz, hml⟩ := HR.out
      rw [List.take_of_length_le (by rw [HN.out]; omega)] at hz
      rw [HS.out] at hz
      subst hz
      have FIN := hide hml.1
      clear hml HR
      go_wp2
      go_ret
      exact ⟨rfl, FIN.out⟩

set_option maxRecDepth 20000 in
set_option maxHeartbeats 1600000 in
theorem dheldInS (l : List DIn) : HeldC Try.prog 63 (seqOf 2 DIn.cells l) := by
  unfold seqOf
  intro v F s w h hs0 hs1
  obtain ⟨F2, hm0⟩ := HeldL.start h
  rw [Cel.mk] at h
  obtain ⟨A, c, hv, hc1, hc2⟩ := h.form
  obtain ⟨N, hN⟩ : ∃ N, l.length = N := ⟨_, rfl⟩
  obtain ⟨g, hg⟩ : ∃ g : DIn → List Cel, DIn.cells = g := ⟨_, rfl⟩
  have hgx : ∀ x, g x = [raw x.drv, raw x.out] := fun x => by subst hg; exact x.cells_eq
  rw [hg] at hm0 hs1 ⊢
  rw [Cel.cnt] at hs1 ⊢
  rw [hN] at hv hc1 hm0
  obtain ⟨S, hS⟩ : ∃ S, cnts (cells g l) = S := ⟨_, rfl⟩
  rw [hS] at hs1 ⊢
  unfold maxLen at hc2
  have HS := hide hS
  have HN := hide hN
  have HG := hide hgx
  have HM0 := hide hm0
  subst hv
  clear hS hN hg hgx hm0 h
  go_enter Try.func63, Try.ntmps63
  go_wp2
  go_loopw [1, 5] (fun q i wr => ∃ j z : Nat, j ≤ N ∧ i = .int .i64 j ∧ q = .int .i64 (s + z) ∧ z ≤ S ∧ Hid (cnts (cells g (l.take j)) = z ∧ HeldL w (.slice A N c) s F2 N (cells g (l.take j)) (cells g (l.drop j)) wr))
    (fun _ i _ => N - (intOf i).toNat)
  case atStart => exact ⟨0, 0, Nat.zero_le _, rfl, by go_num, Nat.zero_le _, hide ⟨by simp [cells, cnts], HM0.out⟩⟩
  case round =>
    obtain ⟨j, z, hj, rfl, rfl, hzS, HR⟩ := hrel
    by_cases hlt : j < N
    · obtain ⟨hz, hml⟩ := HR.out
      obtain ⟨b, off, c', us', hv, P0⟩ := hml.2 (by omega)
      injection hv with hv1 _ hv2
      subst hv1
      have hjn : j < l.length := by rw [HN.out]; exact hlt
      have htk := cells_take g hjn
      have hlen : j * 2 = (cells g (l.take j)).length := by rw [cells_len (sz := 2) (by intro x; rw [HG.out]; rfl), List.length_take]; omega
      rw [cells_drop g hjn] at P0
      obtain ⟨x, hxe⟩ : ∃ x, l[j] = x := ⟨_, rfl⟩
      have hmem : x ∈ l := hxe ▸ List.getElem_mem hjn
      rw [hxe, HG.out x] at P0 htk
      have hz2 := congrArg cnts htk
      rw [cnts_app, hz] at hz2
      have hz3 : cnts (cells g (l.take (j + 1))) ≤ S := by
        rw [← HS.out, cells_split g l (j + 1), cnts_app]; omega
      rw [hz2] at hz3
      simp only [cnts] at hz3 hz2
      obtain ⟨D0, hD0⟩ : ∃ D, (raw x.drv).cnt = D := ⟨_, rfl⟩
      obtain ⟨D1, hD1⟩ : ∃ D, (raw x.out).cnt = D := ⟨_, rfl⟩
      simp only [hD0, hD1] at hz2 hz3
      simp only [List.cons_append, List.nil_append] at P0
      have HTK := hide htk
      have HZ2 := hide hz2
      have HLEN := hide hlen
      have HZ := hide hz
      have HB0 := hide hml.1
      have HD0 := hide hD0
      have HD1 := hide hD1
      have k1 : (j : Int) < (N : Int) := by omega
      clear htk hz2 hlen hz hml HR hjn hv2 hxe hD0 hD1
      obtain ⟨v0, F0, c0, l0⟩ := P0.call (p := j * 2) HLEN.out (y := s + z) (by rw [HZ.out])
      try simp only [← Nat.add_assoc] at c0
      have call0 := (dheldRaw x.drv) v0 F0 (s + z) wr l0 (by omega) (by rw [HD0.out]; omega)
      rw [HD0.out] at call0
      have CL0 := hide call0
      have PN0 := P0.next
      clear call0 P0 l0
      have q0 : ¬ (s + z + (D0 : Int) < 0) := by omega
      go_wp2_with fail
      refine CL0.out.mono ?_
      rintro e W0 ⟨rfl, b0⟩
      have P1 := PN0.step b0
      have HB1 := hide (HB0.out.trans (b0.mono HB0.out.size))
      clear CL0 c0 b0 PN0
      obtain ⟨v1, F1, c1, l1⟩ := P1.call (p := j * 2 + 1) (by simp only [List.length_append, List.length_cons, List.length_nil]; have := HLEN.out; omega) (y := s + z + D0) (by simp only [cnts_app, cnts, HD0.out]; have := HZ.out; omega)
      try simp only [← Nat.add_assoc] at c1
      have call1 := (dheldRaw x.out) v1 F1 (s + z + D0) W0 l1 (by omega) (by rw [HD1.out]; omega)
      rw [HD1.out] at call1
      have CL1 := hide call1
      have PN1 := P1.next
      clear call1 P1 l1
      have q1 : ¬ (s + z + D0 + (D1 : Int) < 0) := by omega
      go_wp2_with fail
      refine CL1.out.mono ?_
      rintro e W1 ⟨rfl, b1⟩
      have P2 := PN1.step b1
      have HB2 := hide (HB1.out.trans (b1.mono HB1.out.size))
      clear CL1 c1 b1 PN1 q0
      have fin := HeldL.round (n := N) (w := w) rfl P2 HB2.out (c := c)
      try simp only [List.append_assoc, List.cons_append, List.nil_append] at fin
      rw [← HTK.out] at fin
      have FIN := hide (And.intro (HZ2.out.trans (show _ = z + (D0 + D1) by omega)) fin)
      clear fin P2 HTK HZ2 HLEN HZ
      go_wp2_with fail
      go_roundw
      case rel => exact ⟨j + 1, z + (D0 + D1), by omega, by go_num, by go_num, by omega, FIN⟩
      case measure => simp [intOf]; omega
    · obtain rfl : j = N := by omega
      obtain ⟨hz, hml⟩ := HR.out
      rw [List.take_of_length_le (by rw [HN.out]; omega)] at hz
      rw [HS.out] at hz
      subst hz
      have FIN := hide hml.1
      clear hml HR
      go_wp2
      go_ret
      exact ⟨rfl, FIN.out⟩

set_option maxRecDepth 20000 in
set_option maxHeartbeats 1600000 in
theorem dheldDrv (x : DDrv) : HeldA Try.prog 28 x.cells := by
  intro us F s w h hs0 hs1
  have hd := h
  rw [x.cells_eq] at hd
  simp only [mkc0] at hd
  obtain ⟨A0, m0, c0, r0, G0, rfl, q0⟩ := Lies.seqs1 hd
  obtain ⟨A1, m1, c1, r1, G1, rfl, q1⟩ := Lies.seqs1 q0
  obtain ⟨A2, m2, c2, r2, G2, rfl, q2⟩ := Lies.seqs1 q1
  obtain ⟨A3, m3, c3, r3, G3, rfl, q3⟩ := Lies.seqs1 q2
  obtain rfl := q3.nil1
  clear q0 q1 q2 q3
  obtain ⟨us, hus⟩ : ∃ us : List Value, [.slice A0 m0 c0, .slice A1 m1 c1, .slice A2 m2 c2, .slice A3 m3 c3] = us := ⟨_, rfl⟩
  obtain ⟨wa, hwa⟩ : ∃ wa, w.alloc (.cells #[.slice A0 m0 c0, .slice A1 m1 c1, .slice A2 m2 c2, .slice A3 m3 c3] 41) = wa := ⟨_, rfl⟩
  have ba : Below w.heap.size w wa := by rw [← hwa]; exact (Below.refl _ _).alloc (Nat.le_refl _) _
  have bx0 : Box wa w.heap.size 41 us := by rw [← hwa, ← hus]; exact Box.new w _ _
  rw [hus] at h
  obtain ⟨D0, hD0⟩ : ∃ D, (Go.Proofs.Ytnloknhcdlannaa.names x.srcs).cnt = D := ⟨_, rfl⟩
  have hE0 : (Go.Proofs.Ytnloknhcdlannaa.names x.srcs).cnt0 = D0 := hD0
  obtain ⟨D1, hD1⟩ : ∃ D, (seqOf 2 DIn.cells x.ins).cnt = D := ⟨_, rfl⟩
  have hE1 : (seqOf 2 DIn.cells x.ins).cnt0 = D1 := hD1
  obtain ⟨D2, hD2⟩ : ∃ D, (Go.Proofs.Ytnloknhcdlannaa.names x.outs).cnt = D := ⟨_, rfl⟩
  have hE2 : (Go.Proofs.Ytnloknhcdlannaa.names x.outs).cnt0 = D2 := hD2
  obtain ⟨D3, hD3⟩ : ∃ D, (seqOf 5 DOp.cells x.ops).cnt = D := ⟨_, rfl⟩
  have hE3 : (seqOf 5 DOp.cells x.ops).cnt0 = D3 := hD3
  have hsum : cnts0 x.cells = D0 + D1 + D2 + D3 := by
    rw [x.cells_top]
    simp only [cnts0, hE0, hE1, hE2, hE3]
    omega
  rw [hsum] at hs1 ⊢
  rw [x.cells_top] at h
  have P0 := HeldV.start (h.step ba)
  have HUS := hide hus
  have HB0 := hide ba
  clear h hus ba hsum
  go_enter Try.func28, Try.ntmps28
  obtain ⟨F0, l0⟩ := P0.call (p := 0) (by rfl) (v := .slice A0 m0 c0) (by rw [← HUS.out]; rfl) (y := s) (by simp only [cnts0_app, cnts0, hE0, hE1, hE2, hE3]; omega)
  have call0 := dheldNames x.srcs _ F0 (s) wa l0 (by omega) (by rw [hD0]; omega)
  have cc0 : wa.cell? ⟨w.heap.size, 0, none⟩ = some (.slice A0 m0 c0) := bx0.cell (by rw [← HUS.out]; rfl)
  rw [hD0] at call0
  have CL0 := hide call0
  have BX0 := hide bx0
  have PN0 := P0.next
  have q0 : ¬ (s + (D0 : Int) < 0) := by omega
  clear call0 l0 bx0 P0
  go_wp2_with fail
  refine CL0.out.mono ?_
  rintro e W0 ⟨rfl, b0⟩
  have P1 := PN0.step b0
  have bx1 := BX0.out.step b0
  have HB1 := hide (HB0.out.trans (b0.mono HB0.out.size))
  clear CL0 PN0 b0 BX0 cc0
  obtain ⟨F1, l1⟩ := P1.call (p := 1) (by simp only [List.length_append, List.length_cons, List.length_nil]) (v := .slice A1 m1 c1) (by rw [← HUS.out]; rfl) (y := s + D0) (by simp only [cnts0_app, cnts0, hE0, hE1, hE2, hE3]; omega)
  have call1 := dheldInS x.ins _ F1 (s + D0) W0 l1 (by omega) (by rw [hD1]; omega)
  have cc1 : W0.cell? ⟨w.heap.size, 1, none⟩ = some (.slice A1 m1 c1) := bx1.cell (by rw [← HUS.out]; rfl)
  rw [hD1] at call1
  have CL1 := hide call1
  have BX1 := hide bx1
  have PN1 := P1.next
  have q1 : ¬ (s + D0 + (D1 : Int) < 0) := by omega
  clear call1 l1 bx1 P1
  go_wp2_with fail
  refine CL1.out.mono ?_
  rintro e W1 ⟨rfl, b1⟩
  have P2 := PN1.step b1
  have bx2 := BX1.out.step b1
  have HB2 := hide (HB1.out.trans (b1.mono HB1.out.size))
  clear CL1 PN1 b1 BX1 cc1
  obtain ⟨F2, l2⟩ := P2.call (p := 2) (by simp only [List.length_append, List.length_cons, List.length_nil]) (v := .slice A2 m2 c2) (by rw [← HUS.out]; rfl) (y := s + D0 + D1) (by simp only [cnts0_app, cnts0, hE0, hE1, hE2, hE3]; omega)
  have call2 := dheldNames x.outs _ F2 (s + D0 + D1) W1 l2 (by omega) (by rw [hD2]; omega)
  have cc2 : W1.cell? ⟨w.heap.size, 2, none⟩ = some (.slice A2 m2 c2) := bx2.cell (by rw [← HUS.out]; rfl)
  rw [hD2] at call2
  have CL2 := hide call2
  have BX2 := hide bx2
  have PN2 := P2.next
  have q2 : ¬ (s + D0 + D1 + (D2 : Int) < 0) := by omega
  clear call2 l2 bx2 P2
  go_wp2_with fail
  refine CL2.out.mono ?_
  rintro e W2 ⟨rfl, b2⟩
  have P3 := PN2.step b2
  have bx3 := BX2.out.step b2
  have HB3 := hide (HB2.out.trans (b2.mono HB2.out.size))
  clear CL2 PN2 b2 BX2 cc2
  obtain ⟨F3, l3⟩ := P3.call (p := 3) (by simp only [List.length_append, List.length_cons, List.length_nil]) (v := .slice A3 m3 c3) (by rw [← HUS.out]; rfl) (y := s + D0 + D1 + D2) (by simp only [cnts0_app, cnts0, hE0, hE1, hE2, hE3]; omega)
  have call3 := dheldOpS x.ops _ F3 (s + D0 + D1 + D2) W2 l3 (by omega) (by rw [hD3]; omega)
  have cc3 : W2.cell? ⟨w.heap.size, 3, none⟩ = some (.slice A3 m3 c3) := bx3.cell (by rw [← HUS.out]; rfl)
  rw [hD3] at call3
  have CL3 := hide call3
  have BX3 := hide bx3
  have PN3 := P3.next
  have q3 : ¬ (s + D0 + D1 + D2 + (D3 : Int) < 0) := by omega
  clear call3 l3 bx3 P3
  go_wp2_with fail
  refine CL3.out.mono ?_
  rintro e W3 ⟨rfl, b3⟩
  have P4 := PN3.step b3
  have bx4 := BX3.out.step b3
  have HB4 := hide (HB3.out.trans (b3.mono HB3.out.size))
  clear CL3 PN3 b3 BX3 cc3
  go_wp2_with fail
  go_ret
  exact ⟨ret_i64 (by omega), HB4.out⟩

end Go.Proofs.Ytnloknhcdlannaa
