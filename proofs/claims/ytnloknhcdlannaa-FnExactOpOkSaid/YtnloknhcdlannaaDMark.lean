
/-
  Marks over rows of bytes, names, trees.
-/
import Derived.Test.YtnloknhcdlannaaDatT
namespace Go.Proofs.Ytnloknhcdlannaa
open Go.RowKit
set_option linter.unusedVariables false

set_option maxRecDepth 20000 in
set_option maxHeartbeats 1600000 in
theorem dmarkBytes (l : List Int) : MarkC Try.prog 23 (seqOf 1 (fun x => [Cel.num .u8 x]) l) := by
  unfold seqOf
  intro v F s w h hnd hlv hs0 hs1
  have h0 := h
  obtain ⟨F2, hF, hm0⟩ := MarkL.start h hnd hlv s
  rw [Lie] at h
  obtain ⟨_, us, F3, ⟨A, c, hv, hc1, hc2, hul, _⟩, _, _⟩ := h
  obtain ⟨N, hN⟩ : ∃ N, l.length = N := ⟨_, rfl⟩
  obtain ⟨g, hg⟩ : ∃ g : Int → List Cel, (fun x => [Cel.num .u8 x]) = g := ⟨_, rfl⟩
  have hgx : ∀ x, g x = [.num .u8 x] := fun x => by subst hg; exact rfl
  rw [hg] at hm0 h0 hs1 ⊢
  rw [Cel.cnt] at hs1 ⊢
  rw [hN] at hv hc1 hm0 h0 ⊢
  obtain ⟨S, hS⟩ : ∃ S, cnts (cells g l) = S := ⟨_, rfl⟩
  rw [hS] at hs1 ⊢
  unfold maxLen at hc2
  have STOP := fun wr (hm : MarkL w v s F2 N (cells g l) [] wr) => MarkL.stop h0 hF hlv hm
  have HST := hide STOP
  have HS := hide hS
  have HN := hide hN
  have HG := hide hgx
  have HM0 := hide hm0
  subst hv
  clear STOP hS hN hg hgx hm0 h0 hul hnd hlv hF
  go_enter Try.func23, Try.ntmps23
  go_wp2
  go_loopw [1, 5] (fun q i wr => ∃ j z : Nat, j ≤ N ∧ i = .int .i64 j ∧ q = .int .i64 (s + z) ∧ z ≤ S ∧ Hid (cnts (cells g (l.take j)) = z ∧ MarkL w (.slice A N c) s F2 N (cells g (l.take j)) (cells g (l.drop j)) wr))
    (fun _ i _ => N - (intOf i).toNat)
  case atStart => exact ⟨0, 0, Nat.zero_le _, rfl, by go_num, Nat.zero_le _, hide ⟨by simp [cells, cnts], HM0.out⟩⟩
  case round =>
    obtain ⟨j, z, hj, rfl, rfl, hzS, HR⟩ := hrel
    by_cases hlt : j < N
    · obtain ⟨hz, hml⟩ := HR.out
      obtain ⟨b, off, c', us', hv, P0⟩ := hml.2 (by omega)
      injection hv with hv1 _ hv2
      subst hv1
      have hjn : j < l.length := by rw [HN.out]; exact hlt
      have htk := cells_take g hjn
      have hlen : j * 1 = (cells g (l.take j)).length := by rw [cells_len (sz := 1) (by intro x; rw [HG.out]; rfl), List.length_take]; omega
      rw [cells_drop g hjn] at P0
      obtain ⟨x, hxe⟩ : ∃ x, l[j] = x := ⟨_, rfl⟩
      have hmem : x ∈ l := hxe ▸ List.getElem_mem hjn
      rw [hxe, HG.out x] at P0 htk
      have hz2 := congrArg cnts htk
      rw [cnts_app, hz] at hz2
      have hz3 : cnts (cells g (l.take (j + 1))) ≤ S := by
        rw [← HS.out, cells_split g l (j + 1), cnts_app]; omega
      rw [hz2] at hz3
      simp only [cnts] at hz3 hz2
      simp only [num_cnt] at hz2 hz3
      simp only [List.cons_append, List.nil_append] at P0
      have HTK := hide htk
      have HZ2 := hide hz2
      have HLEN := hide hlen
      have HZ := hide hz
      have k1 : (j : Int) < (N : Int) := by omega
      clear htk hz2 hlen hz hml HR hjn hv2 hxe
      obtain ⟨c0, f0, us0, P1⟩ := P0.num (p := j * 1) HLEN.out (y := (s + z) % 256) (by rw [mk1_u8, HZ.out])
      rw [Nat.mul_one] at c0 f0 P1
      try simp only [← Nat.add_assoc] at c0 f0 P1
      obtain ⟨W0, hW0⟩ : ∃ W, wr.setCell ⟨b, off + j, none⟩ (.int .u8 ((s + z) % 256)) = W := ⟨_, rfl⟩
      rw [hW0] at P1
      have HW0 := hide hW0
      clear hW0 P0
      have fin := MarkL.round (n := N) (by omega) rfl P1 (c := c)
      try simp only [List.append_assoc, List.cons_append, List.nil_append] at fin
      rw [← HTK.out] at fin
      have FIN := hide (And.intro (HZ2.out.trans (show _ = z + (1) by omega)) fin)
      clear fin P1 HTK HZ2 HLEN HZ
      go_wp2_with fail
      rw [HW0.out]
      go_roundw
      case rel => exact ⟨j + 1, z + (1), by omega, by go_num, by go_num, by omega, FIN⟩
      case measure => simp [intOf]; omega
    · obtain rfl : j = N := by omega
      obtain ⟨hz, hml⟩ := HR.out
      rw [List.take_of_length_le (by rw [HN.out]; omega)] at hz hml
      rw [List.drop_eq_nil_of_le (by rw [HN.out]; omega)] at hml
      rw [HS.out] at hz
      subst hz
      have FIN := hide (HST.out wr hml)
      clear hml HR
      go_wp2
      go_ret
      exact ⟨rfl, FIN.out⟩

theorem dmarkRaw (l : List Int) : MarkC Try.prog 23 (raw l) := by rw [raw_eq]; exact dmarkBytes l

set_option maxRecDepth 20000 in
set_option maxHeartbeats 1600000 in
theorem dmarkNames (l : List (List Int)) : MarkC Try.prog 34 (seqOf 1 (fun n => [raw n]) l) := by
  unfold seqOf
  intro v F s w h hnd hlv hs0 hs1
  have h0 := h
  obtain ⟨F2, hF, hm0⟩ := MarkL.start h hnd hlv s
  rw [Lie] at h
  obtain ⟨_, us, F3, ⟨A, c, hv, hc1, hc2, hul, _⟩, _, _⟩ := h
  obtain ⟨N, hN⟩ : ∃ N, l.length = N := ⟨_, rfl⟩
  obtain ⟨g, hg⟩ : ∃ g : (List Int) → List Cel, (fun n => [raw n]) = g := ⟨_, rfl⟩
  have hgx : ∀ x, g x = [raw x] := fun x => by subst hg; exact rfl
  rw [hg] at hm0 h0 hs1 ⊢
  rw [Cel.cnt] at hs1 ⊢
  rw [hN] at hv hc1 hm0 h0 ⊢
  obtain ⟨S, hS⟩ : ∃ S, cnts (cells g l) = S := ⟨_, rfl⟩
  rw [hS] at hs1 ⊢
  unfold maxLen at hc2
  have STOP := fun wr (hm : MarkL w v s F2 N (cells g l) [] wr) => MarkL.stop h0 hF hlv hm
  have HST := hide STOP
  have HS := hide hS
  have HN := hide hN
  have HG := hide hgx
  have HM0 := hide hm0
  subst hv
  clear STOP hS hN hg hgx hm0 h0 hul hnd hlv hF
  go_enter Try.func34, Try.ntmps34
  go_wp2
  go_loopw [1, 5] (fun q i wr => ∃ j z : Nat, j ≤ N ∧ i = .int .i64 j ∧ q = .int .i64 (s + z) ∧ z ≤ S ∧ Hid (cnts (cells g (l.take j)) = z ∧ MarkL w (.slice A N c) s F2 N (cells g (l.take j)) (cells g (l.drop j)) wr))
    (fun _ i _ => N - (intOf i).toNat)
  case atStart => exact ⟨0, 0, Nat.zero_le _, rfl, by go_num, Nat.zero_le _, hide ⟨by simp [cells, cnts], HM0.out⟩⟩
  case round =>
    obtain ⟨j, z, hj, rfl, rfl, hzS, HR⟩ := hrel
    by_cases hlt : j < N
    · obtain ⟨hz, hml⟩ := HR.out
      obtain ⟨b, off, c', us', hv, P0⟩ := hml.2 (by omega)
      injection hv with hv1 _ hv2
      subst hv1
      have hjn : j < l.length := by rw [HN.out]; exact hlt
      have htk := cells_take g hjn
      have hlen : j * 1 = (cells g (l.take j)).length := by rw [cells_len (sz := 1) (by intro x; rw [HG.out]; rfl), List.length_take]; omega
      rw [cells_drop g hjn] at P0
      obtain ⟨x, hxe⟩ : ∃ x, l[j] = x := ⟨_, rfl⟩
      have hmem : x ∈ l := hxe ▸ List.getElem_mem hjn
      rw [hxe, HG.out x] at P0 htk
      have hz2 := congrArg cnts htk
      rw [cnts_app, hz] at hz2
      have hz3 : cnts (cells g (l.take (j + 1))) ≤ S := by
        rw [← HS.out, cells_split g l (j + 1), cnts_app]; omega
      rw [hz2] at hz3
      simp only [cnts] at hz3 hz2
      obtain ⟨D0, hD0⟩ : ∃ D, (raw x).cnt = D := ⟨_, rfl⟩
      simp only [hD0] at hz2 hz3
      simp only [List.cons_append, List.nil_append] at P0
      have HTK := hide htk
      have HZ2 := hide hz2
      have HLEN := hide hlen
      have HZ := hide hz
      have HD0 := hide hD0
      have k1 : (j : Int) < (N : Int) := by omega
      clear htk hz2 hlen hz hml HR hjn hv2 hxe hD0
      obtain ⟨v0, F0, c0, l0, n0, lv0, fin0⟩ := P0.call (p := j * 1) HLEN.out (y := s + z) (by rw [HZ.out])
      rw [Nat.mul_one] at c0
      try simp only [← Nat.add_assoc] at c0
      have call0 := dmarkRaw x v0 F0 (s + z) wr l0 n0 lv0 (by omega) (by rw [HD0.out]; omega)
      rw [HD0.out] at call0
      have FN0 := hide fin0
      have CL0 := hide call0
      clear fin0 call0 P0 l0 n0 lv0
      go_wp2_with fail
      refine CL0.out.mono ?_
      rintro e W0 ⟨rfl, m0, lv0, b0⟩
      have P1 := FN0.out W0 m0 lv0 b0
      clear FN0 CL0 c0 m0 lv0 b0
      have fin := MarkL.round (n := N) (by omega) rfl P1 (c := c)
      try simp only [List.append_assoc, List.cons_append, List.nil_append] at fin
      rw [← HTK.out] at fin
      have FIN := hide (And.intro (HZ2.out.trans (show _ = z + (D0) by omega)) fin)
      clear fin P1 HTK HZ2 HLEN HZ
      go_wp2_with fail
      go_roundw
      case rel => exact ⟨j + 1, z + (D0), by omega, by go_num, by go_num, by omega, FIN⟩
      case measure => simp [intOf]; omega
    · obtain rfl : j = N := by omega
      obtain ⟨hz, hml⟩ := HR.out
      rw [List.take_of_length_le (by rw [HN.out]; omega)] at hz hml
      rw [List.drop_eq_nil_of_le (by rw [HN.out]; omega)] at hml
      rw [HS.out] at hz
      subst hz
      have FIN := hide (HST.out wr hml)
      clear hml HR
      go_wp2
      go_ret
      exact ⟨rfl, FIN.out⟩

set_option maxRecDepth 20000 in
set_option maxHeartbeats 1600000 in
theorem dheldBytes (l : List Int) : HeldC Try.prog 24 (seqOf 1 (fun x => [Cel.num .u8 x]) l) := by
  unfold seqOf
  intro v F s w h hs0 hs1
  obtain ⟨F2, hm0⟩ := HeldL.start h
  rw [Cel.mk] at h
  obtain ⟨A, c, hv, hc1, hc2⟩ := h.form
  obtain ⟨N, hN⟩ : ∃ N, l.length = N := ⟨_, rfl⟩
  obtain ⟨g, hg⟩ : ∃ g : Int → List Cel, (fun x => [Cel.num .u8 x]) = g := ⟨_, rfl⟩
  have hgx : ∀ x, g x = [.num .u8 x] := fun x => by subst hg; exact rfl
  rw [hg] at hm0 hs1 ⊢
  rw [Cel.cnt] at hs1 ⊢
  rw [hN] at hv hc1 hm0
  obtain ⟨S, hS⟩ : ∃ S, cnts (cells g l) = S := ⟨_, rfl⟩
  rw [hS] at hs1 ⊢
  unfold maxLen at hc2
  have HS := hide hS
  have HN := hide hN
  have HG := hide hgx
  have HM0 := hide hm0
  subst hv
  clear hS hN hg hgx hm0 h
  go_enter Try.func24, Try.ntmps24
  go_wp2
  go_loopw [1, 5] (fun q i wr => ∃ j z : Nat, j ≤ N ∧ i = .int .i64 j ∧ q = .int .i64 (s + z) ∧ z ≤ S ∧ Hid (cnts (cells g (l.take j)) = z ∧ HeldL w (.slice A N c) s F2 N (cells g (l.take j)) (cells g (l.drop j)) wr))
    (fun _ i _ => N - (intOf i).toNat)
  case atStart => exact ⟨0, 0, Nat.zero_le _, rfl, by go_num, Nat.zero_le _, hide ⟨by simp [cells, cnts], HM0.out⟩⟩
  case round =>
    obtain ⟨j, z, hj, rfl, rfl, hzS, HR⟩ := hrel
    by_cases hlt : j < N
    · obtain ⟨hz, hml⟩ := HR.out
      obtain ⟨b, off, c', us', hv, P0⟩ := hml.2 (by omega)
      injection hv with hv1 _ hv2
      subst hv1
      have hjn : j < l.length := by rw [HN.out]; exact hlt
      have htk := cells_take g hjn
      have hlen : j * 1 = (cells g (l.take j)).length := by rw [cells_len (sz := 1) (by intro x; rw [HG.out]; rfl), List.length_take]; omega
      rw [cells_drop g hjn] at P0
      obtain ⟨x, hxe⟩ : ∃ x, l[j] = x := ⟨_, rfl⟩
      have hmem : x ∈ l := hxe ▸ List.getElem_mem hjn
      rw [hxe, HG.out x] at P0 htk
      have hz2 := congrArg cnts htk
      rw [cnts_app, hz] at hz2
      have hz3 : cnts (cells g (l.take (j + 1))) ≤ S := by
        rw [← HS.out, cells_split g l (j + 1), cnts_app]; omega
      rw [hz2] at hz3
      simp only [cnts] at hz3 hz2
      simp only [num_cnt] at hz2 hz3
      simp only [List.cons_append, List.nil_append] at P0
      have HTK := hide htk
      have HZ2 := hide hz2
      have HLEN := hide hlen
      have HZ := hide hz
      have HB0 := hide hml.1
      have k1 : (j : Int) < (N : Int) := by omega
      clear htk hz2 hlen hz hml HR hjn hv2 hxe
      have c0 := P0.num (p := j * 1) HLEN.out (y := (s + z) % 256) (by rw [mk1_u8, HZ.out])
      rw [Nat.mul_one] at c0
      try simp only [← Nat.add_assoc] at c0
      have e0 : ((((s + z) % 256) : Int) != (s + z) % 256) = false := by simp
      have P1 := P0.next
      clear P0
      have fin := HeldL.round (n := N) (w := w) rfl P1 HB0.out (c := c)
      try simp only [List.append_assoc, List.cons_append, List.nil_append] at fin
      rw [← HTK.out] at fin
      have FIN := hide (And.intro (HZ2.out.trans (show _ = z + (1) by omega)) fin)
      clear fin P1 HTK HZ2 HLEN HZ
      go_wp2_with fail
      go_roundw
      case rel => exact ⟨j + 1, z + (1), by omega, by go_num, by go_num, by omega, FIN⟩
      case measure => simp [intOf]; omega
    · obtain rfl : j = N := by omega
      obtain ⟨hz, hml⟩ := HR.out
      rw [List.take_of_length_le (by rw [HN.out]; omega)] at hz
      rw [HS.out] at hz
      subst hz
      have FIN := hide hml.1
      clear hml HR
      go_wp2
      go_ret
      exact ⟨rfl, FIN.out⟩

theorem dheldRaw (l : List Int) : HeldC Try.prog 24 (raw l) := by rw [raw_eq]; exact dheldBytes l

set_option maxRecDepth 20000 in
set_option maxHeartbeats 1600000 in
theorem dheldNames (l : List (List Int)) : HeldC Try.prog 35 (seqOf 1 (fun n => [raw n]) l) := by
  unfold seqOf
  intro v F s w h hs0 hs1
  obtain ⟨F2, hm0⟩ := HeldL.start h
  rw [Cel.mk] at h
  obtain ⟨A, c, hv, hc1, hc2⟩ := h.form
  obtain ⟨N, hN⟩ : ∃ N, l.length = N := ⟨_, rfl⟩
  obtain ⟨g, hg⟩ : ∃ g : (List Int) → List Cel, (fun n => [raw n]) = g := ⟨_, rfl⟩
  have hgx : ∀ x, g x = [raw x] := fun x => by subst hg; exact rfl
  rw [hg] at hm0 hs1 ⊢
  rw [Cel.cnt] at hs1 ⊢
  rw [hN] at hv hc1 hm0
  obtain ⟨S, hS⟩ : ∃ S, cnts (cells g l) = S := ⟨_, rfl⟩
  rw [hS] at hs1 ⊢
  unfold maxLen at hc2
  have HS := hide hS
  have HN := hide hN
  have HG := hide hgx
  have HM0 := hide hm0
  subst hv
  clear hS hN hg hgx hm0 h
  go_enter Try.func35, Try.ntmps35
  go_wp2
  go_loopw [1, 5] (fun q i wr => ∃ j z : Nat, j ≤ N ∧ i = .int .i64 j ∧ q = .int .i64 (s + z) ∧ z ≤ S ∧ Hid (cnts (cells g (l.take j)) = z ∧ HeldL w (.slice A N c) s F2 N (cells g (l.take j)) (cells g (l.drop j)) wr))
    (fun _ i _ => N - (intOf i).toNat)
  case atStart => exact ⟨0, 0, Nat.zero_le _, rfl, by go_num, Nat.zero_le _, hide ⟨by simp [cells, cnts], HM0.out⟩⟩
  case round =>
    obtain ⟨j, z, hj, rfl, rfl, hzS, HR⟩ := hrel
    by_cases hlt : j < N
    · obtain ⟨hz, hml⟩ := HR.out
      obtain ⟨b, off, c', us', hv, P0⟩ := hml.2 (by omega)
      injection hv with hv1 _ hv2
      subst hv1
      have hjn : j < l.length := by rw [HN.out]; exact hlt
      have htk := cells_take g hjn
      have hlen : j * 1 = (cells g (l.take j)).length := by rw [cells_len (sz := 1) (by intro x; rw [HG.out]; rfl), List.length_take]; omega
      rw [cells_drop g hjn] at P0
      obtain ⟨x, hxe⟩ : ∃ x, l[j] = x := ⟨_, rfl⟩
      have hmem : x ∈ l := hxe ▸ List.getElem_mem hjn
      rw [hxe, HG.out x] at P0 htk
      have hz2 := congrArg cnts htk
      rw [cnts_app, hz] at hz2
      have hz3 : cnts (cells g (l.take (j + 1))) ≤ S := by
        rw [← HS.out, cells_split g l (j + 1), cnts_app]; omega
      rw [hz2] at hz3
      simp only [cnts] at hz3 hz2
      obtain ⟨D0, hD0⟩ : ∃ D, (raw x).cnt = D := ⟨_, rfl⟩
      simp only [hD0] at hz2 hz3
      simp only [List.cons_append, List.nil_append] at P0
      have HTK := hide htk
      have HZ2 := hide hz2
      have HLEN := hide hlen
      have HZ := hide hz
      have HB0 := hide hml.1
      have HD0 := hide hD0
      have k1 : (j : Int) < (N : Int) := by omega
      clear htk hz2 hlen hz hml HR hjn hv2 hxe hD0
      obtain ⟨v0, F0, c0, l0⟩ := P0.call (p := j * 1) HLEN.out (y := s + z) (by rw [HZ.out])
      rw [Nat.mul_one] at c0
      try simp only [← Nat.add_assoc] at c0
      have call0 := dheldRaw x v0 F0 (s + z) wr l0 (by omega) (by rw [HD0.out]; omega)
      rw [HD0.out] at call0
      have CL0 := hide call0
      have PN0 := P0.next
      clear call0 P0 l0
      have q0 : ¬ (s + z + (D0 : Int) < 0) := by omega
      go_wp2_with fail
      refine CL0.out.mono ?_
      rintro e W0 ⟨rfl, b0⟩
      have P1 := PN0.step b0
      have HB1 := hide (HB0.out.trans (b0.mono HB0.out.size))
      clear CL0 c0 b0 PN0
      have fin := HeldL.round (n := N) (w := w) rfl P1 HB1.out (c := c)
      try simp only [List.append_assoc, List.cons_append, List.nil_append] at fin
      rw [← HTK.out] at fin
      have FIN := hide (And.intro (HZ2.out.trans (show _ = z + (D0) by omega)) fin)
      clear fin P1 HTK HZ2 HLEN HZ
      go_wp2_with fail
      go_roundw
      case rel => exact ⟨j + 1, z + (D0), by omega, by go_num, by go_num, by omega, FIN⟩
      case measure => simp [intOf]; omega
    · obtain rfl : j = N := by omega
      obtain ⟨hz, hml⟩ := HR.out
      rw [List.take_of_length_le (by rw [HN.out]; omega)] at hz
      rw [HS.out] at hz
      subst hz
      have FIN := hide hml.1
      clear hml HR
      go_wp2
      go_ret
      exact ⟨rfl, FIN.out⟩

end Go.Proofs.Ytnloknhcdlannaa
