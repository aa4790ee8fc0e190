/-
  Parts of the proof: AscP, DMark, DTyp, Letter, NLie, NameOkI, ShaS, StrEq, Text.
-/
import Derived.Test.YtigklnokgmcifaaDoorMd6
import Derived.Test.YtigklnokgmcifaaDoorMd7

/-
  Rows of texts that are valid and ascending, in plain numbers.
-/
namespace Go.Proofs.YtigklnokgmcifaaDoor
open Go.RowKit
set_option linter.unusedVariables false

/-- The k-th text is valid, and comes behind the one before it. -/
def nameP (p : List Int → Bool) (ns : List (List Int)) (k : Nat) : Bool := p (ns.getD k []) && (decide (k = 0) || lessL (ns.getD (k - 1) []) (ns.getD k []))
def ascPF (p : List Int → Bool) (ns : List (List Int)) : Nat → Nat → Bool
  | 0, _ => true
  | f + 1, k => nameP p ns k && ascPF p ns f (k + 1)
def ascP (p : List Int → Bool) (ns : List (List Int)) : Bool := ascPF p ns ns.length 0
theorem ascPF_more {p : List Int → Bool} {ns : List (List Int)} {k : Nat} (h : k < ns.length) : ascPF p ns (ns.length - k) k = (nameP p ns k && ascPF p ns (ns.length - (k + 1)) (k + 1)) := by
  have e : ns.length - k = (ns.length - (k + 1)) + 1 := by omega
  rw [e, ascPF]
theorem below_eq {w w' : World} (h : w = w') : Below w.heap.size w w' := h ▸ Below.refl _ _
theorem ascP_at {p : List Int → Bool} {ns : List (List Int)} : ascP p ns = true ↔ ∀ m, m < ns.length → nameP p ns m = true := by
  have key : ∀ f k, f + k = ns.length → (ascPF p ns f k = true ↔ ∀ m, k ≤ m → m < ns.length → nameP p ns m = true) := by
    intro f
    induction f with
    | zero => intro k hk; rw [ascPF]; exact ⟨fun _ m h1 h2 => by omega, fun _ => rfl⟩
    | succ f ih =>
      intro k hk
      rw [ascPF, Bool.and_eq_true, ih (k + 1) (by omega)]
      exact ⟨fun ⟨h1, h2⟩ m h3 h4 => by
        by_cases h : m = k
        · subst h; exact h1
        · exact h2 m (by omega) h4, fun h => ⟨h k (Nat.le_refl _) (by omega), fun m h1 h2 => h m (by omega) h2⟩⟩
  rw [ascP, key ns.length 0 (by omega)]
  exact ⟨fun h m hm => h m (Nat.zero_le _) hm, fun h m _ hm => h m hm⟩


end Go.Proofs.YtigklnokgmcifaaDoor


/-
  Marks over rows of bytes, names, trees.
-/
namespace Go.Proofs.YtigklnokgmcifaaDoor
open Go.RowKit
set_option linter.unusedVariables false

set_option maxRecDepth 20000 in
set_option maxHeartbeats 1600000 in
theorem dmarkBytes (l : List Int) : MarkC Tryd.prog 18 (seqOf 1 (fun x => [Cel.num .u8 x]) l) := by
  unfold seqOf
  intro v F s w h hnd hlv hs0 hs1
  have h0 := h
  obtain ⟨F2, hF, hm0⟩ := MarkL.start h hnd hlv s
  rw [Lie] at h
  obtain ⟨_, us, F3, ⟨A, c, hv, hc1, hc2, hul, _⟩, _, _⟩ := h
  obtain ⟨N, hN⟩ : ∃ N, l.length = N := ⟨_, rfl⟩
  obtain ⟨g, hg⟩ : ∃ g : Int → List Cel, (fun x => [Cel.num .u8 x]) = g := ⟨_, rfl⟩
  have hgx : ∀ x, g x = [.num .u8 x] := fun x => by subst hg; exact rfl
  rw [hg] at hm0 h0 hs1 ⊢
  rw [Cel.cnt] at hs1 ⊢
  rw [hN] at hv hc1 hm0 h0 ⊢
  obtain ⟨S, hS⟩ : ∃ S, cnts (cells g l) = S := ⟨_, rfl⟩
  rw [hS] at hs1 ⊢
  unfold maxLen at hc2
  have STOP := fun wr (hm : MarkL w v s F2 N (cells g l) [] wr) => MarkL.stop h0 hF hlv hm
  have HST := hide STOP
  have HS := hide hS
  have HN := hide hN
  have HG := hide hgx
  have HM0 := hide hm0
  subst hv
  clear STOP hS hN hg hgx hm0 h0 hul hnd hlv hF
  go_enter Tryd.func18, Tryd.ntmps18
  go_wp2
  go_loopw [1, 5] (fun q i wr => ∃ j z : Nat, j ≤ N ∧ i = .int .i64 j ∧ q = .int .i64 (s + z) ∧ z ≤ S ∧ Hid (cnts (cells g (l.take j)) = z ∧ MarkL w (.slice A N c) s F2 N (cells g (l.take j)) (cells g (l.drop j)) wr))
    (fun _ i _ => N - (intOf i).toNat)
  case atStart => exact ⟨0, 0, Nat.zero_le _, rfl, by go_num, Nat.zero_le _, hide ⟨by simp [cells, cnts], HM0.out⟩⟩
  case round =>
    obtain ⟨j, z, hj, rfl, rfl, hzS, HR⟩ := hrel
    by_cases hlt : j < N
    · obtain ⟨hz, hml⟩ := HR.out
      obtain ⟨b, off, c', us', hv, P0⟩ := hml.2 (by omega)
      injection hv with hv1 _ hv2
      subst hv1
      have hjn : j < l.length := by rw [HN.out]; exact hlt
      have htk := cells_take g hjn
      have hlen : j * 1 = (cells g (l.take j)).length := by rw [cells_len (sz := 1) (by intro x; rw [HG.out]; rfl), List.length_take]; omega
      rw [cells_drop g hjn] at P0
      obtain ⟨x, hxe⟩ : ∃ x, l[j] = x := ⟨_, rfl⟩
      have hmem : x ∈ l := hxe ▸ List.getElem_mem hjn
      rw [hxe, HG.out x] at P0 htk
      have hz2 := congrArg cnts htk
      rw [cnts_app, hz] at hz2
      have hz3 : cnts (cells g (l.take (j + 1))) ≤ S := by
        rw [← HS.out, cells_split g l (j + 1), cnts_app]; omega
      rw [hz2] at hz3
      simp only [cnts] at hz3 hz2
      simp only [num_cnt] at hz2 hz3
      simp only [List.cons_append, List.nil_append] at P0
      have HTK := hide htk
      have HZ2 := hide hz2
      have HLEN := hide hlen
      have HZ := hide hz
      have k1 : (j : Int) < (N : Int) := by omega
      clear htk hz2 hlen hz hml HR hjn hv2 hxe
      obtain ⟨c0, f0, us0, P1⟩ := P0.num (p := j * 1) HLEN.out (y := (s + z) % 256) (by rw [mk1_u8, HZ.out])
      rw [Nat.mul_one] at c0 f0 P1
      try simp only [← Nat.add_assoc] at c0 f0 P1
      obtain ⟨W0, hW0⟩ : ∃ W, wr.setCell ⟨b, off + j, none⟩ (.int .u8 ((s + z) % 256)) = W := ⟨_, rfl⟩
      rw [hW0] at P1
      have HW0 := hide hW0
      clear hW0 P0
      have fin := MarkL.round (n := N) (by omega) rfl P1 (c := c)
      try simp only [List.append_assoc, List.cons_append, List.nil_append] at fin
      rw [← HTK.out] at fin
      have FIN := hide (And.intro (HZ2.out.trans (show _ = z + (1) by omega)) fin)
      clear fin P1 HTK HZ2 HLEN HZ
      go_wp2_with fail
      rw [HW0.out]
      go_roundw
      case rel => exact ⟨j + 1, z + (1), by omega, by go_num, by go_num, by omega, FIN⟩
      case measure => simp [intOf]; omega
    · obtain rfl : j = N := by omega
      obtain ⟨hz, hml⟩ := HR.out
      rw [List.take_of_length_le (by rw [HN.out]; omega)] at hz hml
      rw [List.drop_eq_nil_of_le (by rw [HN.out]; omega)] at hml
      rw [HS.out] at hz
      subst hz
      have FIN := hide (HST.out wr hml)
      clear hml HR
      go_wp2
      go_ret
      exact ⟨rfl, FIN.out⟩

theorem dmarkRaw (l : List Int) : MarkC Tryd.prog 18 (raw l) := by rw [raw_eq]; exact dmarkBytes l

set_option maxRecDepth 20000 in
set_option maxHeartbeats 1600000 in
theorem dmarkNames (l : List (List Int)) : MarkC Tryd.prog 54 (seqOf 1 (fun n => [raw n]) l) := by
  unfold seqOf
  intro v F s w h hnd hlv hs0 hs1
  have h0 := h
  obtain ⟨F2, hF, hm0⟩ := MarkL.start h hnd hlv s
  rw [Lie] at h
  obtain ⟨_, us, F3, ⟨A, c, hv, hc1, hc2, hul, _⟩, _, _⟩ := h
  obtain ⟨N, hN⟩ : ∃ N, l.length = N := ⟨_, rfl⟩
  obtain ⟨g, hg⟩ : ∃ g : (List Int) → List Cel, (fun n => [raw n]) = g := ⟨_, rfl⟩
  have hgx : ∀ x, g x = [raw x] := fun x => by subst hg; exact rfl
  rw [hg] at hm0 h0 hs1 ⊢
  rw [Cel.cnt] at hs1 ⊢
  rw [hN] at hv hc1 hm0 h0 ⊢
  obtain ⟨S, hS⟩ : ∃ S, cnts (cells g l) = S := ⟨_, rfl⟩
  rw [hS] at hs1 ⊢
  unfold maxLen at hc2
  have STOP := fun wr (hm : MarkL w v s F2 N (cells g l) [] wr) => MarkL.stop h0 hF hlv hm
  have HST := hide STOP
  have HS := hide hS
  have HN := hide hN
  have HG := hide hgx
  have HM0 := hide hm0
  subst hv
  clear STOP hS hN hg hgx hm0 h0 hul hnd hlv hF
  go_enter Tryd.func54, Tryd.ntmps54
  go_wp2
  go_loopw [1, 5] (fun q i wr => ∃ j z : Nat, j ≤ N ∧ i = .int .i64 j ∧ q = .int .i64 (s + z) ∧ z ≤ S ∧ Hid (cnts (cells g (l.take j)) = z ∧ MarkL w (.slice A N c) s F2 N (cells g (l.take j)) (cells g (l.drop j)) wr))
    (fun _ i _ => N - (intOf i).toNat)
  case atStart => exact ⟨0, 0, Nat.zero_le _, rfl, by go_num, Nat.zero_le _, hide ⟨by simp [cells, cnts], HM0.out⟩⟩
  case round =>
    obtain ⟨j, z, hj, rfl, rfl, hzS, HR⟩ := hrel
    by_cases hlt : j < N
    · obtain ⟨hz, hml⟩ := HR.out
      obtain ⟨b, off, c', us', hv, P0⟩ := hml.2 (by omega)
      injection hv with hv1 _ hv2
      subst hv1
      have hjn : j < l.length := by rw [HN.out]; exact hlt
      have htk := cells_take g hjn
      have hlen : j * 1 = (cells g (l.take j)).length := by rw [cells_len (sz := 1) (by intro x; rw [HG.out]; rfl), List.length_take]; omega
      rw [cells_drop g hjn] at P0
      obtain ⟨x, hxe⟩ : ∃ x, l[j] = x := ⟨_, rfl⟩
      have hmem : x ∈ l := hxe ▸ List.getElem_mem hjn
      rw [hxe, HG.out x] at P0 htk
      have hz2 := congrArg cnts htk
      rw [cnts_app, hz] at hz2
      have hz3 : cnts (cells g (l.take (j + 1))) ≤ S := by
        rw [← HS.out, cells_split g l (j + 1), cnts_app]; omega
      rw [hz2] at hz3
      simp only [cnts] at hz3 hz2
      obtain ⟨D0, hD0⟩ : ∃ D, (raw x).cnt = D := ⟨_, rfl⟩
      simp only [hD0] at hz2 hz3
      simp only [List.cons_append, List.nil_append] at P0
      have HTK := hide htk
      have HZ2 := hide hz2
      have HLEN := hide hlen
      have HZ := hide hz
      have HD0 := hide hD0
      have k1 : (j : Int) < (N : Int) := by omega
      clear htk hz2 hlen hz hml HR hjn hv2 hxe hD0
      obtain ⟨v0, F0, c0, l0, n0, lv0, fin0⟩ := P0.call (p := j * 1) HLEN.out (y := s + z) (by rw [HZ.out])
      rw [Nat.mul_one] at c0
      try simp only [← Nat.add_assoc] at c0
      have call0 := dmarkRaw x v0 F0 (s + z) wr l0 n0 lv0 (by omega) (by rw [HD0.out]; omega)
      rw [HD0.out] at call0
      have FN0 := hide fin0
      have CL0 := hide call0
      clear fin0 call0 P0 l0 n0 lv0
      go_wp2_with fail
      refine CL0.out.mono ?_
      rintro e W0 ⟨rfl, m0, lv0, b0⟩
      have P1 := FN0.out W0 m0 lv0 b0
      clear FN0 CL0 c0 m0 lv0 b0
      have fin := MarkL.round (n := N) (by omega) rfl P1 (c := c)
      try simp only [List.append_assoc, List.cons_append, List.nil_append] at fin
      rw [← HTK.out] at fin
      have FIN := hide (And.intro (HZ2.out.trans (show _ = z + (D0) by omega)) fin)
      clear fin P1 HTK HZ2 HLEN HZ
      go_wp2_with fail
      go_roundw
      case rel => exact ⟨j + 1, z + (D0), by omega, by go_num, by go_num, by omega, FIN⟩
      case measure => simp [intOf]; omega
    · obtain rfl : j = N := by omega
      obtain ⟨hz, hml⟩ := HR.out
      rw [List.take_of_length_le (by rw [HN.out]; omega)] at hz hml
      rw [List.drop_eq_nil_of_le (by rw [HN.out]; omega)] at hml
      rw [HS.out] at hz
      subst hz
      have FIN := hide (HST.out wr hml)
      clear hml HR
      go_wp2
      go_ret
      exact ⟨rfl, FIN.out⟩

set_option maxRecDepth 20000 in
set_option maxHeartbeats 1600000 in
theorem dmarkTrees (l : List T) (ih : ∀ x ∈ l, MarkC Tryd.prog 94 (seqOf 4 T.cells x.kids)) : MarkC Tryd.prog 94 (seqOf 4 T.cells l) := by
  unfold seqOf
  intro v F s w h hnd hlv hs0 hs1
  have h0 := h
  obtain ⟨F2, hF, hm0⟩ := MarkL.start h hnd hlv s
  rw [Lie] at h
  obtain ⟨_, us, F3, ⟨A, c, hv, hc1, hc2, hul, _⟩, _, _⟩ := h
  obtain ⟨N, hN⟩ : ∃ N, l.length = N := ⟨_, rfl⟩
  obtain ⟨g, hg⟩ : ∃ g : T → List Cel, T.cells = g := ⟨_, rfl⟩
  have hgx : ∀ x, g x = [.num .i64 x.kind, raw x.data, names x.names, seqOf 4 T.cells x.kids] := fun x => by subst hg; exact x.cells_eq
  rw [hg] at hm0 h0 hs1 ⊢
  rw [Cel.cnt] at hs1 ⊢
  rw [hN] at hv hc1 hm0 h0 ⊢
  obtain ⟨S, hS⟩ : ∃ S, cnts (cells g l) = S := ⟨_, rfl⟩
  rw [hS] at hs1 ⊢
  unfold maxLen at hc2
  have STOP := fun wr (hm : MarkL w v s F2 N (cells g l) [] wr) => MarkL.stop h0 hF hlv hm
  have HST := hide STOP
  have HS := hide hS
  have HN := hide hN
  have HG := hide hgx
  have HM0 := hide hm0
  have IH := hide ih
  subst hv
  clear STOP hS hN hg hgx hm0 h0 hul hnd hlv hF ih
  go_enter Tryd.func94, Tryd.ntmps94
  go_wp2
  go_loopw [1, 5] (fun q i wr => ∃ j z : Nat, j ≤ N ∧ i = .int .i64 j ∧ q = .int .i64 (s + z) ∧ z ≤ S ∧ Hid (cnts (cells g (l.take j)) = z ∧ MarkL w (.slice A N c) s F2 N (cells g (l.take j)) (cells g (l.drop j)) wr))
    (fun _ i _ => N - (intOf i).toNat)
  case atStart => exact ⟨0, 0, Nat.zero_le _, rfl, by go_num, Nat.zero_le _, hide ⟨by simp [cells, cnts], HM0.out⟩⟩
  case round =>
    obtain ⟨j, z, hj, rfl, rfl, hzS, HR⟩ := hrel
    by_cases hlt : j < N
    · obtain ⟨hz, hml⟩ := HR.out
      obtain ⟨b, off, c', us', hv, P0⟩ := hml.2 (by omega)
      injection hv with hv1 _ hv2
      subst hv1
      have hjn : j < l.length := by rw [HN.out]; exact hlt
      have htk := cells_take g hjn
      have hlen : j * 4 = (cells g (l.take j)).length := by rw [cells_len (sz := 4) (by intro x; rw [HG.out]; rfl), List.length_take]; omega
      rw [cells_drop g hjn] at P0
      obtain ⟨x, hxe⟩ : ∃ x, l[j] = x := ⟨_, rfl⟩
      have hmem : x ∈ l := hxe ▸ List.getElem_mem hjn
      rw [hxe, HG.out x] at P0 htk
      have hz2 := congrArg cnts htk
      rw [cnts_app, hz] at hz2
      have hz3 : cnts (cells g (l.take (j + 1))) ≤ S := by
        rw [← HS.out, cells_split g l (j + 1), cnts_app]; omega
      rw [hz2] at hz3
      simp only [cnts] at hz3 hz2
      obtain ⟨D1, hD1⟩ : ∃ D, (raw x.data).cnt = D := ⟨_, rfl⟩
      obtain ⟨D2, hD2⟩ : ∃ D, (names x.names).cnt = D := ⟨_, rfl⟩
      obtain ⟨D3, hD3⟩ : ∃ D, (seqOf 4 T.cells x.kids).cnt = D := ⟨_, rfl⟩
      simp only [hD1, hD2, hD3] at hz2 hz3
      simp only [num_cnt] at hz2 hz3
      simp only [List.cons_append, List.nil_append] at P0
      have HTK := hide htk
      have HZ2 := hide hz2
      have HLEN := hide hlen
      have HZ := hide hz
      have HD1 := hide hD1
      have HD2 := hide hD2
      have HD3 := hide hD3
      have k1 : (j : Int) < (N : Int) := by omega
      clear htk hz2 hlen hz hml HR hjn hv2 hxe hD1 hD2 hD3
      obtain ⟨c0, f0, us0, P1⟩ := P0.num (p := j * 4) HLEN.out (y := s + z) (by rw [mk1_i64, HZ.out])
      try simp only [← Nat.add_assoc] at c0 f0 P1
      obtain ⟨W0, hW0⟩ : ∃ W, wr.setCell ⟨b, off + j * 4, none⟩ (.int .i64 (s + z)) = W := ⟨_, rfl⟩
      rw [hW0] at P1
      have HW0 := hide hW0
      clear hW0 P0
      obtain ⟨v1, F1, c1, l1, n1, lv1, fin1⟩ := P1.call (p := j * 4 + 1) (by simp only [List.length_append, List.length_cons, List.length_nil]; have := HLEN.out; omega) (y := s + z + 1) (by simp only [cnts_app, cnts, num_cnt]; have := HZ.out; have := HZ.out; omega)
      try simp only [← Nat.add_assoc] at c1
      rw [← HW0.out, World.cell?_setCell_other _ _ _ _ (by intro e; injection e with _ e2; omega)] at c1
      have call1 := dmarkRaw x.data v1 F1 (s + z + 1) W0 l1 n1 lv1 (by omega) (by rw [HD1.out]; omega)
      rw [HD1.out] at call1
      have FN1 := hide fin1
      have CL1 := hide call1
      clear fin1 call1 P1 l1 n1 lv1
      go_wp2_with fail
      rw [HW0.out]
      refine CL1.out.mono ?_
      rintro e W1 ⟨rfl, m1, lv1, b1⟩
      have P2 := FN1.out W1 m1 lv1 b1
      clear FN1 CL1 c1 m1 lv1 b1 c0 f0 HW0
      obtain ⟨v2, F2, c2, l2, n2, lv2, fin2⟩ := P2.call (p := j * 4 + 2) (by simp only [List.length_append, List.length_cons, List.length_nil]; have := HLEN.out; omega) (y := s + z + 1 + D1) (by simp only [cnts_app, cnts, num_cnt, HD1.out]; have := HZ.out; have := HZ.out; omega)
      try simp only [← Nat.add_assoc] at c2
      have call2 := dmarkNames x.names v2 F2 (s + z + 1 + D1) W1 l2 n2 lv2 (by omega) (by rw [HD2.out]; omega)
      rw [HD2.out] at call2
      have FN2 := hide fin2
      have CL2 := hide call2
      clear fin2 call2 P2 l2 n2 lv2
      go_wp2_with fail
      refine CL2.out.mono ?_
      rintro e W2 ⟨rfl, m2, lv2, b2⟩
      have P3 := FN2.out W2 m2 lv2 b2
      clear FN2 CL2 c2 m2 lv2 b2
      obtain ⟨v3, F3, c3, l3, n3, lv3, fin3⟩ := P3.call (p := j * 4 + 3) (by simp only [List.length_append, List.length_cons, List.length_nil]; have := HLEN.out; omega) (y := s + z + 1 + D1 + D2) (by simp only [cnts_app, cnts, num_cnt, HD1.out, HD2.out]; have := HZ.out; have := HZ.out; omega)
      try simp only [← Nat.add_assoc] at c3
      have call3 := IH.out x hmem v3 F3 (s + z + 1 + D1 + D2) W2 l3 n3 lv3 (by omega) (by rw [HD3.out]; omega)
      rw [HD3.out] at call3
      have FN3 := hide fin3
      have CL3 := hide call3
      clear fin3 call3 P3 l3 n3 lv3
      go_wp2_with fail
      refine CL3.out.mono ?_
      rintro e W3 ⟨rfl, m3, lv3, b3⟩
      have P4 := FN3.out W3 m3 lv3 b3
      clear FN3 CL3 c3 m3 lv3 b3
      have fin := MarkL.round (n := N) (by omega) rfl P4 (c := c)
      try simp only [List.append_assoc, List.cons_append, List.nil_append] at fin
      rw [← HTK.out] at fin
      have FIN := hide (And.intro (HZ2.out.trans (show _ = z + (1 + D1 + D2 + D3) by omega)) fin)
      clear fin P4 HTK HZ2 HLEN HZ
      go_wp2_with fail
      go_roundw
      case rel => exact ⟨j + 1, z + (1 + D1 + D2 + D3), by omega, by go_num, by go_num, by omega, FIN⟩
      case measure => simp [intOf]; omega
    · obtain rfl : j = N := by omega
      obtain ⟨hz, hml⟩ := HR.out
      rw [List.take_of_length_le (by rw [HN.out]; omega)] at hz hml
      rw [List.drop_eq_nil_of_le (by rw [HN.out]; omega)] at hml
      rw [HS.out] at hz
      subst hz
      have FIN := hide (HST.out wr hml)
      clear hml HR
      go_wp2
      go_ret
      exact ⟨rfl, FIN.out⟩

theorem dmarkK : ∀ t : T, MarkC Tryd.prog 94 (seqOf 4 T.cells t.kids) := by
  intro t
  induction t using T.ind with
  | h k d ns ks ih => exact dmarkTrees ks ih
theorem dmarkTreeL (l : List T) : MarkC Tryd.prog 94 (seqOf 4 T.cells l) := dmarkTrees l fun t _ => dmarkK t

set_option maxRecDepth 20000 in
set_option maxHeartbeats 1600000 in
theorem dheldBytes (l : List Int) : HeldC Tryd.prog 19 (seqOf 1 (fun x => [Cel.num .u8 x]) l) := by
  unfold seqOf
  intro v F s w h hs0 hs1
  obtain ⟨F2, hm0⟩ := HeldL.start h
  rw [Cel.mk] at h
  obtain ⟨A, c, hv, hc1, hc2⟩ := h.form
  obtain ⟨N, hN⟩ : ∃ N, l.length = N := ⟨_, rfl⟩
  obtain ⟨g, hg⟩ : ∃ g : Int → List Cel, (fun x => [Cel.num .u8 x]) = g := ⟨_, rfl⟩
  have hgx : ∀ x, g x = [.num .u8 x] := fun x => by subst hg; exact rfl
  rw [hg] at hm0 hs1 ⊢
  rw [Cel.cnt] at hs1 ⊢
  rw [hN] at hv hc1 hm0
  obtain ⟨S, hS⟩ : ∃ S, cnts (cells g l) = S := ⟨_, rfl⟩
  rw [hS] at hs1 ⊢
  unfold maxLen at hc2
  have HS := hide hS
  have HN := hide hN
  have HG := hide hgx
  have HM0 := hide hm0
  subst hv
  clear hS hN hg hgx hm0 h
  go_enter Tryd.func19, Tryd.ntmps19
  go_wp2
  go_loopw [1, 5] (fun q i wr => ∃ j z : Nat, j ≤ N ∧ i = .int .i64 j ∧ q = .int .i64 (s + z) ∧ z ≤ S ∧ Hid (cnts (cells g (l.take j)) = z ∧ HeldL w (.slice A N c) s F2 N (cells g (l.take j)) (cells g (l.drop j)) wr))
    (fun _ i _ => N - (intOf i).toNat)
  case atStart => exact ⟨0, 0, Nat.zero_le _, rfl, by go_num, Nat.zero_le _, hide ⟨by simp [cells, cnts], HM0.out⟩⟩
  case round =>
    obtain ⟨j, z, hj, rfl, rfl, hzS, HR⟩ := hrel
    by_cases hlt : j < N
    · obtain ⟨hz, hml⟩ := HR.out
      obtain ⟨b, off, c', us', hv, P0⟩ := hml.2 (by omega)
      injection hv with hv1 _ hv2
      subst hv1
      have hjn : j < l.length := by rw [HN.out]; exact hlt
      have htk := cells_take g hjn
      have hlen : j * 1 = (cells g (l.take j)).length := by rw [cells_len (sz := 1) (by intro x; rw [HG.out]; rfl), List.length_take]; omega
      rw [cells_drop g hjn] at P0
      obtain ⟨x, hxe⟩ : ∃ x, l[j] = x := ⟨_, rfl⟩
      have hmem : x ∈ l := hxe ▸ List.getElem_mem hjn
      rw [hxe, HG.out x] at P0 htk
      have hz2 := congrArg cnts htk
      rw [cnts_app, hz] at hz2
      have hz3 : cnts (cells g (l.take (j + 1))) ≤ S := by
        rw [← HS.out, cells_split g l (j + 1), cnts_app]; omega
      rw [hz2] at hz3
      simp only [cnts] at hz3 hz2
      simp only [num_cnt] at hz2 hz3
      simp only [List.cons_append, List.nil_append] at P0
      have HTK := hide htk
      have HZ2 := hide hz2
      have HLEN := hide hlen
      have HZ := hide hz
      have HB0 := hide hml.1
      have k1 : (j : Int) < (N : Int) := by omega
      clear htk hz2 hlen hz hml HR hjn hv2 hxe
      have c0 := P0.num (p := j * 1) HLEN.out (y := (s + z) % 256) (by rw [mk1_u8, HZ.out])
      rw [Nat.mul_one] at c0
      try simp only [← Nat.add_assoc] at c0
      have e0 : ((((s + z) % 256) : Int) != (s + z) % 256) = false := by simp
      have P1 := P0.next
      clear P0
      have fin := HeldL.round (n := N) (w := w) rfl P1 HB0.out (c := c)
      try simp only [List.append_assoc, List.cons_append, List.nil_append] at fin
      rw [← HTK.out] at fin
      have FIN := hide (And.intro (HZ2.out.trans (show _ = z + (1) by omega)) fin)
      clear fin P1 HTK HZ2 HLEN HZ
      go_wp2_with fail
      go_roundw
      case rel => exact ⟨j + 1, z + (1), by omega, by go_num, by go_num, by omega, FIN⟩
      case measure => simp [intOf]; omega
    · obtain rfl : j = N := by omega
      obtain ⟨hz, hml⟩ := HR.out
      rw [List.take_of_length_le (by rw [HN.out]; omega)] at hz
      rw [HS.out] at hz
      subst hz
      have FIN := hide hml.1
      clear hml HR
      go_wp2
      go_ret
      exact ⟨rfl, FIN.out⟩

theorem dheldRaw (l : List Int) : HeldC Tryd.prog 19 (raw l) := by rw [raw_eq]; exact dheldBytes l

end Go.Proofs.YtigklnokgmcifaaDoor


/-
  The data of the laws.
-/
namespace Go.Proofs.YtigklnokgmcifaaDoor
open Go.RowKit
set_option linter.unusedVariables false

theorem T.cells_len (t : T) : t.cells.length = 4 := by rw [t.cells_eq]; rfl
theorem T.cells_top (x : T) : x.cells = (.num .i64 x.kind :: (raw x.data :: (Go.Proofs.YtigklnokgmcifaaDoor.names x.names :: (seqOf 4 T.cells x.kids :: [])))) := x.cells_eq
structure DReal where
  drv : List Int
  out : List Int
  path : List Int
def DReal.cells (x : DReal) : List Cel := (raw x.drv :: (raw x.out :: (raw x.path :: [])))
theorem DReal.cells_top (x : DReal) : x.cells = (raw x.drv :: (raw x.out :: (raw x.path :: []))) := rfl
theorem DReal.cells_eq (x : DReal) : x.cells = [raw x.drv, raw x.out, raw x.path] := by rw [DReal.cells] <;> rfl
theorem DReal.cells_len (x : DReal) : x.cells.length = 3 := by rw [x.cells_eq]; rfl
structure DOp where
  code : Int
  out : Int
  name : List Int
  text : List Int
  arg : Int
def DOp.cells (x : DOp) : List Cel := (.num .i64 x.code :: (.num .i64 x.out :: (raw x.name :: (raw x.text :: (.num .i64 x.arg :: [])))))
theorem DOp.cells_top (x : DOp) : x.cells = (.num .i64 x.code :: (.num .i64 x.out :: (raw x.name :: (raw x.text :: (.num .i64 x.arg :: []))))) := rfl
theorem DOp.cells_eq (x : DOp) : x.cells = [.num .i64 x.code, .num .i64 x.out, raw x.name, raw x.text, .num .i64 x.arg] := by rw [DOp.cells] <;> rfl
theorem DOp.cells_len (x : DOp) : x.cells.length = 5 := by rw [x.cells_eq]; rfl
structure DIn where
  drv : List Int
  out : List Int
def DIn.cells (x : DIn) : List Cel := (raw x.drv :: (raw x.out :: []))
theorem DIn.cells_top (x : DIn) : x.cells = (raw x.drv :: (raw x.out :: [])) := rfl
theorem DIn.cells_eq (x : DIn) : x.cells = [raw x.drv, raw x.out] := by rw [DIn.cells] <;> rfl
theorem DIn.cells_len (x : DIn) : x.cells.length = 2 := by rw [x.cells_eq]; rfl
structure DObj where
  name : List Int
  kind : Int
  tree : T
  refs : List (List Int)
  frm : List Int
  out : List Int
def DObj.cells (x : DObj) : List Cel := (raw x.name :: (.num .i64 x.kind :: (x.tree.cells ++ (Go.Proofs.YtigklnokgmcifaaDoor.names x.refs :: (raw x.frm :: (raw x.out :: []))))))
theorem DObj.cells_top (x : DObj) : x.cells = (raw x.name :: (.num .i64 x.kind :: (x.tree.cells ++ (Go.Proofs.YtigklnokgmcifaaDoor.names x.refs :: (raw x.frm :: (raw x.out :: [])))))) := rfl
theorem DObj.cells_eq (x : DObj) : x.cells = [raw x.name, .num .i64 x.kind, .num .i64 x.tree.kind, raw x.tree.data, Go.Proofs.YtigklnokgmcifaaDoor.names x.tree.names, seqOf 4 T.cells x.tree.kids, Go.Proofs.YtigklnokgmcifaaDoor.names x.refs, raw x.frm, raw x.out] := by rw [DObj.cells, T.cells_eq] <;> rfl
theorem DObj.cells_len (x : DObj) : x.cells.length = 9 := by rw [x.cells_eq]; rfl
structure DDrv where
  srcs : List (List Int)
  ins : List DIn
  outs : List (List Int)
  ops : List DOp
def DDrv.cells (x : DDrv) : List Cel := (Go.Proofs.YtigklnokgmcifaaDoor.names x.srcs :: (seqOf 2 DIn.cells x.ins :: (Go.Proofs.YtigklnokgmcifaaDoor.names x.outs :: (seqOf 5 DOp.cells x.ops :: []))))
theorem DDrv.cells_top (x : DDrv) : x.cells = (Go.Proofs.YtigklnokgmcifaaDoor.names x.srcs :: (seqOf 2 DIn.cells x.ins :: (Go.Proofs.YtigklnokgmcifaaDoor.names x.outs :: (seqOf 5 DOp.cells x.ops :: [])))) := rfl
theorem DDrv.cells_eq (x : DDrv) : x.cells = [Go.Proofs.YtigklnokgmcifaaDoor.names x.srcs, seqOf 2 DIn.cells x.ins, Go.Proofs.YtigklnokgmcifaaDoor.names x.outs, seqOf 5 DOp.cells x.ops] := by rw [DDrv.cells] <;> rfl
theorem DDrv.cells_len (x : DDrv) : x.cells.length = 4 := by rw [x.cells_eq]; rfl
structure DStore where
  objs : List DObj
  roots : List (List Int)
  reals : List DReal
def DStore.cells (x : DStore) : List Cel := (seqOf 9 DObj.cells x.objs :: (Go.Proofs.YtigklnokgmcifaaDoor.names x.roots :: (seqOf 3 DReal.cells x.reals :: [])))
theorem DStore.cells_top (x : DStore) : x.cells = (seqOf 9 DObj.cells x.objs :: (Go.Proofs.YtigklnokgmcifaaDoor.names x.roots :: (seqOf 3 DReal.cells x.reals :: []))) := rfl
theorem DStore.cells_eq (x : DStore) : x.cells = [seqOf 9 DObj.cells x.objs, Go.Proofs.YtigklnokgmcifaaDoor.names x.roots, seqOf 3 DReal.cells x.reals] := by rw [DStore.cells] <;> rfl
theorem DStore.cells_len (x : DStore) : x.cells.length = 3 := by rw [x.cells_eq]; rfl
structure DJob where
  d : DDrv
  name : List Int
  pc : Int
  args : List (List Int)
  outs : List T
def DJob.cells (x : DJob) : List Cel := (x.d.cells ++ (raw x.name :: (.num .i64 x.pc :: (Go.Proofs.YtigklnokgmcifaaDoor.names x.args :: (seqOf 4 T.cells x.outs :: [])))))
theorem DJob.cells_top (x : DJob) : x.cells = (x.d.cells ++ (raw x.name :: (.num .i64 x.pc :: (Go.Proofs.YtigklnokgmcifaaDoor.names x.args :: (seqOf 4 T.cells x.outs :: []))))) := rfl
theorem DJob.cells_eq (x : DJob) : x.cells = [Go.Proofs.YtigklnokgmcifaaDoor.names x.d.srcs, seqOf 2 DIn.cells x.d.ins, Go.Proofs.YtigklnokgmcifaaDoor.names x.d.outs, seqOf 5 DOp.cells x.d.ops, raw x.name, .num .i64 x.pc, Go.Proofs.YtigklnokgmcifaaDoor.names x.args, seqOf 4 T.cells x.outs] := by rw [DJob.cells, DDrv.cells_eq] <;> rfl
theorem DJob.cells_len (x : DJob) : x.cells.length = 8 := by rw [x.cells_eq]; rfl
structure DGoal where
  drv : List Int
  state : Int
  err : Int
  begun : Bool
  job : DJob
  need : List (List Int)
def DGoal.cells (x : DGoal) : List Cel := (raw x.drv :: (.num .i64 x.state :: (.num .i64 x.err :: (.flag x.begun :: (x.job.cells ++ (Go.Proofs.YtigklnokgmcifaaDoor.names x.need :: []))))))
theorem DGoal.cells_top (x : DGoal) : x.cells = (raw x.drv :: (.num .i64 x.state :: (.num .i64 x.err :: (.flag x.begun :: (x.job.cells ++ (Go.Proofs.YtigklnokgmcifaaDoor.names x.need :: [])))))) := rfl
theorem DGoal.cells_eq (x : DGoal) : x.cells = [raw x.drv, .num .i64 x.state, .num .i64 x.err, .flag x.begun, Go.Proofs.YtigklnokgmcifaaDoor.names x.job.d.srcs, seqOf 2 DIn.cells x.job.d.ins, Go.Proofs.YtigklnokgmcifaaDoor.names x.job.d.outs, seqOf 5 DOp.cells x.job.d.ops, raw x.job.name, .num .i64 x.job.pc, Go.Proofs.YtigklnokgmcifaaDoor.names x.job.args, seqOf 4 T.cells x.job.outs, Go.Proofs.YtigklnokgmcifaaDoor.names x.need] := by rw [DGoal.cells, DJob.cells_eq] <;> rfl
theorem DGoal.cells_len (x : DGoal) : x.cells.length = 13 := by rw [x.cells_eq]; rfl
structure DEngine where
  store : DStore
  goals : List DGoal
def DEngine.cells (x : DEngine) : List Cel := (x.store.cells ++ (seqOf 13 DGoal.cells x.goals :: []))
theorem DEngine.cells_top (x : DEngine) : x.cells = (x.store.cells ++ (seqOf 13 DGoal.cells x.goals :: [])) := rfl
theorem DEngine.cells_eq (x : DEngine) : x.cells = [seqOf 9 DObj.cells x.store.objs, Go.Proofs.YtigklnokgmcifaaDoor.names x.store.roots, seqOf 3 DReal.cells x.store.reals, seqOf 13 DGoal.cells x.goals] := by rw [DEngine.cells, DStore.cells_eq] <;> rfl
theorem DEngine.cells_len (x : DEngine) : x.cells.length = 4 := by rw [x.cells_eq]; rfl
structure DReg where
  kind : Int
  obj : DObj
  real : DReal
  name : List Int
def DReg.cells (x : DReg) : List Cel := (.num .i64 x.kind :: (x.obj.cells ++ (x.real.cells ++ (raw x.name :: []))))
theorem DReg.cells_top (x : DReg) : x.cells = (.num .i64 x.kind :: (x.obj.cells ++ (x.real.cells ++ (raw x.name :: [])))) := rfl
theorem DReg.cells_eq (x : DReg) : x.cells = [.num .i64 x.kind, raw x.obj.name, .num .i64 x.obj.kind, .num .i64 x.obj.tree.kind, raw x.obj.tree.data, Go.Proofs.YtigklnokgmcifaaDoor.names x.obj.tree.names, seqOf 4 T.cells x.obj.tree.kids, Go.Proofs.YtigklnokgmcifaaDoor.names x.obj.refs, raw x.obj.frm, raw x.obj.out, raw x.real.drv, raw x.real.out, raw x.real.path, raw x.name] := by rw [DReg.cells, DObj.cells_eq, DReal.cells_eq] <;> rfl
theorem DReg.cells_len (x : DReg) : x.cells.length = 14 := by rw [x.cells_eq]; rfl
structure DJournal where
  base : DStore
  regs : List DReg
  safe : Int
def DJournal.cells (x : DJournal) : List Cel := (x.base.cells ++ (seqOf 14 DReg.cells x.regs :: (.num .i64 x.safe :: [])))
theorem DJournal.cells_top (x : DJournal) : x.cells = (x.base.cells ++ (seqOf 14 DReg.cells x.regs :: (.num .i64 x.safe :: []))) := rfl
theorem DJournal.cells_eq (x : DJournal) : x.cells = [seqOf 9 DObj.cells x.base.objs, Go.Proofs.YtigklnokgmcifaaDoor.names x.base.roots, seqOf 3 DReal.cells x.base.reals, seqOf 14 DReg.cells x.regs, .num .i64 x.safe] := by rw [DJournal.cells, DStore.cells_eq] <;> rfl
theorem DJournal.cells_len (x : DJournal) : x.cells.length = 5 := by rw [x.cells_eq]; rfl
structure DCmd where
  kind : Int
  text : List Int
  tree : T
  name : List Int
  out : List Int
  picks : List Int
  keep : Int
def DCmd.cells (x : DCmd) : List Cel := (.num .i64 x.kind :: (raw x.text :: (x.tree.cells ++ (raw x.name :: (raw x.out :: (ints x.picks :: (.num .i64 x.keep :: [])))))))
theorem DCmd.cells_top (x : DCmd) : x.cells = (.num .i64 x.kind :: (raw x.text :: (x.tree.cells ++ (raw x.name :: (raw x.out :: (ints x.picks :: (.num .i64 x.keep :: []))))))) := rfl
theorem DCmd.cells_eq (x : DCmd) : x.cells = [.num .i64 x.kind, raw x.text, .num .i64 x.tree.kind, raw x.tree.data, Go.Proofs.YtigklnokgmcifaaDoor.names x.tree.names, seqOf 4 T.cells x.tree.kids, raw x.name, raw x.out, ints x.picks, .num .i64 x.keep] := by rw [DCmd.cells, T.cells_eq] <;> rfl
theorem DCmd.cells_len (x : DCmd) : x.cells.length = 10 := by rw [x.cells_eq]; rfl
structure DTold where
  code : Int
  name : List Int
def DTold.cells (x : DTold) : List Cel := (.num .i64 x.code :: (raw x.name :: []))
theorem DTold.cells_top (x : DTold) : x.cells = (.num .i64 x.code :: (raw x.name :: [])) := rfl
theorem DTold.cells_eq (x : DTold) : x.cells = [.num .i64 x.code, raw x.name] := by rw [DTold.cells] <;> rfl
theorem DTold.cells_len (x : DTold) : x.cells.length = 2 := by rw [x.cells_eq]; rfl

end Go.Proofs.YtigklnokgmcifaaDoor


/-
  The model's place of a character.
-/
namespace Go.Proofs.YtigklnokgmcifaaDoor
open Go.RowKit

set_option maxRecDepth 20000 in
set_option maxHeartbeats 800000 in
theorem letterIdx (x : Int) (h0 : 0 ≤ x) (h1 : x ≤ 255) (w : World) :
    Calls Tryd.prog 62 #[.int .u8 x] w fun e w' => e = .returned (.int .i64 (lidx x)) ∧ w = w' := by
  obtain ⟨R, hR⟩ : ∃ R, lidx x = R := ⟨_, rfl⟩
  rw [hR]
  have HR := hide hR
  clear hR
  go_enter Tryd.func62, Tryd.ntmps62
  go_wp2
  go_loop [3] (fun i => ∃ k : Nat, k ≤ 32 ∧ i = .int .i64 k ∧ Hid (lfrom x (32 - k) k = R)) (fun i => 32 - (intOf i).toNat)
  case atStart => exact ⟨0, by omega, rfl, HR⟩
  case round =>
    obtain ⟨k, hk, rfl, hx⟩ := hrel
    by_cases hlt : k < 32
    · have hl := ltr_at k hlt
      have hstep : lfrom x (32 - k) k = if ltr k = x then (k : Int) else lfrom x (32 - (k + 1)) (k + 1) := by
        have e : 32 - k = (32 - (k + 1)) + 1 := by omega
        rw [e]
        rfl
      have HS := hide hstep
      clear hstep
      obtain ⟨z, hz⟩ : ∃ z, ltr k = z := ⟨_, rfl⟩
      rw [hz] at hl
      have HZ := hide hz
      clear hz
      by_cases he : z = x
      · subst he
        go_wp2
        go_ret
        refine ⟨ret_int ?_, rfl⟩
        rw [← hx.out, HS.out, if_pos HZ.out]
      · have hne : (z == x) = false := by simpa using he
        have HE := hide he
        clear he
        go_wp2
        go_round
        case rel => exact ⟨k + 1, by omega, by go_num, hide (by rw [← hx.out, HS.out, HZ.out, if_neg HE.out])⟩
        case measure => simp [intOf]; omega
    · obtain rfl : k = 32 := by omega
      go_wp2
      go_ret
      exact ⟨ret_int hx.out, rfl⟩

end Go.Proofs.YtigklnokgmcifaaDoor


/-
  Names and texts as cells, read as before.
-/
namespace Go.Proofs.YtigklnokgmcifaaDoor
open Go.RowKit
set_option linter.unusedVariables false

theorem In1.rd {w : World} {v : Value} {l : List Int} (h : In1 w (raw l) v) : Rd w v (bs l) := h.elim fun F h => h.rd.1
theorem Rd.in1 {w : World} {v : Value} {l : List Int} (h : Rd w v (bs l)) : In1 w (raw l) v := ⟨_, h.lie⟩
theorem Lies.raws {w : World} : ∀ {ns : List (List Int)} {us : List Value} {F : List Nat}, Lies w (cells (fun n => [raw n]) ns) us F → us.length = ns.length ∧ ∀ i u, us[i]? = some u → Rd w u (bs (ns.getD i []))
  | [], us, F, h => by
    rw [cells, Lies] at h
    rw [h.1]
    exact ⟨rfl, fun i u hu => by simp at hu⟩
  | n :: ns, us, F, h => by
    rw [cells, List.singleton_append, Lies] at h
    obtain ⟨u, r, F1, F2, rfl, rfl, h1, h2⟩ := h
    have ih := h2.raws
    refine ⟨by simp [ih.1], fun i x hx => ?_⟩
    cases i with
    | zero =>
      obtain rfl : u = x := by simpa using hx
      exact h1.rd.1
    | succ i => simpa using ih.2 i x (by simpa using hx)
theorem Lie.rdN {w : World} {v : Value} {ns : List (List Int)} {F : List Nat} (h : Lie w (names ns) v F) : RdN w v ns := by
  rw [names, Lie] at h
  obtain ⟨_, us, F2, h1, h2, rfl⟩ := h
  exact ⟨us, h1.rd, h2.raws.1, h2.raws.2⟩
theorem In1.rdN {w : World} {v : Value} {ns : List (List Int)} (h : In1 w (names ns) v) : RdN w v ns := h.elim fun F h => h.rdN

theorem raw_bulkT (l : List Int) : (raw l).bulk = l.length := by
  rw [raw, Cel.bulk]
  have : bulks (l.map (Cel.num .u8)) = 0 := by
    induction l with
    | nil => rfl
    | cons x l ih => rw [List.map_cons, bulks, ih]; rfl
  omega
theorem names_bulk (ns : List (List Int)) : (names ns).bulk = ns.length + sumLen ns := by
  rw [names, Cel.bulk]
  have : bulks (cells (fun n => [raw n]) ns) = sumLen ns := by
    induction ns with
    | nil => rfl
    | cons n r ih => rw [cells, List.singleton_append, bulks, ih, raw_bulkT, sumLen]
  omega
end Go.Proofs.YtigklnokgmcifaaDoor


/-
  NameOk: the program's walk.
-/
namespace Go.Proofs.YtigklnokgmcifaaDoor
open Go.RowKit

set_option maxRecDepth 20000 in
set_option maxHeartbeats 1600000 in
theorem implNameOk (l : List Int) (hB : Byt l) (v : Value) (w : World) (hv : Rd w v (bs l)) (hl : l.length ≤ 1099511627776) :
    Calls Tryd.prog 38 #[v] w fun e w' => e = .returned (.bool (nameOk l)) ∧ Below w.heap.size w w' := by
  have hcv := conv_rd (P := Tryd.prog) Tryd.underlying22 Tryd.underlying5 Tryd.underlying9 hv
  obtain ⟨A, c, rfl, hc1, hc2, hrd⟩ := hv
  rw [bs_length] at *
  unfold maxLen at hc2
  obtain ⟨R, hR⟩ : ∃ R, nameOk l = R := ⟨_, rfl⟩
  rw [hR]
  clear hrd
  by_cases h16 : l.length = 16
  · have HR : Hid (okFrom l 0 = R) := by
      rw [← hR, nameOk, h16]
      exact hide rfl
    have hne : ((l.length : Int) != 16) = false := by rw [h16]; rfl
    have hsz := strOfNums_size l
    rw [h16] at hsz
    have hget : ∀ k (h : k < (strOfNums l).size), (((strOfNums l)[k]'h).toNat : Int) = l.getD k 0 := fun k h => str_get hB h
    have hhi : l.length ≤ 16 ∧ 16 ≤ l.length := by omega
    obtain ⟨hlo, hhi⟩ := hhi
    clear hR h16
    generalize strOfNums l = s at *
    have HSZ := hide hsz
    have HG := hide hget
    clear hsz hget
    go_enter Tryd.func38, Tryd.ntmps38
    go_wp2
    clear hcv
    go_loopw [] (fun wr => ∃ k : Nat, k ≤ 16 ∧ wr.heap[w.heap.size]? = some (.stringIter s k) ∧ Hid (okFrom l k = R) ∧ Below w.heap.size w wr) (fun wr => 16 - wr.iterPos w.heap.size)
    case atStart => exact ⟨0, by omega, by simpa using World.iter_heap w s 0, HR, (Below.refl _ w).alloc (Nat.le_refl _) _⟩
    case round =>
      obtain ⟨k, hk, hit, hx, hbw⟩ := hrel
      have hwz : w.heap.size < wr.heap.size := (Array.getElem?_eq_some_iff.1 hit).1
      by_cases hp : k < 16
      · have hps : k < s.size := by rw [HSZ.out]; exact hp
        have hgk := HG.out k hps
        have hm := okFrom_more (l := l) (k := k) (by omega)
        obtain ⟨y0, y1⟩ := hB.at_ k
        generalize l.getD k 0 = y at *
        by_cases h128 : y < 128
        · have hnx : ∀ ty, (Instr.next (.pointer (some ⟨w.heap.size, 0, none⟩)) true ty).run Tryd.prog wr = _ := fun ty => Lib.run_next_ascii_at wr w.heap.size s k ty hit hps (by omega)
          rw [hgk] at hnx
          have hit2 := Lib.iterAt_heap wr w.heap.size s k (k + 1) hit
          have hbw2 := Lib.below_iterAt hbw (k := w.heap.size) (by omega) s (k + 1)
          have hwz2 : (wr.iterAt w.heap.size s (k + 1)).heap.size = wr.heap.size := Lib.iterAt_size _ _ _ _
          have hm0 : wr.iterPos w.heap.size = k := iterPos_of hit
          generalize wr.iterAt w.heap.size s (k + 1) = w2 at *
          have hlt2 : w.heap.size < w2.heap.size := by omega
          have HM0 := hide hm0
          have HI := hide hit2
          have HB := hide hbw2
          have HM := hide hm
          clear hm0 hit hit2 hbw hbw2 hgk hm hwz2
          by_cases hz0 : 0 ≤ lidx y
          · have hd : decide (0 ≤ lidx y) = true := by simpa using hz0
            have HD := hide hd
            clear hd hz0
            go_wp2_with fail
            refine (containsLow y y0 h128 w2).mono ?_
            rintro e w3 ⟨rfl, b3⟩
            rw [HD.out]
            have hI3 : w3.heap[w.heap.size]? = some (.stringIter s (k + 1)) := (b3.block _ hlt2).trans HI.out
            have HI3 := hide hI3
            have hm3 : w3.iterPos w.heap.size = k + 1 := iterPos_of hI3
            have HM3 := hide hm3
            clear hI3 hm3
            go_wp2_with fail
            go_roundw
            case rel => exact ⟨k + 1, by omega, HI3.out, hide (by rw [← hx.out, HM.out, HD.out, Bool.true_and]), HB.out.trans (b3.mono (by omega))⟩
            case measure => rw [HM3.out, HM0.out]; omega
          · have hd : decide (0 ≤ lidx y) = false := by simpa using hz0
            have HD := hide hd
            clear hd hz0
            go_wp2_with fail
            refine (containsLow y y0 h128 w2).mono ?_
            rintro e w3 ⟨rfl, b3⟩
            rw [HD.out]
            go_wp2_with fail
            go_ret
            exact ⟨ret_bool (by rw [← hx.out, HM.out, HD.out, Bool.false_and]), HB.out.trans (b3.mono (by omega))⟩
        · have hnx : ∀ ty, (Instr.next (.pointer (some ⟨w.heap.size, 0, none⟩)) true ty).run Tryd.prog wr = _ := fun ty => Lib.run_next_any_at wr w.heap.size s k ty hit hps
          have hd1 := decode_high s k hps (by omega)
          have hd2 := decode_le s k
          have hbw2 := Lib.below_iterAt hbw (k := w.heap.size) (by omega) s (k + (Utf8.decode s k).2)
          have hwz2 : (wr.iterAt w.heap.size s (k + (Utf8.decode s k).2)).heap.size = wr.heap.size := Lib.iterAt_size _ _ _ _
          generalize wr.iterAt w.heap.size s (k + (Utf8.decode s k).2) = w2 at *
          generalize (Utf8.decode s k).1 = q at *
          have hlt2 : w.heap.size < w2.heap.size := by omega
          have hd : decide (0 ≤ lidx y) = false := by
            have := (lidx_facts y0 y1).2.2.1 (by omega)
            rw [this]
            rfl
          have HD := hide hd
          have HB := hide hbw2
          have HM := hide hm
          obtain ⟨hq1, -⟩ := hd1
          clear hd hit hbw hbw2 hgk hm hwz2
          go_wp2_with fail
          refine (containsHigh q (by omega) (by omega) w2).mono ?_
          rintro e w3 ⟨rfl, b3⟩
          go_wp2_with fail
          go_ret
          exact ⟨ret_bool (by rw [← hx.out, HM.out, HD.out, Bool.false_and]), HB.out.trans (b3.mono (by omega))⟩
      · obtain rfl : k = 16 := by omega
        have hnx : ∀ ty, (Instr.next (.pointer (some ⟨w.heap.size, 0, none⟩)) true ty).run Tryd.prog wr = _ := fun ty => Lib.run_next_end_at wr w.heap.size s 16 ty hit (by rw [HSZ.out]; omega)
        have hfin : true = R := by rw [← hx.out, okFrom_end (by omega)]
        have HF := hide hfin
        have HB := hide hbw
        clear hfin hit hbw
        go_wp2
        go_ret
        exact ⟨ret_bool (by rw [← HF.out]), HB.out⟩
  · have HR : Hid (false = R) := by
      rw [← hR, nameOk]
      exact hide (by simp [h16])
    have hne : ((l.length : Int) != 16) = true := by simpa using (by omega : ¬ (l.length : Int) = 16)
    clear hR h16 hcv
    go_enter Tryd.func38, Tryd.ntmps38
    go_wp2
    go_ret
    exact ⟨ret_bool (by rw [← HR.out]), Below.refl _ _⟩

end Go.Proofs.YtigklnokgmcifaaDoor


/-
  A hash in plain numbers: padding, blocks one behind the other, the bytes of the result.
-/
namespace Go.Proofs.YtigklnokgmcifaaDoor
open Go.RowKit

def zpad (n : Nat) : Nat := (119 - n % 64) % 64
/-- The first j of the eight bytes of the length in bits. -/
def lenB (n : Nat) : Nat → List Int
  | 0 => []
  | j + 1 => lenB n j ++ [(n : Int) * 8 / 2 ^ (8 * (7 - j)) % 256]
theorem lenB_len (n j : Nat) : (lenB n j).length = j := by
  induction j with
  | zero => rfl
  | succ j ih => rw [lenB, List.length_append, ih]; rfl
theorem lenB_byt (n j : Nat) : Byt (lenB n j) := by
  induction j with
  | zero => exact Byt.nil
  | succ j ih => exact ih.app (Byt.one (by omega) (by omega))
def zeros (n : Nat) : List Int := List.replicate n 0
theorem zeros_len (n : Nat) : (zeros n).length = n := List.length_replicate
theorem zeros_byt (n : Nat) : Byt (zeros n) := fun x hx => by
  obtain rfl := (List.mem_replicate.1 hx).2
  omega
theorem zeros_next (n : Nat) : zeros n ++ [0] = zeros (n + 1) := (List.replicate_succ' (n := n) (a := (0 : Int))).symm
/-- What stands behind a message of n bytes. -/
def tailB (n : Nat) : List Int := 128 :: zeros (zpad n) ++ lenB n 8
theorem tailB_len (n : Nat) : (tailB n).length = 1 + zpad n + 8 := by
  simp [tailB, zeros_len, lenB_len]
  omega
theorem tailB_byt (n : Nat) : Byt (tailB n) := by
  have h : Byt ([128] ++ zeros (zpad n) ++ lenB n 8) := ((Byt.one (by omega) (by omega)).app (zeros_byt _)).app (lenB_byt _ _)
  exact h
def msg (b : List Int) : List Int := b ++ tailB b.length
theorem msg_byt {b : List Int} (h : Byt b) : Byt (msg b) := h.app (tailB_byt _)
theorem pad_mod (n : Nat) : (n + (tailB n).length) % 64 = 0 := by
  rw [tailB_len, zpad]
  omega
theorem pad_le (n : Nat) : (tailB n).length ≤ 72 := by
  rw [tailB_len, zpad]
  omega
theorem msg_len (b : List Int) : (msg b).length = b.length + (tailB b.length).length := by rw [msg, List.length_append]

/-- One block. -/
def plus8 (s r : S8) : S8 := ⟨(s.a + r.a) % 4294967296, (s.b + r.b) % 4294967296, (s.c + r.c) % 4294967296, (s.d + r.d) % 4294967296, (s.e + r.e) % 4294967296, (s.f + r.f) % 4294967296, (s.g + r.g) % 4294967296, (s.h + r.h) % 4294967296⟩
theorem plus8_list (s r : S8) : (plus8 s r).list = add8 s.list r.list := rfl
theorem plus8_ok (s r : S8) : (plus8 s r).Ok := by
  refine ⟨?_, ?_, ?_, ?_, ?_, ?_, ?_, ?_⟩ <;> simp only [plus8] <;> omega
def blockS (s : S8) (b : List Int) : S8 := plus8 s (rnds (wseq b 48) 64 s)
theorem blockS_list (s : S8) (b : List Int) : (blockS s b).list = add8 s.list (rnds (wseq b 48) 64 s).list := by
  rw [blockS]
  exact plus8_list _ _
theorem blockS_ok (s : S8) (b : List Int) : (blockS s b).Ok := by
  rw [blockS]
  exact plus8_ok _ _
def blk64 (l : List Int) (i : Nat) : List Int := (l.drop (64 * i)).take 64
theorem blk_len {l : List Int} {i : Nat} (h : 64 * (i + 1) ≤ l.length) : (blk64 l i).length = 64 := by
  rw [blk64, List.length_take, List.length_drop]
  omega
theorem blk_byt {l : List Int} (h : Byt l) (i : Nat) : Byt (blk64 l i) := (h.drop _).take _
theorem blk_get {l : List Int} {i j : Nat} (hj : j < 64) : (blk64 l i).getD j 0 = l.getD (64 * i + j) 0 := by
  simp [blk64, List.getD, hj, List.getElem?_drop]
/-- All blocks. -/
def hashN (s : S8) (l : List Int) : Nat → S8
  | 0 => s
  | n + 1 => blockS (hashN s l n) (blk64 l n)
theorem hashN_ok {s : S8} (hs : s.Ok) (l : List Int) (n : Nat) : (hashN s l n).Ok := by
  cases n with
  | zero => exact hs
  | succ n => exact blockS_ok _ _
theorem blk_left {a b : List Int} {i : Nat} (h : 64 * (i + 1) ≤ a.length) : blk64 (a ++ b) i = blk64 a i := by
  rw [blk64, blk64, List.drop_append_of_le_length (by omega), List.take_append_of_le_length (by rw [List.length_drop]; omega)]
theorem blk_right {a b : List Int} {n i : Nat} (h : a.length = 64 * n) : blk64 (a ++ b) (n + i) = blk64 b i := by
  rw [blk64, blk64, List.drop_append, List.drop_eq_nil_of_le (by omega), List.nil_append, h]
  congr 2
  omega
theorem hashN_left {s : S8} {a b : List Int} {n : Nat} (h : 64 * n ≤ a.length) : hashN s (a ++ b) n = hashN s a n := by
  induction n with
  | zero => rfl
  | succ n ih => rw [hashN, hashN, ih (by omega), blk_left h]
theorem hashN_both {s : S8} {a b : List Int} {n : Nat} (h : a.length = 64 * n) (m : Nat) : hashN s (a ++ b) (n + m) = hashN (hashN s a n) b m := by
  induction m with
  | zero => exact hashN_left (by omega)
  | succ m ih => rw [← Nat.add_assoc, hashN, hashN, ih, blk_right h]

def S0 : S8 := ⟨0x6a09e667, 0xbb67ae85, 0x3c6ef372, 0xa54ff53a, 0x510e527f, 0x9b05688c, 0x1f83d9ab, 0x5be0cd19⟩
theorem S0_ok : S0.Ok := by
  refine ⟨?_, ?_, ?_, ?_, ?_, ?_, ?_, ?_⟩ <;> simp only [S0] <;> omega

/-- The bytes of words. -/
def outB : List Int → List Int
  | [] => []
  | x :: r => [x / 16777216 % 256, x / 65536 % 256, x / 256 % 256, x % 256] ++ outB r
theorem outB_len (l : List Int) : (outB l).length = 4 * l.length := by
  induction l with
  | nil => rfl
  | cons x r ih =>
    rw [outB, List.length_append, ih]
    simp
    omega
theorem outB_byt (l : List Int) : Byt (outB l) := by
  induction l with
  | nil => exact Byt.nil
  | cons x r ih =>
    rw [outB]
    refine Byt.app ?_ ih
    intro y hy
    simp only [List.mem_cons, List.not_mem_nil, or_false] at hy
    omega
theorem outB_app (a b : List Int) : outB (a ++ b) = outB a ++ outB b := by
  induction a with
  | nil => rfl
  | cons x r ih => rw [List.cons_append, outB, ih, outB, List.append_assoc]
theorem outB_next {l : List Int} {k : Nat} (h : k < l.length) :
    outB (l.take (k + 1)) = outB (l.take k) ++ [l.getD k 0 / 16777216 % 256, l.getD k 0 / 65536 % 256, l.getD k 0 / 256 % 256, l.getD k 0 % 256] := by
  rw [List.take_succ_eq_append_getElem h, outB_app]
  simp [outB, List.getD, h]

/-- What the hash of b is. -/
def shaL (b : List Int) : List Int := outB (hashN S0 (msg b) ((msg b).length / 64)).list
theorem shaL_byt (b : List Int) : Byt (shaL b) := outB_byt _
theorem shaL_len (b : List Int) : (shaL b).length = 32 := by
  rw [shaL, outB_len]
  rfl
/-- In two parts: whole blocks, and the rest with what stands behind it. -/
theorem shaL_parts (b : List Int) : shaL b = outB (hashN (hashN S0 (b.take (64 * (b.length / 64))) (b.length / 64)) (b.drop (64 * (b.length / 64)) ++ tailB b.length) ((b.drop (64 * (b.length / 64)) ++ tailB b.length).length / 64)).list := by
  have e : msg b = b.take (64 * (b.length / 64)) ++ (b.drop (64 * (b.length / 64)) ++ tailB b.length) := by
    rw [msg, ← List.append_assoc, List.take_append_drop]
  have h1 : (b.take (64 * (b.length / 64))).length = 64 * (b.length / 64) := by rw [List.length_take]; omega
  have h2 : (msg b).length / 64 = b.length / 64 + (b.drop (64 * (b.length / 64)) ++ tailB b.length).length / 64 := by
    have := pad_mod b.length
    rw [msg_len, List.length_append, List.length_drop]
    omega
  rw [shaL, h2, e, hashN_both h1]
theorem zpad_rest (b : List Int) : zpad (b.drop (64 * (b.length / 64))).length = zpad b.length := by
  rw [zpad, zpad, List.length_drop]
  congr 2
  omega
end Go.Proofs.YtigklnokgmcifaaDoor


/-
  Strings of bytes are alike if the bytes are.
-/
namespace Go.Proofs.YtigklnokgmcifaaDoor
open Go.RowKit

/-- Strings of bytes are alike if the bytes are. -/
theorem str_eq {a b : List Int} (ha : Byt a) (hb : Byt b) : ((strOfNums a).toList == (strOfNums b).toList) = decide (a = b) := by
  by_cases h : a = b
  · subst h; simp
  · rw [decide_eq_false h]
    simp only [beq_eq_false_iff_ne]
    exact fun e => h (str_inj ha hb e)
end Go.Proofs.YtigklnokgmcifaaDoor


/-
  PutText: the model and the program write the same bytes.
-/
namespace Go.Proofs.YtigklnokgmcifaaDoor
open Go.RowKit

/-- What PutText answers. -/
def putText (l t : List Int) : List Int := if 400 < t.length then l else putNum l t.length ++ t
theorem putText_byt {l t : List Int} (h : Byt l) (ht : Byt t) : Byt (putText l t) := by
  unfold putText
  split
  · exact h
  · exact (putNum_byt h _).app ht
theorem putNum_len (l : List Int) (n : Int) : (putNum l n).length ≤ l.length + 5 := by
  unfold putNum
  split
  · omega
  · rw [List.length_append]
    have := vint_len n.toNat (by omega)
    omega
theorem putText_room (l t : List Int) (hl : l.length ≤ 1048576) : (putText l t).length ≤ 1099511627776 := by
  unfold putText
  split
  · omega
  · rw [List.length_append]
    have := putNum_len l t.length
    omega


set_option maxRecDepth 20000 in
set_option maxHeartbeats 800000 in
theorem specPutText (l : List Int) (v : Value) (t : List Int) (u : Value) (w : World) (hv : Rd w v (bs l)) (hu : Rd w u (bs t)) (hl : l.length ≤ 1099511627776) :
    Calls Tryd.prog 64 #[v, u] w fun e w' => ∃ v', e = .returned v' ∧ Own 5 w.heap.size w'.heap.size w' v' (bs (putText l t)) ∧ Below w.heap.size w w' := by
  obtain ⟨i0, hi0, hz0, hz1, hz2⟩ := info_parts u8info
  obtain ⟨A, c, hV, hc1, hc2, _⟩ := id hv
  obtain ⟨A', c', hU, hc1', hc2', _⟩ := id hu
  rw [bs_length] at *
  unfold maxLen at hc2 hc2'
  subst hV hU
  have HV := hide hv
  have HU := hide hu
  clear hv hu
  by_cases h4 : 400 < t.length
  · rw [putText, if_pos h4]
    go_enter Tryd.func64, Tryd.ntmps64
    go_wp2_with (at_builtin; refine wpList_app _ rfl (.tmp 8) (.tmp 9) _ rfl w.heap.size 5 i0 _ 1 Tryd.underlying22 hi0 hz0 hz1 hz2 rfl _ 0 [] rfl (own_lit0 w _) _ (bs l) rfl (HV.out.alloc _) (bs_one l) (by rw [bs_length]; simp only [maxLen]; omega) (by rw [bs_length]; omega) (by simp) ?_; intro v1 w1 own1 gr1)
    go_ret
    exact ⟨_, rfl, Own.of (own_cells own1 (List.nil_append _)) (by simp), below_app0 gr1⟩
  · rw [putText, if_neg h4]
    obtain ⟨P, hP⟩ : ∃ P, putNum l t.length = P := ⟨_, rfl⟩
    have hroom : P.length ≤ l.length + 5 := by rw [← hP]; exact putNum_len l t.length
    rw [hP]
    have HP := hide hP
    clear hP
    go_enter Tryd.func64, Tryd.ntmps64
    go_wp2_with fail
    refine (specPutNum l _ t.length w HV.out (by omega)).mono ?_
    rintro e w1 ⟨v1, rfl, o1, b1⟩
    rw [HP.out] at o1
    go_wp2_with (at_builtin; refine wpList_app _ rfl (.tmp 14) (.tmp 15) _ rfl w.heap.size 5 i0 _ 1 Tryd.underlying22 hi0 hz0 hz1 hz2 rfl _ _ _ rfl o1.1 _ (bs t) rfl (HU.out.below b1) (bs_one t) (by rw [bs_length, bs_length]; simp only [maxLen]; omega) (by rw [bs_length, bs_length]; omega) b1.size ?_; intro v2 w2 own2 gr2)
    go_ret
    exact ⟨_, rfl, Own.of (own_cells own2 (bs_append _ _).symm) (by simp [bs]), Below.row b1 b1.size o1.1 gr2⟩

set_option maxRecDepth 20000 in
set_option maxHeartbeats 800000 in
theorem appendText (l : List Int) (v : Value) (t : List Int) (u : Value) (lo : Nat) (w w0 : World) (hv : w.ownsRow lo 5 1 v l.length (bs l)) (hu : Rd w0 u (bs t)) (h0 : w0.heap.size = lo) (hb : Below lo w0 w) (hl : l.length ≤ 1099511627776) :
    Calls Tryd.prog 105 #[v, u] w fun e w' => ∃ v', e = .returned v' ∧ w'.ownsRow lo 5 1 v' (putText l t).length (bs (putText l t)) ∧ Below lo w w' := by
  obtain ⟨i0, hi0, hz0, hz1, hz2⟩ := info_parts u8info
  obtain ⟨A', c', hU, hc1', hc2', _⟩ := id hu
  rw [bs_length] at *
  unfold maxLen at hc2'
  subst hU
  have HV := hide hv
  have HU := hide hu
  clear hv hu
  have hlo : lo ≤ w.heap.size := by rw [← h0]; exact hb.size
  have HB := hide hb
  have H0 := hide h0
  clear hb h0
  by_cases h4 : 400 < t.length
  · rw [putText, if_pos h4]
    go_enter Tryd.func105, Tryd.ntmps105
    go_wp2
    go_ret
    exact ⟨_, rfl, HV.out, Below.refl _ _⟩
  · rw [putText, if_neg h4]
    obtain ⟨P, hP⟩ : ∃ P, putNum l t.length = P := ⟨_, rfl⟩
    have hroom : P.length ≤ l.length + 5 := by rw [← hP]; exact putNum_len l t.length
    rw [hP]
    have HP := hide hP
    clear hP
    go_enter Tryd.func105, Tryd.ntmps105
    go_wp2_with fail
    refine (appendNum l _ t.length lo w HV.out hlo (by omega)).mono ?_
    rintro e w1 ⟨v1, rfl, o1, b1⟩
    rw [HP.out] at o1
    have hu1 : Rd w1 (.slice A' t.length c') (bs t) := HU.out.below (by rw [H0.out]; exact HB.out.trans b1)
    have hlo1 : lo ≤ w1.heap.size := Nat.le_trans hlo b1.size
    go_wp2_with (at_builtin; refine wpList_app _ rfl (.tmp 12) (.tmp 13) _ rfl lo 5 i0 _ 1 Tryd.underlying22 hi0 hz0 hz1 hz2 rfl _ _ _ rfl o1 _ (bs t) rfl hu1 (bs_one t) (by rw [bs_length]; simp only [maxLen]; omega) (by rw [bs_length]; omega) hlo1 ?_; intro v2 w2 own2 gr2)
    go_ret
    exact ⟨_, rfl, own_len (own_cells own2 (bs_append _ _).symm) (by simp [bs]), Below.row b1 hlo1 o1 gr2⟩

end Go.Proofs.YtigklnokgmcifaaDoor
