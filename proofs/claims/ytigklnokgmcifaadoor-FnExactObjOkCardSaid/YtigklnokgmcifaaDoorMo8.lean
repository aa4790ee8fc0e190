/-
  Parts of the proof: AscP, CopyT, DMark, DTyp, Info, Letter, MentP, NLie, NameOkI, ShaS, StrEq, Text, TreeTo.
-/
import Derived.Test.YtigklnokgmcifaaDoorMo6
import Derived.Test.YtigklnokgmcifaaDoorMo7
import Derived.Test.YtigklnokgmcifaaDoorMo4
import Derived.Test.YtigklnokgmcifaaDoorRows
import Derived.Lib.IndexMore
import Derived.Lib.IndexBytes
import Derived.Shelf.Bytes.SlIndexWhole

/-
  Rows of texts that are valid and ascending, in plain numbers.
-/
namespace Go.Proofs.YtigklnokgmcifaaDoor
open Go.RowKit
set_option linter.unusedVariables false

/-- The k-th text is valid, and comes behind the one before it. -/
def nameP (p : List Int → Bool) (ns : List (List Int)) (k : Nat) : Bool := p (ns.getD k []) && (decide (k = 0) || lessL (ns.getD (k - 1) []) (ns.getD k []))
def ascPF (p : List Int → Bool) (ns : List (List Int)) : Nat → Nat → Bool
  | 0, _ => true
  | f + 1, k => nameP p ns k && ascPF p ns f (k + 1)
def ascP (p : List Int → Bool) (ns : List (List Int)) : Bool := ascPF p ns ns.length 0
theorem ascPF_more {p : List Int → Bool} {ns : List (List Int)} {k : Nat} (h : k < ns.length) : ascPF p ns (ns.length - k) k = (nameP p ns k && ascPF p ns (ns.length - (k + 1)) (k + 1)) := by
  have e : ns.length - k = (ns.length - (k + 1)) + 1 := by omega
  rw [e, ascPF]
theorem below_eq {w w' : World} (h : w = w') : Below w.heap.size w w' := h ▸ Below.refl _ _
theorem ascP_at {p : List Int → Bool} {ns : List (List Int)} : ascP p ns = true ↔ ∀ m, m < ns.length → nameP p ns m = true := by
  have key : ∀ f k, f + k = ns.length → (ascPF p ns f k = true ↔ ∀ m, k ≤ m → m < ns.length → nameP p ns m = true) := by
    intro f
    induction f with
    | zero => intro k hk; rw [ascPF]; exact ⟨fun _ m h1 h2 => by omega, fun _ => rfl⟩
    | succ f ih =>
      intro k hk
      rw [ascPF, Bool.and_eq_true, ih (k + 1) (by omega)]
      exact ⟨fun ⟨h1, h2⟩ m h3 h4 => by
        by_cases h : m = k
        · subst h; exact h1
        · exact h2 m (by omega) h4, fun h => ⟨h k (Nat.le_refl _) (by omega), fun m h1 h2 => h m (by omega) h2⟩⟩
  rw [ascP, key ns.length 0 (by omega)]
  exact ⟨fun h m hm => h m (Nat.zero_le _) hm, fun h m _ hm => h m hm⟩


end Go.Proofs.YtigklnokgmcifaaDoor


/-
  copyTexts.
-/
namespace Go.Proofs.YtigklnokgmcifaaDoor
open Go.RowKit
set_option linter.unusedVariables false

theorem names_len {w : World} {v : Value} {ns : List (List Int)} (hn : RdN w v ns) : ∃ (A : Option Addr) (c : Nat), v = .slice A ns.length c ∧ ns.length ≤ c ∧ c ≤ maxLen := by
  obtain ⟨vs, ⟨A, c, e, h1, h2, _⟩, h4, _⟩ := hn
  rw [h4] at e h1
  exact ⟨A, c, e, h1, h2⟩
/-- The row of slices grows by one: what the append wants and gives. -/
theorem names_room {lo : Nat} {w : World} {v : Value} {ns : List (List Int)} {us : List Value} (h : OwnU lo w v ns us) : us.length = ns.length := h.len

end Go.Proofs.YtigklnokgmcifaaDoor


/-
  Marks over rows of bytes, names, trees.
-/
namespace Go.Proofs.YtigklnokgmcifaaDoor
open Go.RowKit
set_option linter.unusedVariables false

set_option maxRecDepth 20000 in
set_option maxHeartbeats 1600000 in
theorem dmarkBytes (l : List Int) : MarkC Tryd.prog 18 (seqOf 1 (fun x => [Cel.num .u8 x]) l) := by
  unfold seqOf
  intro v F s w h hnd hlv hs0 hs1
  have h0 := h
  obtain ⟨F2, hF, hm0⟩ := MarkL.start h hnd hlv s
  rw [Lie] at h
  obtain ⟨_, us, F3, ⟨A, c, hv, hc1, hc2, hul, _⟩, _, _⟩ := h
  obtain ⟨N, hN⟩ : ∃ N, l.length = N := ⟨_, rfl⟩
  obtain ⟨g, hg⟩ : ∃ g : Int → List Cel, (fun x => [Cel.num .u8 x]) = g := ⟨_, rfl⟩
  have hgx : ∀ x, g x = [.num .u8 x] := fun x => by subst hg; exact rfl
  rw [hg] at hm0 h0 hs1 ⊢
  rw [Cel.cnt] at hs1 ⊢
  rw [hN] at hv hc1 hm0 h0 ⊢
  obtain ⟨S, hS⟩ : ∃ S, cnts (cells g l) = S := ⟨_, rfl⟩
  rw [hS] at hs1 ⊢
  unfold maxLen at hc2
  have STOP := fun wr (hm : MarkL w v s F2 N (cells g l) [] wr) => MarkL.stop h0 hF hlv hm
  have HST := hide STOP
  have HS := hide hS
  have HN := hide hN
  have HG := hide hgx
  have HM0 := hide hm0
  subst hv
  clear STOP hS hN hg hgx hm0 h0 hul hnd hlv hF
  go_enter Tryd.func18, Tryd.ntmps18
  go_wp2
  go_loopw [1, 5] (fun q i wr => ∃ j z : Nat, j ≤ N ∧ i = .int .i64 j ∧ q = .int .i64 (s + z) ∧ z ≤ S ∧ Hid (cnts (cells g (l.take j)) = z ∧ MarkL w (.slice A N c) s F2 N (cells g (l.take j)) (cells g (l.drop j)) wr))
    (fun _ i _ => N - (intOf i).toNat)
  case atStart => exact ⟨0, 0, Nat.zero_le _, rfl, by go_num, Nat.zero_le _, hide ⟨by simp [cells, cnts], HM0.out⟩⟩
  case round =>
    obtain ⟨j, z, hj, rfl, rfl, hzS, HR⟩ := hrel
    by_cases hlt : j < N
    · obtain ⟨hz, hml⟩ := HR.out
      obtain ⟨b, off, c', us', hv, P0⟩ := hml.2 (by omega)
      injection hv with hv1 _ hv2
      subst hv1
      have hjn : j < l.length := by rw [HN.out]; exact hlt
      have htk := cells_take g hjn
      have hlen : j * 1 = (cells g (l.take j)).length := by rw [cells_len (sz := 1) (by intro x; rw [HG.out]; rfl), List.length_take]; omega
      rw [cells_drop g hjn] at P0
      obtain ⟨x, hxe⟩ : ∃ x, l[j] = x := ⟨_, rfl⟩
      have hmem : x ∈ l := hxe ▸ List.getElem_mem hjn
      rw [hxe, HG.out x] at P0 htk
      have hz2 := congrArg cnts htk
      rw [cnts_app, hz] at hz2
      have hz3 : cnts (cells g (l.take (j + 1))) ≤ S := by
        rw [← HS.out, cells_split g l (j + 1), cnts_app]; omega
      rw [hz2] at hz3
      simp only [cnts] at hz3 hz2
      simp only [num_cnt] at hz2 hz3
      simp only [List.cons_append, List.nil_append] at P0
      have HTK := hide htk
      have HZ2 := hide hz2
      have HLEN := hide hlen
      have HZ := hide hz
      have k1 : (j : Int) < (N : Int) := by omega
      clear htk hz2 hlen hz hml HR hjn hv2 hxe
      obtain ⟨c0, f0, us0, P1⟩ := P0.num (p := j * 1) HLEN.out (y := (s + z) % 256) (by rw [mk1_u8, HZ.out])
      rw [Nat.mul_one] at c0 f0 P1
      try simp only [← Nat.add_assoc] at c0 f0 P1
      obtain ⟨W0, hW0⟩ : ∃ W, wr.setCell ⟨b, off + j, none⟩ (.int .u8 ((s + z) % 256)) = W := ⟨_, rfl⟩
      rw [hW0] at P1
      have HW0 := hide hW0
      clear hW0 P0
      have fin := MarkL.round (n := N) (by omega) rfl P1 (c := c)
      try simp only [List.append_assoc, List.cons_append, List.nil_append] at fin
      rw [← HTK.out] at fin
      have FIN := hide (And.intro (HZ2.out.trans (show _ = z + (1) by omega)) fin)
      clear fin P1 HTK HZ2 HLEN HZ
      go_wp2_with fail
      rw [HW0.out]
      go_roundw
      case rel => exact ⟨j + 1, z + (1), by omega, by go_num, by go_num, by omega, FIN⟩
      case measure => simp [intOf]; omega
    · obtain rfl : j = N := by omega
      obtain ⟨hz, hml⟩ := HR.out
      rw [List.take_of_length_le (by rw [HN.out]; omega)] at hz hml
      rw [List.drop_eq_nil_of_le (by rw [HN.out]; omega)] at hml
      rw [HS.out] at hz
      subst hz
      have FIN := hide (HST.out wr hml)
      clear hml HR
      go_wp2
      go_ret
      exact ⟨rfl, FIN.out⟩

theorem dmarkRaw (l : List Int) : MarkC Tryd.prog 18 (raw l) := by rw [raw_eq]; exact dmarkBytes l

set_option maxRecDepth 20000 in
set_option maxHeartbeats 1600000 in
theorem dmarkNames (l : List (List Int)) : MarkC Tryd.prog 54 (seqOf 1 (fun n => [raw n]) l) := by
  unfold seqOf
  intro v F s w h hnd hlv hs0 hs1
  have h0 := h
  obtain ⟨F2, hF, hm0⟩ := MarkL.start h hnd hlv s
  rw [Lie] at h
  obtain ⟨_, us, F3, ⟨A, c, hv, hc1, hc2, hul, _⟩, _, _⟩ := h
  obtain ⟨N, hN⟩ : ∃ N, l.length = N := ⟨_, rfl⟩
  obtain ⟨g, hg⟩ : ∃ g : (List Int) → List Cel, (fun n => [raw n]) = g := ⟨_, rfl⟩
  have hgx : ∀ x, g x = [raw x] := fun x => by subst hg; exact rfl
  rw [hg] at hm0 h0 hs1 ⊢
  rw [Cel.cnt] at hs1 ⊢
  rw [hN] at hv hc1 hm0 h0 ⊢
  obtain ⟨S, hS⟩ : ∃ S, cnts (cells g l) = S := ⟨_, rfl⟩
  rw [hS] at hs1 ⊢
  unfold maxLen at hc2
  have STOP := fun wr (hm : MarkL w v s F2 N (cells g l) [] wr) => MarkL.stop h0 hF hlv hm
  have HST := hide STOP
  have HS := hide hS
  have HN := hide hN
  have HG := hide hgx
  have HM0 := hide hm0
  subst hv
  clear STOP hS hN hg hgx hm0 h0 hul hnd hlv hF
  go_enter Tryd.func54, Tryd.ntmps54
  go_wp2
  go_loopw [1, 5] (fun q i wr => ∃ j z : Nat, j ≤ N ∧ i = .int .i64 j ∧ q = .int .i64 (s + z) ∧ z ≤ S ∧ Hid (cnts (cells g (l.take j)) = z ∧ MarkL w (.slice A N c) s F2 N (cells g (l.take j)) (cells g (l.drop j)) wr))
    (fun _ i _ => N - (intOf i).toNat)
  case atStart => exact ⟨0, 0, Nat.zero_le _, rfl, by go_num, Nat.zero_le _, hide ⟨by simp [cells, cnts], HM0.out⟩⟩
  case round =>
    obtain ⟨j, z, hj, rfl, rfl, hzS, HR⟩ := hrel
    by_cases hlt : j < N
    · obtain ⟨hz, hml⟩ := HR.out
      obtain ⟨b, off, c', us', hv, P0⟩ := hml.2 (by omega)
      injection hv with hv1 _ hv2
      subst hv1
      have hjn : j < l.length := by rw [HN.out]; exact hlt
      have htk := cells_take g hjn
      have hlen : j * 1 = (cells g (l.take j)).length := by rw [cells_len (sz := 1) (by intro x; rw [HG.out]; rfl), List.length_take]; omega
      rw [cells_drop g hjn] at P0
      obtain ⟨x, hxe⟩ : ∃ x, l[j] = x := ⟨_, rfl⟩
      have hmem : x ∈ l := hxe ▸ List.getElem_mem hjn
      rw [hxe, HG.out x] at P0 htk
      have hz2 := congrArg cnts htk
      rw [cnts_app, hz] at hz2
      have hz3 : cnts (cells g (l.take (j + 1))) ≤ S := by
        rw [← HS.out, cells_split g l (j + 1), cnts_app]; omega
      rw [hz2] at hz3
      simp only [cnts] at hz3 hz2
      obtain ⟨D0, hD0⟩ : ∃ D, (raw x).cnt = D := ⟨_, rfl⟩
      simp only [hD0] at hz2 hz3
      simp only [List.cons_append, List.nil_append] at P0
      have HTK := hide htk
      have HZ2 := hide hz2
      have HLEN := hide hlen
      have HZ := hide hz
      have HD0 := hide hD0
      have k1 : (j : Int) < (N : Int) := by omega
      clear htk hz2 hlen hz hml HR hjn hv2 hxe hD0
      obtain ⟨v0, F0, c0, l0, n0, lv0, fin0⟩ := P0.call (p := j * 1) HLEN.out (y := s + z) (by rw [HZ.out])
      rw [Nat.mul_one] at c0
      try simp only [← Nat.add_assoc] at c0
      have call0 := dmarkRaw x v0 F0 (s + z) wr l0 n0 lv0 (by omega) (by rw [HD0.out]; omega)
      rw [HD0.out] at call0
      have FN0 := hide fin0
      have CL0 := hide call0
      clear fin0 call0 P0 l0 n0 lv0
      go_wp2_with fail
      refine CL0.out.mono ?_
      rintro e W0 ⟨rfl, m0, lv0, b0⟩
      have P1 := FN0.out W0 m0 lv0 b0
      clear FN0 CL0 c0 m0 lv0 b0
      have fin := MarkL.round (n := N) (by omega) rfl P1 (c := c)
      try simp only [List.append_assoc, List.cons_append, List.nil_append] at fin
      rw [← HTK.out] at fin
      have FIN := hide (And.intro (HZ2.out.trans (show _ = z + (D0) by omega)) fin)
      clear fin P1 HTK HZ2 HLEN HZ
      go_wp2_with fail
      go_roundw
      case rel => exact ⟨j + 1, z + (D0), by omega, by go_num, by go_num, by omega, FIN⟩
      case measure => simp [intOf]; omega
    · obtain rfl : j = N := by omega
      obtain ⟨hz, hml⟩ := HR.out
      rw [List.take_of_length_le (by rw [HN.out]; omega)] at hz hml
      rw [List.drop_eq_nil_of_le (by rw [HN.out]; omega)] at hml
      rw [HS.out] at hz
      subst hz
      have FIN := hide (HST.out wr hml)
      clear hml HR
      go_wp2
      go_ret
      exact ⟨rfl, FIN.out⟩

set_option maxRecDepth 20000 in
set_option maxHeartbeats 1600000 in
theorem dmarkTrees (l : List T) (ih : ∀ x ∈ l, MarkC Tryd.prog 94 (seqOf 4 T.cells x.kids)) : MarkC Tryd.prog 94 (seqOf 4 T.cells l) := by
  unfold seqOf
  intro v F s w h hnd hlv hs0 hs1
  have h0 := h
  obtain ⟨F2, hF, hm0⟩ := MarkL.start h hnd hlv s
  rw [Lie] at h
  obtain ⟨_, us, F3, ⟨A, c, hv, hc1, hc2, hul, _⟩, _, _⟩ := h
  obtain ⟨N, hN⟩ : ∃ N, l.length = N := ⟨_, rfl⟩
  obtain ⟨g, hg⟩ : ∃ g : T → List Cel, T.cells = g := ⟨_, rfl⟩
  have hgx : ∀ x, g x = [.num .i64 x.kind, raw x.data, names x.names, seqOf 4 T.cells x.kids] := fun x => by subst hg; exact x.cells_eq
  rw [hg] at hm0 h0 hs1 ⊢
  rw [Cel.cnt] at hs1 ⊢
  rw [hN] at hv hc1 hm0 h0 ⊢
  obtain ⟨S, hS⟩ : ∃ S, cnts (cells g l) = S := ⟨_, rfl⟩
  rw [hS] at hs1 ⊢
  unfold maxLen at hc2
  have STOP := fun wr (hm : MarkL w v s F2 N (cells g l) [] wr) => MarkL.stop h0 hF hlv hm
  have HST := hide STOP
  have HS := hide hS
  have HN := hide hN
  have HG := hide hgx
  have HM0 := hide hm0
  have IH := hide ih
  subst hv
  clear STOP hS hN hg hgx hm0 h0 hul hnd hlv hF ih
  go_enter Tryd.func94, Tryd.ntmps94
  go_wp2
  go_loopw [1, 5] (fun q i wr => ∃ j z : Nat, j ≤ N ∧ i = .int .i64 j ∧ q = .int .i64 (s + z) ∧ z ≤ S ∧ Hid (cnts (cells g (l.take j)) = z ∧ MarkL w (.slice A N c) s F2 N (cells g (l.take j)) (cells g (l.drop j)) wr))
    (fun _ i _ => N - (intOf i).toNat)
  case atStart => exact ⟨0, 0, Nat.zero_le _, rfl, by go_num, Nat.zero_le _, hide ⟨by simp [cells, cnts], HM0.out⟩⟩
  case round =>
    obtain ⟨j, z, hj, rfl, rfl, hzS, HR⟩ := hrel
    by_cases hlt : j < N
    · obtain ⟨hz, hml⟩ := HR.out
      obtain ⟨b, off, c', us', hv, P0⟩ := hml.2 (by omega)
      injection hv with hv1 _ hv2
      subst hv1
      have hjn : j < l.length := by rw [HN.out]; exact hlt
      have htk := cells_take g hjn
      have hlen : j * 4 = (cells g (l.take j)).length := by rw [cells_len (sz := 4) (by intro x; rw [HG.out]; rfl), List.length_take]; omega
      rw [cells_drop g hjn] at P0
      obtain ⟨x, hxe⟩ : ∃ x, l[j] = x := ⟨_, rfl⟩
      have hmem : x ∈ l := hxe ▸ List.getElem_mem hjn
      rw [hxe, HG.out x] at P0 htk
      have hz2 := congrArg cnts htk
      rw [cnts_app, hz] at hz2
      have hz3 : cnts (cells g (l.take (j + 1))) ≤ S := by
        rw [← HS.out, cells_split g l (j + 1), cnts_app]; omega
      rw [hz2] at hz3
      simp only [cnts] at hz3 hz2
      obtain ⟨D1, hD1⟩ : ∃ D, (raw x.data).cnt = D := ⟨_, rfl⟩
      obtain ⟨D2, hD2⟩ : ∃ D, (names x.names).cnt = D := ⟨_, rfl⟩
      obtain ⟨D3, hD3⟩ : ∃ D, (seqOf 4 T.cells x.kids).cnt = D := ⟨_, rfl⟩
      simp only [hD1, hD2, hD3] at hz2 hz3
      simp only [num_cnt] at hz2 hz3
      simp only [List.cons_append, List.nil_append] at P0
      have HTK := hide htk
      have HZ2 := hide hz2
      have HLEN := hide hlen
      have HZ := hide hz
      have HD1 := hide hD1
      have HD2 := hide hD2
      have HD3 := hide hD3
      have k1 : (j : Int) < (N : Int) := by omega
      clear htk hz2 hlen hz hml HR hjn hv2 hxe hD1 hD2 hD3
      obtain ⟨c0, f0, us0, P1⟩ := P0.num (p := j * 4) HLEN.out (y := s + z) (by rw [mk1_i64, HZ.out])
      try simp only [← Nat.add_assoc] at c0 f0 P1
      obtain ⟨W0, hW0⟩ : ∃ W, wr.setCell ⟨b, off + j * 4, none⟩ (.int .i64 (s + z)) = W := ⟨_, rfl⟩
      rw [hW0] at P1
      have HW0 := hide hW0
      clear hW0 P0
      obtain ⟨v1, F1, c1, l1, n1, lv1, fin1⟩ := P1.call (p := j * 4 + 1) (by simp only [List.length_append, List.length_cons, List.length_nil]; have := HLEN.out; omega) (y := s + z + 1) (by simp only [cnts_app, cnts, num_cnt]; have := HZ.out; have := HZ.out; omega)
      try simp only [← Nat.add_assoc] at c1
      rw [← HW0.out, World.cell?_setCell_other _ _ _ _ (by intro e; injection e with _ e2; omega)] at c1
      have call1 := dmarkRaw x.data v1 F1 (s + z + 1) W0 l1 n1 lv1 (by omega) (by rw [HD1.out]; omega)
      rw [HD1.out] at call1
      have FN1 := hide fin1
      have CL1 := hide call1
      clear fin1 call1 P1 l1 n1 lv1
      go_wp2_with fail
      rw [HW0.out]
      refine CL1.out.mono ?_
      rintro e W1 ⟨rfl, m1, lv1, b1⟩
      have P2 := FN1.out W1 m1 lv1 b1
      clear FN1 CL1 c1 m1 lv1 b1 c0 f0 HW0
      obtain ⟨v2, F2, c2, l2, n2, lv2, fin2⟩ := P2.call (p := j * 4 + 2) (by simp only [List.length_append, List.length_cons, List.length_nil]; have := HLEN.out; omega) (y := s + z + 1 + D1) (by simp only [cnts_app, cnts, num_cnt, HD1.out]; have := HZ.out; have := HZ.out; omega)
      try simp only [← Nat.add_assoc] at c2
      have call2 := dmarkNames x.names v2 F2 (s + z + 1 + D1) W1 l2 n2 lv2 (by omega) (by rw [HD2.out]; omega)
      rw [HD2.out] at call2
      have FN2 := hide fin2
      have CL2 := hide call2
      clear fin2 call2 P2 l2 n2 lv2
      go_wp2_with fail
      refine CL2.out.mono ?_
      rintro e W2 ⟨rfl, m2, lv2, b2⟩
      have P3 := FN2.out W2 m2 lv2 b2
      clear FN2 CL2 c2 m2 lv2 b2
      obtain ⟨v3, F3, c3, l3, n3, lv3, fin3⟩ := P3.call (p := j * 4 + 3) (by simp only [List.length_append, List.length_cons, List.length_nil]; have := HLEN.out; omega) (y := s + z + 1 + D1 + D2) (by simp only [cnts_app, cnts, num_cnt, HD1.out, HD2.out]; have := HZ.out; have := HZ.out; omega)
      try simp only [← Nat.add_assoc] at c3
      have call3 := IH.out x hmem v3 F3 (s + z + 1 + D1 + D2) W2 l3 n3 lv3 (by omega) (by rw [HD3.out]; omega)
      rw [HD3.out] at call3
      have FN3 := hide fin3
      have CL3 := hide call3
      clear fin3 call3 P3 l3 n3 lv3
      go_wp2_with fail
      refine CL3.out.mono ?_
      rintro e W3 ⟨rfl, m3, lv3, b3⟩
      have P4 := FN3.out W3 m3 lv3 b3
      clear FN3 CL3 c3 m3 lv3 b3
      have fin := MarkL.round (n := N) (by omega) rfl P4 (c := c)
      try simp only [List.append_assoc, List.cons_append, List.nil_append] at fin
      rw [← HTK.out] at fin
      have FIN := hide (And.intro (HZ2.out.trans (show _ = z + (1 + D1 + D2 + D3) by omega)) fin)
      clear fin P4 HTK HZ2 HLEN HZ
      go_wp2_with fail
      go_roundw
      case rel => exact ⟨j + 1, z + (1 + D1 + D2 + D3), by omega, by go_num, by go_num, by omega, FIN⟩
      case measure => simp [intOf]; omega
    · obtain rfl : j = N := by omega
      obtain ⟨hz, hml⟩ := HR.out
      rw [List.take_of_length_le (by rw [HN.out]; omega)] at hz hml
      rw [List.drop_eq_nil_of_le (by rw [HN.out]; omega)] at hml
      rw [HS.out] at hz
      subst hz
      have FIN := hide (HST.out wr hml)
      clear hml HR
      go_wp2
      go_ret
      exact ⟨rfl, FIN.out⟩

theorem dmarkK : ∀ t : T, MarkC Tryd.prog 94 (seqOf 4 T.cells t.kids) := by
  intro t
  induction t using T.ind with
  | h k d ns ks ih => exact dmarkTrees ks ih
theorem dmarkTreeL (l : List T) : MarkC Tryd.prog 94 (seqOf 4 T.cells l) := dmarkTrees l fun t _ => dmarkK t

set_option maxRecDepth 20000 in
set_option maxHeartbeats 1600000 in
theorem dheldBytes (l : List Int) : HeldC Tryd.prog 19 (seqOf 1 (fun x => [Cel.num .u8 x]) l) := by
  unfold seqOf
  intro v F s w h hs0 hs1
  obtain ⟨F2, hm0⟩ := HeldL.start h
  rw [Cel.mk] at h
  obtain ⟨A, c, hv, hc1, hc2⟩ := h.form
  obtain ⟨N, hN⟩ : ∃ N, l.length = N := ⟨_, rfl⟩
  obtain ⟨g, hg⟩ : ∃ g : Int → List Cel, (fun x => [Cel.num .u8 x]) = g := ⟨_, rfl⟩
  have hgx : ∀ x, g x = [.num .u8 x] := fun x => by subst hg; exact rfl
  rw [hg] at hm0 hs1 ⊢
  rw [Cel.cnt] at hs1 ⊢
  rw [hN] at hv hc1 hm0
  obtain ⟨S, hS⟩ : ∃ S, cnts (cells g l) = S := ⟨_, rfl⟩
  rw [hS] at hs1 ⊢
  unfold maxLen at hc2
  have HS := hide hS
  have HN := hide hN
  have HG := hide hgx
  have HM0 := hide hm0
  subst hv
  clear hS hN hg hgx hm0 h
  go_enter Tryd.func19, Tryd.ntmps19
  go_wp2
  go_loopw [1, 5] (fun q i wr => ∃ j z : Nat, j ≤ N ∧ i = .int .i64 j ∧ q = .int .i64 (s + z) ∧ z ≤ S ∧ Hid (cnts (cells g (l.take j)) = z ∧ HeldL w (.slice A N c) s F2 N (cells g (l.take j)) (cells g (l.drop j)) wr))
    (fun _ i _ => N - (intOf i).toNat)
  case atStart => exact ⟨0, 0, Nat.zero_le _, rfl, by go_num, Nat.zero_le _, hide ⟨by simp [cells, cnts], HM0.out⟩⟩
  case round =>
    obtain ⟨j, z, hj, rfl, rfl, hzS, HR⟩ := hrel
    by_cases hlt : j < N
    · obtain ⟨hz, hml⟩ := HR.out
      obtain ⟨b, off, c', us', hv, P0⟩ := hml.2 (by omega)
      injection hv with hv1 _ hv2
      subst hv1
      have hjn : j < l.length := by rw [HN.out]; exact hlt
      have htk := cells_take g hjn
      have hlen : j * 1 = (cells g (l.take j)).length := by rw [cells_len (sz := 1) (by intro x; rw [HG.out]; rfl), List.length_take]; omega
      rw [cells_drop g hjn] at P0
      obtain ⟨x, hxe⟩ : ∃ x, l[j] = x := ⟨_, rfl⟩
      have hmem : x ∈ l := hxe ▸ List.getElem_mem hjn
      rw [hxe, HG.out x] at P0 htk
      have hz2 := congrArg cnts htk
      rw [cnts_app, hz] at hz2
      have hz3 : cnts (cells g (l.take (j + 1))) ≤ S := by
        rw [← HS.out, cells_split g l (j + 1), cnts_app]; omega
      rw [hz2] at hz3
      simp only [cnts] at hz3 hz2
      simp only [num_cnt] at hz2 hz3
      simp only [List.cons_append, List.nil_append] at P0
      have HTK := hide htk
      have HZ2 := hide hz2
      have HLEN := hide hlen
      have HZ := hide hz
      have HB0 := hide hml.1
      have k1 : (j : Int) < (N : Int) := by omega
      clear htk hz2 hlen hz hml HR hjn hv2 hxe
      have c0 := P0.num (p := j * 1) HLEN.out (y := (s + z) % 256) (by rw [mk1_u8, HZ.out])
      rw [Nat.mul_one] at c0
      try simp only [← Nat.add_assoc] at c0
      have e0 : ((((s + z) % 256) : Int) != (s + z) % 256) = false := by simp
      have P1 := P0.next
      clear P0
      have fin := HeldL.round (n := N) (w := w) rfl P1 HB0.out (c := c)
      try simp only [List.append_assoc, List.cons_append, List.nil_append] at fin
      rw [← HTK.out] at fin
      have FIN := hide (And.intro (HZ2.out.trans (show _ = z + (1) by omega)) fin)
      clear fin P1 HTK HZ2 HLEN HZ
      go_wp2_with fail
      go_roundw
      case rel => exact ⟨j + 1, z + (1), by omega, by go_num, by go_num, by omega, FIN⟩
      case measure => simp [intOf]; omega
    · obtain rfl : j = N := by omega
      obtain ⟨hz, hml⟩ := HR.out
      rw [List.take_of_length_le (by rw [HN.out]; omega)] at hz
      rw [HS.out] at hz
      subst hz
      have FIN := hide hml.1
      clear hml HR
      go_wp2
      go_ret
      exact ⟨rfl, FIN.out⟩

theorem dheldRaw (l : List Int) : HeldC Tryd.prog 19 (raw l) := by rw [raw_eq]; exact dheldBytes l

end Go.Proofs.YtigklnokgmcifaaDoor


/-
  The data of the laws.
-/
namespace Go.Proofs.YtigklnokgmcifaaDoor
open Go.RowKit
set_option linter.unusedVariables false

theorem T.cells_len (t : T) : t.cells.length = 4 := by rw [t.cells_eq]; rfl
theorem T.cells_top (x : T) : x.cells = (.num .i64 x.kind :: (raw x.data :: (Go.Proofs.YtigklnokgmcifaaDoor.names x.names :: (seqOf 4 T.cells x.kids :: [])))) := x.cells_eq
structure DReal where
  drv : List Int
  out : List Int
  path : List Int
def DReal.cells (x : DReal) : List Cel := (raw x.drv :: (raw x.out :: (raw x.path :: [])))
theorem DReal.cells_top (x : DReal) : x.cells = (raw x.drv :: (raw x.out :: (raw x.path :: []))) := rfl
theorem DReal.cells_eq (x : DReal) : x.cells = [raw x.drv, raw x.out, raw x.path] := by rw [DReal.cells] <;> rfl
theorem DReal.cells_len (x : DReal) : x.cells.length = 3 := by rw [x.cells_eq]; rfl
structure DOp where
  code : Int
  out : Int
  name : List Int
  text : List Int
  arg : Int
def DOp.cells (x : DOp) : List Cel := (.num .i64 x.code :: (.num .i64 x.out :: (raw x.name :: (raw x.text :: (.num .i64 x.arg :: [])))))
theorem DOp.cells_top (x : DOp) : x.cells = (.num .i64 x.code :: (.num .i64 x.out :: (raw x.name :: (raw x.text :: (.num .i64 x.arg :: []))))) := rfl
theorem DOp.cells_eq (x : DOp) : x.cells = [.num .i64 x.code, .num .i64 x.out, raw x.name, raw x.text, .num .i64 x.arg] := by rw [DOp.cells] <;> rfl
theorem DOp.cells_len (x : DOp) : x.cells.length = 5 := by rw [x.cells_eq]; rfl
structure DIn where
  drv : List Int
  out : List Int
def DIn.cells (x : DIn) : List Cel := (raw x.drv :: (raw x.out :: []))
theorem DIn.cells_top (x : DIn) : x.cells = (raw x.drv :: (raw x.out :: [])) := rfl
theorem DIn.cells_eq (x : DIn) : x.cells = [raw x.drv, raw x.out] := by rw [DIn.cells] <;> rfl
theorem DIn.cells_len (x : DIn) : x.cells.length = 2 := by rw [x.cells_eq]; rfl
structure DObj where
  name : List Int
  kind : Int
  tree : T
  refs : List (List Int)
  frm : List Int
  out : List Int
def DObj.cells (x : DObj) : List Cel := (raw x.name :: (.num .i64 x.kind :: (x.tree.cells ++ (Go.Proofs.YtigklnokgmcifaaDoor.names x.refs :: (raw x.frm :: (raw x.out :: []))))))
theorem DObj.cells_top (x : DObj) : x.cells = (raw x.name :: (.num .i64 x.kind :: (x.tree.cells ++ (Go.Proofs.YtigklnokgmcifaaDoor.names x.refs :: (raw x.frm :: (raw x.out :: [])))))) := rfl
theorem DObj.cells_eq (x : DObj) : x.cells = [raw x.name, .num .i64 x.kind, .num .i64 x.tree.kind, raw x.tree.data, Go.Proofs.YtigklnokgmcifaaDoor.names x.tree.names, seqOf 4 T.cells x.tree.kids, Go.Proofs.YtigklnokgmcifaaDoor.names x.refs, raw x.frm, raw x.out] := by rw [DObj.cells, T.cells_eq] <;> rfl
theorem DObj.cells_len (x : DObj) : x.cells.length = 9 := by rw [x.cells_eq]; rfl
structure DDrv where
  srcs : List (List Int)
  ins : List DIn
  outs : List (List Int)
  ops : List DOp
def DDrv.cells (x : DDrv) : List Cel := (Go.Proofs.YtigklnokgmcifaaDoor.names x.srcs :: (seqOf 2 DIn.cells x.ins :: (Go.Proofs.YtigklnokgmcifaaDoor.names x.outs :: (seqOf 5 DOp.cells x.ops :: []))))
theorem DDrv.cells_top (x : DDrv) : x.cells = (Go.Proofs.YtigklnokgmcifaaDoor.names x.srcs :: (seqOf 2 DIn.cells x.ins :: (Go.Proofs.YtigklnokgmcifaaDoor.names x.outs :: (seqOf 5 DOp.cells x.ops :: [])))) := rfl
theorem DDrv.cells_eq (x : DDrv) : x.cells = [Go.Proofs.YtigklnokgmcifaaDoor.names x.srcs, seqOf 2 DIn.cells x.ins, Go.Proofs.YtigklnokgmcifaaDoor.names x.outs, seqOf 5 DOp.cells x.ops] := by rw [DDrv.cells] <;> rfl
theorem DDrv.cells_len (x : DDrv) : x.cells.length = 4 := by rw [x.cells_eq]; rfl
structure DStore where
  objs : List DObj
  roots : List (List Int)
  reals : List DReal
def DStore.cells (x : DStore) : List Cel := (seqOf 9 DObj.cells x.objs :: (Go.Proofs.YtigklnokgmcifaaDoor.names x.roots :: (seqOf 3 DReal.cells x.reals :: [])))
theorem DStore.cells_top (x : DStore) : x.cells = (seqOf 9 DObj.cells x.objs :: (Go.Proofs.YtigklnokgmcifaaDoor.names x.roots :: (seqOf 3 DReal.cells x.reals :: []))) := rfl
theorem DStore.cells_eq (x : DStore) : x.cells = [seqOf 9 DObj.cells x.objs, Go.Proofs.YtigklnokgmcifaaDoor.names x.roots, seqOf 3 DReal.cells x.reals] := by rw [DStore.cells] <;> rfl
theorem DStore.cells_len (x : DStore) : x.cells.length = 3 := by rw [x.cells_eq]; rfl
structure DJob where
  d : DDrv
  name : List Int
  pc : Int
  args : List (List Int)
  outs : List T
def DJob.cells (x : DJob) : List Cel := (x.d.cells ++ (raw x.name :: (.num .i64 x.pc :: (Go.Proofs.YtigklnokgmcifaaDoor.names x.args :: (seqOf 4 T.cells x.outs :: [])))))
theorem DJob.cells_top (x : DJob) : x.cells = (x.d.cells ++ (raw x.name :: (.num .i64 x.pc :: (Go.Proofs.YtigklnokgmcifaaDoor.names x.args :: (seqOf 4 T.cells x.outs :: []))))) := rfl
theorem DJob.cells_eq (x : DJob) : x.cells = [Go.Proofs.YtigklnokgmcifaaDoor.names x.d.srcs, seqOf 2 DIn.cells x.d.ins, Go.Proofs.YtigklnokgmcifaaDoor.names x.d.outs, seqOf 5 DOp.cells x.d.ops, raw x.name, .num .i64 x.pc, Go.Proofs.YtigklnokgmcifaaDoor.names x.args, seqOf 4 T.cells x.outs] := by rw [DJob.cells, DDrv.cells_eq] <;> rfl
theorem DJob.cells_len (x : DJob) : x.cells.length = 8 := by rw [x.cells_eq]; rfl
structure DGoal where
  drv : List Int
  state : Int
  err : Int
  begun : Bool
  job : DJob
  need : List (List Int)
def DGoal.cells (x : DGoal) : List Cel := (raw x.drv :: (.num .i64 x.state :: (.num .i64 x.err :: (.flag x.begun :: (x.job.cells ++ (Go.Proofs.YtigklnokgmcifaaDoor.names x.need :: []))))))
theorem DGoal.cells_top (x : DGoal) : x.cells = (raw x.drv :: (.num .i64 x.state :: (.num .i64 x.err :: (.flag x.begun :: (x.job.cells ++ (Go.Proofs.YtigklnokgmcifaaDoor.names x.need :: [])))))) := rfl
theorem DGoal.cells_eq (x : DGoal) : x.cells = [raw x.drv, .num .i64 x.state, .num .i64 x.err, .flag x.begun, Go.Proofs.YtigklnokgmcifaaDoor.names x.job.d.srcs, seqOf 2 DIn.cells x.job.d.ins, Go.Proofs.YtigklnokgmcifaaDoor.names x.job.d.outs, seqOf 5 DOp.cells x.job.d.ops, raw x.job.name, .num .i64 x.job.pc, Go.Proofs.YtigklnokgmcifaaDoor.names x.job.args, seqOf 4 T.cells x.job.outs, Go.Proofs.YtigklnokgmcifaaDoor.names x.need] := by rw [DGoal.cells, DJob.cells_eq] <;> rfl
theorem DGoal.cells_len (x : DGoal) : x.cells.length = 13 := by rw [x.cells_eq]; rfl
structure DEngine where
  store : DStore
  goals : List DGoal
def DEngine.cells (x : DEngine) : List Cel := (x.store.cells ++ (seqOf 13 DGoal.cells x.goals :: []))
theorem DEngine.cells_top (x : DEngine) : x.cells = (x.store.cells ++ (seqOf 13 DGoal.cells x.goals :: [])) := rfl
theorem DEngine.cells_eq (x : DEngine) : x.cells = [seqOf 9 DObj.cells x.store.objs, Go.Proofs.YtigklnokgmcifaaDoor.names x.store.roots, seqOf 3 DReal.cells x.store.reals, seqOf 13 DGoal.cells x.goals] := by rw [DEngine.cells, DStore.cells_eq] <;> rfl
theorem DEngine.cells_len (x : DEngine) : x.cells.length = 4 := by rw [x.cells_eq]; rfl
structure DReg where
  kind : Int
  obj : DObj
  real : DReal
  name : List Int
def DReg.cells (x : DReg) : List Cel := (.num .i64 x.kind :: (x.obj.cells ++ (x.real.cells ++ (raw x.name :: []))))
theorem DReg.cells_top (x : DReg) : x.cells = (.num .i64 x.kind :: (x.obj.cells ++ (x.real.cells ++ (raw x.name :: [])))) := rfl
theorem DReg.cells_eq (x : DReg) : x.cells = [.num .i64 x.kind, raw x.obj.name, .num .i64 x.obj.kind, .num .i64 x.obj.tree.kind, raw x.obj.tree.data, Go.Proofs.YtigklnokgmcifaaDoor.names x.obj.tree.names, seqOf 4 T.cells x.obj.tree.kids, Go.Proofs.YtigklnokgmcifaaDoor.names x.obj.refs, raw x.obj.frm, raw x.obj.out, raw x.real.drv, raw x.real.out, raw x.real.path, raw x.name] := by rw [DReg.cells, DObj.cells_eq, DReal.cells_eq] <;> rfl
theorem DReg.cells_len (x : DReg) : x.cells.length = 14 := by rw [x.cells_eq]; rfl
structure DJournal where
  base : DStore
  regs : List DReg
  safe : Int
def DJournal.cells (x : DJournal) : List Cel := (x.base.cells ++ (seqOf 14 DReg.cells x.regs :: (.num .i64 x.safe :: [])))
theorem DJournal.cells_top (x : DJournal) : x.cells = (x.base.cells ++ (seqOf 14 DReg.cells x.regs :: (.num .i64 x.safe :: []))) := rfl
theorem DJournal.cells_eq (x : DJournal) : x.cells = [seqOf 9 DObj.cells x.base.objs, Go.Proofs.YtigklnokgmcifaaDoor.names x.base.roots, seqOf 3 DReal.cells x.base.reals, seqOf 14 DReg.cells x.regs, .num .i64 x.safe] := by rw [DJournal.cells, DStore.cells_eq] <;> rfl
theorem DJournal.cells_len (x : DJournal) : x.cells.length = 5 := by rw [x.cells_eq]; rfl
structure DCmd where
  kind : Int
  text : List Int
  tree : T
  name : List Int
  out : List Int
  picks : List Int
  keep : Int
def DCmd.cells (x : DCmd) : List Cel := (.num .i64 x.kind :: (raw x.text :: (x.tree.cells ++ (raw x.name :: (raw x.out :: (ints x.picks :: (.num .i64 x.keep :: [])))))))
theorem DCmd.cells_top (x : DCmd) : x.cells = (.num .i64 x.kind :: (raw x.text :: (x.tree.cells ++ (raw x.name :: (raw x.out :: (ints x.picks :: (.num .i64 x.keep :: []))))))) := rfl
theorem DCmd.cells_eq (x : DCmd) : x.cells = [.num .i64 x.kind, raw x.text, .num .i64 x.tree.kind, raw x.tree.data, Go.Proofs.YtigklnokgmcifaaDoor.names x.tree.names, seqOf 4 T.cells x.tree.kids, raw x.name, raw x.out, ints x.picks, .num .i64 x.keep] := by rw [DCmd.cells, T.cells_eq] <;> rfl
theorem DCmd.cells_len (x : DCmd) : x.cells.length = 10 := by rw [x.cells_eq]; rfl
structure DTold where
  code : Int
  name : List Int
def DTold.cells (x : DTold) : List Cel := (.num .i64 x.code :: (raw x.name :: []))
theorem DTold.cells_top (x : DTold) : x.cells = (.num .i64 x.code :: (raw x.name :: [])) := rfl
theorem DTold.cells_eq (x : DTold) : x.cells = [.num .i64 x.code, raw x.name] := by rw [DTold.cells] <;> rfl
theorem DTold.cells_len (x : DTold) : x.cells.length = 2 := by rw [x.cells_eq]; rfl

end Go.Proofs.YtigklnokgmcifaaDoor


/-
  The elements' types of the rows that are made by append.
-/
namespace Go.Proofs.YtigklnokgmcifaaDoor
open Go.RowKit
set_option linter.unusedVariables false

abbrev zs : Value := .slice none 0 0
abbrev zi : Value := .int .i64 0
theorem inf_u8 : (Tryd.prog.info? 5).map (fun i => (i.zero, i.size, i.bytes)) = some (some (.int .u8 0), 1, 1) := by kernel_rfl
theorem inf_bool : (Tryd.prog.info? 4).map (fun i => (i.zero, i.size, i.bytes)) = some (some (.bool false), 1, 1) := by kernel_rfl
theorem inf_bytes : (Tryd.prog.info? 22).map (fun i => (i.zero, i.size, i.bytes)) = some (some zs, 1, 24) := by kernel_rfl
theorem inf_tree : (Tryd.prog.info? 33).map (fun i => (i.zero, i.size, i.bytes)) = some (some (.agg #[zi, zs, zs, zs]), 4, 80) := by kernel_rfl
theorem inf_obj : (Tryd.prog.info? 35).map (fun i => (i.zero, i.size, i.bytes)) = some (some (.agg #[zs, zi, zi, zs, zs, zs, zs, zs, zs]), 9, 184) := by kernel_rfl
theorem inf_real : (Tryd.prog.info? 127).map (fun i => (i.zero, i.size, i.bytes)) = some (some (.agg #[zs, zs, zs]), 3, 72) := by kernel_rfl
theorem inf_op : (Tryd.prog.info? 106).map (fun i => (i.zero, i.size, i.bytes)) = some (some (.agg #[zi, zi, zs, zs, zi]), 5, 72) := by kernel_rfl
theorem inf_in : (Tryd.prog.info? 103).map (fun i => (i.zero, i.size, i.bytes)) = some (some (.agg #[zs, zs]), 2, 48) := by kernel_rfl

end Go.Proofs.YtigklnokgmcifaaDoor


/-
  The model's place of a character.
-/
namespace Go.Proofs.YtigklnokgmcifaaDoor
open Go.RowKit

set_option maxRecDepth 20000 in
set_option maxHeartbeats 800000 in
theorem letterIdx (x : Int) (h0 : 0 ≤ x) (h1 : x ≤ 255) (w : World) :
    Calls Tryd.prog 62 #[.int .u8 x] w fun e w' => e = .returned (.int .i64 (lidx x)) ∧ w = w' := by
  obtain ⟨R, hR⟩ : ∃ R, lidx x = R := ⟨_, rfl⟩
  rw [hR]
  have HR := hide hR
  clear hR
  go_enter Tryd.func62, Tryd.ntmps62
  go_wp2
  go_loop [3] (fun i => ∃ k : Nat, k ≤ 32 ∧ i = .int .i64 k ∧ Hid (lfrom x (32 - k) k = R)) (fun i => 32 - (intOf i).toNat)
  case atStart => exact ⟨0, by omega, rfl, HR⟩
  case round =>
    obtain ⟨k, hk, rfl, hx⟩ := hrel
    by_cases hlt : k < 32
    · have hl := ltr_at k hlt
      have hstep : lfrom x (32 - k) k = if ltr k = x then (k : Int) else lfrom x (32 - (k + 1)) (k + 1) := by
        have e : 32 - k = (32 - (k + 1)) + 1 := by omega
        rw [e]
        rfl
      have HS := hide hstep
      clear hstep
      obtain ⟨z, hz⟩ : ∃ z, ltr k = z := ⟨_, rfl⟩
      rw [hz] at hl
      have HZ := hide hz
      clear hz
      by_cases he : z = x
      · subst he
        go_wp2
        go_ret
        refine ⟨ret_int ?_, rfl⟩
        rw [← hx.out, HS.out, if_pos HZ.out]
      · have hne : (z == x) = false := by simpa using he
        have HE := hide he
        clear he
        go_wp2
        go_round
        case rel => exact ⟨k + 1, by omega, by go_num, hide (by rw [← hx.out, HS.out, HZ.out, if_neg HE.out])⟩
        case measure => simp [intOf]; omega
    · obtain rfl : k = 32 := by omega
      go_wp2
      go_ret
      exact ⟨ret_int hx.out, rfl⟩

end Go.Proofs.YtigklnokgmcifaaDoor


/-
  Does a text stand in another one? In plain numbers, and in the library's words.
-/
namespace Go.Proofs.YtigklnokgmcifaaDoor
open Go.RowKit
set_option linter.unusedVariables false

/-- The text n stands in b at the place i. -/
def atL (b n : List Int) (i : Nat) : Bool := decide (i + n.length ≤ b.length ∧ (b.drop i).take n.length = n)
def contF (b n : List Int) : Nat → Nat → Bool
  | 0, _ => false
  | f + 1, i => atL b n i || contF b n f (i + 1)
def contL (b n : List Int) : Bool := contF b n (b.length + 1) 0
theorem contF_more {b n : List Int} {k : Nat} (h : k ≤ b.length) : contF b n (b.length + 1 - k) k = (atL b n k || contF b n (b.length + 1 - (k + 1)) (k + 1)) := by
  have e : b.length + 1 - k = (b.length + 1 - (k + 1)) + 1 := by omega
  rw [e, contF]
theorem contF_end {b n : List Int} : ∀ {f k : Nat}, b.length < k + n.length → contF b n f k = false
  | 0, _, _ => rfl
  | f + 1, k, h => by
    rw [contF, contF_end (f := f) (k := k + 1) (by omega), atL, decide_eq_false (fun h2 => by omega)]
    rfl
theorem contF_iff {b n : List Int} : ∀ {f k : Nat}, contF b n f k = true ↔ ∃ i, k ≤ i ∧ i < k + f ∧ atL b n i = true
  | 0, k => ⟨fun h => (by cases h), fun ⟨i, h1, h2, _⟩ => (by omega)⟩
  | f + 1, k => by
    rw [contF, Bool.or_eq_true, contF_iff (f := f) (k := k + 1)]
    constructor
    · rintro (h | ⟨i, h1, h2, h3⟩)
      · exact ⟨k, Nat.le_refl _, by omega, h⟩
      · exact ⟨i, by omega, by omega, h3⟩
    · rintro ⟨i, h1, h2, h3⟩
      by_cases h : i = k
      · subst h; exact .inl h3
      · exact .inr ⟨i, by omega, by omega, h3⟩
theorem contL_iff {b n : List Int} : contL b n = true ↔ ∃ i, atL b n i = true := by
  rw [contL, contF_iff]
  constructor
  · rintro ⟨i, _, _, h⟩; exact ⟨i, h⟩
  · rintro ⟨i, h⟩
    have h2 := of_decide_eq_true h
    exact ⟨i, Nat.zero_le _, by omega, h⟩
theorem bytesOf_len (l : List Int) : (Lib.bytesOf l).length = l.length := by simp [Lib.bytesOf]
theorem bytesOf_part (l : List Int) (i k : Nat) : Lib.bytesOf ((l.drop i).take k) = ((Lib.bytesOf l).drop i).take k := by simp [Lib.bytesOf, List.map_drop, List.map_take]
theorem bytesOf_inj {a b : List Int} (ha : Byt a) (hb : Byt b) (h : Lib.bytesOf a = Lib.bytesOf b) : a = b :=
  str_inj ha hb (by rw [Lib.toList_data, Lib.toList_data]; exact h)
theorem atL_occ {b n : List Int} (hb : Byt b) (hn : Byt n) {i : Nat} (hi : i + n.length ≤ b.length) : Lib.occAt (Lib.bytesOf b) (Lib.bytesOf n) i = atL b n i := by
  rw [Lib.occAt_iff_take _ _ _ (by rw [bytesOf_len, bytesOf_len]; exact hi), bytesOf_len, ← bytesOf_part, atL]
  by_cases h : (b.drop i).take n.length = n
  · rw [h, decide_eq_true ⟨hi, rfl⟩]; simp
  · rw [decide_eq_false (fun h2 => h h2.2)]
    simp only [beq_eq_false_iff_ne]
    exact fun e => h (bytesOf_inj ((hb.drop i).take _) hn e)
theorem contL_lib {b n : List Int} (hb : Byt b) (hn : Byt n) (h0 : 0 < n.length) : Lib.contains (Lib.bytesOf b) (Lib.bytesOf n) = contL b n := by
  rw [Lib.contains]
  rcases Lib.index_spec (Lib.bytesOf b) (Lib.bytesOf n) with ⟨h1, h2⟩ | ⟨i, h1, h2, h3, _⟩
  · rw [h1]
    symm
    show contL b n = false
    rw [Bool.eq_false_iff]
    intro h
    obtain ⟨i, hi⟩ := contL_iff.1 h
    have hi2 := (of_decide_eq_true hi).1
    have := h2 i (by rw [bytesOf_len]; omega)
    rw [atL_occ hb hn hi2, hi] at this
    cases this
  · rw [h1, decide_eq_true (by omega)]
    symm
    rcases Lib.occAt_room h3 with h4 | h4
    · rw [bytesOf_len, bytesOf_len] at h4
      exact contL_iff.2 ⟨i, by rw [← atL_occ hb hn h4]; exact h3⟩
    · have : n.length = 0 := by rw [← bytesOf_len, h4]; rfl
      omega

/-- What Mentions answers. -/
def mentL (b n : List Int) : Bool := nameOk n && contL b n

end Go.Proofs.YtigklnokgmcifaaDoor


/-
  Names and texts as cells, read as before.
-/
namespace Go.Proofs.YtigklnokgmcifaaDoor
open Go.RowKit
set_option linter.unusedVariables false

theorem In1.rd {w : World} {v : Value} {l : List Int} (h : In1 w (raw l) v) : Rd w v (bs l) := h.elim fun F h => h.rd.1
theorem Rd.in1 {w : World} {v : Value} {l : List Int} (h : Rd w v (bs l)) : In1 w (raw l) v := ⟨_, h.lie⟩
theorem Lies.raws {w : World} : ∀ {ns : List (List Int)} {us : List Value} {F : List Nat}, Lies w (cells (fun n => [raw n]) ns) us F → us.length = ns.length ∧ ∀ i u, us[i]? = some u → Rd w u (bs (ns.getD i []))
  | [], us, F, h => by
    rw [cells, Lies] at h
    rw [h.1]
    exact ⟨rfl, fun i u hu => by simp at hu⟩
  | n :: ns, us, F, h => by
    rw [cells, List.singleton_append, Lies] at h
    obtain ⟨u, r, F1, F2, rfl, rfl, h1, h2⟩ := h
    have ih := h2.raws
    refine ⟨by simp [ih.1], fun i x hx => ?_⟩
    cases i with
    | zero =>
      obtain rfl : u = x := by simpa using hx
      exact h1.rd.1
    | succ i => simpa using ih.2 i x (by simpa using hx)
theorem Lie.rdN {w : World} {v : Value} {ns : List (List Int)} {F : List Nat} (h : Lie w (names ns) v F) : RdN w v ns := by
  rw [names, Lie] at h
  obtain ⟨_, us, F2, h1, h2, rfl⟩ := h
  exact ⟨us, h1.rd, h2.raws.1, h2.raws.2⟩
theorem In1.rdN {w : World} {v : Value} {ns : List (List Int)} (h : In1 w (names ns) v) : RdN w v ns := h.elim fun F h => h.rdN

theorem raw_bulkT (l : List Int) : (raw l).bulk = l.length := by
  rw [raw, Cel.bulk]
  have : bulks (l.map (Cel.num .u8)) = 0 := by
    induction l with
    | nil => rfl
    | cons x l ih => rw [List.map_cons, bulks, ih]; rfl
  omega
theorem names_bulk (ns : List (List Int)) : (names ns).bulk = ns.length + sumLen ns := by
  rw [names, Cel.bulk]
  have : bulks (cells (fun n => [raw n]) ns) = sumLen ns := by
    induction ns with
    | nil => rfl
    | cons n r ih => rw [cells, List.singleton_append, bulks, ih, raw_bulkT, sumLen]
  omega
end Go.Proofs.YtigklnokgmcifaaDoor


/-
  NameOk: the program's walk.
-/
namespace Go.Proofs.YtigklnokgmcifaaDoor
open Go.RowKit

set_option maxRecDepth 20000 in
set_option maxHeartbeats 1600000 in
theorem implNameOk (l : List Int) (hB : Byt l) (v : Value) (w : World) (hv : Rd w v (bs l)) (hl : l.length ≤ 1099511627776) :
    Calls Tryd.prog 38 #[v] w fun e w' => e = .returned (.bool (nameOk l)) ∧ Below w.heap.size w w' := by
  have hcv := conv_rd (P := Tryd.prog) Tryd.underlying22 Tryd.underlying5 Tryd.underlying9 hv
  obtain ⟨A, c, rfl, hc1, hc2, hrd⟩ := hv
  rw [bs_length] at *
  unfold maxLen at hc2
  obtain ⟨R, hR⟩ : ∃ R, nameOk l = R := ⟨_, rfl⟩
  rw [hR]
  clear hrd
  by_cases h16 : l.length = 16
  · have HR : Hid (okFrom l 0 = R) := by
      rw [← hR, nameOk, h16]
      exact hide rfl
    have hne : ((l.length : Int) != 16) = false := by rw [h16]; rfl
    have hsz := strOfNums_size l
    rw [h16] at hsz
    have hget : ∀ k (h : k < (strOfNums l).size), (((strOfNums l)[k]'h).toNat : Int) = l.getD k 0 := fun k h => str_get hB h
    have hhi : l.length ≤ 16 ∧ 16 ≤ l.length := by omega
    obtain ⟨hlo, hhi⟩ := hhi
    clear hR h16
    generalize strOfNums l = s at *
    have HSZ := hide hsz
    have HG := hide hget
    clear hsz hget
    go_enter Tryd.func38, Tryd.ntmps38
    go_wp2
    clear hcv
    go_loopw [] (fun wr => ∃ k : Nat, k ≤ 16 ∧ wr.heap[w.heap.size]? = some (.stringIter s k) ∧ Hid (okFrom l k = R) ∧ Below w.heap.size w wr) (fun wr => 16 - wr.iterPos w.heap.size)
    case atStart => exact ⟨0, by omega, by simpa using World.iter_heap w s 0, HR, (Below.refl _ w).alloc (Nat.le_refl _) _⟩
    case round =>
      obtain ⟨k, hk, hit, hx, hbw⟩ := hrel
      have hwz : w.heap.size < wr.heap.size := (Array.getElem?_eq_some_iff.1 hit).1
      by_cases hp : k < 16
      · have hps : k < s.size := by rw [HSZ.out]; exact hp
        have hgk := HG.out k hps
        have hm := okFrom_more (l := l) (k := k) (by omega)
        obtain ⟨y0, y1⟩ := hB.at_ k
        generalize l.getD k 0 = y at *
        by_cases h128 : y < 128
        · have hnx : ∀ ty, (Instr.next (.pointer (some ⟨w.heap.size, 0, none⟩)) true ty).run Tryd.prog wr = _ := fun ty => Lib.run_next_ascii_at wr w.heap.size s k ty hit hps (by omega)
          rw [hgk] at hnx
          have hit2 := Lib.iterAt_heap wr w.heap.size s k (k + 1) hit
          have hbw2 := Lib.below_iterAt hbw (k := w.heap.size) (by omega) s (k + 1)
          have hwz2 : (wr.iterAt w.heap.size s (k + 1)).heap.size = wr.heap.size := Lib.iterAt_size _ _ _ _
          have hm0 : wr.iterPos w.heap.size = k := iterPos_of hit
          generalize wr.iterAt w.heap.size s (k + 1) = w2 at *
          have hlt2 : w.heap.size < w2.heap.size := by omega
          have HM0 := hide hm0
          have HI := hide hit2
          have HB := hide hbw2
          have HM := hide hm
          clear hm0 hit hit2 hbw hbw2 hgk hm hwz2
          by_cases hz0 : 0 ≤ lidx y
          · have hd : decide (0 ≤ lidx y) = true := by simpa using hz0
            have HD := hide hd
            clear hd hz0
            go_wp2_with fail
            refine (containsLow y y0 h128 w2).mono ?_
            rintro e w3 ⟨rfl, b3⟩
            rw [HD.out]
            have hI3 : w3.heap[w.heap.size]? = some (.stringIter s (k + 1)) := (b3.block _ hlt2).trans HI.out
            have HI3 := hide hI3
            have hm3 : w3.iterPos w.heap.size = k + 1 := iterPos_of hI3
            have HM3 := hide hm3
            clear hI3 hm3
            go_wp2_with fail
            go_roundw
            case rel => exact ⟨k + 1, by omega, HI3.out, hide (by rw [← hx.out, HM.out, HD.out, Bool.true_and]), HB.out.trans (b3.mono (by omega))⟩
            case measure => rw [HM3.out, HM0.out]; omega
          · have hd : decide (0 ≤ lidx y) = false := by simpa using hz0
            have HD := hide hd
            clear hd hz0
            go_wp2_with fail
            refine (containsLow y y0 h128 w2).mono ?_
            rintro e w3 ⟨rfl, b3⟩
            rw [HD.out]
            go_wp2_with fail
            go_ret
            exact ⟨ret_bool (by rw [← hx.out, HM.out, HD.out, Bool.false_and]), HB.out.trans (b3.mono (by omega))⟩
        · have hnx : ∀ ty, (Instr.next (.pointer (some ⟨w.heap.size, 0, none⟩)) true ty).run Tryd.prog wr = _ := fun ty => Lib.run_next_any_at wr w.heap.size s k ty hit hps
          have hd1 := decode_high s k hps (by omega)
          have hd2 := decode_le s k
          have hbw2 := Lib.below_iterAt hbw (k := w.heap.size) (by omega) s (k + (Utf8.decode s k).2)
          have hwz2 : (wr.iterAt w.heap.size s (k + (Utf8.decode s k).2)).heap.size = wr.heap.size := Lib.iterAt_size _ _ _ _
          generalize wr.iterAt w.heap.size s (k + (Utf8.decode s k).2) = w2 at *
          generalize (Utf8.decode s k).1 = q at *
          have hlt2 : w.heap.size < w2.heap.size := by omega
          have hd : decide (0 ≤ lidx y) = false := by
            have := (lidx_facts y0 y1).2.2.1 (by omega)
            rw [this]
            rfl
          have HD := hide hd
          have HB := hide hbw2
          have HM := hide hm
          obtain ⟨hq1, -⟩ := hd1
          clear hd hit hbw hbw2 hgk hm hwz2
          go_wp2_with fail
          refine (containsHigh q (by omega) (by omega) w2).mono ?_
          rintro e w3 ⟨rfl, b3⟩
          go_wp2_with fail
          go_ret
          exact ⟨ret_bool (by rw [← hx.out, HM.out, HD.out, Bool.false_and]), HB.out.trans (b3.mono (by omega))⟩
      · obtain rfl : k = 16 := by omega
        have hnx : ∀ ty, (Instr.next (.pointer (some ⟨w.heap.size, 0, none⟩)) true ty).run Tryd.prog wr = _ := fun ty => Lib.run_next_end_at wr w.heap.size s 16 ty hit (by rw [HSZ.out]; omega)
        have hfin : true = R := by rw [← hx.out, okFrom_end (by omega)]
        have HF := hide hfin
        have HB := hide hbw
        clear hfin hit hbw
        go_wp2
        go_ret
        exact ⟨ret_bool (by rw [← HF.out]), HB.out⟩
  · have HR : Hid (false = R) := by
      rw [← hR, nameOk]
      exact hide (by simp [h16])
    have hne : ((l.length : Int) != 16) = true := by simpa using (by omega : ¬ (l.length : Int) = 16)
    clear hR h16 hcv
    go_enter Tryd.func38, Tryd.ntmps38
    go_wp2
    go_ret
    exact ⟨ret_bool (by rw [← HR.out]), Below.refl _ _⟩

end Go.Proofs.YtigklnokgmcifaaDoor


/-
  A hash in plain numbers: padding, blocks one behind the other, the bytes of the result.
-/
namespace Go.Proofs.YtigklnokgmcifaaDoor
open Go.RowKit

def zpad (n : Nat) : Nat := (119 - n % 64) % 64
/-- The first j of the eight bytes of the length in bits. -/
def lenB (n : Nat) : Nat → List Int
  | 0 => []
  | j + 1 => lenB n j ++ [(n : Int) * 8 / 2 ^ (8 * (7 - j)) % 256]
theorem lenB_len (n j : Nat) : (lenB n j).length = j := by
  induction j with
  | zero => rfl
  | succ j ih => rw [lenB, List.length_append, ih]; rfl
theorem lenB_byt (n j : Nat) : Byt (lenB n j) := by
  induction j with
  | zero => exact Byt.nil
  | succ j ih => exact ih.app (Byt.one (by omega) (by omega))
def zeros (n : Nat) : List Int := List.replicate n 0
theorem zeros_len (n : Nat) : (zeros n).length = n := List.length_replicate
theorem zeros_byt (n : Nat) : Byt (zeros n) := fun x hx => by
  obtain rfl := (List.mem_replicate.1 hx).2
  omega
theorem zeros_next (n : Nat) : zeros n ++ [0] = zeros (n + 1) := (List.replicate_succ' (n := n) (a := (0 : Int))).symm
/-- What stands behind a message of n bytes. -/
def tailB (n : Nat) : List Int := 128 :: zeros (zpad n) ++ lenB n 8
theorem tailB_len (n : Nat) : (tailB n).length = 1 + zpad n + 8 := by
  simp [tailB, zeros_len, lenB_len]
  omega
theorem tailB_byt (n : Nat) : Byt (tailB n) := by
  have h : Byt ([128] ++ zeros (zpad n) ++ lenB n 8) := ((Byt.one (by omega) (by omega)).app (zeros_byt _)).app (lenB_byt _ _)
  exact h
def msg (b : List Int) : List Int := b ++ tailB b.length
theorem msg_byt {b : List Int} (h : Byt b) : Byt (msg b) := h.app (tailB_byt _)
theorem pad_mod (n : Nat) : (n + (tailB n).length) % 64 = 0 := by
  rw [tailB_len, zpad]
  omega
theorem pad_le (n : Nat) : (tailB n).length ≤ 72 := by
  rw [tailB_len, zpad]
  omega
theorem msg_len (b : List Int) : (msg b).length = b.length + (tailB b.length).length := by rw [msg, List.length_append]

/-- One block. -/
def plus8 (s r : S8) : S8 := ⟨(s.a + r.a) % 4294967296, (s.b + r.b) % 4294967296, (s.c + r.c) % 4294967296, (s.d + r.d) % 4294967296, (s.e + r.e) % 4294967296, (s.f + r.f) % 4294967296, (s.g + r.g) % 4294967296, (s.h + r.h) % 4294967296⟩
theorem plus8_list (s r : S8) : (plus8 s r).list = add8 s.list r.list := rfl
theorem plus8_ok (s r : S8) : (plus8 s r).Ok := by
  refine ⟨?_, ?_, ?_, ?_, ?_, ?_, ?_, ?_⟩ <;> simp only [plus8] <;> omega
def blockS (s : S8) (b : List Int) : S8 := plus8 s (rnds (wseq b 48) 64 s)
theorem blockS_list (s : S8) (b : List Int) : (blockS s b).list = add8 s.list (rnds (wseq b 48) 64 s).list := by
  rw [blockS]
  exact plus8_list _ _
theorem blockS_ok (s : S8) (b : List Int) : (blockS s b).Ok := by
  rw [blockS]
  exact plus8_ok _ _
def blk64 (l : List Int) (i : Nat) : List Int := (l.drop (64 * i)).take 64
theorem blk_len {l : List Int} {i : Nat} (h : 64 * (i + 1) ≤ l.length) : (blk64 l i).length = 64 := by
  rw [blk64, List.length_take, List.length_drop]
  omega
theorem blk_byt {l : List Int} (h : Byt l) (i : Nat) : Byt (blk64 l i) := (h.drop _).take _
theorem blk_get {l : List Int} {i j : Nat} (hj : j < 64) : (blk64 l i).getD j 0 = l.getD (64 * i + j) 0 := by
  simp [blk64, List.getD, hj, List.getElem?_drop]
/-- All blocks. -/
def hashN (s : S8) (l : List Int) : Nat → S8
  | 0 => s
  | n + 1 => blockS (hashN s l n) (blk64 l n)
theorem hashN_ok {s : S8} (hs : s.Ok) (l : List Int) (n : Nat) : (hashN s l n).Ok := by
  cases n with
  | zero => exact hs
  | succ n => exact blockS_ok _ _
theorem blk_left {a b : List Int} {i : Nat} (h : 64 * (i + 1) ≤ a.length) : blk64 (a ++ b) i = blk64 a i := by
  rw [blk64, blk64, List.drop_append_of_le_length (by omega), List.take_append_of_le_length (by rw [List.length_drop]; omega)]
theorem blk_right {a b : List Int} {n i : Nat} (h : a.length = 64 * n) : blk64 (a ++ b) (n + i) = blk64 b i := by
  rw [blk64, blk64, List.drop_append, List.drop_eq_nil_of_le (by omega), List.nil_append, h]
  congr 2
  omega
theorem hashN_left {s : S8} {a b : List Int} {n : Nat} (h : 64 * n ≤ a.length) : hashN s (a ++ b) n = hashN s a n := by
  induction n with
  | zero => rfl
  | succ n ih => rw [hashN, hashN, ih (by omega), blk_left h]
theorem hashN_both {s : S8} {a b : List Int} {n : Nat} (h : a.length = 64 * n) (m : Nat) : hashN s (a ++ b) (n + m) = hashN (hashN s a n) b m := by
  induction m with
  | zero => exact hashN_left (by omega)
  | succ m ih => rw [← Nat.add_assoc, hashN, hashN, ih, blk_right h]

def S0 : S8 := ⟨0x6a09e667, 0xbb67ae85, 0x3c6ef372, 0xa54ff53a, 0x510e527f, 0x9b05688c, 0x1f83d9ab, 0x5be0cd19⟩
theorem S0_ok : S0.Ok := by
  refine ⟨?_, ?_, ?_, ?_, ?_, ?_, ?_, ?_⟩ <;> simp only [S0] <;> omega

/-- The bytes of words. -/
def outB : List Int → List Int
  | [] => []
  | x :: r => [x / 16777216 % 256, x / 65536 % 256, x / 256 % 256, x % 256] ++ outB r
theorem outB_len (l : List Int) : (outB l).length = 4 * l.length := by
  induction l with
  | nil => rfl
  | cons x r ih =>
    rw [outB, List.length_append, ih]
    simp
    omega
theorem outB_byt (l : List Int) : Byt (outB l) := by
  induction l with
  | nil => exact Byt.nil
  | cons x r ih =>
    rw [outB]
    refine Byt.app ?_ ih
    intro y hy
    simp only [List.mem_cons, List.not_mem_nil, or_false] at hy
    omega
theorem outB_app (a b : List Int) : outB (a ++ b) = outB a ++ outB b := by
  induction a with
  | nil => rfl
  | cons x r ih => rw [List.cons_append, outB, ih, outB, List.append_assoc]
theorem outB_next {l : List Int} {k : Nat} (h : k < l.length) :
    outB (l.take (k + 1)) = outB (l.take k) ++ [l.getD k 0 / 16777216 % 256, l.getD k 0 / 65536 % 256, l.getD k 0 / 256 % 256, l.getD k 0 % 256] := by
  rw [List.take_succ_eq_append_getElem h, outB_app]
  simp [outB, List.getD, h]

/-- What the hash of b is. -/
def shaL (b : List Int) : List Int := outB (hashN S0 (msg b) ((msg b).length / 64)).list
theorem shaL_byt (b : List Int) : Byt (shaL b) := outB_byt _
theorem shaL_len (b : List Int) : (shaL b).length = 32 := by
  rw [shaL, outB_len]
  rfl
/-- In two parts: whole blocks, and the rest with what stands behind it. -/
theorem shaL_parts (b : List Int) : shaL b = outB (hashN (hashN S0 (b.take (64 * (b.length / 64))) (b.length / 64)) (b.drop (64 * (b.length / 64)) ++ tailB b.length) ((b.drop (64 * (b.length / 64)) ++ tailB b.length).length / 64)).list := by
  have e : msg b = b.take (64 * (b.length / 64)) ++ (b.drop (64 * (b.length / 64)) ++ tailB b.length) := by
    rw [msg, ← List.append_assoc, List.take_append_drop]
  have h1 : (b.take (64 * (b.length / 64))).length = 64 * (b.length / 64) := by rw [List.length_take]; omega
  have h2 : (msg b).length / 64 = b.length / 64 + (b.drop (64 * (b.length / 64)) ++ tailB b.length).length / 64 := by
    have := pad_mod b.length
    rw [msg_len, List.length_append, List.length_drop]
    omega
  rw [shaL, h2, e, hashN_both h1]
theorem zpad_rest (b : List Int) : zpad (b.drop (64 * (b.length / 64))).length = zpad b.length := by
  rw [zpad, zpad, List.length_drop]
  congr 2
  omega
end Go.Proofs.YtigklnokgmcifaaDoor


/-
  Strings of bytes are alike if the bytes are.
-/
namespace Go.Proofs.YtigklnokgmcifaaDoor
open Go.RowKit

/-- Strings of bytes are alike if the bytes are. -/
theorem str_eq {a b : List Int} (ha : Byt a) (hb : Byt b) : ((strOfNums a).toList == (strOfNums b).toList) = decide (a = b) := by
  by_cases h : a = b
  · subst h; simp
  · rw [decide_eq_false h]
    simp only [beq_eq_false_iff_ne]
    exact fun e => h (str_inj ha hb e)
end Go.Proofs.YtigklnokgmcifaaDoor


/-
  PutText: the model and the program write the same bytes.
-/
namespace Go.Proofs.YtigklnokgmcifaaDoor
open Go.RowKit

/-- What PutText answers. -/
def putText (l t : List Int) : List Int := if 400 < t.length then l else putNum l t.length ++ t
theorem putText_byt {l t : List Int} (h : Byt l) (ht : Byt t) : Byt (putText l t) := by
  unfold putText
  split
  · exact h
  · exact (putNum_byt h _).app ht
theorem putNum_len (l : List Int) (n : Int) : (putNum l n).length ≤ l.length + 5 := by
  unfold putNum
  split
  · omega
  · rw [List.length_append]
    have := vint_len n.toNat (by omega)
    omega
theorem putText_room (l t : List Int) (hl : l.length ≤ 1048576) : (putText l t).length ≤ 1099511627776 := by
  unfold putText
  split
  · omega
  · rw [List.length_append]
    have := putNum_len l t.length
    omega


set_option maxRecDepth 20000 in
set_option maxHeartbeats 800000 in
theorem specPutText (l : List Int) (v : Value) (t : List Int) (u : Value) (w : World) (hv : Rd w v (bs l)) (hu : Rd w u (bs t)) (hl : l.length ≤ 1099511627776) :
    Calls Tryd.prog 64 #[v, u] w fun e w' => ∃ v', e = .returned v' ∧ Own 5 w.heap.size w'.heap.size w' v' (bs (putText l t)) ∧ Below w.heap.size w w' := by
  obtain ⟨i0, hi0, hz0, hz1, hz2⟩ := info_parts u8info
  obtain ⟨A, c, hV, hc1, hc2, _⟩ := id hv
  obtain ⟨A', c', hU, hc1', hc2', _⟩ := id hu
  rw [bs_length] at *
  unfold maxLen at hc2 hc2'
  subst hV hU
  have HV := hide hv
  have HU := hide hu
  clear hv hu
  by_cases h4 : 400 < t.length
  · rw [putText, if_pos h4]
    go_enter Tryd.func64, Tryd.ntmps64
    go_wp2_with (at_builtin; refine wpList_app _ rfl (.tmp 8) (.tmp 9) _ rfl w.heap.size 5 i0 _ 1 Tryd.underlying22 hi0 hz0 hz1 hz2 rfl _ 0 [] rfl (own_lit0 w _) _ (bs l) rfl (HV.out.alloc _) (bs_one l) (by rw [bs_length]; simp only [maxLen]; omega) (by rw [bs_length]; omega) (by simp) ?_; intro v1 w1 own1 gr1)
    go_ret
    exact ⟨_, rfl, Own.of (own_cells own1 (List.nil_append _)) (by simp), below_app0 gr1⟩
  · rw [putText, if_neg h4]
    obtain ⟨P, hP⟩ : ∃ P, putNum l t.length = P := ⟨_, rfl⟩
    have hroom : P.length ≤ l.length + 5 := by rw [← hP]; exact putNum_len l t.length
    rw [hP]
    have HP := hide hP
    clear hP
    go_enter Tryd.func64, Tryd.ntmps64
    go_wp2_with fail
    refine (specPutNum l _ t.length w HV.out (by omega)).mono ?_
    rintro e w1 ⟨v1, rfl, o1, b1⟩
    rw [HP.out] at o1
    go_wp2_with (at_builtin; refine wpList_app _ rfl (.tmp 14) (.tmp 15) _ rfl w.heap.size 5 i0 _ 1 Tryd.underlying22 hi0 hz0 hz1 hz2 rfl _ _ _ rfl o1.1 _ (bs t) rfl (HU.out.below b1) (bs_one t) (by rw [bs_length, bs_length]; simp only [maxLen]; omega) (by rw [bs_length, bs_length]; omega) b1.size ?_; intro v2 w2 own2 gr2)
    go_ret
    exact ⟨_, rfl, Own.of (own_cells own2 (bs_append _ _).symm) (by simp [bs]), Below.row b1 b1.size o1.1 gr2⟩

set_option maxRecDepth 20000 in
set_option maxHeartbeats 800000 in
theorem appendText (l : List Int) (v : Value) (t : List Int) (u : Value) (lo : Nat) (w w0 : World) (hv : w.ownsRow lo 5 1 v l.length (bs l)) (hu : Rd w0 u (bs t)) (h0 : w0.heap.size = lo) (hb : Below lo w0 w) (hl : l.length ≤ 1099511627776) :
    Calls Tryd.prog 105 #[v, u] w fun e w' => ∃ v', e = .returned v' ∧ w'.ownsRow lo 5 1 v' (putText l t).length (bs (putText l t)) ∧ Below lo w w' := by
  obtain ⟨i0, hi0, hz0, hz1, hz2⟩ := info_parts u8info
  obtain ⟨A', c', hU, hc1', hc2', _⟩ := id hu
  rw [bs_length] at *
  unfold maxLen at hc2'
  subst hU
  have HV := hide hv
  have HU := hide hu
  clear hv hu
  have hlo : lo ≤ w.heap.size := by rw [← h0]; exact hb.size
  have HB := hide hb
  have H0 := hide h0
  clear hb h0
  by_cases h4 : 400 < t.length
  · rw [putText, if_pos h4]
    go_enter Tryd.func105, Tryd.ntmps105
    go_wp2
    go_ret
    exact ⟨_, rfl, HV.out, Below.refl _ _⟩
  · rw [putText, if_neg h4]
    obtain ⟨P, hP⟩ : ∃ P, putNum l t.length = P := ⟨_, rfl⟩
    have hroom : P.length ≤ l.length + 5 := by rw [← hP]; exact putNum_len l t.length
    rw [hP]
    have HP := hide hP
    clear hP
    go_enter Tryd.func105, Tryd.ntmps105
    go_wp2_with fail
    refine (appendNum l _ t.length lo w HV.out hlo (by omega)).mono ?_
    rintro e w1 ⟨v1, rfl, o1, b1⟩
    rw [HP.out] at o1
    have hu1 : Rd w1 (.slice A' t.length c') (bs t) := HU.out.below (by rw [H0.out]; exact HB.out.trans b1)
    have hlo1 : lo ≤ w1.heap.size := Nat.le_trans hlo b1.size
    go_wp2_with (at_builtin; refine wpList_app _ rfl (.tmp 12) (.tmp 13) _ rfl lo 5 i0 _ 1 Tryd.underlying22 hi0 hz0 hz1 hz2 rfl _ _ _ rfl o1 _ (bs t) rfl hu1 (bs_one t) (by rw [bs_length]; simp only [maxLen]; omega) (by rw [bs_length]; omega) hlo1 ?_; intro v2 w2 own2 gr2)
    go_ret
    exact ⟨_, rfl, own_len (own_cells own2 (bs_append _ _).symm) (by simp [bs]), Below.row b1 hlo1 o1 gr2⟩

end Go.Proofs.YtigklnokgmcifaaDoor


/-
  The laws' copies of trees: each in blocks of its own, one behind the other.
-/
namespace Go.Proofs.YtigklnokgmcifaaDoor
open Go.RowKit
set_option linter.unusedVariables false

theorem namesInfo : (Tryd.prog.info? 22).map (fun i => (i.zero, i.size, i.bytes)) = some (some (.slice none 0 0), 1, 24) := by kernel_rfl
theorem treeInfo : (Tryd.prog.info? 33).map (fun i => (i.zero, i.size, i.bytes)) = some (some (.agg #[.int .i64 0, .slice none 0 0, .slice none 0 0, .slice none 0 0]), 4, 80) := by kernel_rfl

/-- Rows of bytes, one behind the other, from the block lo on and below hi. -/
def Chain (w : World) : Nat → List (List Int) → List Value → Nat → Prop
  | lo, [], us, hi => us = [] ∧ lo ≤ hi
  | lo, n :: ns, us, hi => ∃ u r m, us = u :: r ∧ Own 5 lo m w u (bs n) ∧ lo ≤ m ∧ Chain w m ns r hi
theorem Chain.le {w : World} : ∀ {lo : Nat} {ns : List (List Int)} {us : List Value} {hi : Nat}, Chain w lo ns us hi → lo ≤ hi
  | lo, [], us, hi, h => h.2
  | lo, n :: ns, us, hi, ⟨u, r, m, _, _, hm, h⟩ => Nat.le_trans hm h.le
theorem Chain.len {w : World} : ∀ {lo : Nat} {ns : List (List Int)} {us : List Value} {hi : Nat}, Chain w lo ns us hi → us.length = ns.length
  | lo, [], us, hi, h => by rw [h.1]; rfl
  | lo, n :: ns, us, hi, ⟨u, r, m, e, _, _, h⟩ => by rw [e]; simp [h.len]
theorem Chain.snoc {w : World} {n : List Int} {u : Value} {hi' : Nat} : ∀ {lo : Nat} {ns : List (List Int)} {us : List Value} {hi : Nat}, Chain w lo ns us hi → Own 5 hi hi' w u (bs n) → hi ≤ hi' → Chain w lo (ns ++ [n]) (us ++ [u]) hi'
  | lo, [], us, hi, h, ho, hh => by
    obtain ⟨rfl, hl⟩ := h
    exact ⟨u, [], hi', rfl, ho.wide hl (Nat.le_refl _) ho.2.1, by omega, rfl, Nat.le_refl _⟩
  | lo, m :: ns, us, hi, ⟨v, r, k, e, o, hk, h⟩, ho, hh => by
    subst e
    exact ⟨v, r ++ [u], k, rfl, o, hk, h.snoc ho hh⟩
theorem Chain.out {w w' : World} {lo' hi' : Nat} (ho : Outside lo' hi' w w') : ∀ {lo : Nat} {ns : List (List Int)} {us : List Value} {hi : Nat}, Chain w lo ns us hi → hi' ≤ lo → Chain w' lo ns us hi
  | lo, [], us, hi, h, _ => h
  | lo, n :: ns, us, hi, ⟨u, r, m, e, o, hm, h⟩, hd => ⟨u, r, m, e, o.outside ho (.inr hd), hm, h.out ho (by omega)⟩
theorem Chain.lower {w : World} {lo lo2 : Nat} : ∀ {ns : List (List Int)} {us : List Value} {hi : Nat}, Chain w lo ns us hi → lo2 ≤ lo → Chain w lo2 ns us hi
  | [], us, hi, h, hl => ⟨h.1, by have := h.2; omega⟩
  | n :: ns, us, hi, ⟨u, r, m, e, o, hm, h⟩, hl => ⟨u, r, m, e, o.wide hl (Nat.le_refl _) o.2.1, by omega, h⟩
theorem Chain.step {w w' : World} {lo : Nat} {ns : List (List Int)} {us : List Value} {hi : Nat} (h : Chain w lo ns us hi) (hb : Below w.heap.size w w') : Chain w' lo ns us hi :=
  h.out (Outside.of_below hb 0 0) (Nat.zero_le _)
theorem Chain.at_ {w : World} : ∀ {lo : Nat} {ns : List (List Int)} {us : List Value} {hi : Nat}, Chain w lo ns us hi → ∀ i u, us[i]? = some u → Rd w u (bs (ns.getD i []))
  | lo, [], us, hi, h, i, u, hu => by rw [h.1] at hu; simp at hu
  | lo, n :: ns, us, hi, ⟨v, r, m, e, o, _, h⟩, i, u, hu => by
    subst e
    cases i with
    | zero =>
      simp at hu
      subst hu
      exact o.rd
    | succ i => simpa using h.at_ i u (by simpa using hu)
/-- A slice of slices of bytes, all in blocks of its own. -/
def OwnN (lo hi : Nat) (w : World) (v : Value) (ns : List (List Int)) : Prop := ∃ us m, Own 22 lo m w v us ∧ lo ≤ m ∧ Chain w m ns us hi
theorem OwnN.rd {lo hi : Nat} {w : World} {v : Value} {ns : List (List Int)} (h : OwnN lo hi w v ns) : RdN w v ns := by
  obtain ⟨us, m, h1, _, h2⟩ := h
  exact ⟨us, h1.rd, h2.len, h2.at_⟩
theorem OwnN.out {lo hi lo' hi' : Nat} {w w' : World} {v : Value} {ns : List (List Int)} (h : OwnN lo hi w v ns) (ho : Outside lo' hi' w w') (hd : hi' ≤ lo) : OwnN lo hi w' v ns := by
  obtain ⟨us, m, h1, hm, h2⟩ := h
  exact ⟨us, m, h1.outside ho (.inr hd), hm, h2.out ho (by omega)⟩
theorem OwnN.le {lo hi : Nat} {w : World} {v : Value} {ns : List (List Int)} (h : OwnN lo hi w v ns) : lo ≤ hi := by
  obtain ⟨us, m, h1, hm, h2⟩ := h
  exact Nat.le_trans hm h2.le

theorem Own.whole {e : TypeId} {lo b n c : Nat} {w : World} {xs : List Value} (h : w.ownsRow lo e 1 (.slice (some ⟨b, 0, none⟩) n c) n xs) (hn : n = xs.length) (hb : b < w.heap.size) : Own e lo (b + 1) w (.slice (some ⟨b, 0, none⟩) n c) xs := by
  subst hn
  refine ⟨h, by omega, fun g hg => ?_⟩
  have h2 : b = g := Option.some.inj hg
  omega
theorem outside_set (w : World) (g j : Nat) (u : Value) : Outside g (g + 1) w (w.setCell ⟨g, j, none⟩ u) :=
  ⟨rfl, rfl, rfl, by simp, fun k hk ho => Below.heap_setCell w ⟨g, j, none⟩ u k (by dsimp only; omega)⟩
theorem slots_set (us : List Value) (n : Nat) (u : Value) (h : us.length < n) :
    (us ++ List.replicate (n - us.length) (Value.slice none 0 0)).set us.length u = (us ++ [u]) ++ List.replicate (n - (us ++ [u]).length) (Value.slice none 0 0) := by
  have e : n - us.length = (n - (us ++ [u]).length) + 1 := by simp; omega
  rw [e, List.replicate_succ, List.set_append, if_neg (by omega), Nat.sub_self, List.set_cons_zero]
  simp

set_option maxRecDepth 20000 in
set_option maxHeartbeats 1600000 in
theorem toNames (ns : List (List Int)) (v : Value) (w : World) (hv : RdN w v ns) (hl : ns.length ≤ 1048576) (hs : ∀ n ∈ ns, n.length ≤ 1048576) :
    Calls Tryd.prog 35 #[v] w fun e w' => ∃ v', e = .returned v' ∧ OwnN w.heap.size w'.heap.size w' v' ns ∧ Below w.heap.size w w' := by
  obtain ⟨i0, hi0, hz0, hz1, hz2⟩ := info_parts namesInfo
  obtain ⟨vs, hv, hvl, hvs⟩ := hv
  obtain ⟨A, c, rfl, hc1, hc2, hrd⟩ := hv
  rw [hvl] at hc1 hrd ⊢
  unfold maxLen at hc2
  obtain ⟨n, hn⟩ : ∃ n, ns.length = n := ⟨_, rfl⟩
  have HN := hide hn
  have HVL := hide hvl
  have HRD := hide hrd
  have HVS := hide hvs
  have HS := hide hs
  rw [hn] at hc1 hl ⊢
  clear hn hvl hrd hvs hs
  go_enter Tryd.func35, Tryd.ntmps35
  go_wp2_with (at_make; refine wpList_make_full _ rfl _ _ 23 rfl w.heap.size 22 i0 _ 1 Tryd.underlying23 hi0 hz0 hz1 .i64 .i64 _ _ n rfl rfl rfl rfl (by rw [hz2]; omega) (by simp only [maxLen]; omega) (Nat.le_refl _) ?_; intro w1 own1 gr1)
  have own2 : w1.ownsRow w.heap.size 22 1 (.slice (some ⟨w.heap.size, 0, none⟩) n n) n (([] : List Value) ++ List.replicate (n - ([] : List Value).length) (Value.slice none 0 0)) := by
    have e : (madeCells (Value.slice none 0 0).cells (n * 1)).toList = ([] : List Value) ++ List.replicate (n - ([] : List Value).length) (Value.slice none 0 0) := by
      rw [Nat.mul_one]; exact toList_madeCells_one _ _
    rw [← e]
    exact own1
  have hb1 : Below w.heap.size w w1 := (Below.refl _ _).grown gr1 (Nat.le_refl _) (fun _ h => by cases h)
  have hlt1 : w.heap.size + 1 ≤ w1.heap.size := (own2.lt w.heap.size rfl).2
  clear own1 gr1 hi0 hz0 hz1 hz2
  go_loopw [4] (fun i wr => ∃ (k : Nat) (us : List Value), k ≤ n ∧ i = .int .i64 k ∧ us.length = k ∧ wr.ownsRow w.heap.size 22 1 (.slice (some ⟨w.heap.size, 0, none⟩) n n) n (us ++ List.replicate (n - us.length) (Value.slice none 0 0)) ∧ Chain wr (w.heap.size + 1) (ns.take k) us wr.heap.size ∧ Below w.heap.size w wr ∧ w.heap.size + 1 ≤ wr.heap.size)
    (fun i _ => n - (intOf i).toNat)
  case atStart => exact ⟨0, [], Nat.zero_le _, rfl, rfl, own2, ⟨rfl, hlt1⟩, hb1, hlt1⟩
  case round =>
    clear own2 hb1 hlt1
    obtain ⟨k, us, hk, rfl, hul, hown, hch, hbel, hsz⟩ := hrel
    by_cases hlt : k < n
    · have hkl : k < ns.length := by rw [HN.out]; exact hlt
      obtain ⟨b, off, rfl, hblt, hcell⟩ := HRD.out (by rw [HN.out]; omega)
      have hvk : k < vs.length := by rw [HVL.out]; exact hkl
      obtain ⟨u, hu⟩ : ∃ u, vs[k]? = some u := ⟨_, List.getElem?_eq_getElem hvk⟩
      have hq := (hbel.cell (p := ⟨b, off + k, none⟩) hblt).trans (hcell k u hu)
      have hmem : ns.getD k [] ∈ ns := by simp [List.getD, List.getElem?_eq_getElem hkl]
      have hcall := toBytes (ns.getD k []) u wr ((HVS.out k u hu).below hbel) (by have := HS.out _ hmem; omega)
      have htake : ns.take (k + 1) = ns.take k ++ [ns.getD k []] := by
        rw [List.take_succ_eq_append_getElem hkl]
        simp [List.getD, hkl]
      have HTK := hide htake
      generalize ns.getD k [] = m at *
      have HO := hide hown
      have HCH := hide hch
      have HB := hide hbel
      have HUL := hide hul
      clear hown hch hbel hcell hmem htake hu hvk hkl hul
      go_wp2_with fail
      refine hcall.mono ?_
      rintro e w2 ⟨v2, rfl, o2, b2⟩
      obtain ⟨A2, c2, hv2, _, _⟩ := own_slice o2.1
      subst hv2
      have own2 := ((Own.whole HO.out (by rw [List.length_append, List.length_replicate, HUL.out]; omega) (by omega)).step b2).1
      replace own2 := own_len own2 (show _ = n by rw [List.length_append, List.length_replicate, HUL.out]; omega)
      have hout := own2.cellAt k (by omega)
      have hfz := own2.frozenAt k
      obtain ⟨hst, hgr⟩ := own2.stored k (.slice A2 (bs m).length c2)
      have hset := slots_set us n (.slice A2 (bs m).length c2) (by rw [HUL.out]; exact hlt)
      rw [HUL.out] at hset
      rw [HUL.out] at hst hout
      rw [hset] at hst
      have hget : (us ++ List.replicate (n - k) (Value.slice none 0 0))[k]? = some (.slice none 0 0) := by
        rw [List.getElem?_append_right (by rw [HUL.out]; omega), List.getElem?_replicate, if_pos (by rw [HUL.out]; omega)]
      rw [hget] at hout
      have hch2 := ((HCH.out.step b2).snoc o2 b2.size).out (outside_set w2 w.heap.size k (.slice A2 (bs m).length c2)) (Nat.le_refl _)
      rw [← HTK.out] at hch2
      have b3 : Below w.heap.size w (w2.setCell ⟨w.heap.size, k, none⟩ (.slice A2 (bs m).length c2)) := (HB.out.trans (b2.mono HB.out.size)).setCell (Nat.le_refl _) _
      have z3 : (w2.setCell ⟨w.heap.size, k, none⟩ (.slice A2 (bs m).length c2)).heap.size = w2.heap.size := by simp
      have z2 := b2.size
      have HST := hide hst
      have HC2 := hide hch2
      have HB3 := hide b3
      have HZ3 := hide z3
      clear hst hgr hset hget own2 hch2 b3 z3
      go_wp2_with fail
      go_roundw
      case rel => exact ⟨k + 1, us ++ [_], by omega, by go_num, by rw [List.length_append, HUL.out]; rfl, HST.out, by rw [HZ3.out]; exact HC2.out, HB3.out, by rw [HZ3.out]; omega⟩
      case measure => simp [intOf]; omega
    · obtain rfl : k = n := by omega
      have e1 : us ++ List.replicate (k - us.length) (Value.slice none 0 0) = us := by rw [hul, Nat.sub_self, List.replicate_zero, List.append_nil]
      have e2 : ns.take k = ns := List.take_of_length_le (by rw [HN.out]; omega)
      rw [e1] at hown
      rw [e2] at hch
      have hfin : OwnN w.heap.size wr.heap.size wr (.slice (some ⟨w.heap.size, 0, none⟩) k k) ns := ⟨us, w.heap.size + 1, Own.whole hown (by omega) (by omega), by omega, hch⟩
      have HF := hide hfin
      have HB := hide hbel
      clear hfin hown hch hbel e1 e2
      go_wp2
      go_ret
      exact ⟨_, rfl, HF.out, HB.out⟩

end Go.Proofs.YtigklnokgmcifaaDoor
