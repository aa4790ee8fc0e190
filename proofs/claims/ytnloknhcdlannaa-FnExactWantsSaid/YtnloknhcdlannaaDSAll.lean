
/-
  Merged: DLift, DSSz, DSEq, DSTo, DMark, DSMark, DSHeld.
-/
import Derived.Test.YtnloknhcdlannaaLiftD
import Derived.Test.YtnloknhcdlannaaDTyp
import Derived.Test.YtnloknhcdlannaaDatT

namespace Go.Proofs.Ytnloknhcdlannaa
open Go.ChangeShapes Go.WideShapes Go.ChangeAt Go.RowKit
set_option linter.unusedVariables false
set_option linter.unusedSimpArgs false
section
variable {H : Type} {enc : TypeId × Value → H} {W : World}
theorem names_of_trod' {fuel : Nat} {v : Value} {x : DataW H × List MemPlace} (h : DataW.trod enc Try.prog W 0 (fun _ => true) true fuel 31 [v] = some x) : ∃ l : List (List Int), (names l).ok ∧ ∃ F, Lie W (names l) v F :=
  row_of_trod (α := List Int) (f := fun n => [raw n]) (n := 1) Try.underlying31 (by kernel_rfl) (by decide) (by decide) (fun m _ cs x hx => by
    rcases cs with _ | ⟨u, _ | ⟨u2, cs⟩⟩
    · exact absurd (DataW.trod_slice Try.underlying22 hx) (by rintro (⟨h, _⟩ | ⟨_, _, _, _, _, _, _, h, _⟩) <;> cases h)
    · obtain ⟨l, h1, F, h2⟩ := raw_of_trod hx
      exact ⟨l, by rw [oks]; exact ⟨h1, trivial⟩, F, lies_one h2⟩
    · exact absurd (DataW.trod_slice Try.underlying22 hx) (by rintro (⟨h, _⟩ | ⟨_, _, _, _, _, _, _, h, _⟩) <;> cases h)) h
theorem ints_of_trod {fuel : Nat} {v : Value} {x : DataW H × List MemPlace} (h : DataW.trod enc Try.prog W 0 (fun _ => true) true fuel 121 [v] = some x) : ∃ l : List Int, (ints l).ok ∧ ∃ F, Lie W (ints l) v F := by
  obtain ⟨l, h1, F, h2⟩ := row_of_trod (α := Int) (f := fun x => [Cel.num .i64 x]) (n := 1) Try.underlying121 (by kernel_rfl) (by decide) (by decide) (fun m _ cs x hx => by
    obtain ⟨k, rfl, _, hw⟩ := DataW.trod_int Try.underlying3 hx
    exact ⟨k, by rw [oks]; exact ⟨(num_ok_i64 k).2 (i64_of_wf hw), trivial⟩, [], lies_one (lie_num _ _ _)⟩) h
  exact ⟨l, by rw [ints_eq]; exact h1, F, by rw [ints_eq]; exact h2⟩
set_option maxRecDepth 100000 in
theorem Op_of_trod (fuel : Nat) : ∀ (cs : List Value) (x : DataW H × List MemPlace), DataW.trod enc Try.prog W 0 (fun _ => true) true fuel 24 cs = some x → ∃ a : DOp, oks a.cells ∧ ∃ F, Lies W a.cells cs F := by
    intro cs x h
    obtain ⟨xs, n, hfu, hx, hlen, hxl, hf⟩ := DataW.trod_struct Try.underlying24 h
    have hC : Program.cellsOf Try.prog 24 = 5 := by kernel_rfl
    rw [hC] at hlen
    match cs, hlen, xs, hxl with
    | [c0, c1, c2, c3, c4], _, [y0, y1, y2, y3, y4], _ =>
      have C0 : Program.cellsOf Try.prog 3 = 1 := by kernel_rfl
      have f0 : DataW.trod enc Try.prog W 0 (fun _ => true) true n 3 (([c0, c1, c2, c3, c4].drop 0).take (Program.cellsOf Try.prog 3)) = some y0 := hf 0 _ rfl
      rw [C0] at f0
      replace f0 : DataW.trod enc Try.prog W 0 (fun _ => true) true n 3 [c0] = some y0 := f0
      have C1 : Program.cellsOf Try.prog 3 = 1 := by kernel_rfl
      have f1 : DataW.trod enc Try.prog W 0 (fun _ => true) true n 3 (([c0, c1, c2, c3, c4].drop 1).take (Program.cellsOf Try.prog 3)) = some y1 := hf 1 _ rfl
      rw [C1] at f1
      replace f1 : DataW.trod enc Try.prog W 0 (fun _ => true) true n 3 [c1] = some y1 := f1
      have C2 : Program.cellsOf Try.prog 22 = 1 := by kernel_rfl
      have f2 : DataW.trod enc Try.prog W 0 (fun _ => true) true n 22 (([c0, c1, c2, c3, c4].drop 2).take (Program.cellsOf Try.prog 22)) = some y2 := hf 2 _ rfl
      rw [C2] at f2
      replace f2 : DataW.trod enc Try.prog W 0 (fun _ => true) true n 22 [c2] = some y2 := f2
      have C3 : Program.cellsOf Try.prog 22 = 1 := by kernel_rfl
      have f3 : DataW.trod enc Try.prog W 0 (fun _ => true) true n 22 (([c0, c1, c2, c3, c4].drop 3).take (Program.cellsOf Try.prog 22)) = some y3 := hf 3 _ rfl
      rw [C3] at f3
      replace f3 : DataW.trod enc Try.prog W 0 (fun _ => true) true n 22 [c3] = some y3 := f3
      have C4 : Program.cellsOf Try.prog 3 = 1 := by kernel_rfl
      have f4 : DataW.trod enc Try.prog W 0 (fun _ => true) true n 3 (([c0, c1, c2, c3, c4].drop 4).take (Program.cellsOf Try.prog 3)) = some y4 := hf 4 _ rfl
      rw [C4] at f4
      replace f4 : DataW.trod enc Try.prog W 0 (fun _ => true) true n 3 [c4] = some y4 := f4
      obtain ⟨k0, e0, _, w0⟩ := DataW.trod_int Try.underlying3 f0
      obtain rfl := List.singleton_inj.1 e0
      obtain ⟨k1, e1, _, w1⟩ := DataW.trod_int Try.underlying3 f1
      obtain rfl := List.singleton_inj.1 e1
      obtain ⟨k2, o2, F2, l2⟩ := raw_of_trod f2
      obtain ⟨k3, o3, F3, l3⟩ := raw_of_trod f3
      obtain ⟨k4, e4, _, w4⟩ := DataW.trod_int Try.underlying3 f4
      obtain rfl := List.singleton_inj.1 e4
      refine ⟨⟨k0, k1, k2, k3, k4⟩, ?_, ?_⟩
      · rw [DOp.cells_top]
        simp only [oks, oks_app]
        exact ⟨(num_ok_i64 k0).2 (i64_of_wf w0), (num_ok_i64 k1).2 (i64_of_wf w1), o2, o3, (num_ok_i64 k4).2 (i64_of_wf w4), trivial⟩
      · rw [DOp.cells_top]
        exact ⟨_, ((lies_one (lie_num W .i64 k0)).append ((lies_one (lie_num W .i64 k1)).append ((lies_one l2).append ((lies_one l3).append (lies_one (lie_num W .i64 k4))))))⟩
theorem OpS_of_trod {fuel : Nat} {v : Value} {x : DataW H × List MemPlace} (h : DataW.trod enc Try.prog W 0 (fun _ => true) true fuel 33 [v] = some x) : ∃ l : List DOp, (seqOf 5 DOp.cells l).ok ∧ ∃ F, Lie W (seqOf 5 DOp.cells l) v F :=
  row_of_trod (α := DOp) (f := DOp.cells) (n := 5) Try.underlying33 (by kernel_rfl) (by decide) (by decide) (fun m _ cs x hx => Op_of_trod m cs x hx) h
set_option maxRecDepth 100000 in
theorem In_of_trod (fuel : Nat) : ∀ (cs : List Value) (x : DataW H × List MemPlace), DataW.trod enc Try.prog W 0 (fun _ => true) true fuel 99 cs = some x → ∃ a : DIn, oks a.cells ∧ ∃ F, Lies W a.cells cs F := by
    intro cs x h
    obtain ⟨xs, n, hfu, hx, hlen, hxl, hf⟩ := DataW.trod_struct Try.underlying99 h
    have hC : Program.cellsOf Try.prog 99 = 2 := by kernel_rfl
    rw [hC] at hlen
    match cs, hlen, xs, hxl with
    | [c0, c1], _, [y0, y1], _ =>
      have C0 : Program.cellsOf Try.prog 22 = 1 := by kernel_rfl
      have f0 : DataW.trod enc Try.prog W 0 (fun _ => true) true n 22 (([c0, c1].drop 0).take (Program.cellsOf Try.prog 22)) = some y0 := hf 0 _ rfl
      rw [C0] at f0
      replace f0 : DataW.trod enc Try.prog W 0 (fun _ => true) true n 22 [c0] = some y0 := f0
      have C1 : Program.cellsOf Try.prog 22 = 1 := by kernel_rfl
      have f1 : DataW.trod enc Try.prog W 0 (fun _ => true) true n 22 (([c0, c1].drop 1).take (Program.cellsOf Try.prog 22)) = some y1 := hf 1 _ rfl
      rw [C1] at f1
      replace f1 : DataW.trod enc Try.prog W 0 (fun _ => true) true n 22 [c1] = some y1 := f1
      obtain ⟨k0, o0, F0, l0⟩ := raw_of_trod f0
      obtain ⟨k1, o1, F1, l1⟩ := raw_of_trod f1
      refine ⟨⟨k0, k1⟩, ?_, ?_⟩
      · rw [DIn.cells_top]
        simp only [oks, oks_app]
        exact ⟨o0, o1, trivial⟩
      · rw [DIn.cells_top]
        exact ⟨_, ((lies_one l0).append (lies_one l1))⟩
theorem InS_of_trod {fuel : Nat} {v : Value} {x : DataW H × List MemPlace} (h : DataW.trod enc Try.prog W 0 (fun _ => true) true fuel 32 [v] = some x) : ∃ l : List DIn, (seqOf 2 DIn.cells l).ok ∧ ∃ F, Lie W (seqOf 2 DIn.cells l) v F :=
  row_of_trod (α := DIn) (f := DIn.cells) (n := 2) Try.underlying32 (by kernel_rfl) (by decide) (by decide) (fun m _ cs x hx => In_of_trod m cs x hx) h
set_option maxRecDepth 100000 in
theorem Drv_of_trod (fuel : Nat) : ∀ (cs : List Value) (x : DataW H × List MemPlace), DataW.trod enc Try.prog W 0 (fun _ => true) true fuel 35 cs = some x → ∃ a : DDrv, oks a.cells ∧ ∃ F, Lies W a.cells cs F := by
    intro cs x h
    obtain ⟨xs, n, hfu, hx, hlen, hxl, hf⟩ := DataW.trod_struct Try.underlying35 h
    have hC : Program.cellsOf Try.prog 35 = 4 := by kernel_rfl
    rw [hC] at hlen
    match cs, hlen, xs, hxl with
    | [c0, c1, c2, c3], _, [y0, y1, y2, y3], _ =>
      have C0 : Program.cellsOf Try.prog 31 = 1 := by kernel_rfl
      have f0 : DataW.trod enc Try.prog W 0 (fun _ => true) true n 31 (([c0, c1, c2, c3].drop 0).take (Program.cellsOf Try.prog 31)) = some y0 := hf 0 _ rfl
      rw [C0] at f0
      replace f0 : DataW.trod enc Try.prog W 0 (fun _ => true) true n 31 [c0] = some y0 := f0
      have C1 : Program.cellsOf Try.prog 32 = 1 := by kernel_rfl
      have f1 : DataW.trod enc Try.prog W 0 (fun _ => true) true n 32 (([c0, c1, c2, c3].drop 1).take (Program.cellsOf Try.prog 32)) = some y1 := hf 1 _ rfl
      rw [C1] at f1
      replace f1 : DataW.trod enc Try.prog W 0 (fun _ => true) true n 32 [c1] = some y1 := f1
      have C2 : Program.cellsOf Try.prog 31 = 1 := by kernel_rfl
      have f2 : DataW.trod enc Try.prog W 0 (fun _ => true) true n 31 (([c0, c1, c2, c3].drop 2).take (Program.cellsOf Try.prog 31)) = some y2 := hf 2 _ rfl
      rw [C2] at f2
      replace f2 : DataW.trod enc Try.prog W 0 (fun _ => true) true n 31 [c2] = some y2 := f2
      have C3 : Program.cellsOf Try.prog 33 = 1 := by kernel_rfl
      have f3 : DataW.trod enc Try.prog W 0 (fun _ => true) true n 33 (([c0, c1, c2, c3].drop 3).take (Program.cellsOf Try.prog 33)) = some y3 := hf 3 _ rfl
      rw [C3] at f3
      replace f3 : DataW.trod enc Try.prog W 0 (fun _ => true) true n 33 [c3] = some y3 := f3
      obtain ⟨k0, o0, F0, l0⟩ := names_of_trod' f0
      obtain ⟨k1, o1, F1, l1⟩ := InS_of_trod f1
      obtain ⟨k2, o2, F2, l2⟩ := names_of_trod' f2
      obtain ⟨k3, o3, F3, l3⟩ := OpS_of_trod f3
      refine ⟨⟨k0, k1, k2, k3⟩, ?_, ?_⟩
      · rw [DDrv.cells_top]
        simp only [oks, oks_app]
        exact ⟨o0, o1, o2, o3, trivial⟩
      · rw [DDrv.cells_top]
        exact ⟨_, ((lies_one l0).append ((lies_one l1).append ((lies_one l2).append (lies_one l3))))⟩
end
end Go.Proofs.Ytnloknhcdlannaa


namespace Go.Proofs.Ytnloknhcdlannaa
open Go.RowKit
set_option linter.unusedVariables false
set_option linter.unusedSimpArgs false
set_option maxRecDepth 20000 in
set_option maxHeartbeats 1600000 in
theorem dszRaw (l : List Int) : SzC Try.prog 36 (raw l) := by
  intro v F left w h h0 h1
  obtain ⟨A, c, hv, hc1, hc2⟩ := h.form
  have hb : (raw l).bulk = l.length := by
    rw [raw, Cel.bulk]
    have : ∀ k : List Int, bulks (k.map (Cel.num .u8)) = 0 := fun k => by
      induction k with
      | nil => rfl
      | cons x k ih => rw [List.map_cons, bulks, ih]; rfl
    rw [this]
    rfl
  rw [hb]
  clear hb h
  generalize l.length = N at *
  subst hv
  unfold maxLen at hc2
  by_cases hm : (N : Int) ≤ left
  · have q : ¬ (left - (N : Int) < 0) := by omega
    go_enter Try.func36, Try.ntmps36
    go_wp2
    go_ret
    exact ⟨ret_lft hm rfl, Below.refl _ _⟩
  · have q : left - (N : Int) < 0 := by omega
    go_enter Try.func36, Try.ntmps36
    go_wp2
    go_ret
    exact ⟨ret_lno (by omega), Below.refl _ _⟩

set_option maxRecDepth 20000 in
set_option maxHeartbeats 1600000 in
theorem dszNames0 (l : List (List Int)) (he : ∀ x ∈ l, SzC Try.prog 36 (raw x)) : SzC Try.prog 41 (seqOf 1 (fun n => [raw n]) l) := by
  unfold seqOf
  intro v F left w h h0 h1
  obtain ⟨A, c, hv, hc1, hc2, hrd⟩ := h.read
  obtain ⟨N, hN⟩ : ∃ N, l.length = N := ⟨_, rfl⟩
  obtain ⟨g, hg⟩ : ∃ g : (List Int) → List Cel, (fun n => [raw n]) = g := ⟨_, rfl⟩
  have hgn : ∀ x, (g x).length = 1 := fun x => by subst hg; rfl
  have hgx : ∀ x, g x = [raw x] := fun x => by subst hg; rfl
  rw [Cel.bulk]
  rw [hg] at hrd ⊢
  rw [hN] at hv hc1 hrd ⊢
  unfold maxLen at hc2
  obtain ⟨S, hS⟩ : ∃ S, bulks (cells g l) = S := ⟨_, rfl⟩
  rw [hS]
  have HN := hide hN
  have HS := hide hS
  have HRD := hide hrd
  have HE := hide he
  have HGN := hide hgn
  have HGX := hide hgx
  subst hv
  clear hN hS hrd he hgn hg h hgx
  by_cases hle : (N : Int) ≤ left
  · go_enter Try.func41, Try.ntmps41
    go_wp2
    go_loopw [1, 5] (fun u i wr => ∃ j z : Nat, j ≤ N ∧ i = .int .i64 j ∧ u = .int .i64 (left - N - z) ∧ (z : Int) ≤ left - N ∧ z ≤ S ∧ Hid (bulks (cells g (l.take j)) = z) ∧ Below w.heap.size w wr)
      (fun _ i _ => N - (intOf i).toNat)
    case atStart => exact ⟨0, 0, Nat.zero_le _, rfl, by go_num, by omega, Nat.zero_le _, hide (by simp [cells, bulks]), Below.refl _ _⟩
    case round =>
      obtain ⟨j, z, hj, rfl, rfl, hzl, hzS, HZ, hbel⟩ := hrel
      by_cases hlt : j < N
      · obtain ⟨b, off, us, G, rfl, P⟩ := HRD.out (by omega)
        have hjn : j < l.length := by rw [HN.out]; exact hlt
        have hlen2 : j * 1 = (cells g (l.take j)).length := by rw [cells_len (sz := 1) HGN.out, List.length_take]; omega
        have hmem : l[j] ∈ l := List.getElem_mem hjn
        have hz2 := congrArg bulks (cells_take g hjn)
        have hz3 : bulks (cells g (l.take (j + 1))) ≤ S := by
          rw [← HS.out, cells_split g l (j + 1), bulks_app]; omega
        rw [cells_split g l j, cells_drop g hjn] at P
        rw [bulks_app, HZ.out] at hz2
        generalize l[j] = x at *
        rw [HGX.out x] at P hz2
        simp only [List.cons_append, List.nil_append] at P
        simp only [bulks, Nat.add_zero] at hz2
        obtain ⟨y1, G1, c1, l1⟩ := (P.step hbel).cell hlen2
        rw [Nat.mul_one] at c1
        obtain ⟨m, hm⟩ : ∃ m, (raw x).bulk = m := ⟨_, rfl⟩
        have hcall := HE.out x hmem y1 G1 (left - N - z) wr l1 (by omega) (by omega)
        rw [hm] at hz2 hcall
        rw [hz2] at hz3
        have HZ2 := hide hz2
        have HB := hide hbel
        have k1 : (j : Int) < (N : Int) := by omega
        clear hbel P l1 hmem hlen2 hjn hz2 hm
        by_cases hmm : (m : Int) ≤ left - N - z
        · rw [lft, if_pos hmm] at hcall
          have q1 : ¬ (left - (N : Int) - (z : Int) - (m : Int) < 0) := by omega
          go_wp2_with fail
          refine hcall.mono ?_
          rintro e w2 ⟨rfl, b2⟩
          go_wp2_with fail
          go_roundw
          case rel => exact ⟨j + 1, z + m, by omega, by go_num, by go_num, by omega, by omega, HZ2, HB.out.trans (b2.mono HB.out.size)⟩
          case measure => simp [intOf]; omega
        · rw [lft, if_neg hmm] at hcall
          go_wp2_with fail
          refine hcall.mono ?_
          rintro e w2 ⟨rfl, b2⟩
          go_wp2_with fail
          go_ret
          exact ⟨ret_lno (by omega), HB.out.trans (b2.mono HB.out.size)⟩
      · obtain rfl : j = N := by omega
        have hz := HZ.out
        rw [List.take_of_length_le (by rw [HN.out]; omega), HS.out] at hz
        subst hz
        have HB := hide hbel
        clear hbel HZ
        go_wp2
        go_ret
        exact ⟨ret_lft (by omega) (by omega), HB.out⟩
  · have hneg : left - (N : Int) < 0 := by omega
    go_enter Try.func41, Try.ntmps41
    go_wp2
    go_ret
    exact ⟨ret_lno (by omega), Below.refl _ _⟩

theorem dszNames (l : List (List Int)) : SzC Try.prog 41 (names l) := dszNames0 l fun x _ => dszRaw x

set_option maxRecDepth 20000 in
set_option maxHeartbeats 1600000 in
theorem dszOp0 (x : DOp) : SzA Try.prog 9 x.cells := by
  intro us F left w h h0 h1
  have hd := h
  rw [x.cells_eq] at hd
  obtain ⟨r0, G0, rfl, q0⟩ := hd.nums1
  obtain ⟨r1, G1, rfl, q1⟩ := q0.nums1
  obtain ⟨A2, m2, c2, r2, G2, rfl, q2⟩ := q1.seqs1
  obtain ⟨A3, m3, c3, r3, G3, rfl, q3⟩ := q2.seqs1
  obtain ⟨r4, G4, rfl, q4⟩ := q3.nums1
  obtain rfl := q4.nil1
  clear q0 q1 q2 q3 q4
  obtain ⟨us, hus⟩ : ∃ us : List Value, [.int .i64 x.code, .int .i64 x.out, .slice A2 m2 c2, .slice A3 m3 c3, .int .i64 x.arg] = us := ⟨_, rfl⟩
  obtain ⟨wa, hwa⟩ : ∃ wa, w.alloc (.cells #[.int .i64 x.code, .int .i64 x.out, .slice A2 m2 c2, .slice A3 m3 c3, .int .i64 x.arg] 24) = wa := ⟨_, rfl⟩
  have ba : Below w.heap.size w wa := by rw [← hwa]; exact (Below.refl _ _).alloc (Nat.le_refl _) _
  have bx0 : Box wa w.heap.size 24 us := by rw [← hwa, ← hus]; exact Box.new w _ _
  rw [hus] at h
  obtain ⟨D2, hD2⟩ : ∃ D, (raw x.name).bulk = D := ⟨_, rfl⟩
  obtain ⟨D3, hD3⟩ : ∃ D, (raw x.text).bulk = D := ⟨_, rfl⟩
  have hsum : bulks x.cells = D2 + D3 := by
    rw [x.cells_top]
    simp only [bulks, hD2, hD3, num_bulk]
    omega
  rw [hsum]
  rw [x.cells_top] at h
  have P0 := ReadV.start (h.step ba)
  have HUS := hide hus
  have HB0 := hide ba
  clear h hus ba hsum
  go_enter Try.func9, Try.ntmps9
  have P1 := P0.next
  clear P0
  have P2 := P1.next
  clear P1
  obtain ⟨F2, l2⟩ := P2.call (p := 2) (by simp only [List.length_append, List.length_cons, List.length_nil]) (v := .slice A2 m2 c2) (by rw [← HUS.out]; rfl)
  have call2 := dszRaw x.name _ F2 (left) wa l2 (by omega) (by omega)
  have cc2 : wa.cell? ⟨w.heap.size, 2, none⟩ = some (.slice A2 m2 c2) := bx0.cell (by rw [← HUS.out]; rfl)
  rw [hD2] at call2
  have PN2 := P2.next
  have BX2 := hide bx0
  clear l2 P2 bx0
  by_cases hm2 : (D2 : Int) ≤ left
  · rw [lft, if_pos hm2] at call2
    have q2 : ¬ (left - (D2 : Int) < 0) := by omega
    go_wp2_with fail
    refine call2.mono ?_
    rintro e W2 ⟨rfl, b2⟩
    have P3 := PN2.step b2
    have bx3 := BX2.out.step b2
    have HB3 := hide (HB0.out.trans (b2.mono HB0.out.size))
    clear call2 PN2 b2 BX2 cc2
    obtain ⟨F3, l3⟩ := P3.call (p := 3) (by simp only [List.length_append, List.length_cons, List.length_nil]) (v := .slice A3 m3 c3) (by rw [← HUS.out]; rfl)
    have call3 := dszRaw x.text _ F3 (left - D2) W2 l3 (by omega) (by omega)
    have cc3 : W2.cell? ⟨w.heap.size, 3, none⟩ = some (.slice A3 m3 c3) := bx3.cell (by rw [← HUS.out]; rfl)
    rw [hD3] at call3
    have PN3 := P3.next
    have BX3 := hide bx3
    clear l3 P3 bx3
    by_cases hm3 : (D3 : Int) ≤ left - D2
    · rw [lft, if_pos hm3] at call3
      have q3 : ¬ (left - D2 - (D3 : Int) < 0) := by omega
      go_wp2_with fail
      refine call3.mono ?_
      rintro e W3 ⟨rfl, b3⟩
      have P4 := PN3.step b3
      have bx4 := BX3.out.step b3
      have HB4 := hide (HB3.out.trans (b3.mono HB3.out.size))
      clear call3 PN3 b3 BX3 cc3
      have P5 := P4.next
      clear P4
      go_wp2_with fail
      go_ret
      exact ⟨ret_lft (by omega) (by omega), HB4.out⟩
    · rw [lft, if_neg hm3] at call3
      go_wp2_with fail
      refine call3.mono ?_
      rintro e W3 ⟨rfl, b3⟩
      go_wp2_with fail
      go_ret
      exact ⟨ret_lno (by omega), HB3.out.trans (b3.mono HB3.out.size)⟩
  · rw [lft, if_neg hm2] at call2
    go_wp2_with fail
    refine call2.mono ?_
    rintro e W2 ⟨rfl, b2⟩
    go_wp2_with fail
    go_ret
    exact ⟨ret_lno (by omega), HB0.out.trans (b2.mono HB0.out.size)⟩

theorem dszOp (x : DOp) : SzA Try.prog 9 x.cells := dszOp0 x

set_option maxRecDepth 20000 in
set_option maxHeartbeats 1600000 in
theorem dszOpS0 (l : List DOp) (he : ∀ x ∈ l, SzA Try.prog 9 (DOp.cells x)) : SzC Try.prog 43 (seqOf 5 DOp.cells l) := by
  unfold seqOf
  intro v F left w h h0 h1
  obtain ⟨A, c, hv, hc1, hc2, hrd⟩ := h.read
  obtain ⟨N, hN⟩ : ∃ N, l.length = N := ⟨_, rfl⟩
  obtain ⟨g, hg⟩ : ∃ g : DOp → List Cel, DOp.cells = g := ⟨_, rfl⟩
  have hgn : ∀ x, (g x).length = 5 := fun x => by subst hg; rw [x.cells_eq]; rfl
  rw [Cel.bulk]
  rw [hg] at hrd ⊢
  rw [hg] at he
  rw [hN] at hv hc1 hrd ⊢
  unfold maxLen at hc2
  obtain ⟨S, hS⟩ : ∃ S, bulks (cells g l) = S := ⟨_, rfl⟩
  rw [hS]
  have HN := hide hN
  have HS := hide hS
  have HRD := hide hrd
  have HE := hide he
  have HGN := hide hgn
  subst hv
  clear hN hS hrd he hgn hg h
  by_cases hle : (N : Int) ≤ left
  · go_enter Try.func43, Try.ntmps43
    go_wp2
    go_loopw [1, 5] (fun u i wr => ∃ j z : Nat, j ≤ N ∧ i = .int .i64 j ∧ u = .int .i64 (left - N - z) ∧ (z : Int) ≤ left - N ∧ z ≤ S ∧ Hid (bulks (cells g (l.take j)) = z) ∧ Below w.heap.size w wr)
      (fun _ i _ => N - (intOf i).toNat)
    case atStart => exact ⟨0, 0, Nat.zero_le _, rfl, by go_num, by omega, Nat.zero_le _, hide (by simp [cells, bulks]), Below.refl _ _⟩
    case round =>
      obtain ⟨j, z, hj, rfl, rfl, hzl, hzS, HZ, hbel⟩ := hrel
      by_cases hlt : j < N
      · obtain ⟨b, off, us, G, rfl, P⟩ := HRD.out (by omega)
        have hjn : j < l.length := by rw [HN.out]; exact hlt
        have hlen2 : j * 5 = (cells g (l.take j)).length := by rw [cells_len (sz := 5) HGN.out, List.length_take]; omega
        have hmem : l[j] ∈ l := List.getElem_mem hjn
        have hz2 := congrArg bulks (cells_take g hjn)
        have hz3 : bulks (cells g (l.take (j + 1))) ≤ S := by
          rw [← HS.out, cells_split g l (j + 1), bulks_app]; omega
        rw [cells_split g l j, cells_drop g hjn] at P
        rw [bulks_app, HZ.out] at hz2
        generalize l[j] = x at *
        obtain ⟨y1, G1, n1, c1, l1⟩ := (P.step hbel).mid hlen2 (HGN.out x)
        have s1 : ((Try.prog.info? 24).map (·.size)) = some y1.length := by rw [n1]; kernel_rfl
        obtain ⟨m, hm⟩ : ∃ m, bulks (g x) = m := ⟨_, rfl⟩
        have hcall := HE.out x hmem y1 G1 (left - N - z) wr l1 (by omega) (by omega)
        rw [hm] at hz2 hcall
        have HC1 := hide c1
        have HS1 := hide s1
        rw [hz2] at hz3
        have HZ2 := hide hz2
        have HB := hide hbel
        have k1 : (j : Int) < (N : Int) := by omega
        clear hbel P l1 hmem hlen2 hjn hz2 hm c1 s1 n1
        by_cases hmm : (m : Int) ≤ left - N - z
        · rw [lft, if_pos hmm] at hcall
          have q1 : ¬ (left - (N : Int) - (z : Int) - (m : Int) < 0) := by omega
          go_wp2_with ((with_reducible refine at_load 24 ?_); refine wpList_load_mid rfl _ _ rfl b (off + j * 5) rfl _ _ HC1.out Try.underlying24 rfl HS1.out ?_)
          refine hcall.mono ?_
          rintro e w2 ⟨rfl, b2⟩
          go_wp2_with fail
          go_roundw
          case rel => exact ⟨j + 1, z + m, by omega, by go_num, by go_num, by omega, by omega, HZ2, HB.out.trans (b2.mono HB.out.size)⟩
          case measure => simp [intOf]; omega
        · rw [lft, if_neg hmm] at hcall
          go_wp2_with ((with_reducible refine at_load 24 ?_); refine wpList_load_mid rfl _ _ rfl b (off + j * 5) rfl _ _ HC1.out Try.underlying24 rfl HS1.out ?_)
          refine hcall.mono ?_
          rintro e w2 ⟨rfl, b2⟩
          go_wp2_with fail
          go_ret
          exact ⟨ret_lno (by omega), HB.out.trans (b2.mono HB.out.size)⟩
      · obtain rfl : j = N := by omega
        have hz := HZ.out
        rw [List.take_of_length_le (by rw [HN.out]; omega), HS.out] at hz
        subst hz
        have HB := hide hbel
        clear hbel HZ
        go_wp2
        go_ret
        exact ⟨ret_lft (by omega) (by omega), HB.out⟩
  · have hneg : left - (N : Int) < 0 := by omega
    go_enter Try.func43, Try.ntmps43
    go_wp2
    go_ret
    exact ⟨ret_lno (by omega), Below.refl _ _⟩
theorem dszOpS (l : List DOp) : SzC Try.prog 43 (seqOf 5 DOp.cells l) := dszOpS0 l fun x _ => dszOp x

set_option maxRecDepth 20000 in
set_option maxHeartbeats 1600000 in
theorem dszIn0 (x : DIn) : SzA Try.prog 72 x.cells := by
  intro us F left w h h0 h1
  have hd := h
  rw [x.cells_eq] at hd
  obtain ⟨A0, m0, c0, r0, G0, rfl, q0⟩ := hd.seqs1
  obtain ⟨A1, m1, c1, r1, G1, rfl, q1⟩ := q0.seqs1
  obtain rfl := q1.nil1
  clear q0 q1
  obtain ⟨us, hus⟩ : ∃ us : List Value, [.slice A0 m0 c0, .slice A1 m1 c1] = us := ⟨_, rfl⟩
  obtain ⟨wa, hwa⟩ : ∃ wa, w.alloc (.cells #[.slice A0 m0 c0, .slice A1 m1 c1] 99) = wa := ⟨_, rfl⟩
  have ba : Below w.heap.size w wa := by rw [← hwa]; exact (Below.refl _ _).alloc (Nat.le_refl _) _
  have bx0 : Box wa w.heap.size 99 us := by rw [← hwa, ← hus]; exact Box.new w _ _
  rw [hus] at h
  obtain ⟨D0, hD0⟩ : ∃ D, (raw x.drv).bulk = D := ⟨_, rfl⟩
  obtain ⟨D1, hD1⟩ : ∃ D, (raw x.out).bulk = D := ⟨_, rfl⟩
  have hsum : bulks x.cells = D0 + D1 := by
    rw [x.cells_top]
    simp only [bulks, hD0, hD1]
    omega
  rw [hsum]
  rw [x.cells_top] at h
  have P0 := ReadV.start (h.step ba)
  have HUS := hide hus
  have HB0 := hide ba
  clear h hus ba hsum
  go_enter Try.func72, Try.ntmps72
  obtain ⟨F0, l0⟩ := P0.call (p := 0) (by rfl) (v := .slice A0 m0 c0) (by rw [← HUS.out]; rfl)
  have call0 := dszRaw x.drv _ F0 (left) wa l0 (by omega) (by omega)
  have cc0 : wa.cell? ⟨w.heap.size, 0, none⟩ = some (.slice A0 m0 c0) := bx0.cell (by rw [← HUS.out]; rfl)
  rw [hD0] at call0
  have PN0 := P0.next
  have BX0 := hide bx0
  clear l0 P0 bx0
  by_cases hm0 : (D0 : Int) ≤ left
  · rw [lft, if_pos hm0] at call0
    have q0 : ¬ (left - (D0 : Int) < 0) := by omega
    go_wp2_with fail
    refine call0.mono ?_
    rintro e W0 ⟨rfl, b0⟩
    have P1 := PN0.step b0
    have bx1 := BX0.out.step b0
    have HB1 := hide (HB0.out.trans (b0.mono HB0.out.size))
    clear call0 PN0 b0 BX0 cc0
    obtain ⟨F1, l1⟩ := P1.call (p := 1) (by simp only [List.length_append, List.length_cons, List.length_nil]) (v := .slice A1 m1 c1) (by rw [← HUS.out]; rfl)
    have call1 := dszRaw x.out _ F1 (left - D0) W0 l1 (by omega) (by omega)
    have cc1 : W0.cell? ⟨w.heap.size, 1, none⟩ = some (.slice A1 m1 c1) := bx1.cell (by rw [← HUS.out]; rfl)
    rw [hD1] at call1
    have PN1 := P1.next
    have BX1 := hide bx1
    clear l1 P1 bx1
    by_cases hm1 : (D1 : Int) ≤ left - D0
    · rw [lft, if_pos hm1] at call1
      have q1 : ¬ (left - D0 - (D1 : Int) < 0) := by omega
      go_wp2_with fail
      refine call1.mono ?_
      rintro e W1 ⟨rfl, b1⟩
      have P2 := PN1.step b1
      have bx2 := BX1.out.step b1
      have HB2 := hide (HB1.out.trans (b1.mono HB1.out.size))
      clear call1 PN1 b1 BX1 cc1
      go_wp2_with fail
      go_ret
      exact ⟨ret_lft (by omega) (by omega), HB2.out⟩
    · rw [lft, if_neg hm1] at call1
      go_wp2_with fail
      refine call1.mono ?_
      rintro e W1 ⟨rfl, b1⟩
      go_wp2_with fail
      go_ret
      exact ⟨ret_lno (by omega), HB1.out.trans (b1.mono HB1.out.size)⟩
  · rw [lft, if_neg hm0] at call0
    go_wp2_with fail
    refine call0.mono ?_
    rintro e W0 ⟨rfl, b0⟩
    go_wp2_with fail
    go_ret
    exact ⟨ret_lno (by omega), HB0.out.trans (b0.mono HB0.out.size)⟩

theorem dszIn (x : DIn) : SzA Try.prog 72 x.cells := dszIn0 x

set_option maxRecDepth 20000 in
set_option maxHeartbeats 1600000 in
theorem dszInS0 (l : List DIn) (he : ∀ x ∈ l, SzA Try.prog 72 (DIn.cells x)) : SzC Try.prog 42 (seqOf 2 DIn.cells l) := by
  unfold seqOf
  intro v F left w h h0 h1
  obtain ⟨A, c, hv, hc1, hc2, hrd⟩ := h.read
  obtain ⟨N, hN⟩ : ∃ N, l.length = N := ⟨_, rfl⟩
  obtain ⟨g, hg⟩ : ∃ g : DIn → List Cel, DIn.cells = g := ⟨_, rfl⟩
  have hgn : ∀ x, (g x).length = 2 := fun x => by subst hg; rw [x.cells_eq]; rfl
  rw [Cel.bulk]
  rw [hg] at hrd ⊢
  rw [hg] at he
  rw [hN] at hv hc1 hrd ⊢
  unfold maxLen at hc2
  obtain ⟨S, hS⟩ : ∃ S, bulks (cells g l) = S := ⟨_, rfl⟩
  rw [hS]
  have HN := hide hN
  have HS := hide hS
  have HRD := hide hrd
  have HE := hide he
  have HGN := hide hgn
  subst hv
  clear hN hS hrd he hgn hg h
  by_cases hle : (N : Int) ≤ left
  · go_enter Try.func42, Try.ntmps42
    go_wp2
    go_loopw [1, 5] (fun u i wr => ∃ j z : Nat, j ≤ N ∧ i = .int .i64 j ∧ u = .int .i64 (left - N - z) ∧ (z : Int) ≤ left - N ∧ z ≤ S ∧ Hid (bulks (cells g (l.take j)) = z) ∧ Below w.heap.size w wr)
      (fun _ i _ => N - (intOf i).toNat)
    case atStart => exact ⟨0, 0, Nat.zero_le _, rfl, by go_num, by omega, Nat.zero_le _, hide (by simp [cells, bulks]), Below.refl _ _⟩
    case round =>
      obtain ⟨j, z, hj, rfl, rfl, hzl, hzS, HZ, hbel⟩ := hrel
      by_cases hlt : j < N
      · obtain ⟨b, off, us, G, rfl, P⟩ := HRD.out (by omega)
        have hjn : j < l.length := by rw [HN.out]; exact hlt
        have hlen2 : j * 2 = (cells g (l.take j)).length := by rw [cells_len (sz := 2) HGN.out, List.length_take]; omega
        have hmem : l[j] ∈ l := List.getElem_mem hjn
        have hz2 := congrArg bulks (cells_take g hjn)
        have hz3 : bulks (cells g (l.take (j + 1))) ≤ S := by
          rw [← HS.out, cells_split g l (j + 1), bulks_app]; omega
        rw [cells_split g l j, cells_drop g hjn] at P
        rw [bulks_app, HZ.out] at hz2
        generalize l[j] = x at *
        obtain ⟨y1, G1, n1, c1, l1⟩ := (P.step hbel).mid hlen2 (HGN.out x)
        have s1 : ((Try.prog.info? 99).map (·.size)) = some y1.length := by rw [n1]; kernel_rfl
        obtain ⟨m, hm⟩ : ∃ m, bulks (g x) = m := ⟨_, rfl⟩
        have hcall := HE.out x hmem y1 G1 (left - N - z) wr l1 (by omega) (by omega)
        rw [hm] at hz2 hcall
        have HC1 := hide c1
        have HS1 := hide s1
        rw [hz2] at hz3
        have HZ2 := hide hz2
        have HB := hide hbel
        have k1 : (j : Int) < (N : Int) := by omega
        clear hbel P l1 hmem hlen2 hjn hz2 hm c1 s1 n1
        by_cases hmm : (m : Int) ≤ left - N - z
        · rw [lft, if_pos hmm] at hcall
          have q1 : ¬ (left - (N : Int) - (z : Int) - (m : Int) < 0) := by omega
          go_wp2_with ((with_reducible refine at_load 99 ?_); refine wpList_load_mid rfl _ _ rfl b (off + j * 2) rfl _ _ HC1.out Try.underlying99 rfl HS1.out ?_)
          refine hcall.mono ?_
          rintro e w2 ⟨rfl, b2⟩
          go_wp2_with fail
          go_roundw
          case rel => exact ⟨j + 1, z + m, by omega, by go_num, by go_num, by omega, by omega, HZ2, HB.out.trans (b2.mono HB.out.size)⟩
          case measure => simp [intOf]; omega
        · rw [lft, if_neg hmm] at hcall
          go_wp2_with ((with_reducible refine at_load 99 ?_); refine wpList_load_mid rfl _ _ rfl b (off + j * 2) rfl _ _ HC1.out Try.underlying99 rfl HS1.out ?_)
          refine hcall.mono ?_
          rintro e w2 ⟨rfl, b2⟩
          go_wp2_with fail
          go_ret
          exact ⟨ret_lno (by omega), HB.out.trans (b2.mono HB.out.size)⟩
      · obtain rfl : j = N := by omega
        have hz := HZ.out
        rw [List.take_of_length_le (by rw [HN.out]; omega), HS.out] at hz
        subst hz
        have HB := hide hbel
        clear hbel HZ
        go_wp2
        go_ret
        exact ⟨ret_lft (by omega) (by omega), HB.out⟩
  · have hneg : left - (N : Int) < 0 := by omega
    go_enter Try.func42, Try.ntmps42
    go_wp2
    go_ret
    exact ⟨ret_lno (by omega), Below.refl _ _⟩
theorem dszInS (l : List DIn) : SzC Try.prog 42 (seqOf 2 DIn.cells l) := dszInS0 l fun x _ => dszIn x

set_option maxRecDepth 20000 in
set_option maxHeartbeats 1600000 in
theorem dszDrv0 (x : DDrv) : SzA Try.prog 14 x.cells := by
  intro us F left w h h0 h1
  have hd := h
  rw [x.cells_eq] at hd
  obtain ⟨A0, m0, c0, r0, G0, rfl, q0⟩ := hd.seqs1
  obtain ⟨A1, m1, c1, r1, G1, rfl, q1⟩ := q0.seqs1
  obtain ⟨A2, m2, c2, r2, G2, rfl, q2⟩ := q1.seqs1
  obtain ⟨A3, m3, c3, r3, G3, rfl, q3⟩ := q2.seqs1
  obtain rfl := q3.nil1
  clear q0 q1 q2 q3
  obtain ⟨us, hus⟩ : ∃ us : List Value, [.slice A0 m0 c0, .slice A1 m1 c1, .slice A2 m2 c2, .slice A3 m3 c3] = us := ⟨_, rfl⟩
  obtain ⟨wa, hwa⟩ : ∃ wa, w.alloc (.cells #[.slice A0 m0 c0, .slice A1 m1 c1, .slice A2 m2 c2, .slice A3 m3 c3] 35) = wa := ⟨_, rfl⟩
  have ba : Below w.heap.size w wa := by rw [← hwa]; exact (Below.refl _ _).alloc (Nat.le_refl _) _
  have bx0 : Box wa w.heap.size 35 us := by rw [← hwa, ← hus]; exact Box.new w _ _
  rw [hus] at h
  obtain ⟨D0, hD0⟩ : ∃ D, (Go.Proofs.Ytnloknhcdlannaa.names x.srcs).bulk = D := ⟨_, rfl⟩
  obtain ⟨D1, hD1⟩ : ∃ D, (seqOf 2 DIn.cells x.ins).bulk = D := ⟨_, rfl⟩
  obtain ⟨D2, hD2⟩ : ∃ D, (Go.Proofs.Ytnloknhcdlannaa.names x.outs).bulk = D := ⟨_, rfl⟩
  obtain ⟨D3, hD3⟩ : ∃ D, (seqOf 5 DOp.cells x.ops).bulk = D := ⟨_, rfl⟩
  have hsum : bulks x.cells = D0 + D1 + D2 + D3 := by
    rw [x.cells_top]
    simp only [bulks, hD0, hD1, hD2, hD3]
    omega
  rw [hsum]
  rw [x.cells_top] at h
  have P0 := ReadV.start (h.step ba)
  have HUS := hide hus
  have HB0 := hide ba
  clear h hus ba hsum
  go_enter Try.func14, Try.ntmps14
  obtain ⟨F0, l0⟩ := P0.call (p := 0) (by rfl) (v := .slice A0 m0 c0) (by rw [← HUS.out]; rfl)
  have call0 := dszNames x.srcs _ F0 (left) wa l0 (by omega) (by omega)
  have cc0 : wa.cell? ⟨w.heap.size, 0, none⟩ = some (.slice A0 m0 c0) := bx0.cell (by rw [← HUS.out]; rfl)
  rw [hD0] at call0
  have PN0 := P0.next
  have BX0 := hide bx0
  clear l0 P0 bx0
  by_cases hm0 : (D0 : Int) ≤ left
  · rw [lft, if_pos hm0] at call0
    have q0 : ¬ (left - (D0 : Int) < 0) := by omega
    go_wp2_with fail
    refine call0.mono ?_
    rintro e W0 ⟨rfl, b0⟩
    have P1 := PN0.step b0
    have bx1 := BX0.out.step b0
    have HB1 := hide (HB0.out.trans (b0.mono HB0.out.size))
    clear call0 PN0 b0 BX0 cc0
    obtain ⟨F1, l1⟩ := P1.call (p := 1) (by simp only [List.length_append, List.length_cons, List.length_nil]) (v := .slice A1 m1 c1) (by rw [← HUS.out]; rfl)
    have call1 := dszInS x.ins _ F1 (left - D0) W0 l1 (by omega) (by omega)
    have cc1 : W0.cell? ⟨w.heap.size, 1, none⟩ = some (.slice A1 m1 c1) := bx1.cell (by rw [← HUS.out]; rfl)
    rw [hD1] at call1
    have PN1 := P1.next
    have BX1 := hide bx1
    clear l1 P1 bx1
    by_cases hm1 : (D1 : Int) ≤ left - D0
    · rw [lft, if_pos hm1] at call1
      have q1 : ¬ (left - D0 - (D1 : Int) < 0) := by omega
      go_wp2_with fail
      refine call1.mono ?_
      rintro e W1 ⟨rfl, b1⟩
      have P2 := PN1.step b1
      have bx2 := BX1.out.step b1
      have HB2 := hide (HB1.out.trans (b1.mono HB1.out.size))
      clear call1 PN1 b1 BX1 cc1
      obtain ⟨F2, l2⟩ := P2.call (p := 2) (by simp only [List.length_append, List.length_cons, List.length_nil]) (v := .slice A2 m2 c2) (by rw [← HUS.out]; rfl)
      have call2 := dszNames x.outs _ F2 (left - D0 - D1) W1 l2 (by omega) (by omega)
      have cc2 : W1.cell? ⟨w.heap.size, 2, none⟩ = some (.slice A2 m2 c2) := bx2.cell (by rw [← HUS.out]; rfl)
      rw [hD2] at call2
      have PN2 := P2.next
      have BX2 := hide bx2
      clear l2 P2 bx2
      by_cases hm2 : (D2 : Int) ≤ left - D0 - D1
      · rw [lft, if_pos hm2] at call2
        have q2 : ¬ (left - D0 - D1 - (D2 : Int) < 0) := by omega
        go_wp2_with fail
        refine call2.mono ?_
        rintro e W2 ⟨rfl, b2⟩
        have P3 := PN2.step b2
        have bx3 := BX2.out.step b2
        have HB3 := hide (HB2.out.trans (b2.mono HB2.out.size))
        clear call2 PN2 b2 BX2 cc2
        obtain ⟨F3, l3⟩ := P3.call (p := 3) (by simp only [List.length_append, List.length_cons, List.length_nil]) (v := .slice A3 m3 c3) (by rw [← HUS.out]; rfl)
        have call3 := dszOpS x.ops _ F3 (left - D0 - D1 - D2) W2 l3 (by omega) (by omega)
        have cc3 : W2.cell? ⟨w.heap.size, 3, none⟩ = some (.slice A3 m3 c3) := bx3.cell (by rw [← HUS.out]; rfl)
        rw [hD3] at call3
        have PN3 := P3.next
        have BX3 := hide bx3
        clear l3 P3 bx3
        by_cases hm3 : (D3 : Int) ≤ left - D0 - D1 - D2
        · rw [lft, if_pos hm3] at call3
          have q3 : ¬ (left - D0 - D1 - D2 - (D3 : Int) < 0) := by omega
          go_wp2_with fail
          refine call3.mono ?_
          rintro e W3 ⟨rfl, b3⟩
          have P4 := PN3.step b3
          have bx4 := BX3.out.step b3
          have HB4 := hide (HB3.out.trans (b3.mono HB3.out.size))
          clear call3 PN3 b3 BX3 cc3
          go_wp2_with fail
          go_ret
          exact ⟨ret_lft (by omega) (by omega), HB4.out⟩
        · rw [lft, if_neg hm3] at call3
          go_wp2_with fail
          refine call3.mono ?_
          rintro e W3 ⟨rfl, b3⟩
          go_wp2_with fail
          go_ret
          exact ⟨ret_lno (by omega), HB3.out.trans (b3.mono HB3.out.size)⟩
      · rw [lft, if_neg hm2] at call2
        go_wp2_with fail
        refine call2.mono ?_
        rintro e W2 ⟨rfl, b2⟩
        go_wp2_with fail
        go_ret
        exact ⟨ret_lno (by omega), HB2.out.trans (b2.mono HB2.out.size)⟩
    · rw [lft, if_neg hm1] at call1
      go_wp2_with fail
      refine call1.mono ?_
      rintro e W1 ⟨rfl, b1⟩
      go_wp2_with fail
      go_ret
      exact ⟨ret_lno (by omega), HB1.out.trans (b1.mono HB1.out.size)⟩
  · rw [lft, if_neg hm0] at call0
    go_wp2_with fail
    refine call0.mono ?_
    rintro e W0 ⟨rfl, b0⟩
    go_wp2_with fail
    go_ret
    exact ⟨ret_lno (by omega), HB0.out.trans (b0.mono HB0.out.size)⟩

theorem dszDrv (x : DDrv) : SzA Try.prog 14 x.cells := dszDrv0 x

end Go.Proofs.Ytnloknhcdlannaa


namespace Go.Proofs.Ytnloknhcdlannaa
open Go.RowKit
set_option linter.unusedVariables false
set_option linter.unusedSimpArgs false
theorem deqRaw (l : List Int) : EqC Try.prog 21 (raw l) := fun v1 v2 F1 F2 w h1 h2 => eqBytes l v1 v2 w h1.rd.1 h2.rd.1

set_option maxRecDepth 20000 in
set_option maxHeartbeats 1600000 in
theorem deqNames0 (l : List (List Int)) (he : ∀ x ∈ l, EqC Try.prog 21 (raw x)) : EqC Try.prog 33 (seqOf 1 (fun n => [raw n]) l) := by
  unfold seqOf
  intro v1 v2 F1 F2 w h1 h2
  obtain ⟨A, c, hv, hc1, hc2, hrd⟩ := h1.read
  obtain ⟨A', c', hv', hc1', hc2', hrd'⟩ := h2.read
  obtain ⟨N, hN⟩ : ∃ N, l.length = N := ⟨_, rfl⟩
  obtain ⟨g, hg⟩ : ∃ g : (List Int) → List Cel, (fun n => [raw n]) = g := ⟨_, rfl⟩
  have hgn : ∀ x, (g x).length = 1 := fun x => by subst hg; rfl
  have hgx : ∀ x, g x = [raw x] := fun x => by subst hg; rfl
  rw [hg] at hrd hrd'
  rw [hN] at hv hc1 hrd hv' hc1' hrd'
  unfold maxLen at hc2 hc2'
  have hlen : ((N : Int) != (N : Int)) = false := by simp
  have HN := hide hN
  have HRD := hide hrd
  have HRD' := hide hrd'
  have HE := hide he
  have HGN := hide hgn
  have HGX := hide hgx
  subst hv hv'
  clear hN hrd hrd' he hgn hg h1 h2 hgx
  go_enter Try.func33, Try.ntmps33
  go_wp2
  go_loopw [5] (fun i wr => ∃ j : Nat, j ≤ N ∧ i = .int .i64 j ∧ Below w.heap.size w wr) (fun i _ => N - (intOf i).toNat)
  case atStart => exact ⟨0, Nat.zero_le _, rfl, Below.refl _ _⟩
  case round =>
    obtain ⟨j, hj, rfl, hbel⟩ := hrel
    by_cases hlt : j < N
    · obtain ⟨b, off, us, G, rfl, P⟩ := HRD.out (by omega)
      obtain ⟨b', off', us', G', rfl, P'⟩ := HRD'.out (by omega)
      have hjn : j < l.length := by rw [HN.out]; exact hlt
      have hlen2 : j * 1 = (cells g (l.take j)).length := by rw [cells_len (sz := 1) HGN.out, List.length_take]; omega
      have hmem : l[j] ∈ l := List.getElem_mem hjn
      rw [cells_split g l j, cells_drop g hjn] at P P'
      generalize l[j] = x at *
      rw [HGX.out x] at P P'
      simp only [List.cons_append, List.nil_append] at P P'
      obtain ⟨y1, G1, c1, l1⟩ := (P.step hbel).cell hlen2
      obtain ⟨y2, G2, c2, l2⟩ := (P'.step hbel).cell hlen2
      rw [Nat.mul_one] at c1 c2
      have hcall := fun W (hb : Below wr.heap.size wr W) => HE.out x hmem y1 y2 G1 G2 W (l1.step hb) (l2.step hb)
      have HB := hide hbel
      have HCALL := hide hcall
      have k0 : (0 : Int) ≤ (j : Int) := by omega
      have k1 : (j : Int) < (N : Int) := by omega
      have k2 : (j : Int).toNat = j := by omega
      clear hbel hcall P P' l1 l2 hmem hlen2 hjn
      go_wp2
      go_still_tail 8, (by kernel_rfl)
      change wpList _ _ _ _ _ wr.drew
      clear k2
      have hd : Below wr.heap.size wr wr.drew := (Below.refl _ _).drew
      have hc := HCALL.out _ hd
      have HB2 : Hid (Below w.heap.size w wr.drew) := hide HB.out.drew
      generalize wr.drew = wu at *
      clear HCALL hd c1 c2
      go_wp2_with fail
      refine hc.mono ?_
      rintro e w2 ⟨rfl, b2⟩
      go_wp2_with fail
      go_roundw
      case rel => exact ⟨j + 1, by omega, by go_num, HB2.out.trans (b2.mono HB2.out.size)⟩
      case measure => simp [intOf]; omega
    · obtain rfl : j = N := by omega
      have HB := hide hbel
      clear hbel
      go_wp2
      go_ret
      exact ⟨rfl, HB.out⟩

theorem deqNames (l : List (List Int)) : EqC Try.prog 33 (names l) := deqNames0 l fun x _ => deqRaw x

set_option maxRecDepth 20000 in
set_option maxHeartbeats 1600000 in
theorem deqOp0 (x : DOp) : EqA Try.prog 13 x.cells := by
  intro us1 us2 F1 F2 w h1 h2
  have hd := h1
  have hd2 := h2
  rw [x.cells_eq] at hd hd2
  obtain ⟨r0, G0, rfl, q0⟩ := hd.nums1
  obtain ⟨r1, G1, rfl, q1⟩ := q0.nums1
  obtain ⟨A2, m2, c2, r2, G2, rfl, q2⟩ := q1.seqs1
  obtain ⟨A3, m3, c3, r3, G3, rfl, q3⟩ := q2.seqs1
  obtain ⟨r4, G4, rfl, q4⟩ := q3.nums1
  obtain rfl := q4.nil1
  clear q0 q1 q2 q3 q4
  obtain ⟨r0x, G0x, rfl, q0x⟩ := hd2.nums1
  obtain ⟨r1x, G1x, rfl, q1x⟩ := q0x.nums1
  obtain ⟨A2x, m2x, c2x, r2x, G2x, rfl, q2x⟩ := q1x.seqs1
  obtain ⟨A3x, m3x, c3x, r3x, G3x, rfl, q3x⟩ := q2x.seqs1
  obtain ⟨r4x, G4x, rfl, q4x⟩ := q3x.nums1
  obtain rfl := q4x.nil1
  clear q0x q1x q2x q3x q4x
  obtain ⟨us1, hus1⟩ : ∃ us : List Value, [.int .i64 x.code, .int .i64 x.out, .slice A2 m2 c2, .slice A3 m3 c3, .int .i64 x.arg] = us := ⟨_, rfl⟩
  obtain ⟨us2, hus2⟩ : ∃ us : List Value, [.int .i64 x.code, .int .i64 x.out, .slice A2x m2x c2x, .slice A3x m3x c3x, .int .i64 x.arg] = us := ⟨_, rfl⟩
  obtain ⟨wa, hwa⟩ : ∃ wa, (w.alloc (.cells #[.int .i64 x.code, .int .i64 x.out, .slice A2 m2 c2, .slice A3 m3 c3, .int .i64 x.arg] 27)).alloc (.cells #[.int .i64 x.code, .int .i64 x.out, .slice A2x m2x c2x, .slice A3x m3x c3x, .int .i64 x.arg] 27) = wa := ⟨_, rfl⟩
  have ba : Below w.heap.size w wa := by rw [← hwa]; exact ((Below.refl _ _).alloc (Nat.le_refl _) _).alloc (by simp) _
  have bx0 : Box wa w.heap.size 27 us1 := by rw [← hwa, ← hus1]; exact (Box.new w _ _).step ((Below.refl _ _).alloc (Nat.le_refl _) _)
  have by0 : Box wa (w.heap.size + 1) 27 us2 := by rw [← hwa, ← hus2]; have := Box.new (w.alloc (.cells #[.int .i64 x.code, .int .i64 x.out, .slice A2 m2 c2, .slice A3 m3 c3, .int .i64 x.arg] 27)) [.int .i64 x.code, .int .i64 x.out, .slice A2x m2x c2x, .slice A3x m3x c3x, .int .i64 x.arg] 27; rw [World.size_alloc] at this; exact this
  rw [hus1] at h1
  rw [hus2] at h2
  rw [x.cells_top] at h1 h2
  have ne0 : (x.code != x.code) = false := by simp
  have ne1 : (x.out != x.out) = false := by simp
  have ne4 : (x.arg != x.arg) = false := by simp
  have P0 := ReadV.start (h1.step ba)
  have R0 := ReadV.start (h2.step ba)
  have HU1 := hide hus1
  have HU2 := hide hus2
  have HB0 := hide ba
  clear h1 h2 hus1 hus2 ba
  go_enter Try.func13, Try.ntmps13
  have cc0 : wa.cell? ⟨w.heap.size, 0, none⟩ = some (.int .i64 x.code) := bx0.cell (by rw [← HU1.out]; rfl)
  have cd0 : wa.cell? ⟨w.heap.size + 1, 0, none⟩ = some (.int .i64 x.code) := by0.cell (by rw [← HU2.out]; rfl)
  have P1 := P0.next
  have R1 := R0.next
  clear P0 R0
  have cc1 : wa.cell? ⟨w.heap.size, 1, none⟩ = some (.int .i64 x.out) := bx0.cell (by rw [← HU1.out]; rfl)
  have cd1 : wa.cell? ⟨w.heap.size + 1, 1, none⟩ = some (.int .i64 x.out) := by0.cell (by rw [← HU2.out]; rfl)
  have P2 := P1.next
  have R2 := R1.next
  clear P1 R1
  have cc2 : wa.cell? ⟨w.heap.size, 2, none⟩ = some (.slice A2 m2 c2) := bx0.cell (by rw [← HU1.out]; rfl)
  have cd2 : wa.cell? ⟨w.heap.size + 1, 2, none⟩ = some (.slice A2x m2x c2x) := by0.cell (by rw [← HU2.out]; rfl)
  obtain ⟨F2, l2⟩ := P2.call (p := 2) (by simp only [List.length_append, List.length_cons, List.length_nil]) (v := .slice A2 m2 c2) (by rw [← HU1.out]; rfl)
  obtain ⟨F2x, l2x⟩ := R2.call (p := 2) (by simp only [List.length_append, List.length_cons, List.length_nil]) (v := .slice A2x m2x c2x) (by rw [← HU2.out]; rfl)
  have call2 := deqRaw x.name _ _ F2 F2x wa l2 l2x
  have CL2 := hide call2
  have PN2 := P2.next
  have RN2 := R2.next
  have BX2 := hide bx0
  have BY2 := hide by0
  clear call2 l2 l2x P2 R2 bx0 by0
  go_wp2_with fail
  refine CL2.out.mono ?_
  rintro e W2 ⟨rfl, b2⟩
  have P3 := PN2.step b2
  have R3 := RN2.step b2
  have bx3 := BX2.out.step b2
  have by3 := BY2.out.step b2
  have HB3 := hide (HB0.out.trans (b2.mono HB0.out.size))
  clear CL2 PN2 RN2 b2 BX2 BY2 cc0 cd0 cc1 cd1 cc2 cd2
  have cc3 : W2.cell? ⟨w.heap.size, 3, none⟩ = some (.slice A3 m3 c3) := bx3.cell (by rw [← HU1.out]; rfl)
  have cd3 : W2.cell? ⟨w.heap.size + 1, 3, none⟩ = some (.slice A3x m3x c3x) := by3.cell (by rw [← HU2.out]; rfl)
  obtain ⟨F3, l3⟩ := P3.call (p := 3) (by simp only [List.length_append, List.length_cons, List.length_nil]) (v := .slice A3 m3 c3) (by rw [← HU1.out]; rfl)
  obtain ⟨F3x, l3x⟩ := R3.call (p := 3) (by simp only [List.length_append, List.length_cons, List.length_nil]) (v := .slice A3x m3x c3x) (by rw [← HU2.out]; rfl)
  have call3 := deqRaw x.text _ _ F3 F3x W2 l3 l3x
  have CL3 := hide call3
  have PN3 := P3.next
  have RN3 := R3.next
  have BX3 := hide bx3
  have BY3 := hide by3
  clear call3 l3 l3x P3 R3 bx3 by3
  go_wp2_with fail
  refine CL3.out.mono ?_
  rintro e W3 ⟨rfl, b3⟩
  have P4 := PN3.step b3
  have R4 := RN3.step b3
  have bx4 := BX3.out.step b3
  have by4 := BY3.out.step b3
  have HB4 := hide (HB3.out.trans (b3.mono HB3.out.size))
  clear CL3 PN3 RN3 b3 BX3 BY3 cc3 cd3
  have cc4 : W3.cell? ⟨w.heap.size, 4, none⟩ = some (.int .i64 x.arg) := bx4.cell (by rw [← HU1.out]; rfl)
  have cd4 : W3.cell? ⟨w.heap.size + 1, 4, none⟩ = some (.int .i64 x.arg) := by4.cell (by rw [← HU2.out]; rfl)
  have P5 := P4.next
  have R5 := R4.next
  clear P4 R4
  go_wp2_with fail
  go_ret
  exact ⟨rfl, HB4.out⟩

theorem deqOp (x : DOp) : EqA Try.prog 13 x.cells := deqOp0 x

set_option maxRecDepth 20000 in
set_option maxHeartbeats 1600000 in
theorem deqOpS0 (l : List DOp) (he : ∀ x ∈ l, EqA Try.prog 13 (DOp.cells x)) : EqC Try.prog 52 (seqOf 5 DOp.cells l) := by
  unfold seqOf
  intro v1 v2 F1 F2 w h1 h2
  obtain ⟨A, c, hv, hc1, hc2, hrd⟩ := h1.read
  obtain ⟨A', c', hv', hc1', hc2', hrd'⟩ := h2.read
  obtain ⟨N, hN⟩ : ∃ N, l.length = N := ⟨_, rfl⟩
  obtain ⟨g, hg⟩ : ∃ g : DOp → List Cel, DOp.cells = g := ⟨_, rfl⟩
  have hgn : ∀ x, (g x).length = 5 := fun x => by subst hg; rw [x.cells_eq]; rfl
  rw [hg] at hrd hrd' he
  rw [hN] at hv hc1 hrd hv' hc1' hrd'
  unfold maxLen at hc2 hc2'
  have hlen : ((N : Int) != (N : Int)) = false := by simp
  have HN := hide hN
  have HRD := hide hrd
  have HRD' := hide hrd'
  have HE := hide he
  have HGN := hide hgn
  subst hv hv'
  clear hN hrd hrd' he hgn hg h1 h2
  go_enter Try.func52, Try.ntmps52
  go_wp2
  go_loopw [5] (fun i wr => ∃ j : Nat, j ≤ N ∧ i = .int .i64 j ∧ Below w.heap.size w wr) (fun i _ => N - (intOf i).toNat)
  case atStart => exact ⟨0, Nat.zero_le _, rfl, Below.refl _ _⟩
  case round =>
    obtain ⟨j, hj, rfl, hbel⟩ := hrel
    by_cases hlt : j < N
    · obtain ⟨b, off, us, G, rfl, P⟩ := HRD.out (by omega)
      obtain ⟨b', off', us', G', rfl, P'⟩ := HRD'.out (by omega)
      have hjn : j < l.length := by rw [HN.out]; exact hlt
      have hlen2 : j * 5 = (cells g (l.take j)).length := by rw [cells_len (sz := 5) HGN.out, List.length_take]; omega
      have hmem : l[j] ∈ l := List.getElem_mem hjn
      rw [cells_split g l j, cells_drop g hjn] at P P'
      generalize l[j] = x at *
      obtain ⟨y1, G1, n1, c1, l1⟩ := (P.step hbel).mid hlen2 (HGN.out x)
      obtain ⟨y2, G2, n2, c2, l2⟩ := (P'.step hbel).mid hlen2 (HGN.out x)
      have s1 : ((Try.prog.info? 27).map (·.size)) = some y1.length := by rw [n1]; kernel_rfl
      have s2 : ((Try.prog.info? 27).map (·.size)) = some y2.length := by rw [n2]; kernel_rfl
      have hcall := fun W (hb : Below wr.heap.size wr W) => HE.out x hmem y1 y2 G1 G2 W (l1.step hb) (l2.step hb)
      have HB := hide hbel
      have HCALL := hide hcall
      have HC1 := hide c1
      have HC2 := hide c2
      have HS1 := hide s1
      have HS2 := hide s2
      have k0 : (0 : Int) ≤ (j : Int) := by omega
      have k1 : (j : Int) < (N : Int) := by omega
      have k2 : (j : Int).toNat = j := by omega
      clear hbel hcall P P' l1 l2 hmem hlen2 hjn c1 c2 s1 s2 n1 n2
      go_wp2
      go_still_tail 8, (by kernel_rfl)
      refine wpStill_load_rng rfl _ _ rfl b (off + j * 5) rfl _ _ HC1.out Try.underlying27 rfl HS1.out ?_
      repeat still_step
      refine wpStill_load_rng rfl _ _ rfl b' (off' + j * 5) rfl _ _ HC2.out Try.underlying27 rfl HS2.out ?_
      refine wpStill_nil ?_
      change wpList _ _ _ _ _ wr.drew
      clear k2
      have hd : Below wr.heap.size wr wr.drew := (Below.refl _ _).drew
      have hc := HCALL.out _ hd
      have HB2 : Hid (Below w.heap.size w wr.drew) := hide HB.out.drew
      clear HC1 HC2 HS1 HS2
      generalize wr.drew = wu at *
      clear HCALL hd
      go_wp2_with fail
      refine hc.mono ?_
      rintro e w2 ⟨rfl, b2⟩
      go_wp2_with fail
      go_roundw
      case rel => exact ⟨j + 1, by omega, by go_num, HB2.out.trans (b2.mono HB2.out.size)⟩
      case measure => simp [intOf]; omega
    · obtain rfl : j = N := by omega
      have HB := hide hbel
      clear hbel
      go_wp2
      go_ret
      exact ⟨rfl, HB.out⟩
theorem deqOpS (l : List DOp) : EqC Try.prog 52 (seqOf 5 DOp.cells l) := deqOpS0 l fun x _ => deqOp x

set_option maxRecDepth 20000 in
set_option maxHeartbeats 1600000 in
theorem deqIn0 (x : DIn) : EqA Try.prog 77 x.cells := by
  intro us1 us2 F1 F2 w h1 h2
  have hd := h1
  have hd2 := h2
  rw [x.cells_eq] at hd hd2
  obtain ⟨A0, m0, c0, r0, G0, rfl, q0⟩ := hd.seqs1
  obtain ⟨A1, m1, c1, r1, G1, rfl, q1⟩ := q0.seqs1
  obtain rfl := q1.nil1
  clear q0 q1
  obtain ⟨A0x, m0x, c0x, r0x, G0x, rfl, q0x⟩ := hd2.seqs1
  obtain ⟨A1x, m1x, c1x, r1x, G1x, rfl, q1x⟩ := q0x.seqs1
  obtain rfl := q1x.nil1
  clear q0x q1x
  obtain ⟨us1, hus1⟩ : ∃ us : List Value, [.slice A0 m0 c0, .slice A1 m1 c1] = us := ⟨_, rfl⟩
  obtain ⟨us2, hus2⟩ : ∃ us : List Value, [.slice A0x m0x c0x, .slice A1x m1x c1x] = us := ⟨_, rfl⟩
  obtain ⟨wa, hwa⟩ : ∃ wa, (w.alloc (.cells #[.slice A0 m0 c0, .slice A1 m1 c1] 67)).alloc (.cells #[.slice A0x m0x c0x, .slice A1x m1x c1x] 67) = wa := ⟨_, rfl⟩
  have ba : Below w.heap.size w wa := by rw [← hwa]; exact ((Below.refl _ _).alloc (Nat.le_refl _) _).alloc (by simp) _
  have bx0 : Box wa w.heap.size 67 us1 := by rw [← hwa, ← hus1]; exact (Box.new w _ _).step ((Below.refl _ _).alloc (Nat.le_refl _) _)
  have by0 : Box wa (w.heap.size + 1) 67 us2 := by rw [← hwa, ← hus2]; have := Box.new (w.alloc (.cells #[.slice A0 m0 c0, .slice A1 m1 c1] 67)) [.slice A0x m0x c0x, .slice A1x m1x c1x] 67; rw [World.size_alloc] at this; exact this
  rw [hus1] at h1
  rw [hus2] at h2
  rw [x.cells_top] at h1 h2
  have P0 := ReadV.start (h1.step ba)
  have R0 := ReadV.start (h2.step ba)
  have HU1 := hide hus1
  have HU2 := hide hus2
  have HB0 := hide ba
  clear h1 h2 hus1 hus2 ba
  go_enter Try.func77, Try.ntmps77
  have cc0 : wa.cell? ⟨w.heap.size, 0, none⟩ = some (.slice A0 m0 c0) := bx0.cell (by rw [← HU1.out]; rfl)
  have cd0 : wa.cell? ⟨w.heap.size + 1, 0, none⟩ = some (.slice A0x m0x c0x) := by0.cell (by rw [← HU2.out]; rfl)
  obtain ⟨F0, l0⟩ := P0.call (p := 0) (by rfl) (v := .slice A0 m0 c0) (by rw [← HU1.out]; rfl)
  obtain ⟨F0x, l0x⟩ := R0.call (p := 0) (by rfl) (v := .slice A0x m0x c0x) (by rw [← HU2.out]; rfl)
  have call0 := deqRaw x.drv _ _ F0 F0x wa l0 l0x
  have CL0 := hide call0
  have PN0 := P0.next
  have RN0 := R0.next
  have BX0 := hide bx0
  have BY0 := hide by0
  clear call0 l0 l0x P0 R0 bx0 by0
  go_wp2_with fail
  refine CL0.out.mono ?_
  rintro e W0 ⟨rfl, b0⟩
  have P1 := PN0.step b0
  have R1 := RN0.step b0
  have bx1 := BX0.out.step b0
  have by1 := BY0.out.step b0
  have HB1 := hide (HB0.out.trans (b0.mono HB0.out.size))
  clear CL0 PN0 RN0 b0 BX0 BY0 cc0 cd0
  have cc1 : W0.cell? ⟨w.heap.size, 1, none⟩ = some (.slice A1 m1 c1) := bx1.cell (by rw [← HU1.out]; rfl)
  have cd1 : W0.cell? ⟨w.heap.size + 1, 1, none⟩ = some (.slice A1x m1x c1x) := by1.cell (by rw [← HU2.out]; rfl)
  obtain ⟨F1, l1⟩ := P1.call (p := 1) (by simp only [List.length_append, List.length_cons, List.length_nil]) (v := .slice A1 m1 c1) (by rw [← HU1.out]; rfl)
  obtain ⟨F1x, l1x⟩ := R1.call (p := 1) (by simp only [List.length_append, List.length_cons, List.length_nil]) (v := .slice A1x m1x c1x) (by rw [← HU2.out]; rfl)
  have call1 := deqRaw x.out _ _ F1 F1x W0 l1 l1x
  have CL1 := hide call1
  have PN1 := P1.next
  have RN1 := R1.next
  have BX1 := hide bx1
  have BY1 := hide by1
  clear call1 l1 l1x P1 R1 bx1 by1
  go_wp2_with fail
  refine CL1.out.mono ?_
  rintro e W1 ⟨rfl, b1⟩
  have P2 := PN1.step b1
  have R2 := RN1.step b1
  have bx2 := BX1.out.step b1
  have by2 := BY1.out.step b1
  have HB2 := hide (HB1.out.trans (b1.mono HB1.out.size))
  clear CL1 PN1 RN1 b1 BX1 BY1 cc1 cd1
  go_wp2_with fail
  go_ret
  exact ⟨rfl, HB2.out⟩

theorem deqIn (x : DIn) : EqA Try.prog 77 x.cells := deqIn0 x

set_option maxRecDepth 20000 in
set_option maxHeartbeats 1600000 in
theorem deqInS0 (l : List DIn) (he : ∀ x ∈ l, EqA Try.prog 77 (DIn.cells x)) : EqC Try.prog 51 (seqOf 2 DIn.cells l) := by
  unfold seqOf
  intro v1 v2 F1 F2 w h1 h2
  obtain ⟨A, c, hv, hc1, hc2, hrd⟩ := h1.read
  obtain ⟨A', c', hv', hc1', hc2', hrd'⟩ := h2.read
  obtain ⟨N, hN⟩ : ∃ N, l.length = N := ⟨_, rfl⟩
  obtain ⟨g, hg⟩ : ∃ g : DIn → List Cel, DIn.cells = g := ⟨_, rfl⟩
  have hgn : ∀ x, (g x).length = 2 := fun x => by subst hg; rw [x.cells_eq]; rfl
  rw [hg] at hrd hrd' he
  rw [hN] at hv hc1 hrd hv' hc1' hrd'
  unfold maxLen at hc2 hc2'
  have hlen : ((N : Int) != (N : Int)) = false := by simp
  have HN := hide hN
  have HRD := hide hrd
  have HRD' := hide hrd'
  have HE := hide he
  have HGN := hide hgn
  subst hv hv'
  clear hN hrd hrd' he hgn hg h1 h2
  go_enter Try.func51, Try.ntmps51
  go_wp2
  go_loopw [5] (fun i wr => ∃ j : Nat, j ≤ N ∧ i = .int .i64 j ∧ Below w.heap.size w wr) (fun i _ => N - (intOf i).toNat)
  case atStart => exact ⟨0, Nat.zero_le _, rfl, Below.refl _ _⟩
  case round =>
    obtain ⟨j, hj, rfl, hbel⟩ := hrel
    by_cases hlt : j < N
    · obtain ⟨b, off, us, G, rfl, P⟩ := HRD.out (by omega)
      obtain ⟨b', off', us', G', rfl, P'⟩ := HRD'.out (by omega)
      have hjn : j < l.length := by rw [HN.out]; exact hlt
      have hlen2 : j * 2 = (cells g (l.take j)).length := by rw [cells_len (sz := 2) HGN.out, List.length_take]; omega
      have hmem : l[j] ∈ l := List.getElem_mem hjn
      rw [cells_split g l j, cells_drop g hjn] at P P'
      generalize l[j] = x at *
      obtain ⟨y1, G1, n1, c1, l1⟩ := (P.step hbel).mid hlen2 (HGN.out x)
      obtain ⟨y2, G2, n2, c2, l2⟩ := (P'.step hbel).mid hlen2 (HGN.out x)
      have s1 : ((Try.prog.info? 67).map (·.size)) = some y1.length := by rw [n1]; kernel_rfl
      have s2 : ((Try.prog.info? 67).map (·.size)) = some y2.length := by rw [n2]; kernel_rfl
      have hcall := fun W (hb : Below wr.heap.size wr W) => HE.out x hmem y1 y2 G1 G2 W (l1.step hb) (l2.step hb)
      have HB := hide hbel
      have HCALL := hide hcall
      have HC1 := hide c1
      have HC2 := hide c2
      have HS1 := hide s1
      have HS2 := hide s2
      have k0 : (0 : Int) ≤ (j : Int) := by omega
      have k1 : (j : Int) < (N : Int) := by omega
      have k2 : (j : Int).toNat = j := by omega
      clear hbel hcall P P' l1 l2 hmem hlen2 hjn c1 c2 s1 s2 n1 n2
      go_wp2
      go_still_tail 8, (by kernel_rfl)
      refine wpStill_load_rng rfl _ _ rfl b (off + j * 2) rfl _ _ HC1.out Try.underlying67 rfl HS1.out ?_
      repeat still_step
      refine wpStill_load_rng rfl _ _ rfl b' (off' + j * 2) rfl _ _ HC2.out Try.underlying67 rfl HS2.out ?_
      refine wpStill_nil ?_
      change wpList _ _ _ _ _ wr.drew
      clear k2
      have hd : Below wr.heap.size wr wr.drew := (Below.refl _ _).drew
      have hc := HCALL.out _ hd
      have HB2 : Hid (Below w.heap.size w wr.drew) := hide HB.out.drew
      clear HC1 HC2 HS1 HS2
      generalize wr.drew = wu at *
      clear HCALL hd
      go_wp2_with fail
      refine hc.mono ?_
      rintro e w2 ⟨rfl, b2⟩
      go_wp2_with fail
      go_roundw
      case rel => exact ⟨j + 1, by omega, by go_num, HB2.out.trans (b2.mono HB2.out.size)⟩
      case measure => simp [intOf]; omega
    · obtain rfl : j = N := by omega
      have HB := hide hbel
      clear hbel
      go_wp2
      go_ret
      exact ⟨rfl, HB.out⟩
theorem deqInS (l : List DIn) : EqC Try.prog 51 (seqOf 2 DIn.cells l) := deqInS0 l fun x _ => deqIn x

set_option maxRecDepth 20000 in
set_option maxHeartbeats 1600000 in
theorem deqDrv0 (x : DDrv) : EqA Try.prog 18 x.cells := by
  intro us1 us2 F1 F2 w h1 h2
  have hd := h1
  have hd2 := h2
  rw [x.cells_eq] at hd hd2
  obtain ⟨A0, m0, c0, r0, G0, rfl, q0⟩ := hd.seqs1
  obtain ⟨A1, m1, c1, r1, G1, rfl, q1⟩ := q0.seqs1
  obtain ⟨A2, m2, c2, r2, G2, rfl, q2⟩ := q1.seqs1
  obtain ⟨A3, m3, c3, r3, G3, rfl, q3⟩ := q2.seqs1
  obtain rfl := q3.nil1
  clear q0 q1 q2 q3
  obtain ⟨A0x, m0x, c0x, r0x, G0x, rfl, q0x⟩ := hd2.seqs1
  obtain ⟨A1x, m1x, c1x, r1x, G1x, rfl, q1x⟩ := q0x.seqs1
  obtain ⟨A2x, m2x, c2x, r2x, G2x, rfl, q2x⟩ := q1x.seqs1
  obtain ⟨A3x, m3x, c3x, r3x, G3x, rfl, q3x⟩ := q2x.seqs1
  obtain rfl := q3x.nil1
  clear q0x q1x q2x q3x
  obtain ⟨us1, hus1⟩ : ∃ us : List Value, [.slice A0 m0 c0, .slice A1 m1 c1, .slice A2 m2 c2, .slice A3 m3 c3] = us := ⟨_, rfl⟩
  obtain ⟨us2, hus2⟩ : ∃ us : List Value, [.slice A0x m0x c0x, .slice A1x m1x c1x, .slice A2x m2x c2x, .slice A3x m3x c3x] = us := ⟨_, rfl⟩
  obtain ⟨wa, hwa⟩ : ∃ wa, (w.alloc (.cells #[.slice A0 m0 c0, .slice A1 m1 c1, .slice A2 m2 c2, .slice A3 m3 c3] 41)).alloc (.cells #[.slice A0x m0x c0x, .slice A1x m1x c1x, .slice A2x m2x c2x, .slice A3x m3x c3x] 41) = wa := ⟨_, rfl⟩
  have ba : Below w.heap.size w wa := by rw [← hwa]; exact ((Below.refl _ _).alloc (Nat.le_refl _) _).alloc (by simp) _
  have bx0 : Box wa w.heap.size 41 us1 := by rw [← hwa, ← hus1]; exact (Box.new w _ _).step ((Below.refl _ _).alloc (Nat.le_refl _) _)
  have by0 : Box wa (w.heap.size + 1) 41 us2 := by rw [← hwa, ← hus2]; have := Box.new (w.alloc (.cells #[.slice A0 m0 c0, .slice A1 m1 c1, .slice A2 m2 c2, .slice A3 m3 c3] 41)) [.slice A0x m0x c0x, .slice A1x m1x c1x, .slice A2x m2x c2x, .slice A3x m3x c3x] 41; rw [World.size_alloc] at this; exact this
  rw [hus1] at h1
  rw [hus2] at h2
  rw [x.cells_top] at h1 h2
  have P0 := ReadV.start (h1.step ba)
  have R0 := ReadV.start (h2.step ba)
  have HU1 := hide hus1
  have HU2 := hide hus2
  have HB0 := hide ba
  clear h1 h2 hus1 hus2 ba
  go_enter Try.func18, Try.ntmps18
  have cc0 : wa.cell? ⟨w.heap.size, 0, none⟩ = some (.slice A0 m0 c0) := bx0.cell (by rw [← HU1.out]; rfl)
  have cd0 : wa.cell? ⟨w.heap.size + 1, 0, none⟩ = some (.slice A0x m0x c0x) := by0.cell (by rw [← HU2.out]; rfl)
  obtain ⟨F0, l0⟩ := P0.call (p := 0) (by rfl) (v := .slice A0 m0 c0) (by rw [← HU1.out]; rfl)
  obtain ⟨F0x, l0x⟩ := R0.call (p := 0) (by rfl) (v := .slice A0x m0x c0x) (by rw [← HU2.out]; rfl)
  have call0 := deqNames x.srcs _ _ F0 F0x wa l0 l0x
  have CL0 := hide call0
  have PN0 := P0.next
  have RN0 := R0.next
  have BX0 := hide bx0
  have BY0 := hide by0
  clear call0 l0 l0x P0 R0 bx0 by0
  go_wp2_with fail
  refine CL0.out.mono ?_
  rintro e W0 ⟨rfl, b0⟩
  have P1 := PN0.step b0
  have R1 := RN0.step b0
  have bx1 := BX0.out.step b0
  have by1 := BY0.out.step b0
  have HB1 := hide (HB0.out.trans (b0.mono HB0.out.size))
  clear CL0 PN0 RN0 b0 BX0 BY0 cc0 cd0
  have cc1 : W0.cell? ⟨w.heap.size, 1, none⟩ = some (.slice A1 m1 c1) := bx1.cell (by rw [← HU1.out]; rfl)
  have cd1 : W0.cell? ⟨w.heap.size + 1, 1, none⟩ = some (.slice A1x m1x c1x) := by1.cell (by rw [← HU2.out]; rfl)
  obtain ⟨F1, l1⟩ := P1.call (p := 1) (by simp only [List.length_append, List.length_cons, List.length_nil]) (v := .slice A1 m1 c1) (by rw [← HU1.out]; rfl)
  obtain ⟨F1x, l1x⟩ := R1.call (p := 1) (by simp only [List.length_append, List.length_cons, List.length_nil]) (v := .slice A1x m1x c1x) (by rw [← HU2.out]; rfl)
  have call1 := deqInS x.ins _ _ F1 F1x W0 l1 l1x
  have CL1 := hide call1
  have PN1 := P1.next
  have RN1 := R1.next
  have BX1 := hide bx1
  have BY1 := hide by1
  clear call1 l1 l1x P1 R1 bx1 by1
  go_wp2_with fail
  refine CL1.out.mono ?_
  rintro e W1 ⟨rfl, b1⟩
  have P2 := PN1.step b1
  have R2 := RN1.step b1
  have bx2 := BX1.out.step b1
  have by2 := BY1.out.step b1
  have HB2 := hide (HB1.out.trans (b1.mono HB1.out.size))
  clear CL1 PN1 RN1 b1 BX1 BY1 cc1 cd1
  have cc2 : W1.cell? ⟨w.heap.size, 2, none⟩ = some (.slice A2 m2 c2) := bx2.cell (by rw [← HU1.out]; rfl)
  have cd2 : W1.cell? ⟨w.heap.size + 1, 2, none⟩ = some (.slice A2x m2x c2x) := by2.cell (by rw [← HU2.out]; rfl)
  obtain ⟨F2, l2⟩ := P2.call (p := 2) (by simp only [List.length_append, List.length_cons, List.length_nil]) (v := .slice A2 m2 c2) (by rw [← HU1.out]; rfl)
  obtain ⟨F2x, l2x⟩ := R2.call (p := 2) (by simp only [List.length_append, List.length_cons, List.length_nil]) (v := .slice A2x m2x c2x) (by rw [← HU2.out]; rfl)
  have call2 := deqNames x.outs _ _ F2 F2x W1 l2 l2x
  have CL2 := hide call2
  have PN2 := P2.next
  have RN2 := R2.next
  have BX2 := hide bx2
  have BY2 := hide by2
  clear call2 l2 l2x P2 R2 bx2 by2
  go_wp2_with fail
  refine CL2.out.mono ?_
  rintro e W2 ⟨rfl, b2⟩
  have P3 := PN2.step b2
  have R3 := RN2.step b2
  have bx3 := BX2.out.step b2
  have by3 := BY2.out.step b2
  have HB3 := hide (HB2.out.trans (b2.mono HB2.out.size))
  clear CL2 PN2 RN2 b2 BX2 BY2 cc2 cd2
  have cc3 : W2.cell? ⟨w.heap.size, 3, none⟩ = some (.slice A3 m3 c3) := bx3.cell (by rw [← HU1.out]; rfl)
  have cd3 : W2.cell? ⟨w.heap.size + 1, 3, none⟩ = some (.slice A3x m3x c3x) := by3.cell (by rw [← HU2.out]; rfl)
  obtain ⟨F3, l3⟩ := P3.call (p := 3) (by simp only [List.length_append, List.length_cons, List.length_nil]) (v := .slice A3 m3 c3) (by rw [← HU1.out]; rfl)
  obtain ⟨F3x, l3x⟩ := R3.call (p := 3) (by simp only [List.length_append, List.length_cons, List.length_nil]) (v := .slice A3x m3x c3x) (by rw [← HU2.out]; rfl)
  have call3 := deqOpS x.ops _ _ F3 F3x W2 l3 l3x
  have CL3 := hide call3
  have PN3 := P3.next
  have RN3 := R3.next
  have BX3 := hide bx3
  have BY3 := hide by3
  clear call3 l3 l3x P3 R3 bx3 by3
  go_wp2_with fail
  refine CL3.out.mono ?_
  rintro e W3 ⟨rfl, b3⟩
  have P4 := PN3.step b3
  have R4 := RN3.step b3
  have bx4 := BX3.out.step b3
  have by4 := BY3.out.step b3
  have HB4 := hide (HB3.out.trans (b3.mono HB3.out.size))
  clear CL3 PN3 RN3 b3 BX3 BY3 cc3 cd3
  go_wp2_with fail
  go_ret
  exact ⟨rfl, HB4.out⟩

theorem deqDrv (x : DDrv) : EqA Try.prog 18 x.cells := deqDrv0 x

end Go.Proofs.Ytnloknhcdlannaa


namespace Go.Proofs.Ytnloknhcdlannaa
open Go.RowKit
set_option linter.unusedVariables false
set_option linter.unusedSimpArgs false
set_option maxRecDepth 20000 in
set_option maxHeartbeats 1600000 in
theorem dtoRaw (l : List Int) : ToC Try.prog 26 (raw l) := by
  intro v F w h hb
  have hl : l.length ≤ 1048576 := by
    rw [raw, Cel.bulk] at hb
    omega
  refine (toBytes l v w h.rd.1 (by omega)).mono ?_
  rintro e w' ⟨v', rfl, ho, hbel⟩
  refine ⟨v', blk v', rfl, ho.rd.lie, ?_, hbel⟩
  obtain ⟨h1, h2, h3⟩ := ho
  rcases h1.2 with ⟨rfl, _⟩ | ⟨g, cap, cur, rfl, hbg, hg, _⟩
  · exact Fresh.nil _ _
  · generalize (bs l).length = N at *
    rcases Nat.eq_zero_or_pos N with rfl | hp
    · rw [blk_none]; exact Fresh.nil _ _
    · rw [blk_some hp]
      exact ⟨by simp, fun x hx => by rw [List.mem_singleton.1 hx]; exact hbg, fun x hx => by rw [List.mem_singleton.1 hx]; exact ⟨_, _, hg⟩⟩

theorem infoNames0 : (Try.prog.info? 22).map (fun i => (i.zero, i.size, i.bytes)) = some (some (.slice none 0 0), 1, 24) := by kernel_rfl
set_option maxRecDepth 20000 in
set_option maxHeartbeats 1600000 in
theorem dtoNames0 (l : List (List Int)) (he : ∀ x ∈ l, ToC Try.prog 26 (raw x)) : ToC Try.prog 48 (seqOf 1 (fun n => [raw n]) l) := by
  unfold seqOf
  intro v F w h hbk
  obtain ⟨i0, hi0, hz0, hz1, hz2⟩ := info_parts infoNames0
  obtain ⟨A, c, hv, hc1, hc2, hrd⟩ := h.read
  obtain ⟨N, hN⟩ : ∃ N, l.length = N := ⟨_, rfl⟩
  obtain ⟨g, hg⟩ : ∃ g : (List Int) → List Cel, (fun n => [raw n]) = g := ⟨_, rfl⟩
  have hgn : ∀ x, (g x).length = 1 := fun x => by subst hg; rfl
  have hgx : ∀ x, g x = [raw x] := fun x => by subst hg; rfl
  rw [hg] at hrd hbk ⊢
  rw [Cel.bulk] at hbk
  rw [hN] at hv hc1 hrd hbk ⊢
  unfold maxLen at hc2
  have hel : ∀ x ∈ l, bulks (g x) ≤ 1048576 := fun x hx => by
    have h1 : bulks (g x) ≤ bulks (cells g l) := by
      clear hrd he hbk hN h
      induction l with
      | nil => cases hx
      | cons y l ih =>
        rw [cells, bulks_app]
        rcases List.mem_cons.1 hx with rfl | hx
        · omega
        · have := ih hx; omega
    omega
  have hn20 : N ≤ 1048576 := by omega
  have HN := hide hN
  have HRD := hide hrd
  have HE := hide he
  have HGN := hide hgn
  have HEL := hide hel
  have HGX := hide hgx
  subst hv
  clear hN hrd he hgn hel hg h hbk hgx
  go_enter Try.func48, Try.ntmps48
  go_wp2_with (at_make; refine wpList_make_full _ rfl _ _ 31 rfl w.heap.size 22 i0 _ 1 Try.underlying31 hi0 hz0 hz1 .i64 .i64 _ _ N rfl rfl rfl rfl (by rw [hz2]; omega) (by simp only [maxLen]; omega) (Nat.le_refl _) ?_; intro w1 own1 gr1)
  have hb1 : Below w.heap.size w w1 := (Below.refl _ _).grown gr1 (Nat.le_refl _) (fun _ h => by cases h)
  obtain ⟨bx1, bl1⟩ := box_of_own own1
  have CP0 := hide (CopyP.start bx1 bl1 hb1 (Nat.le_refl _))
  clear own1 gr1 hb1 bx1 bl1 hi0 hz0 hz1 hz2
  go_loopw [4] (fun i wr => ∃ (j : Nat) (us : List Value) (F2 : List Nat), j ≤ N ∧ i = .int .i64 j ∧ Hid (CopyP w w.heap.size 22 (N * 1) (cells g (l.take j)) us F2 wr)) (fun i _ => N - (intOf i).toNat)
  case atStart => exact ⟨0, [], [], Nat.zero_le _, rfl, CP0⟩
  case round =>
    clear CP0
    obtain ⟨j, us, F2, hj, rfl, HR⟩ := hrel
    by_cases hlt : j < N
    · obtain ⟨b, off, us0, G, rfl, P⟩ := HRD.out (by omega)
      have hjn : j < l.length := by rw [HN.out]; exact hlt
      have hln : (cells g (l.take j)).length = j * 1 := by rw [cells_len (sz := 1) HGN.out, List.length_take, HN.out]; congr 1; omega
      have hmem : l[j] ∈ l := List.getElem_mem hjn
      have htk := cells_take g hjn
      rw [cells_split g l j, cells_drop g hjn] at P
      generalize l[j] = x at *
      rw [HGX.out x] at P htk
      simp only [List.cons_append, List.nil_append] at P
      obtain ⟨y1, G1, c1, l1⟩ := (P.step HR.out.below).cell hln.symm
      rw [Nat.mul_one] at c1
      have hcall := HE.out x hmem y1 G1 wr l1 (by have := HEL.out x hmem; rw [HGX.out x] at this; simp only [bulks, Nat.add_zero] at this; omega)
      have HCALL := hide hcall
      have HTK := hide htk
      have HLN := hide hln
      have hgx1 : (g x).length = 1 := HGN.out x
      have HGX1 := hide hgx1
      have htot : j * 1 + 1 ≤ N * 1 := by
        have : (j + 1) * 1 ≤ N * 1 := Nat.mul_le_mul_right _ hlt
        omega
      have k0 : (0 : Int) ≤ (j : Int) := by omega
      have k1 : (j : Int) < (N : Int) := by omega
      clear P l1 hmem hjn htk hln hcall hgx1
      go_wp2_with fail
      refine HCALL.out.mono ?_
      rintro e w2 ⟨v2, J, rfl, l2, f2, b2⟩
      obtain ⟨X, y, z, rfl⟩ : ∃ X y z, v2 = .slice X y z := by obtain ⟨X, z, e, _, _⟩ := l2.form; exact ⟨_, _, _, e⟩
      obtain ⟨th, cp⟩ := HR.out.put b2 (lies_one l2) f2 (p := j) (by rw [HLN.out, Nat.mul_one]) (by rw [HLN.out]; simp only [List.length_cons, List.length_nil]; omega)
      have th0 := (th 0 (by simp)).1
      have th1 := (th 0 (by simp)).2
      rw [Nat.add_zero] at th0 th1
      obtain ⟨old, hold⟩ := Option.isSome_iff_exists.1 th0
      rw [← HTK.out] at cp
      have CP := hide cp
      clear th th0 cp l2 f2 b2 HCALL c1
      go_wp2_with fail
      go_roundw
      case rel => exact ⟨j + 1, _, _, by omega, by go_num, CP⟩
      case measure => simp [intOf]; omega
    · obtain rfl : j = N := by omega
      have hcp := HR.out
      rw [List.take_of_length_le (by rw [HN.out]; omega)] at hcp
      obtain ⟨F', s1, s2, s3⟩ := hcp.stop (by rw [cells_len (sz := 1) HGN.out, HN.out]) (by decide) (by simp only [maxLen]; omega)
      have S1 := hide s1
      have S2 := hide s2
      have S3 := hide s3
      clear hcp HR s1 s2 s3
      go_wp2
      go_ret
      exact ⟨_, F', rfl, S1.out, S2.out, S3.out⟩

theorem dtoNames (l : List (List Int)) : ToC Try.prog 48 (names l) := dtoNames0 l fun x _ => dtoRaw x

set_option maxRecDepth 20000 in
set_option maxHeartbeats 1600000 in
theorem dtoOp0 (x : DOp) : ToA Try.prog 11 x.cells := by
  intro us F w h hbk
  have HLT := h.lt
  have hd := h
  rw [x.cells_eq] at hd
  obtain ⟨r0, G0, rfl, q0⟩ := hd.nums1
  obtain ⟨r1, G1, rfl, q1⟩ := q0.nums1
  obtain ⟨A2, m2, c2, r2, G2, rfl, q2⟩ := q1.seqs1
  obtain ⟨A3, m3, c3, r3, G3, rfl, q3⟩ := q2.seqs1
  obtain ⟨r4, G4, rfl, q4⟩ := q3.nums1
  obtain rfl := q4.nil1
  clear q0 q1 q2 q3 q4
  obtain ⟨us, hus⟩ : ∃ us : List Value, [.int .i64 x.code, .int .i64 x.out, .slice A2 m2 c2, .slice A3 m3 c3, .int .i64 x.arg] = us := ⟨_, rfl⟩
  obtain ⟨wa, hwa⟩ : ∃ wa, ((w.alloc (.cells #[.int .i64 x.code, .int .i64 x.out, .slice A2 m2 c2, .slice A3 m3 c3, .int .i64 x.arg] 24)).alloc (.cells #[.int .i64 0, .int .i64 0, .slice none 0 0, .slice none 0 0, .int .i64 0] 27)).alloc (.cells #[.int .i64 x.code, .int .i64 x.out, .slice none 0 0, .slice none 0 0, .int .i64 0] 27) = wa := ⟨_, rfl⟩
  have za : wa.heap.size = w.heap.size + 3 := by rw [← hwa]; simp
  have ba : Below w.heap.size w wa := by rw [← hwa]; exact (((Below.refl _ _).alloc (Nat.le_refl _) _).alloc (by simp) _).alloc (by simp; omega) _
  have bx0 : Box wa w.heap.size 24 us := by rw [← hwa, ← hus]; exact ((Box.new w _ _).step ((Below.refl _ _).alloc (Nat.le_refl _) _)).step ((Below.refl _ _).alloc (Nat.le_refl _) _)
  have br0 : Box wa (w.heap.size + 1) 27 [.int .i64 0, .int .i64 0, .slice none 0 0, .slice none 0 0, .int .i64 0] := by rw [← hwa]; have := Box.new (w.alloc (.cells #[.int .i64 x.code, .int .i64 x.out, .slice A2 m2 c2, .slice A3 m3 c3, .int .i64 x.arg] 24)) [.int .i64 0, .int .i64 0, .slice none 0 0, .slice none 0 0, .int .i64 0] 27; rw [World.size_alloc] at this; exact this.step ((Below.refl _ _).alloc (Nat.le_refl _) _)
  have bo0 : Box wa (w.heap.size + 1 + 1) 27 [.int .i64 x.code, .int .i64 x.out, .slice none 0 0, .slice none 0 0, .int .i64 0] := by rw [← hwa]; have := Box.new ((w.alloc (.cells #[.int .i64 x.code, .int .i64 x.out, .slice A2 m2 c2, .slice A3 m3 c3, .int .i64 x.arg] 24)).alloc (.cells #[.int .i64 0, .int .i64 0, .slice none 0 0, .slice none 0 0, .int .i64 0] 27)) [.int .i64 x.code, .int .i64 x.out, .slice none 0 0, .slice none 0 0, .int .i64 0] 27; rw [World.size_alloc, World.size_alloc] at this; exact this
  obtain ⟨D2, hD2⟩ : ∃ D, (raw x.name).bulk = D := ⟨_, rfl⟩
  obtain ⟨D3, hD3⟩ : ∃ D, (raw x.text).bulk = D := ⟨_, rfl⟩
  have hsum : bulks x.cells = D2 + D3 := by
    rw [x.cells_top]
    simp only [bulks, hD2, hD3, num_bulk]
    omega
  rw [hsum] at hbk
  rw [hus] at h
  rw [x.cells_top] at h ⊢
  have L0 : Lies wa (([] : List Cel) ++ [.num .i64 x.code] ++ [.num .i64 x.out]) (([] : List Value) ++ [.int .i64 x.code] ++ [.int .i64 x.out]) [] := by
    exact ((lies_nil _).append (lies_one (lie_num _ _ _))).append (lies_one (lie_num _ _ _))
  have fr0 := Fresh.nil (w.heap.size + 1 + 1 + 1) wa
  have P0 := (ReadV.start (h.step ba)).next.next
  have HFL : Hid (∀ g ∈ F, g < w.heap.size) := hide (fun g hg => HLT g hg)
  have HUS := hide hus
  have HB0 := hide ba
  clear h hus ba hsum
  go_enter Try.func11, Try.ntmps11
  have hl1 : w.heap.size + 3 ≤ wa.heap.size := by omega
  obtain ⟨F1, l1⟩ := P0.call (p := 2) (by simp only [List.length_append, List.length_cons, List.length_nil]) (v := .slice A2 m2 c2) (by rw [← HUS.out]; rfl)
  have call1 := dtoRaw x.name _ F1 wa l1 (by omega)
  have cc1 := bx0.cell (j := 2) (u := .slice A2 m2 c2) (by rw [← HUS.out]; rfl)
  have CL1 := hide call1
  have PP1 := hide P0
  have BX1 := hide bx0
  have BR1 := hide br0
  have BO1 := hide bo0
  have LL1 := hide L0
  have FR1 := hide fr0
  clear call1 l1 P0 bx0 br0 bo0 L0 fr0
  go_wp2_with fail
  try rw [hwa]
  refine CL1.out.mono ?_
  rintro e w1 ⟨v1, J1, rfl, k1, f1, b1⟩
  obtain ⟨X1, y1, z1, rfl⟩ : ∃ X y z, v1 = .slice X y z := by obtain ⟨X, z, e, _, _⟩ := k1.form; exact ⟨_, _, _, e⟩
  have hgl1 := b1.size
  obtain ⟨W1, hW1⟩ : ∃ W', w1.setCell ⟨w.heap.size + 1 + 1, 2, none⟩ (.slice X1 y1 z1) = W' := ⟨_, rfl⟩
  obtain ⟨L1, fr1, hb1, hz1, bu1⟩ := filled LL1.out FR1.out HB0.out (by omega) (by omega) b1 (lies_one k1) f1 2 hW1
  have bxs1 := BX1.out.step b1
  have brs1 := BR1.out.step b1
  have bos1 := BO1.out.step b1
  have bx1 := bxs1.keep (bu1.block _ bxs1.lt (by simp <;> omega))
  have br1 := brs1.keep (bu1.block _ brs1.lt (by simp))
  have bo1 : Box W1 (w.heap.size + 1 + 1) 27 [.int .i64 x.code, .int .i64 x.out, .slice X1 y1 z1, .slice none 0 0, .int .i64 0] := by have := bos1.set 2 (.slice X1 y1 z1); rw [hW1] at this; exact this
  have P1 : ReadV W1 _ _ us F := ⟨(PP1.out.step b1).next.lies.but bu1 (fun g hg he => by have := List.mem_singleton.1 he; have := HFL.out g hg; omega)⟩
  have HB1 := hide hb1
  have HW1 := hide hW1
  clear CL1 PP1 BX1 BR1 BO1 LL1 FR1 k1 f1 b1 bu1 hb1 hW1 bxs1 cc1 hwa
  have cs1 : w1.cell? ⟨w.heap.size + 1 + 1, 2, none⟩ = some (.slice none 0 0) := bos1.cell rfl
  have ct1 := bos1.fz 2
  clear bos1 brs1
  have hl2 : w.heap.size + 3 ≤ W1.heap.size := by omega
  obtain ⟨F2, l2⟩ := P1.call (p := 3) (by simp only [List.length_append, List.length_cons, List.length_nil]) (v := .slice A3 m3 c3) (by rw [← HUS.out]; rfl)
  have call2 := dtoRaw x.text _ F2 W1 l2 (by omega)
  have cc2 := bx1.cell (j := 3) (u := .slice A3 m3 c3) (by rw [← HUS.out]; rfl)
  rw [← HW1.out, World.cell?_setCell_other _ _ _ _ (by intro e; injection e with e1 e2; omega)] at cc2
  have CL2 := hide call2
  have PP2 := hide P1
  have BX2 := hide bx1
  have BR2 := hide br1
  have BO2 := hide bo1
  have LL2 := hide L1
  have FR2 := hide fr1
  clear call2 l2 P1 bx1 br1 bo1 L1 fr1
  go_wp2_with fail
  rw [HW1.out]
  refine CL2.out.mono ?_
  rintro e w2 ⟨v2, J2, rfl, k2, f2, b2⟩
  obtain ⟨X2, y2, z2, rfl⟩ : ∃ X y z, v2 = .slice X y z := by obtain ⟨X, z, e, _, _⟩ := k2.form; exact ⟨_, _, _, e⟩
  have hgl2 := b2.size
  obtain ⟨W2, hW2⟩ : ∃ W', w2.setCell ⟨w.heap.size + 1 + 1, 3, none⟩ (.slice X2 y2 z2) = W' := ⟨_, rfl⟩
  obtain ⟨L2, fr2, hb2, hz2, bu2⟩ := filled LL2.out FR2.out HB1.out (by omega) (by omega) b2 (lies_one k2) f2 3 hW2
  have bxs2 := BX2.out.step b2
  have brs2 := BR2.out.step b2
  have bos2 := BO2.out.step b2
  have bx2 := bxs2.keep (bu2.block _ bxs2.lt (by simp <;> omega))
  have br2 := brs2.keep (bu2.block _ brs2.lt (by simp))
  have bo2 : Box W2 (w.heap.size + 1 + 1) 27 [.int .i64 x.code, .int .i64 x.out, .slice X1 y1 z1, .slice X2 y2 z2, .int .i64 0] := by have := bos2.set 3 (.slice X2 y2 z2); rw [hW2] at this; exact this
  have P2 : ReadV W2 _ _ us F := ⟨(PP2.out.step b2).next.lies.but bu2 (fun g hg he => by have := List.mem_singleton.1 he; have := HFL.out g hg; omega)⟩
  have HB2 := hide hb2
  have HW2 := hide hW2
  clear CL2 PP2 BX2 BR2 BO2 LL2 FR2 k2 f2 b2 bu2 hb2 hW2 bxs2 cs1 ct1 cc2 HW1
  have cs2 : w2.cell? ⟨w.heap.size + 1 + 1, 3, none⟩ = some (.slice none 0 0) := bos2.cell rfl
  have ct2 := bos2.fz 3
  clear bos2 brs2
  obtain ⟨W3, hW3⟩ : ∃ W', W2.setCell ⟨w.heap.size + 1 + 1, 4, none⟩ (.int .i64 x.arg) = W' := ⟨_, rfl⟩
  obtain ⟨L3, fr3, hb3, hz3, bu3⟩ := filled L2 fr2 HB2.out (by omega) (by omega) (Below.refl _ _) (lies_one (lie_num _ _ _)) (Fresh.nil _ _) 4 hW3
  have hz3b : w.heap.size + 3 ≤ W3.heap.size := by omega
  have bx3 := bx2.keep (bu3.block _ bx2.lt (by simp <;> omega))
  have br3 := br2.keep (bu3.block _ br2.lt (by simp))
  have bo3 : Box W3 (w.heap.size + 1 + 1) 27 [.int .i64 x.code, .int .i64 x.out, .slice X1 y1 z1, .slice X2 y2 z2, .int .i64 x.arg] := by have := bo2.set 4 (.int .i64 x.arg); rw [hW3] at this; exact this
  have P3 : ReadV W3 _ _ us F := ⟨P2.next.lies.but bu3 (fun g hg he => by have := List.mem_singleton.1 he; have := HFL.out g hg; omega)⟩
  have HB3 := hide hb3
  have HW3 := hide hW3
  have cc3 := bx2.cell (j := 4) (u := .int .i64 x.arg) (by rw [← HUS.out]; rfl)
  have cd3 : W2.cell? ⟨w.heap.size + 1 + 1, 4, none⟩ = some (.int .i64 0) := bo2.cell rfl
  have cf3 := bo2.fz 4
  rw [← HW2.out, World.cell?_setCell_other _ _ _ _ (by intro e; injection e with e1 e2; omega)] at cc3 cd3
  rw [← HW2.out, World.frozen?_setCell] at cf3
  clear L2 fr2 P2 bx2 br2 bo2 hb3 bu3 hW3
  have RGE : Hid (W3.rangeAt (w.heap.size + 1 + 1) 0 [.int .i64 x.code, .int .i64 x.out, .slice X1 y1 z1, .slice X2 y2 z2, .int .i64 x.arg]) := hide bo3.range
  have THE : Hid (W3.there (w.heap.size + 1) 0 5) := hide (br3.there (by simp))
  have ONE : Hid ((#[.int .i64 x.code, .int .i64 x.out, .slice X1 y1 z1, .slice X2 y2 z2, .int .i64 x.arg] : Array Value).all (·.oneCell') = true) := hide (by simp [Value.oneCell'])
  have FIN : Hid (∀ WZ, W3.setCells (w.heap.size + 1) 0 [.int .i64 x.code, .int .i64 x.out, .slice X1 y1 z1, .slice X2 y2 z2, .int .i64 x.arg] = WZ → ∃ us' F', (Ending.returned (.agg #[.int .i64 x.code, .int .i64 x.out, .slice X1 y1 z1, .slice X2 y2 z2, .int .i64 x.arg]) = .returned (.agg us'.toArray)) ∧ Lies WZ (.num .i64 x.code :: (.num .i64 x.out :: (raw x.name :: (raw x.text :: (.num .i64 x.arg :: []))))) us' F' ∧ Fresh w.heap.size WZ F' ∧ Below w.heap.size w WZ) := hide (by
    intro WZ hWZ
    have bu := but_sets W3 (w.heap.size + 1) [.int .i64 x.code, .int .i64 x.out, .slice X1 y1 z1, .slice X2 y2 z2, .int .i64 x.arg] 0
    rw [hWZ] at bu
    obtain ⟨FF, LL, ff⟩ : ∃ FF, Lies W3 _ _ FF ∧ Fresh _ W3 FF := ⟨_, L3, fr3⟩
    have h1 := LL.but bu (fun g hg he => by have := ff.low g hg; have := List.mem_singleton.1 he; omega)
    simp only [List.nil_append, List.cons_append, List.append_assoc] at h1
    have h2 : Fresh w.heap.size WZ FF := ⟨ff.nodup, fun g hg => by have := ff.low g hg; omega, ff.live.but bu (fun g hg he => by have := ff.low g hg; have := List.mem_singleton.1 he; omega)⟩
    have h3 : Below w.heap.size w WZ := bu.below HB3.out (fun g hg => by have := List.mem_singleton.1 hg; omega) HB3.out.size
    exact ⟨[.int .i64 x.code, .int .i64 x.out, .slice X1 y1 z1, .slice X2 y2 z2, .int .i64 x.arg], FF, rfl, h1, h2, h3⟩)
  have HBR := hide (br3.sets (vs := [.int .i64 x.code, .int .i64 x.out, .slice X1 y1 z1, .slice X2 y2 z2, .int .i64 x.arg]) (o := 0))
  clear L3 fr3 P3 bx3 br3 bo3
  go_wp2_with (first
    | ((with_reducible refine at_load 27 ?_); rw [HW2.out]; rw [HW3.out]; refine wpList_load_mid rfl _ _ rfl (w.heap.size + 1 + 1) 0 rfl [.int .i64 x.code, .int .i64 x.out, .slice X1 y1 z1, .slice X2 y2 z2, .int .i64 x.arg] _ RGE.out Try.underlying27 rfl (by kernel_rfl) ?_)
    | ((with_reducible refine at_store 27 ?_); refine wpList_store_mid rfl _ _ _ rfl (w.heap.size + 1) 0 #[.int .i64 x.code, .int .i64 x.out, .slice X1 y1 z1, .slice X2 y2 z2, .int .i64 x.arg] rfl rfl THE.out (by kernel_rfl) ONE.out ?_))
  exact bodyPost_ret (results_cell_row rfl _ _ (w.heap.size + 1) 27 #[.int .i64 x.code, .int .i64 x.out, .slice X1 y1 z1, .slice X2 y2 z2, .int .i64 x.arg] (0, 0) _ rfl HBR.out Try.underlying27 rfl (by kernel_rfl)) rfl (FIN.out _ rfl)

theorem dtoOp (x : DOp) : ToA Try.prog 11 x.cells := dtoOp0 x

theorem infoOpS0 : (Try.prog.info? 27).map (fun i => (i.zero, i.size, i.bytes)) = some (some (.agg #[.int .i64 0, .int .i64 0, .slice none 0 0, .slice none 0 0, .int .i64 0]), 5, 72) := by kernel_rfl
set_option maxRecDepth 20000 in
set_option maxHeartbeats 1600000 in
theorem dtoOpS0 (l : List DOp) (he : ∀ x ∈ l, ToA Try.prog 11 (DOp.cells x)) : ToC Try.prog 50 (seqOf 5 DOp.cells l) := by
  unfold seqOf
  intro v F w h hbk
  obtain ⟨i0, hi0, hz0, hz1, hz2⟩ := info_parts infoOpS0
  obtain ⟨A, c, hv, hc1, hc2, hrd⟩ := h.read
  obtain ⟨N, hN⟩ : ∃ N, l.length = N := ⟨_, rfl⟩
  obtain ⟨g, hg⟩ : ∃ g : DOp → List Cel, DOp.cells = g := ⟨_, rfl⟩
  have hgn : ∀ x, (g x).length = 5 := fun x => by subst hg; rw [x.cells_eq]; rfl
  rw [hg] at hrd hbk ⊢
  rw [hg] at he
  rw [Cel.bulk] at hbk
  rw [hN] at hv hc1 hrd hbk ⊢
  unfold maxLen at hc2
  have hel : ∀ x ∈ l, bulks (g x) ≤ 1048576 := fun x hx => by
    have h1 : bulks (g x) ≤ bulks (cells g l) := by
      clear hrd he hbk hN h
      induction l with
      | nil => cases hx
      | cons y l ih =>
        rw [cells, bulks_app]
        rcases List.mem_cons.1 hx with rfl | hx
        · omega
        · have := ih hx; omega
    omega
  have hn20 : N ≤ 1048576 := by omega
  have HN := hide hN
  have HRD := hide hrd
  have HE := hide he
  have HGN := hide hgn
  have HEL := hide hel
  subst hv
  clear hN hrd he hgn hel hg h hbk
  go_enter Try.func50, Try.ntmps50
  go_wp2_with (at_make; refine wpList_make_full _ rfl _ _ 39 rfl w.heap.size 27 i0 _ 5 Try.underlying39 hi0 hz0 hz1 .i64 .i64 _ _ N rfl rfl rfl rfl (by rw [hz2]; omega) (by simp only [maxLen]; omega) (Nat.le_refl _) ?_; intro w1 own1 gr1)
  have hb1 : Below w.heap.size w w1 := (Below.refl _ _).grown gr1 (Nat.le_refl _) (fun _ h => by cases h)
  obtain ⟨bx1, bl1⟩ := box_of_own own1
  have CP0 := hide (CopyP.start bx1 bl1 hb1 (Nat.le_refl _))
  clear own1 gr1 hb1 bx1 bl1 hi0 hz0 hz1 hz2
  go_loopw [4] (fun i wr => ∃ (j : Nat) (us : List Value) (F2 : List Nat), j ≤ N ∧ i = .int .i64 j ∧ Hid (CopyP w w.heap.size 27 (N * 5) (cells g (l.take j)) us F2 wr)) (fun i _ => N - (intOf i).toNat)
  case atStart => exact ⟨0, [], [], Nat.zero_le _, rfl, CP0⟩
  case round =>
    clear CP0
    obtain ⟨j, us, F2, hj, rfl, HR⟩ := hrel
    by_cases hlt : j < N
    · obtain ⟨b, off, us0, G, rfl, P⟩ := HRD.out (by omega)
      have hjn : j < l.length := by rw [HN.out]; exact hlt
      have hln : (cells g (l.take j)).length = j * 5 := by rw [cells_len (sz := 5) HGN.out, List.length_take, HN.out]; congr 1; omega
      have hmem : l[j] ∈ l := List.getElem_mem hjn
      have htk := cells_take g hjn
      rw [cells_split g l j, cells_drop g hjn] at P
      generalize l[j] = x at *
      obtain ⟨y1, G1, n1, c1, l1⟩ := (P.step HR.out.below).mid hln.symm (HGN.out x)
      have s1 : ((Try.prog.info? 24).map (·.size)) = some y1.length := by rw [n1]; kernel_rfl
      have hcall := HE.out x hmem y1 G1 wr l1 (HEL.out x hmem)
      have HC1 := hide c1
      have HS1 := hide s1
      have HCALL := hide hcall
      have HTK := hide htk
      have HLN := hide hln
      have hgx1 : (g x).length = 5 := HGN.out x
      have HGX1 := hide hgx1
      have htot : j * 5 + 5 ≤ N * 5 := by
        have : (j + 1) * 5 ≤ N * 5 := Nat.mul_le_mul_right _ hlt
        omega
      have k0 : (0 : Int) ≤ (j : Int) := by omega
      have k1 : (j : Int) < (N : Int) := by omega
      clear P l1 hmem hjn htk hln hcall hgx1 c1 s1 n1
      go_wp2_with ((with_reducible refine at_load 24 ?_); refine wpList_load_mid rfl _ _ rfl b (off + j * 5) rfl _ _ HC1.out Try.underlying24 rfl HS1.out ?_)
      refine HCALL.out.mono ?_
      rintro e w2 ⟨us2, J, rfl, l2, f2, b2⟩
      have hu2 : us2.length = 5 := l2.len.trans HGX1.out
      obtain ⟨th, cp⟩ := HR.out.put b2 l2 f2 (p := j * 5) HLN.out.symm (by rw [HLN.out, HGX1.out]; omega)
      rw [← HTK.out] at cp
      obtain ⟨W3, hW3⟩ : ∃ W3, w2.setCells w.heap.size (j * 5) us2 = W3 := ⟨_, rfl⟩
      rw [hW3] at cp
      have CP := hide cp
      have TH := hide th
      have HW3 := hide hW3
      have ONE : Hid (us2.toArray.all (·.oneCell') = true) := hide (all_oneCell_toArray l2.one)
      have INF : Hid ((Try.prog.info? 27).map (·.size) = some us2.toArray.size) := hide (by rw [show us2.toArray.size = 5 from hu2]; kernel_rfl)
      clear th cp l2 f2 b2 HCALL hW3 hu2 HC1 HS1
      go_wp2_with ((with_reducible refine at_store 27 ?_); refine wpList_store_mid rfl _ _ _ rfl w.heap.size (j * 5) us2.toArray rfl rfl TH.out INF.out ONE.out ?_; change wpList _ _ _ _ _ (w2.setCells w.heap.size (j * 5) us2); rw [HW3.out])
      go_roundw
      case rel => exact ⟨j + 1, _, _, by omega, by go_num, CP⟩
      case measure => simp [intOf]; omega
    · obtain rfl : j = N := by omega
      have hcp := HR.out
      rw [List.take_of_length_le (by rw [HN.out]; omega)] at hcp
      obtain ⟨F', s1, s2, s3⟩ := hcp.stop (by rw [cells_len (sz := 5) HGN.out, HN.out]) (by decide) (by simp only [maxLen]; omega)
      have S1 := hide s1
      have S2 := hide s2
      have S3 := hide s3
      clear hcp HR s1 s2 s3
      go_wp2
      go_ret
      exact ⟨_, F', rfl, S1.out, S2.out, S3.out⟩
theorem dtoOpS (l : List DOp) : ToC Try.prog 50 (seqOf 5 DOp.cells l) := dtoOpS0 l fun x _ => dtoOp x

set_option maxRecDepth 20000 in
set_option maxHeartbeats 1600000 in
theorem dtoIn0 (x : DIn) : ToA Try.prog 76 x.cells := by
  intro us F w h hbk
  have HLT := h.lt
  have hd := h
  rw [x.cells_eq] at hd
  obtain ⟨A0, m0, c0, r0, G0, rfl, q0⟩ := hd.seqs1
  obtain ⟨A1, m1, c1, r1, G1, rfl, q1⟩ := q0.seqs1
  obtain rfl := q1.nil1
  clear q0 q1
  obtain ⟨us, hus⟩ : ∃ us : List Value, [.slice A0 m0 c0, .slice A1 m1 c1] = us := ⟨_, rfl⟩
  obtain ⟨wa, hwa⟩ : ∃ wa, ((w.alloc (.cells #[.slice A0 m0 c0, .slice A1 m1 c1] 99)).alloc (.cells #[.slice none 0 0, .slice none 0 0] 67)).alloc (.cells #[.slice none 0 0, .slice none 0 0] 67) = wa := ⟨_, rfl⟩
  have za : wa.heap.size = w.heap.size + 3 := by rw [← hwa]; simp
  have ba : Below w.heap.size w wa := by rw [← hwa]; exact (((Below.refl _ _).alloc (Nat.le_refl _) _).alloc (by simp) _).alloc (by simp; omega) _
  have bx0 : Box wa w.heap.size 99 us := by rw [← hwa, ← hus]; exact ((Box.new w _ _).step ((Below.refl _ _).alloc (Nat.le_refl _) _)).step ((Below.refl _ _).alloc (Nat.le_refl _) _)
  have br0 : Box wa (w.heap.size + 1) 67 [.slice none 0 0, .slice none 0 0] := by rw [← hwa]; have := Box.new (w.alloc (.cells #[.slice A0 m0 c0, .slice A1 m1 c1] 99)) [.slice none 0 0, .slice none 0 0] 67; rw [World.size_alloc] at this; exact this.step ((Below.refl _ _).alloc (Nat.le_refl _) _)
  have bo0 : Box wa (w.heap.size + 1 + 1) 67 [.slice none 0 0, .slice none 0 0] := by rw [← hwa]; have := Box.new ((w.alloc (.cells #[.slice A0 m0 c0, .slice A1 m1 c1] 99)).alloc (.cells #[.slice none 0 0, .slice none 0 0] 67)) [.slice none 0 0, .slice none 0 0] 67; rw [World.size_alloc, World.size_alloc] at this; exact this
  obtain ⟨D0, hD0⟩ : ∃ D, (raw x.drv).bulk = D := ⟨_, rfl⟩
  obtain ⟨D1, hD1⟩ : ∃ D, (raw x.out).bulk = D := ⟨_, rfl⟩
  have hsum : bulks x.cells = D0 + D1 := by
    rw [x.cells_top]
    simp only [bulks, hD0, hD1]
    omega
  rw [hsum] at hbk
  rw [hus] at h
  rw [x.cells_top] at h ⊢
  have L0 : Lies wa (([] : List Cel)) (([] : List Value)) [] := by
    exact lies_nil _
  have fr0 := Fresh.nil (w.heap.size + 1 + 1 + 1) wa
  have P0 := ReadV.start (h.step ba)
  have HFL : Hid (∀ g ∈ F, g < w.heap.size) := hide (fun g hg => HLT g hg)
  have HUS := hide hus
  have HB0 := hide ba
  clear h hus ba hsum
  go_enter Try.func76, Try.ntmps76
  have hl1 : w.heap.size + 3 ≤ wa.heap.size := by omega
  obtain ⟨F1, l1⟩ := P0.call (p := 0) (by rfl) (v := .slice A0 m0 c0) (by rw [← HUS.out]; rfl)
  have call1 := dtoRaw x.drv _ F1 wa l1 (by omega)
  have cc1 := bx0.cell (j := 0) (u := .slice A0 m0 c0) (by rw [← HUS.out]; rfl)
  have CL1 := hide call1
  have PP1 := hide P0
  have BX1 := hide bx0
  have BR1 := hide br0
  have BO1 := hide bo0
  have LL1 := hide L0
  have FR1 := hide fr0
  clear call1 l1 P0 bx0 br0 bo0 L0 fr0
  go_wp2_with fail
  try rw [hwa]
  refine CL1.out.mono ?_
  rintro e w1 ⟨v1, J1, rfl, k1, f1, b1⟩
  obtain ⟨X1, y1, z1, rfl⟩ : ∃ X y z, v1 = .slice X y z := by obtain ⟨X, z, e, _, _⟩ := k1.form; exact ⟨_, _, _, e⟩
  have hgl1 := b1.size
  obtain ⟨W1, hW1⟩ : ∃ W', w1.setCell ⟨w.heap.size + 1 + 1, 0, none⟩ (.slice X1 y1 z1) = W' := ⟨_, rfl⟩
  obtain ⟨L1, fr1, hb1, hz1, bu1⟩ := filled LL1.out FR1.out HB0.out (by omega) (by omega) b1 (lies_one k1) f1 0 hW1
  have bxs1 := BX1.out.step b1
  have brs1 := BR1.out.step b1
  have bos1 := BO1.out.step b1
  have bx1 := bxs1.keep (bu1.block _ bxs1.lt (by simp <;> omega))
  have br1 := brs1.keep (bu1.block _ brs1.lt (by simp))
  have bo1 : Box W1 (w.heap.size + 1 + 1) 67 [.slice X1 y1 z1, .slice none 0 0] := by have := bos1.set 0 (.slice X1 y1 z1); rw [hW1] at this; exact this
  have P1 : ReadV W1 _ _ us F := ⟨(PP1.out.step b1).next.lies.but bu1 (fun g hg he => by have := List.mem_singleton.1 he; have := HFL.out g hg; omega)⟩
  have HB1 := hide hb1
  have HW1 := hide hW1
  clear CL1 PP1 BX1 BR1 BO1 LL1 FR1 k1 f1 b1 bu1 hb1 hW1 bxs1 cc1 hwa
  have cs1 : w1.cell? ⟨w.heap.size + 1 + 1, 0, none⟩ = some (.slice none 0 0) := bos1.cell rfl
  have ct1 := bos1.fz 0
  clear bos1 brs1
  have hl2 : w.heap.size + 3 ≤ W1.heap.size := by omega
  obtain ⟨F2, l2⟩ := P1.call (p := 1) (by simp only [List.length_append, List.length_cons, List.length_nil]) (v := .slice A1 m1 c1) (by rw [← HUS.out]; rfl)
  have call2 := dtoRaw x.out _ F2 W1 l2 (by omega)
  have cc2 := bx1.cell (j := 1) (u := .slice A1 m1 c1) (by rw [← HUS.out]; rfl)
  rw [← HW1.out, World.cell?_setCell_other _ _ _ _ (by intro e; injection e with e1 e2; omega)] at cc2
  have CL2 := hide call2
  have PP2 := hide P1
  have BX2 := hide bx1
  have BR2 := hide br1
  have BO2 := hide bo1
  have LL2 := hide L1
  have FR2 := hide fr1
  clear call2 l2 P1 bx1 br1 bo1 L1 fr1
  go_wp2_with fail
  rw [HW1.out]
  refine CL2.out.mono ?_
  rintro e w2 ⟨v2, J2, rfl, k2, f2, b2⟩
  obtain ⟨X2, y2, z2, rfl⟩ : ∃ X y z, v2 = .slice X y z := by obtain ⟨X, z, e, _, _⟩ := k2.form; exact ⟨_, _, _, e⟩
  have hgl2 := b2.size
  obtain ⟨W2, hW2⟩ : ∃ W', w2.setCell ⟨w.heap.size + 1 + 1, 1, none⟩ (.slice X2 y2 z2) = W' := ⟨_, rfl⟩
  obtain ⟨L2, fr2, hb2, hz2, bu2⟩ := filled LL2.out FR2.out HB1.out (by omega) (by omega) b2 (lies_one k2) f2 1 hW2
  have bxs2 := BX2.out.step b2
  have brs2 := BR2.out.step b2
  have bos2 := BO2.out.step b2
  have bx2 := bxs2.keep (bu2.block _ bxs2.lt (by simp <;> omega))
  have br2 := brs2.keep (bu2.block _ brs2.lt (by simp))
  have bo2 : Box W2 (w.heap.size + 1 + 1) 67 [.slice X1 y1 z1, .slice X2 y2 z2] := by have := bos2.set 1 (.slice X2 y2 z2); rw [hW2] at this; exact this
  have P2 : ReadV W2 _ _ us F := ⟨(PP2.out.step b2).next.lies.but bu2 (fun g hg he => by have := List.mem_singleton.1 he; have := HFL.out g hg; omega)⟩
  have HB2 := hide hb2
  have HW2 := hide hW2
  clear CL2 PP2 BX2 BR2 BO2 LL2 FR2 k2 f2 b2 bu2 hb2 hW2 bxs2 cs1 ct1 cc2 HW1
  have cs2 : w2.cell? ⟨w.heap.size + 1 + 1, 1, none⟩ = some (.slice none 0 0) := bos2.cell rfl
  have ct2 := bos2.fz 1
  clear bos2 brs2
  have RGE : Hid (W2.rangeAt (w.heap.size + 1 + 1) 0 [.slice X1 y1 z1, .slice X2 y2 z2]) := hide bo2.range
  have THE : Hid (W2.there (w.heap.size + 1) 0 2) := hide (br2.there (by simp))
  have ONE : Hid ((#[.slice X1 y1 z1, .slice X2 y2 z2] : Array Value).all (·.oneCell') = true) := hide (by simp [Value.oneCell'])
  have FIN : Hid (∀ WZ, W2.setCells (w.heap.size + 1) 0 [.slice X1 y1 z1, .slice X2 y2 z2] = WZ → ∃ us' F', (Ending.returned (.agg #[.slice X1 y1 z1, .slice X2 y2 z2]) = .returned (.agg us'.toArray)) ∧ Lies WZ (raw x.drv :: (raw x.out :: [])) us' F' ∧ Fresh w.heap.size WZ F' ∧ Below w.heap.size w WZ) := hide (by
    intro WZ hWZ
    have bu := but_sets W2 (w.heap.size + 1) [.slice X1 y1 z1, .slice X2 y2 z2] 0
    rw [hWZ] at bu
    obtain ⟨FF, LL, ff⟩ : ∃ FF, Lies W2 _ _ FF ∧ Fresh _ W2 FF := ⟨_, L2, fr2⟩
    have h1 := LL.but bu (fun g hg he => by have := ff.low g hg; have := List.mem_singleton.1 he; omega)
    simp only [List.nil_append, List.cons_append, List.append_assoc] at h1
    have h2 : Fresh w.heap.size WZ FF := ⟨ff.nodup, fun g hg => by have := ff.low g hg; omega, ff.live.but bu (fun g hg he => by have := ff.low g hg; have := List.mem_singleton.1 he; omega)⟩
    have h3 : Below w.heap.size w WZ := bu.below HB2.out (fun g hg => by have := List.mem_singleton.1 hg; omega) HB2.out.size
    exact ⟨[.slice X1 y1 z1, .slice X2 y2 z2], FF, rfl, h1, h2, h3⟩)
  have HBR := hide (br2.sets (vs := [.slice X1 y1 z1, .slice X2 y2 z2]) (o := 0))
  clear L2 fr2 P2 bx2 br2 bo2
  go_wp2_with (first
    | ((with_reducible refine at_load 67 ?_); rw [HW2.out]; refine wpList_load_mid rfl _ _ rfl (w.heap.size + 1 + 1) 0 rfl [.slice X1 y1 z1, .slice X2 y2 z2] _ RGE.out Try.underlying67 rfl (by kernel_rfl) ?_)
    | ((with_reducible refine at_store 67 ?_); refine wpList_store_mid rfl _ _ _ rfl (w.heap.size + 1) 0 #[.slice X1 y1 z1, .slice X2 y2 z2] rfl rfl THE.out (by kernel_rfl) ONE.out ?_))
  exact bodyPost_ret (results_cell_row rfl _ _ (w.heap.size + 1) 67 #[.slice X1 y1 z1, .slice X2 y2 z2] (0, 0) _ rfl HBR.out Try.underlying67 rfl (by kernel_rfl)) rfl (FIN.out _ rfl)

theorem dtoIn (x : DIn) : ToA Try.prog 76 x.cells := dtoIn0 x

theorem infoInS0 : (Try.prog.info? 67).map (fun i => (i.zero, i.size, i.bytes)) = some (some (.agg #[.slice none 0 0, .slice none 0 0]), 2, 48) := by kernel_rfl
set_option maxRecDepth 20000 in
set_option maxHeartbeats 1600000 in
theorem dtoInS0 (l : List DIn) (he : ∀ x ∈ l, ToA Try.prog 76 (DIn.cells x)) : ToC Try.prog 49 (seqOf 2 DIn.cells l) := by
  unfold seqOf
  intro v F w h hbk
  obtain ⟨i0, hi0, hz0, hz1, hz2⟩ := info_parts infoInS0
  obtain ⟨A, c, hv, hc1, hc2, hrd⟩ := h.read
  obtain ⟨N, hN⟩ : ∃ N, l.length = N := ⟨_, rfl⟩
  obtain ⟨g, hg⟩ : ∃ g : DIn → List Cel, DIn.cells = g := ⟨_, rfl⟩
  have hgn : ∀ x, (g x).length = 2 := fun x => by subst hg; rw [x.cells_eq]; rfl
  rw [hg] at hrd hbk ⊢
  rw [hg] at he
  rw [Cel.bulk] at hbk
  rw [hN] at hv hc1 hrd hbk ⊢
  unfold maxLen at hc2
  have hel : ∀ x ∈ l, bulks (g x) ≤ 1048576 := fun x hx => by
    have h1 : bulks (g x) ≤ bulks (cells g l) := by
      clear hrd he hbk hN h
      induction l with
      | nil => cases hx
      | cons y l ih =>
        rw [cells, bulks_app]
        rcases List.mem_cons.1 hx with rfl | hx
        · omega
        · have := ih hx; omega
    omega
  have hn20 : N ≤ 1048576 := by omega
  have HN := hide hN
  have HRD := hide hrd
  have HE := hide he
  have HGN := hide hgn
  have HEL := hide hel
  subst hv
  clear hN hrd he hgn hel hg h hbk
  go_enter Try.func49, Try.ntmps49
  go_wp2_with (at_make; refine wpList_make_full _ rfl _ _ 38 rfl w.heap.size 67 i0 _ 2 Try.underlying38 hi0 hz0 hz1 .i64 .i64 _ _ N rfl rfl rfl rfl (by rw [hz2]; omega) (by simp only [maxLen]; omega) (Nat.le_refl _) ?_; intro w1 own1 gr1)
  have hb1 : Below w.heap.size w w1 := (Below.refl _ _).grown gr1 (Nat.le_refl _) (fun _ h => by cases h)
  obtain ⟨bx1, bl1⟩ := box_of_own own1
  have CP0 := hide (CopyP.start bx1 bl1 hb1 (Nat.le_refl _))
  clear own1 gr1 hb1 bx1 bl1 hi0 hz0 hz1 hz2
  go_loopw [4] (fun i wr => ∃ (j : Nat) (us : List Value) (F2 : List Nat), j ≤ N ∧ i = .int .i64 j ∧ Hid (CopyP w w.heap.size 67 (N * 2) (cells g (l.take j)) us F2 wr)) (fun i _ => N - (intOf i).toNat)
  case atStart => exact ⟨0, [], [], Nat.zero_le _, rfl, CP0⟩
  case round =>
    clear CP0
    obtain ⟨j, us, F2, hj, rfl, HR⟩ := hrel
    by_cases hlt : j < N
    · obtain ⟨b, off, us0, G, rfl, P⟩ := HRD.out (by omega)
      have hjn : j < l.length := by rw [HN.out]; exact hlt
      have hln : (cells g (l.take j)).length = j * 2 := by rw [cells_len (sz := 2) HGN.out, List.length_take, HN.out]; congr 1; omega
      have hmem : l[j] ∈ l := List.getElem_mem hjn
      have htk := cells_take g hjn
      rw [cells_split g l j, cells_drop g hjn] at P
      generalize l[j] = x at *
      obtain ⟨y1, G1, n1, c1, l1⟩ := (P.step HR.out.below).mid hln.symm (HGN.out x)
      have s1 : ((Try.prog.info? 99).map (·.size)) = some y1.length := by rw [n1]; kernel_rfl
      have hcall := HE.out x hmem y1 G1 wr l1 (HEL.out x hmem)
      have HC1 := hide c1
      have HS1 := hide s1
      have HCALL := hide hcall
      have HTK := hide htk
      have HLN := hide hln
      have hgx1 : (g x).length = 2 := HGN.out x
      have HGX1 := hide hgx1
      have htot : j * 2 + 2 ≤ N * 2 := by
        have : (j + 1) * 2 ≤ N * 2 := Nat.mul_le_mul_right _ hlt
        omega
      have k0 : (0 : Int) ≤ (j : Int) := by omega
      have k1 : (j : Int) < (N : Int) := by omega
      clear P l1 hmem hjn htk hln hcall hgx1 c1 s1 n1
      go_wp2_with ((with_reducible refine at_load 99 ?_); refine wpList_load_mid rfl _ _ rfl b (off + j * 2) rfl _ _ HC1.out Try.underlying99 rfl HS1.out ?_)
      refine HCALL.out.mono ?_
      rintro e w2 ⟨us2, J, rfl, l2, f2, b2⟩
      have hu2 : us2.length = 2 := l2.len.trans HGX1.out
      obtain ⟨th, cp⟩ := HR.out.put b2 l2 f2 (p := j * 2) HLN.out.symm (by rw [HLN.out, HGX1.out]; omega)
      rw [← HTK.out] at cp
      obtain ⟨W3, hW3⟩ : ∃ W3, w2.setCells w.heap.size (j * 2) us2 = W3 := ⟨_, rfl⟩
      rw [hW3] at cp
      have CP := hide cp
      have TH := hide th
      have HW3 := hide hW3
      have ONE : Hid (us2.toArray.all (·.oneCell') = true) := hide (all_oneCell_toArray l2.one)
      have INF : Hid ((Try.prog.info? 67).map (·.size) = some us2.toArray.size) := hide (by rw [show us2.toArray.size = 2 from hu2]; kernel_rfl)
      clear th cp l2 f2 b2 HCALL hW3 hu2 HC1 HS1
      go_wp2_with ((with_reducible refine at_store 67 ?_); refine wpList_store_mid rfl _ _ _ rfl w.heap.size (j * 2) us2.toArray rfl rfl TH.out INF.out ONE.out ?_; change wpList _ _ _ _ _ (w2.setCells w.heap.size (j * 2) us2); rw [HW3.out])
      go_roundw
      case rel => exact ⟨j + 1, _, _, by omega, by go_num, CP⟩
      case measure => simp [intOf]; omega
    · obtain rfl : j = N := by omega
      have hcp := HR.out
      rw [List.take_of_length_le (by rw [HN.out]; omega)] at hcp
      obtain ⟨F', s1, s2, s3⟩ := hcp.stop (by rw [cells_len (sz := 2) HGN.out, HN.out]) (by decide) (by simp only [maxLen]; omega)
      have S1 := hide s1
      have S2 := hide s2
      have S3 := hide s3
      clear hcp HR s1 s2 s3
      go_wp2
      go_ret
      exact ⟨_, F', rfl, S1.out, S2.out, S3.out⟩
theorem dtoInS (l : List DIn) : ToC Try.prog 49 (seqOf 2 DIn.cells l) := dtoInS0 l fun x _ => dtoIn x

set_option maxRecDepth 20000 in
set_option maxHeartbeats 1600000 in
theorem dtoDrv0 (x : DDrv) : ToA Try.prog 16 x.cells := by
  intro us F w h hbk
  have HLT := h.lt
  have hd := h
  rw [x.cells_eq] at hd
  obtain ⟨A0, m0, c0, r0, G0, rfl, q0⟩ := hd.seqs1
  obtain ⟨A1, m1, c1, r1, G1, rfl, q1⟩ := q0.seqs1
  obtain ⟨A2, m2, c2, r2, G2, rfl, q2⟩ := q1.seqs1
  obtain ⟨A3, m3, c3, r3, G3, rfl, q3⟩ := q2.seqs1
  obtain rfl := q3.nil1
  clear q0 q1 q2 q3
  obtain ⟨us, hus⟩ : ∃ us : List Value, [.slice A0 m0 c0, .slice A1 m1 c1, .slice A2 m2 c2, .slice A3 m3 c3] = us := ⟨_, rfl⟩
  obtain ⟨wa, hwa⟩ : ∃ wa, ((w.alloc (.cells #[.slice A0 m0 c0, .slice A1 m1 c1, .slice A2 m2 c2, .slice A3 m3 c3] 35)).alloc (.cells #[.slice none 0 0, .slice none 0 0, .slice none 0 0, .slice none 0 0] 41)).alloc (.cells #[.slice none 0 0, .slice none 0 0, .slice none 0 0, .slice none 0 0] 41) = wa := ⟨_, rfl⟩
  have za : wa.heap.size = w.heap.size + 3 := by rw [← hwa]; simp
  have ba : Below w.heap.size w wa := by rw [← hwa]; exact (((Below.refl _ _).alloc (Nat.le_refl _) _).alloc (by simp) _).alloc (by simp; omega) _
  have bx0 : Box wa w.heap.size 35 us := by rw [← hwa, ← hus]; exact ((Box.new w _ _).step ((Below.refl _ _).alloc (Nat.le_refl _) _)).step ((Below.refl _ _).alloc (Nat.le_refl _) _)
  have br0 : Box wa (w.heap.size + 1) 41 [.slice none 0 0, .slice none 0 0, .slice none 0 0, .slice none 0 0] := by rw [← hwa]; have := Box.new (w.alloc (.cells #[.slice A0 m0 c0, .slice A1 m1 c1, .slice A2 m2 c2, .slice A3 m3 c3] 35)) [.slice none 0 0, .slice none 0 0, .slice none 0 0, .slice none 0 0] 41; rw [World.size_alloc] at this; exact this.step ((Below.refl _ _).alloc (Nat.le_refl _) _)
  have bo0 : Box wa (w.heap.size + 1 + 1) 41 [.slice none 0 0, .slice none 0 0, .slice none 0 0, .slice none 0 0] := by rw [← hwa]; have := Box.new ((w.alloc (.cells #[.slice A0 m0 c0, .slice A1 m1 c1, .slice A2 m2 c2, .slice A3 m3 c3] 35)).alloc (.cells #[.slice none 0 0, .slice none 0 0, .slice none 0 0, .slice none 0 0] 41)) [.slice none 0 0, .slice none 0 0, .slice none 0 0, .slice none 0 0] 41; rw [World.size_alloc, World.size_alloc] at this; exact this
  obtain ⟨D0, hD0⟩ : ∃ D, (Go.Proofs.Ytnloknhcdlannaa.names x.srcs).bulk = D := ⟨_, rfl⟩
  obtain ⟨D1, hD1⟩ : ∃ D, (seqOf 2 DIn.cells x.ins).bulk = D := ⟨_, rfl⟩
  obtain ⟨D2, hD2⟩ : ∃ D, (Go.Proofs.Ytnloknhcdlannaa.names x.outs).bulk = D := ⟨_, rfl⟩
  obtain ⟨D3, hD3⟩ : ∃ D, (seqOf 5 DOp.cells x.ops).bulk = D := ⟨_, rfl⟩
  have hsum : bulks x.cells = D0 + D1 + D2 + D3 := by
    rw [x.cells_top]
    simp only [bulks, hD0, hD1, hD2, hD3]
    omega
  rw [hsum] at hbk
  rw [hus] at h
  rw [x.cells_top] at h ⊢
  have L0 : Lies wa (([] : List Cel)) (([] : List Value)) [] := by
    exact lies_nil _
  have fr0 := Fresh.nil (w.heap.size + 1 + 1 + 1) wa
  have P0 := ReadV.start (h.step ba)
  have HFL : Hid (∀ g ∈ F, g < w.heap.size) := hide (fun g hg => HLT g hg)
  have HUS := hide hus
  have HB0 := hide ba
  clear h hus ba hsum
  go_enter Try.func16, Try.ntmps16
  have hl1 : w.heap.size + 3 ≤ wa.heap.size := by omega
  obtain ⟨F1, l1⟩ := P0.call (p := 0) (by rfl) (v := .slice A0 m0 c0) (by rw [← HUS.out]; rfl)
  have call1 := dtoNames x.srcs _ F1 wa l1 (by omega)
  have cc1 := bx0.cell (j := 0) (u := .slice A0 m0 c0) (by rw [← HUS.out]; rfl)
  have CL1 := hide call1
  have PP1 := hide P0
  have BX1 := hide bx0
  have BR1 := hide br0
  have BO1 := hide bo0
  have LL1 := hide L0
  have FR1 := hide fr0
  clear call1 l1 P0 bx0 br0 bo0 L0 fr0
  go_wp2_with fail
  try rw [hwa]
  refine CL1.out.mono ?_
  rintro e w1 ⟨v1, J1, rfl, k1, f1, b1⟩
  obtain ⟨X1, y1, z1, rfl⟩ : ∃ X y z, v1 = .slice X y z := by obtain ⟨X, z, e, _, _⟩ := k1.form; exact ⟨_, _, _, e⟩
  have hgl1 := b1.size
  obtain ⟨W1, hW1⟩ : ∃ W', w1.setCell ⟨w.heap.size + 1 + 1, 0, none⟩ (.slice X1 y1 z1) = W' := ⟨_, rfl⟩
  obtain ⟨L1, fr1, hb1, hz1, bu1⟩ := filled LL1.out FR1.out HB0.out (by omega) (by omega) b1 (lies_one k1) f1 0 hW1
  have bxs1 := BX1.out.step b1
  have brs1 := BR1.out.step b1
  have bos1 := BO1.out.step b1
  have bx1 := bxs1.keep (bu1.block _ bxs1.lt (by simp <;> omega))
  have br1 := brs1.keep (bu1.block _ brs1.lt (by simp))
  have bo1 : Box W1 (w.heap.size + 1 + 1) 41 [.slice X1 y1 z1, .slice none 0 0, .slice none 0 0, .slice none 0 0] := by have := bos1.set 0 (.slice X1 y1 z1); rw [hW1] at this; exact this
  have P1 : ReadV W1 _ _ us F := ⟨(PP1.out.step b1).next.lies.but bu1 (fun g hg he => by have := List.mem_singleton.1 he; have := HFL.out g hg; omega)⟩
  have HB1 := hide hb1
  have HW1 := hide hW1
  clear CL1 PP1 BX1 BR1 BO1 LL1 FR1 k1 f1 b1 bu1 hb1 hW1 bxs1 cc1 hwa
  have cs1 : w1.cell? ⟨w.heap.size + 1 + 1, 0, none⟩ = some (.slice none 0 0) := bos1.cell rfl
  have ct1 := bos1.fz 0
  clear bos1 brs1
  have hl2 : w.heap.size + 3 ≤ W1.heap.size := by omega
  obtain ⟨F2, l2⟩ := P1.call (p := 1) (by simp only [List.length_append, List.length_cons, List.length_nil]) (v := .slice A1 m1 c1) (by rw [← HUS.out]; rfl)
  have call2 := dtoInS x.ins _ F2 W1 l2 (by omega)
  have cc2 := bx1.cell (j := 1) (u := .slice A1 m1 c1) (by rw [← HUS.out]; rfl)
  rw [← HW1.out, World.cell?_setCell_other _ _ _ _ (by intro e; injection e with e1 e2; omega)] at cc2
  have CL2 := hide call2
  have PP2 := hide P1
  have BX2 := hide bx1
  have BR2 := hide br1
  have BO2 := hide bo1
  have LL2 := hide L1
  have FR2 := hide fr1
  clear call2 l2 P1 bx1 br1 bo1 L1 fr1
  go_wp2_with fail
  rw [HW1.out]
  refine CL2.out.mono ?_
  rintro e w2 ⟨v2, J2, rfl, k2, f2, b2⟩
  obtain ⟨X2, y2, z2, rfl⟩ : ∃ X y z, v2 = .slice X y z := by obtain ⟨X, z, e, _, _⟩ := k2.form; exact ⟨_, _, _, e⟩
  have hgl2 := b2.size
  obtain ⟨W2, hW2⟩ : ∃ W', w2.setCell ⟨w.heap.size + 1 + 1, 1, none⟩ (.slice X2 y2 z2) = W' := ⟨_, rfl⟩
  obtain ⟨L2, fr2, hb2, hz2, bu2⟩ := filled LL2.out FR2.out HB1.out (by omega) (by omega) b2 (lies_one k2) f2 1 hW2
  have bxs2 := BX2.out.step b2
  have brs2 := BR2.out.step b2
  have bos2 := BO2.out.step b2
  have bx2 := bxs2.keep (bu2.block _ bxs2.lt (by simp <;> omega))
  have br2 := brs2.keep (bu2.block _ brs2.lt (by simp))
  have bo2 : Box W2 (w.heap.size + 1 + 1) 41 [.slice X1 y1 z1, .slice X2 y2 z2, .slice none 0 0, .slice none 0 0] := by have := bos2.set 1 (.slice X2 y2 z2); rw [hW2] at this; exact this
  have P2 : ReadV W2 _ _ us F := ⟨(PP2.out.step b2).next.lies.but bu2 (fun g hg he => by have := List.mem_singleton.1 he; have := HFL.out g hg; omega)⟩
  have HB2 := hide hb2
  have HW2 := hide hW2
  clear CL2 PP2 BX2 BR2 BO2 LL2 FR2 k2 f2 b2 bu2 hb2 hW2 bxs2 cs1 ct1 cc2 HW1
  have cs2 : w2.cell? ⟨w.heap.size + 1 + 1, 1, none⟩ = some (.slice none 0 0) := bos2.cell rfl
  have ct2 := bos2.fz 1
  clear bos2 brs2
  have hl3 : w.heap.size + 3 ≤ W2.heap.size := by omega
  obtain ⟨F3, l3⟩ := P2.call (p := 2) (by simp only [List.length_append, List.length_cons, List.length_nil]) (v := .slice A2 m2 c2) (by rw [← HUS.out]; rfl)
  have call3 := dtoNames x.outs _ F3 W2 l3 (by omega)
  have cc3 := bx2.cell (j := 2) (u := .slice A2 m2 c2) (by rw [← HUS.out]; rfl)
  rw [← HW2.out, World.cell?_setCell_other _ _ _ _ (by intro e; injection e with e1 e2; omega)] at cc3
  have CL3 := hide call3
  have PP3 := hide P2
  have BX3 := hide bx2
  have BR3 := hide br2
  have BO3 := hide bo2
  have LL3 := hide L2
  have FR3 := hide fr2
  clear call3 l3 P2 bx2 br2 bo2 L2 fr2
  go_wp2_with fail
  rw [HW2.out]
  refine CL3.out.mono ?_
  rintro e w3 ⟨v3, J3, rfl, k3, f3, b3⟩
  obtain ⟨X3, y3, z3, rfl⟩ : ∃ X y z, v3 = .slice X y z := by obtain ⟨X, z, e, _, _⟩ := k3.form; exact ⟨_, _, _, e⟩
  have hgl3 := b3.size
  obtain ⟨W3, hW3⟩ : ∃ W', w3.setCell ⟨w.heap.size + 1 + 1, 2, none⟩ (.slice X3 y3 z3) = W' := ⟨_, rfl⟩
  obtain ⟨L3, fr3, hb3, hz3, bu3⟩ := filled LL3.out FR3.out HB2.out (by omega) (by omega) b3 (lies_one k3) f3 2 hW3
  have bxs3 := BX3.out.step b3
  have brs3 := BR3.out.step b3
  have bos3 := BO3.out.step b3
  have bx3 := bxs3.keep (bu3.block _ bxs3.lt (by simp <;> omega))
  have br3 := brs3.keep (bu3.block _ brs3.lt (by simp))
  have bo3 : Box W3 (w.heap.size + 1 + 1) 41 [.slice X1 y1 z1, .slice X2 y2 z2, .slice X3 y3 z3, .slice none 0 0] := by have := bos3.set 2 (.slice X3 y3 z3); rw [hW3] at this; exact this
  have P3 : ReadV W3 _ _ us F := ⟨(PP3.out.step b3).next.lies.but bu3 (fun g hg he => by have := List.mem_singleton.1 he; have := HFL.out g hg; omega)⟩
  have HB3 := hide hb3
  have HW3 := hide hW3
  clear CL3 PP3 BX3 BR3 BO3 LL3 FR3 k3 f3 b3 bu3 hb3 hW3 bxs3 cs2 ct2 cc3 HW2
  have cs3 : w3.cell? ⟨w.heap.size + 1 + 1, 2, none⟩ = some (.slice none 0 0) := bos3.cell rfl
  have ct3 := bos3.fz 2
  clear bos3 brs3
  have hl4 : w.heap.size + 3 ≤ W3.heap.size := by omega
  obtain ⟨F4, l4⟩ := P3.call (p := 3) (by simp only [List.length_append, List.length_cons, List.length_nil]) (v := .slice A3 m3 c3) (by rw [← HUS.out]; rfl)
  have call4 := dtoOpS x.ops _ F4 W3 l4 (by omega)
  have cc4 := bx3.cell (j := 3) (u := .slice A3 m3 c3) (by rw [← HUS.out]; rfl)
  rw [← HW3.out, World.cell?_setCell_other _ _ _ _ (by intro e; injection e with e1 e2; omega)] at cc4
  have CL4 := hide call4
  have PP4 := hide P3
  have BX4 := hide bx3
  have BR4 := hide br3
  have BO4 := hide bo3
  have LL4 := hide L3
  have FR4 := hide fr3
  clear call4 l4 P3 bx3 br3 bo3 L3 fr3
  go_wp2_with fail
  rw [HW3.out]
  refine CL4.out.mono ?_
  rintro e w4 ⟨v4, J4, rfl, k4, f4, b4⟩
  obtain ⟨X4, y4, z4, rfl⟩ : ∃ X y z, v4 = .slice X y z := by obtain ⟨X, z, e, _, _⟩ := k4.form; exact ⟨_, _, _, e⟩
  have hgl4 := b4.size
  obtain ⟨W4, hW4⟩ : ∃ W', w4.setCell ⟨w.heap.size + 1 + 1, 3, none⟩ (.slice X4 y4 z4) = W' := ⟨_, rfl⟩
  obtain ⟨L4, fr4, hb4, hz4, bu4⟩ := filled LL4.out FR4.out HB3.out (by omega) (by omega) b4 (lies_one k4) f4 3 hW4
  have bxs4 := BX4.out.step b4
  have brs4 := BR4.out.step b4
  have bos4 := BO4.out.step b4
  have bx4 := bxs4.keep (bu4.block _ bxs4.lt (by simp <;> omega))
  have br4 := brs4.keep (bu4.block _ brs4.lt (by simp))
  have bo4 : Box W4 (w.heap.size + 1 + 1) 41 [.slice X1 y1 z1, .slice X2 y2 z2, .slice X3 y3 z3, .slice X4 y4 z4] := by have := bos4.set 3 (.slice X4 y4 z4); rw [hW4] at this; exact this
  have P4 : ReadV W4 _ _ us F := ⟨(PP4.out.step b4).next.lies.but bu4 (fun g hg he => by have := List.mem_singleton.1 he; have := HFL.out g hg; omega)⟩
  have HB4 := hide hb4
  have HW4 := hide hW4
  clear CL4 PP4 BX4 BR4 BO4 LL4 FR4 k4 f4 b4 bu4 hb4 hW4 bxs4 cs3 ct3 cc4 HW3
  have cs4 : w4.cell? ⟨w.heap.size + 1 + 1, 3, none⟩ = some (.slice none 0 0) := bos4.cell rfl
  have ct4 := bos4.fz 3
  clear bos4 brs4
  have RGE : Hid (W4.rangeAt (w.heap.size + 1 + 1) 0 [.slice X1 y1 z1, .slice X2 y2 z2, .slice X3 y3 z3, .slice X4 y4 z4]) := hide bo4.range
  have THE : Hid (W4.there (w.heap.size + 1) 0 4) := hide (br4.there (by simp))
  have ONE : Hid ((#[.slice X1 y1 z1, .slice X2 y2 z2, .slice X3 y3 z3, .slice X4 y4 z4] : Array Value).all (·.oneCell') = true) := hide (by simp [Value.oneCell'])
  have FIN : Hid (∀ WZ, W4.setCells (w.heap.size + 1) 0 [.slice X1 y1 z1, .slice X2 y2 z2, .slice X3 y3 z3, .slice X4 y4 z4] = WZ → ∃ us' F', (Ending.returned (.agg #[.slice X1 y1 z1, .slice X2 y2 z2, .slice X3 y3 z3, .slice X4 y4 z4]) = .returned (.agg us'.toArray)) ∧ Lies WZ (Go.Proofs.Ytnloknhcdlannaa.names x.srcs :: (seqOf 2 DIn.cells x.ins :: (Go.Proofs.Ytnloknhcdlannaa.names x.outs :: (seqOf 5 DOp.cells x.ops :: [])))) us' F' ∧ Fresh w.heap.size WZ F' ∧ Below w.heap.size w WZ) := hide (by
    intro WZ hWZ
    have bu := but_sets W4 (w.heap.size + 1) [.slice X1 y1 z1, .slice X2 y2 z2, .slice X3 y3 z3, .slice X4 y4 z4] 0
    rw [hWZ] at bu
    obtain ⟨FF, LL, ff⟩ : ∃ FF, Lies W4 _ _ FF ∧ Fresh _ W4 FF := ⟨_, L4, fr4⟩
    have h1 := LL.but bu (fun g hg he => by have := ff.low g hg; have := List.mem_singleton.1 he; omega)
    simp only [List.nil_append, List.cons_append, List.append_assoc] at h1
    have h2 : Fresh w.heap.size WZ FF := ⟨ff.nodup, fun g hg => by have := ff.low g hg; omega, ff.live.but bu (fun g hg he => by have := ff.low g hg; have := List.mem_singleton.1 he; omega)⟩
    have h3 : Below w.heap.size w WZ := bu.below HB4.out (fun g hg => by have := List.mem_singleton.1 hg; omega) HB4.out.size
    exact ⟨[.slice X1 y1 z1, .slice X2 y2 z2, .slice X3 y3 z3, .slice X4 y4 z4], FF, rfl, h1, h2, h3⟩)
  have HBR := hide (br4.sets (vs := [.slice X1 y1 z1, .slice X2 y2 z2, .slice X3 y3 z3, .slice X4 y4 z4]) (o := 0))
  clear L4 fr4 P4 bx4 br4 bo4
  go_wp2_with (first
    | ((with_reducible refine at_load 41 ?_); rw [HW4.out]; refine wpList_load_mid rfl _ _ rfl (w.heap.size + 1 + 1) 0 rfl [.slice X1 y1 z1, .slice X2 y2 z2, .slice X3 y3 z3, .slice X4 y4 z4] _ RGE.out Try.underlying41 rfl (by kernel_rfl) ?_)
    | ((with_reducible refine at_store 41 ?_); refine wpList_store_mid rfl _ _ _ rfl (w.heap.size + 1) 0 #[.slice X1 y1 z1, .slice X2 y2 z2, .slice X3 y3 z3, .slice X4 y4 z4] rfl rfl THE.out (by kernel_rfl) ONE.out ?_))
  exact bodyPost_ret (results_cell_row rfl _ _ (w.heap.size + 1) 41 #[.slice X1 y1 z1, .slice X2 y2 z2, .slice X3 y3 z3, .slice X4 y4 z4] (0, 0) _ rfl HBR.out Try.underlying41 rfl (by kernel_rfl)) rfl (FIN.out _ rfl)

theorem dtoDrv (x : DDrv) : ToA Try.prog 16 x.cells := dtoDrv0 x

end Go.Proofs.Ytnloknhcdlannaa


namespace Go.Proofs.Ytnloknhcdlannaa
open Go.RowKit
set_option linter.unusedVariables false

set_option maxRecDepth 20000 in
set_option maxHeartbeats 1600000 in
theorem dmarkBytes (l : List Int) : MarkC Try.prog 23 (seqOf 1 (fun x => [Cel.num .u8 x]) l) := by
  unfold seqOf
  intro v F s w h hnd hlv hs0 hs1
  have h0 := h
  obtain ⟨F2, hF, hm0⟩ := MarkL.start h hnd hlv s
  rw [Lie] at h
  obtain ⟨_, us, F3, ⟨A, c, hv, hc1, hc2, hul, _⟩, _, _⟩ := h
  obtain ⟨N, hN⟩ : ∃ N, l.length = N := ⟨_, rfl⟩
  obtain ⟨g, hg⟩ : ∃ g : Int → List Cel, (fun x => [Cel.num .u8 x]) = g := ⟨_, rfl⟩
  have hgx : ∀ x, g x = [.num .u8 x] := fun x => by subst hg; exact rfl
  rw [hg] at hm0 h0 hs1 ⊢
  rw [Cel.cnt] at hs1 ⊢
  rw [hN] at hv hc1 hm0 h0 ⊢
  obtain ⟨S, hS⟩ : ∃ S, cnts (cells g l) = S := ⟨_, rfl⟩
  rw [hS] at hs1 ⊢
  unfold maxLen at hc2
  have STOP := fun wr (hm : MarkL w v s F2 N (cells g l) [] wr) => MarkL.stop h0 hF hlv hm
  have HST := hide STOP
  have HS := hide hS
  have HN := hide hN
  have HG := hide hgx
  have HM0 := hide hm0
  subst hv
  clear STOP hS hN hg hgx hm0 h0 hul hnd hlv hF
  go_enter Try.func23, Try.ntmps23
  go_wp2
  go_loopw [1, 5] (fun q i wr => ∃ j z : Nat, j ≤ N ∧ i = .int .i64 j ∧ q = .int .i64 (s + z) ∧ z ≤ S ∧ Hid (cnts (cells g (l.take j)) = z ∧ MarkL w (.slice A N c) s F2 N (cells g (l.take j)) (cells g (l.drop j)) wr))
    (fun _ i _ => N - (intOf i).toNat)
  case atStart => exact ⟨0, 0, Nat.zero_le _, rfl, by go_num, Nat.zero_le _, hide ⟨by simp [cells, cnts], HM0.out⟩⟩
  case round =>
    obtain ⟨j, z, hj, rfl, rfl, hzS, HR⟩ := hrel
    by_cases hlt : j < N
    · obtain ⟨hz, hml⟩ := HR.out
      obtain ⟨b, off, c', us', hv, P0⟩ := hml.2 (by omega)
      injection hv with hv1 _ hv2
      subst hv1
      have hjn : j < l.length := by rw [HN.out]; exact hlt
      have htk := cells_take g hjn
      have hlen : j * 1 = (cells g (l.take j)).length := by rw [cells_len (sz := 1) (by intro x; rw [HG.out]; rfl), List.length_take]; omega
      rw [cells_drop g hjn] at P0
      obtain ⟨x, hxe⟩ : ∃ x, l[j] = x := ⟨_, rfl⟩
      have hmem : x ∈ l := hxe ▸ List.getElem_mem hjn
      rw [hxe, HG.out x] at P0 htk
      have hz2 := congrArg cnts htk
      rw [cnts_app, hz] at hz2
      have hz3 : cnts (cells g (l.take (j + 1))) ≤ S := by
        rw [← HS.out, cells_split g l (j + 1), cnts_app]; omega
      rw [hz2] at hz3
      simp only [cnts] at hz3 hz2
      simp only [num_cnt] at hz2 hz3
      simp only [List.cons_append, List.nil_append] at P0
      have HTK := hide htk
      have HZ2 := hide hz2
      have HLEN := hide hlen
      have HZ := hide hz
      have k1 : (j : Int) < (N : Int) := by omega
      clear htk hz2 hlen hz hml HR hjn hv2 hxe
      obtain ⟨c0, f0, us0, P1⟩ := P0.num (p := j * 1) HLEN.out (y := (s + z) % 256) (by rw [mk1_u8, HZ.out])
      rw [Nat.mul_one] at c0 f0 P1
      try simp only [← Nat.add_assoc] at c0 f0 P1
      obtain ⟨W0, hW0⟩ : ∃ W, wr.setCell ⟨b, off + j, none⟩ (.int .u8 ((s + z) % 256)) = W := ⟨_, rfl⟩
      rw [hW0] at P1
      have HW0 := hide hW0
      clear hW0 P0
      have fin := MarkL.round (n := N) (by omega) rfl P1 (c := c)
      try simp only [List.append_assoc, List.cons_append, List.nil_append] at fin
      rw [← HTK.out] at fin
      have FIN := hide (And.intro (HZ2.out.trans (show _ = z + (1) by omega)) fin)
      clear fin P1 HTK HZ2 HLEN HZ
      go_wp2_with fail
      rw [HW0.out]
      go_roundw
      case rel => exact ⟨j + 1, z + (1), by omega, by go_num, by go_num, by omega, FIN⟩
      case measure => simp [intOf]; omega
    · obtain rfl : j = N := by omega
      obtain ⟨hz, hml⟩ := HR.out
      rw [List.take_of_length_le (by rw [HN.out]; omega)] at hz hml
      rw [List.drop_eq_nil_of_le (by rw [HN.out]; omega)] at hml
      rw [HS.out] at hz
      subst hz
      have FIN := hide (HST.out wr hml)
      clear hml HR
      go_wp2
      go_ret
      exact ⟨rfl, FIN.out⟩

theorem dmarkRaw (l : List Int) : MarkC Try.prog 23 (raw l) := by rw [raw_eq]; exact dmarkBytes l

set_option maxRecDepth 20000 in
set_option maxHeartbeats 1600000 in
theorem dmarkNames (l : List (List Int)) : MarkC Try.prog 34 (seqOf 1 (fun n => [raw n]) l) := by
  unfold seqOf
  intro v F s w h hnd hlv hs0 hs1
  have h0 := h
  obtain ⟨F2, hF, hm0⟩ := MarkL.start h hnd hlv s
  rw [Lie] at h
  obtain ⟨_, us, F3, ⟨A, c, hv, hc1, hc2, hul, _⟩, _, _⟩ := h
  obtain ⟨N, hN⟩ : ∃ N, l.length = N := ⟨_, rfl⟩
  obtain ⟨g, hg⟩ : ∃ g : (List Int) → List Cel, (fun n => [raw n]) = g := ⟨_, rfl⟩
  have hgx : ∀ x, g x = [raw x] := fun x => by subst hg; exact rfl
  rw [hg] at hm0 h0 hs1 ⊢
  rw [Cel.cnt] at hs1 ⊢
  rw [hN] at hv hc1 hm0 h0 ⊢
  obtain ⟨S, hS⟩ : ∃ S, cnts (cells g l) = S := ⟨_, rfl⟩
  rw [hS] at hs1 ⊢
  unfold maxLen at hc2
  have STOP := fun wr (hm : MarkL w v s F2 N (cells g l) [] wr) => MarkL.stop h0 hF hlv hm
  have HST := hide STOP
  have HS := hide hS
  have HN := hide hN
  have HG := hide hgx
  have HM0 := hide hm0
  subst hv
  clear STOP hS hN hg hgx hm0 h0 hul hnd hlv hF
  go_enter Try.func34, Try.ntmps34
  go_wp2
  go_loopw [1, 5] (fun q i wr => ∃ j z : Nat, j ≤ N ∧ i = .int .i64 j ∧ q = .int .i64 (s + z) ∧ z ≤ S ∧ Hid (cnts (cells g (l.take j)) = z ∧ MarkL w (.slice A N c) s F2 N (cells g (l.take j)) (cells g (l.drop j)) wr))
    (fun _ i _ => N - (intOf i).toNat)
  case atStart => exact ⟨0, 0, Nat.zero_le _, rfl, by go_num, Nat.zero_le _, hide ⟨by simp [cells, cnts], HM0.out⟩⟩
  case round =>
    obtain ⟨j, z, hj, rfl, rfl, hzS, HR⟩ := hrel
    by_cases hlt : j < N
    · obtain ⟨hz, hml⟩ := HR.out
      obtain ⟨b, off, c', us', hv, P0⟩ := hml.2 (by omega)
      injection hv with hv1 _ hv2
      subst hv1
      have hjn : j < l.length := by rw [HN.out]; exact hlt
      have htk := cells_take g hjn
      have hlen : j * 1 = (cells g (l.take j)).length := by rw [cells_len (sz := 1) (by intro x; rw [HG.out]; rfl), List.length_take]; omega
      rw [cells_drop g hjn] at P0
      obtain ⟨x, hxe⟩ : ∃ x, l[j] = x := ⟨_, rfl⟩
      have hmem : x ∈ l := hxe ▸ List.getElem_mem hjn
      rw [hxe, HG.out x] at P0 htk
      have hz2 := congrArg cnts htk
      rw [cnts_app, hz] at hz2
      have hz3 : cnts (cells g (l.take (j + 1))) ≤ S := by
        rw [← HS.out, cells_split g l (j + 1), cnts_app]; omega
      rw [hz2] at hz3
      simp only [cnts] at hz3 hz2
      obtain ⟨D0, hD0⟩ : ∃ D, (raw x).cnt = D := ⟨_, rfl⟩
      simp only [hD0] at hz2 hz3
      simp only [List.cons_append, List.nil_append] at P0
      have HTK := hide htk
      have HZ2 := hide hz2
      have HLEN := hide hlen
      have HZ := hide hz
      have HD0 := hide hD0
      have k1 : (j : Int) < (N : Int) := by omega
      clear htk hz2 hlen hz hml HR hjn hv2 hxe hD0
      obtain ⟨v0, F0, c0, l0, n0, lv0, fin0⟩ := P0.call (p := j * 1) HLEN.out (y := s + z) (by rw [HZ.out])
      rw [Nat.mul_one] at c0
      try simp only [← Nat.add_assoc] at c0
      have call0 := dmarkRaw x v0 F0 (s + z) wr l0 n0 lv0 (by omega) (by rw [HD0.out]; omega)
      rw [HD0.out] at call0
      have FN0 := hide fin0
      have CL0 := hide call0
      clear fin0 call0 P0 l0 n0 lv0
      go_wp2_with fail
      refine CL0.out.mono ?_
      rintro e W0 ⟨rfl, m0, lv0, b0⟩
      have P1 := FN0.out W0 m0 lv0 b0
      clear FN0 CL0 c0 m0 lv0 b0
      have fin := MarkL.round (n := N) (by omega) rfl P1 (c := c)
      try simp only [List.append_assoc, List.cons_append, List.nil_append] at fin
      rw [← HTK.out] at fin
      have FIN := hide (And.intro (HZ2.out.trans (show _ = z + (D0) by omega)) fin)
      clear fin P1 HTK HZ2 HLEN HZ
      go_wp2_with fail
      go_roundw
      case rel => exact ⟨j + 1, z + (D0), by omega, by go_num, by go_num, by omega, FIN⟩
      case measure => simp [intOf]; omega
    · obtain rfl : j = N := by omega
      obtain ⟨hz, hml⟩ := HR.out
      rw [List.take_of_length_le (by rw [HN.out]; omega)] at hz hml
      rw [List.drop_eq_nil_of_le (by rw [HN.out]; omega)] at hml
      rw [HS.out] at hz
      subst hz
      have FIN := hide (HST.out wr hml)
      clear hml HR
      go_wp2
      go_ret
      exact ⟨rfl, FIN.out⟩

set_option maxRecDepth 20000 in
set_option maxHeartbeats 1600000 in
theorem dheldBytes (l : List Int) : HeldC Try.prog 24 (seqOf 1 (fun x => [Cel.num .u8 x]) l) := by
  unfold seqOf
  intro v F s w h hs0 hs1
  obtain ⟨F2, hm0⟩ := HeldL.start h
  rw [Cel.mk] at h
  obtain ⟨A, c, hv, hc1, hc2⟩ := h.form
  obtain ⟨N, hN⟩ : ∃ N, l.length = N := ⟨_, rfl⟩
  obtain ⟨g, hg⟩ : ∃ g : Int → List Cel, (fun x => [Cel.num .u8 x]) = g := ⟨_, rfl⟩
  have hgx : ∀ x, g x = [.num .u8 x] := fun x => by subst hg; exact rfl
  rw [hg] at hm0 hs1 ⊢
  rw [Cel.cnt] at hs1 ⊢
  rw [hN] at hv hc1 hm0
  obtain ⟨S, hS⟩ : ∃ S, cnts (cells g l) = S := ⟨_, rfl⟩
  rw [hS] at hs1 ⊢
  unfold maxLen at hc2
  have HS := hide hS
  have HN := hide hN
  have HG := hide hgx
  have HM0 := hide hm0
  subst hv
  clear hS hN hg hgx hm0 h
  go_enter Try.func24, Try.ntmps24
  go_wp2
  go_loopw [1, 5] (fun q i wr => ∃ j z : Nat, j ≤ N ∧ i = .int .i64 j ∧ q = .int .i64 (s + z) ∧ z ≤ S ∧ Hid (cnts (cells g (l.take j)) = z ∧ HeldL w (.slice A N c) s F2 N (cells g (l.take j)) (cells g (l.drop j)) wr))
    (fun _ i _ => N - (intOf i).toNat)
  case atStart => exact ⟨0, 0, Nat.zero_le _, rfl, by go_num, Nat.zero_le _, hide ⟨by simp [cells, cnts], HM0.out⟩⟩
  case round =>
    obtain ⟨j, z, hj, rfl, rfl, hzS, HR⟩ := hrel
    by_cases hlt : j < N
    · obtain ⟨hz, hml⟩ := HR.out
      obtain ⟨b, off, c', us', hv, P0⟩ := hml.2 (by omega)
      injection hv with hv1 _ hv2
      subst hv1
      have hjn : j < l.length := by rw [HN.out]; exact hlt
      have htk := cells_take g hjn
      have hlen : j * 1 = (cells g (l.take j)).length := by rw [cells_len (sz := 1) (by intro x; rw [HG.out]; rfl), List.length_take]; omega
      rw [cells_drop g hjn] at P0
      obtain ⟨x, hxe⟩ : ∃ x, l[j] = x := ⟨_, rfl⟩
      have hmem : x ∈ l := hxe ▸ List.getElem_mem hjn
      rw [hxe, HG.out x] at P0 htk
      have hz2 := congrArg cnts htk
      rw [cnts_app, hz] at hz2
      have hz3 : cnts (cells g (l.take (j + 1))) ≤ S := by
        rw [← HS.out, cells_split g l (j + 1), cnts_app]; omega
      rw [hz2] at hz3
      simp only [cnts] at hz3 hz2
      simp only [num_cnt] at hz2 hz3
      simp only [List.cons_append, List.nil_append] at P0
      have HTK := hide htk
      have HZ2 := hide hz2
      have HLEN := hide hlen
      have HZ := hide hz
      have HB0 := hide hml.1
      have k1 : (j : Int) < (N : Int) := by omega
      clear htk hz2 hlen hz hml HR hjn hv2 hxe
      have c0 := P0.num (p := j * 1) HLEN.out (y := (s + z) % 256) (by rw [mk1_u8, HZ.out])
      rw [Nat.mul_one] at c0
      try simp only [← Nat.add_assoc] at c0
      have e0 : ((((s + z) % 256) : Int) != (s + z) % 256) = false := by simp
      have P1 := P0.next
      clear P0
      have fin := HeldL.round (n := N) (w := w) rfl P1 HB0.out (c := c)
      try simp only [List.append_assoc, List.cons_append, List.nil_append] at fin
      rw [← HTK.out] at fin
      have FIN := hide (And.intro (HZ2.out.trans (show _ = z + (1) by omega)) fin)
      clear fin P1 HTK HZ2 HLEN HZ
      go_wp2_with fail
      go_roundw
      case rel => exact ⟨j + 1, z + (1), by omega, by go_num, by go_num, by omega, FIN⟩
      case measure => simp [intOf]; omega
    · obtain rfl : j = N := by omega
      obtain ⟨hz, hml⟩ := HR.out
      rw [List.take_of_length_le (by rw [HN.out]; omega)] at hz
      rw [HS.out] at hz
      subst hz
      have FIN := hide hml.1
      clear hml HR
      go_wp2
      go_ret
      exact ⟨rfl, FIN.out⟩

theorem dheldRaw (l : List Int) : HeldC Try.prog 24 (raw l) := by rw [raw_eq]; exact dheldBytes l

set_option maxRecDepth 20000 in
set_option maxHeartbeats 1600000 in
theorem dheldNames (l : List (List Int)) : HeldC Try.prog 35 (seqOf 1 (fun n => [raw n]) l) := by
  unfold seqOf
  intro v F s w h hs0 hs1
  obtain ⟨F2, hm0⟩ := HeldL.start h
  rw [Cel.mk] at h
  obtain ⟨A, c, hv, hc1, hc2⟩ := h.form
  obtain ⟨N, hN⟩ : ∃ N, l.length = N := ⟨_, rfl⟩
  obtain ⟨g, hg⟩ : ∃ g : (List Int) → List Cel, (fun n => [raw n]) = g := ⟨_, rfl⟩
  have hgx : ∀ x, g x = [raw x] := fun x => by subst hg; exact rfl
  rw [hg] at hm0 hs1 ⊢
  rw [Cel.cnt] at hs1 ⊢
  rw [hN] at hv hc1 hm0
  obtain ⟨S, hS⟩ : ∃ S, cnts (cells g l) = S := ⟨_, rfl⟩
  rw [hS] at hs1 ⊢
  unfold maxLen at hc2
  have HS := hide hS
  have HN := hide hN
  have HG := hide hgx
  have HM0 := hide hm0
  subst hv
  clear hS hN hg hgx hm0 h
  go_enter Try.func35, Try.ntmps35
  go_wp2
  go_loopw [1, 5] (fun q i wr => ∃ j z : Nat, j ≤ N ∧ i = .int .i64 j ∧ q = .int .i64 (s + z) ∧ z ≤ S ∧ Hid (cnts (cells g (l.take j)) = z ∧ HeldL w (.slice A N c) s F2 N (cells g (l.take j)) (cells g (l.drop j)) wr))
    (fun _ i _ => N - (intOf i).toNat)
  case atStart => exact ⟨0, 0, Nat.zero_le _, rfl, by go_num, Nat.zero_le _, hide ⟨by simp [cells, cnts], HM0.out⟩⟩
  case round =>
    obtain ⟨j, z, hj, rfl, rfl, hzS, HR⟩ := hrel
    by_cases hlt : j < N
    · obtain ⟨hz, hml⟩ := HR.out
      obtain ⟨b, off, c', us', hv, P0⟩ := hml.2 (by omega)
      injection hv with hv1 _ hv2
      subst hv1
      have hjn : j < l.length := by rw [HN.out]; exact hlt
      have htk := cells_take g hjn
      have hlen : j * 1 = (cells g (l.take j)).length := by rw [cells_len (sz := 1) (by intro x; rw [HG.out]; rfl), List.length_take]; omega
      rw [cells_drop g hjn] at P0
      obtain ⟨x, hxe⟩ : ∃ x, l[j] = x := ⟨_, rfl⟩
      have hmem : x ∈ l := hxe ▸ List.getElem_mem hjn
      rw [hxe, HG.out x] at P0 htk
      have hz2 := congrArg cnts htk
      rw [cnts_app, hz] at hz2
      have hz3 : cnts (cells g (l.take (j + 1))) ≤ S := by
        rw [← HS.out, cells_split g l (j + 1), cnts_app]; omega
      rw [hz2] at hz3
      simp only [cnts] at hz3 hz2
      obtain ⟨D0, hD0⟩ : ∃ D, (raw x).cnt = D := ⟨_, rfl⟩
      simp only [hD0] at hz2 hz3
      simp only [List.cons_append, List.nil_append] at P0
      have HTK := hide htk
      have HZ2 := hide hz2
      have HLEN := hide hlen
      have HZ := hide hz
      have HB0 := hide hml.1
      have HD0 := hide hD0
      have k1 : (j : Int) < (N : Int) := by omega
      clear htk hz2 hlen hz hml HR hjn hv2 hxe hD0
      obtain ⟨v0, F0, c0, l0⟩ := P0.call (p := j * 1) HLEN.out (y := s + z) (by rw [HZ.out])
      rw [Nat.mul_one] at c0
      try simp only [← Nat.add_assoc] at c0
      have call0 := dheldRaw x v0 F0 (s + z) wr l0 (by omega) (by rw [HD0.out]; omega)
      rw [HD0.out] at call0
      have CL0 := hide call0
      have PN0 := P0.next
      clear call0 P0 l0
      have q0 : ¬ (s + z + (D0 : Int) < 0) := by omega
      go_wp2_with fail
      refine CL0.out.mono ?_
      rintro e W0 ⟨rfl, b0⟩
      have P1 := PN0.step b0
      have HB1 := hide (HB0.out.trans (b0.mono HB0.out.size))
      clear CL0 c0 b0 PN0
      have fin := HeldL.round (n := N) (w := w) rfl P1 HB1.out (c := c)
      try simp only [List.append_assoc, List.cons_append, List.nil_append] at fin
      rw [← HTK.out] at fin
      have FIN := hide (And.intro (HZ2.out.trans (show _ = z + (D0) by omega)) fin)
      clear fin P1 HTK HZ2 HLEN HZ
      go_wp2_with fail
      go_roundw
      case rel => exact ⟨j + 1, z + (D0), by omega, by go_num, by go_num, by omega, FIN⟩
      case measure => simp [intOf]; omega
    · obtain rfl : j = N := by omega
      obtain ⟨hz, hml⟩ := HR.out
      rw [List.take_of_length_le (by rw [HN.out]; omega)] at hz
      rw [HS.out] at hz
      subst hz
      have FIN := hide hml.1
      clear hml HR
      go_wp2
      go_ret
      exact ⟨rfl, FIN.out⟩

end Go.Proofs.Ytnloknhcdlannaa


namespace Go.Proofs.Ytnloknhcdlannaa
open Go.RowKit
set_option linter.unusedVariables false
set_option linter.unusedSimpArgs false
set_option maxRecDepth 20000 in
set_option maxHeartbeats 1600000 in
theorem dmarkOpS (l : List DOp) : MarkC Try.prog 57 (seqOf 5 DOp.cells l) := by
  unfold seqOf
  intro v F s w h hnd hlv hs0 hs1
  have h0 := h
  obtain ⟨F2, hF, hm0⟩ := MarkL.start h hnd hlv s
  rw [Lie] at h
  obtain ⟨_, us, F3, ⟨A, c, hv, hc1, hc2, hul, _⟩, _, _⟩ := h
  obtain ⟨N, hN⟩ : ∃ N, l.length = N := ⟨_, rfl⟩
  obtain ⟨g, hg⟩ : ∃ g : DOp → List Cel, DOp.cells = g := ⟨_, rfl⟩
  have hgx : ∀ x, g x = [.num .i64 x.code, .num .i64 x.out, raw x.name, raw x.text, .num .i64 x.arg] := fun x => by subst hg; exact x.cells_eq
  rw [hg] at hm0 h0 hs1 ⊢
  rw [Cel.cnt] at hs1 ⊢
  rw [hN] at hv hc1 hm0 h0 ⊢
  obtain ⟨S, hS⟩ : ∃ S, cnts (cells g l) = S := ⟨_, rfl⟩
  rw [hS] at hs1 ⊢
  unfold maxLen at hc2
  have STOP := fun wr (hm : MarkL w v s F2 N (cells g l) [] wr) => MarkL.stop h0 hF hlv hm
  have HST := hide STOP
  have HS := hide hS
  have HN := hide hN
  have HG := hide hgx
  have HM0 := hide hm0
  subst hv
  clear STOP hS hN hg hgx hm0 h0 hul hnd hlv hF
  go_enter Try.func57, Try.ntmps57
  go_wp2
  go_loopw [1, 5] (fun q i wr => ∃ j z : Nat, j ≤ N ∧ i = .int .i64 j ∧ q = .int .i64 (s + z) ∧ z ≤ S ∧ Hid (cnts (cells g (l.take j)) = z ∧ MarkL w (.slice A N c) s F2 N (cells g (l.take j)) (cells g (l.drop j)) wr))
    (fun _ i _ => N - (intOf i).toNat)
  case atStart => exact ⟨0, 0, Nat.zero_le _, rfl, by go_num, Nat.zero_le _, hide ⟨by simp [cells, cnts], HM0.out⟩⟩
  case round =>
    obtain ⟨j, z, hj, rfl, rfl, hzS, HR⟩ := hrel
    by_cases hlt : j < N
    · obtain ⟨hz, hml⟩ := HR.out
      obtain ⟨b, off, c', us', hv, P0⟩ := hml.2 (by omega)
      injection hv with hv1 _ hv2
      subst hv1
      have hjn : j < l.length := by rw [HN.out]; exact hlt
      have htk := cells_take g hjn
      have hlen : j * 5 = (cells g (l.take j)).length := by rw [cells_len (sz := 5) (by intro x; rw [HG.out]; rfl), List.length_take]; omega
      rw [cells_drop g hjn] at P0
      obtain ⟨x, hxe⟩ : ∃ x, l[j] = x := ⟨_, rfl⟩
      have hmem : x ∈ l := hxe ▸ List.getElem_mem hjn
      rw [hxe, HG.out x] at P0 htk
      have hz2 := congrArg cnts htk
      rw [cnts_app, hz] at hz2
      have hz3 : cnts (cells g (l.take (j + 1))) ≤ S := by
        rw [← HS.out, cells_split g l (j + 1), cnts_app]; omega
      rw [hz2] at hz3
      simp only [cnts] at hz3 hz2
      obtain ⟨D2, hD2⟩ : ∃ D, (raw x.name).cnt = D := ⟨_, rfl⟩
      obtain ⟨D3, hD3⟩ : ∃ D, (raw x.text).cnt = D := ⟨_, rfl⟩
      simp only [hD2, hD3] at hz2 hz3
      simp only [num_cnt] at hz2 hz3
      simp only [List.cons_append, List.nil_append] at P0
      have HTK := hide htk
      have HZ2 := hide hz2
      have HLEN := hide hlen
      have HZ := hide hz
      have HD2 := hide hD2
      have HD3 := hide hD3
      have k1 : (j : Int) < (N : Int) := by omega
      clear htk hz2 hlen hz hml HR hjn hv2 hxe hD2 hD3
      obtain ⟨c0, f0, us0, P1⟩ := P0.num (p := j * 5) HLEN.out (y := s + z) (by rw [mk1_i64, HZ.out])
      try simp only [← Nat.add_assoc] at c0 f0 P1
      obtain ⟨W0, hW0⟩ : ∃ W, wr.setCell ⟨b, off + j * 5, none⟩ (.int .i64 (s + z)) = W := ⟨_, rfl⟩
      rw [hW0] at P1
      have HW0 := hide hW0
      clear hW0 P0
      obtain ⟨c1, f1, us1, P2⟩ := P1.num (p := j * 5 + 1) (by simp only [List.length_append, List.length_cons, List.length_nil]; have := HLEN.out; omega) (y := s + z + 1) (by rw [mk1_i64]; simp only [cnts_app, cnts, num_cnt]; have := HZ.out; omega)
      try simp only [← Nat.add_assoc] at c1 f1 P2
      rw [← HW0.out, World.cell?_setCell_other _ _ _ _ (by intro e; injection e with _ e2; omega)] at c1
      rw [← HW0.out, World.frozen?_setCell] at f1
      obtain ⟨W1, hW1⟩ : ∃ W, W0.setCell ⟨b, off + j * 5 + 1, none⟩ (.int .i64 (s + z + 1)) = W := ⟨_, rfl⟩
      rw [hW1] at P2
      have HW1 := hide hW1
      clear hW1 P1
      obtain ⟨v2, F2, c2, l2, n2, lv2, fin2⟩ := P2.call (p := j * 5 + 2) (by simp only [List.length_append, List.length_cons, List.length_nil]; have := HLEN.out; omega) (y := s + z + 1 + 1) (by simp only [cnts_app, cnts, num_cnt]; have := HZ.out; have := HZ.out; omega)
      try simp only [← Nat.add_assoc] at c2
      rw [← HW1.out, World.cell?_setCell_other _ _ _ _ (by intro e; injection e with _ e2; omega)] at c2
      rw [← HW0.out, World.cell?_setCell_other _ _ _ _ (by intro e; injection e with _ e2; omega)] at c2
      have call2 := (dmarkRaw x.name) v2 F2 (s + z + 1 + 1) W1 l2 n2 lv2 (by omega) (by rw [HD2.out]; omega)
      rw [HD2.out] at call2
      have FN2 := hide fin2
      have CL2 := hide call2
      clear fin2 call2 P2 l2 n2 lv2
      go_wp2_with fail
      rw [HW0.out]
      rw [HW1.out]
      refine CL2.out.mono ?_
      rintro e W2 ⟨rfl, m2, lv2, b2⟩
      have P3 := FN2.out W2 m2 lv2 b2
      clear FN2 CL2 c2 m2 lv2 b2 c0 f0 HW0 c1 f1 HW1
      obtain ⟨v3, F3, c3, l3, n3, lv3, fin3⟩ := P3.call (p := j * 5 + 3) (by simp only [List.length_append, List.length_cons, List.length_nil]; have := HLEN.out; omega) (y := s + z + 1 + 1 + D2) (by simp only [cnts_app, cnts, num_cnt, HD2.out]; have := HZ.out; have := HZ.out; omega)
      try simp only [← Nat.add_assoc] at c3
      have call3 := (dmarkRaw x.text) v3 F3 (s + z + 1 + 1 + D2) W2 l3 n3 lv3 (by omega) (by rw [HD3.out]; omega)
      rw [HD3.out] at call3
      have FN3 := hide fin3
      have CL3 := hide call3
      clear fin3 call3 P3 l3 n3 lv3
      go_wp2_with fail
      refine CL3.out.mono ?_
      rintro e W3 ⟨rfl, m3, lv3, b3⟩
      have P4 := FN3.out W3 m3 lv3 b3
      clear FN3 CL3 c3 m3 lv3 b3
      obtain ⟨c4, f4, us4, P5⟩ := P4.num (p := j * 5 + 4) (by simp only [List.length_append, List.length_cons, List.length_nil]; have := HLEN.out; omega) (y := s + z + 1 + 1 + D2 + D3) (by rw [mk1_i64]; simp only [cnts_app, cnts, num_cnt, HD2.out, HD3.out]; have := HZ.out; omega)
      try simp only [← Nat.add_assoc] at c4 f4 P5
      obtain ⟨W4, hW4⟩ : ∃ W, W3.setCell ⟨b, off + j * 5 + 4, none⟩ (.int .i64 (s + z + 1 + 1 + D2 + D3)) = W := ⟨_, rfl⟩
      rw [hW4] at P5
      have HW4 := hide hW4
      clear hW4 P4
      have fin := MarkL.round (n := N) (by omega) rfl P5 (c := c)
      try simp only [List.append_assoc, List.cons_append, List.nil_append] at fin
      rw [← HTK.out] at fin
      have FIN := hide (And.intro (HZ2.out.trans (show _ = z + (1 + 1 + D2 + D3 + 1) by omega)) fin)
      clear fin P5 HTK HZ2 HLEN HZ
      go_wp2_with fail
      rw [HW4.out]
      go_roundw
      case rel => exact ⟨j + 1, z + (1 + 1 + D2 + D3 + 1), by omega, by go_num, by go_num, by omega, FIN⟩
      case measure => simp [intOf]; omega
    · obtain rfl : j = N := by omega
      obtain ⟨hz, hml⟩ := HR.out
      rw [List.take_of_length_le (by rw [HN.out]; omega)] at hz hml
      rw [List.drop_eq_nil_of_le (by rw [HN.out]; omega)] at hml
      rw [HS.out] at hz
      subst hz
      have FIN := hide (HST.out wr hml)
      clear hml HR
      go_wp2
      go_ret
      exact ⟨rfl, FIN.out⟩

set_option maxRecDepth 20000 in
set_option maxHeartbeats 1600000 in
theorem dmarkInS (l : List DIn) : MarkC Try.prog 56 (seqOf 2 DIn.cells l) := by
  unfold seqOf
  intro v F s w h hnd hlv hs0 hs1
  have h0 := h
  obtain ⟨F2, hF, hm0⟩ := MarkL.start h hnd hlv s
  rw [Lie] at h
  obtain ⟨_, us, F3, ⟨A, c, hv, hc1, hc2, hul, _⟩, _, _⟩ := h
  obtain ⟨N, hN⟩ : ∃ N, l.length = N := ⟨_, rfl⟩
  obtain ⟨g, hg⟩ : ∃ g : DIn → List Cel, DIn.cells = g := ⟨_, rfl⟩
  have hgx : ∀ x, g x = [raw x.drv, raw x.out] := fun x => by subst hg; exact x.cells_eq
  rw [hg] at hm0 h0 hs1 ⊢
  rw [Cel.cnt] at hs1 ⊢
  rw [hN] at hv hc1 hm0 h0 ⊢
  obtain ⟨S, hS⟩ : ∃ S, cnts (cells g l) = S := ⟨_, rfl⟩
  rw [hS] at hs1 ⊢
  unfold maxLen at hc2
  have STOP := fun wr (hm : MarkL w v s F2 N (cells g l) [] wr) => MarkL.stop h0 hF hlv hm
  have HST := hide STOP
  have HS := hide hS
  have HN := hide hN
  have HG := hide hgx
  have HM0 := hide hm0
  subst hv
  clear STOP hS hN hg hgx hm0 h0 hul hnd hlv hF
  go_enter Try.func56, Try.ntmps56
  go_wp2
  go_loopw [1, 5] (fun q i wr => ∃ j z : Nat, j ≤ N ∧ i = .int .i64 j ∧ q = .int .i64 (s + z) ∧ z ≤ S ∧ Hid (cnts (cells g (l.take j)) = z ∧ MarkL w (.slice A N c) s F2 N (cells g (l.take j)) (cells g (l.drop j)) wr))
    (fun _ i _ => N - (intOf i).toNat)
  case atStart => exact ⟨0, 0, Nat.zero_le _, rfl, by go_num, Nat.zero_le _, hide ⟨by simp [cells, cnts], HM0.out⟩⟩
  case round =>
    obtain ⟨j, z, hj, rfl, rfl, hzS, HR⟩ := hrel
    by_cases hlt : j < N
    · obtain ⟨hz, hml⟩ := HR.out
      obtain ⟨b, off, c', us', hv, P0⟩ := hml.2 (by omega)
      injection hv with hv1 _ hv2
      subst hv1
      have hjn : j < l.length := by rw [HN.out]; exact hlt
      have htk := cells_take g hjn
      have hlen : j * 2 = (cells g (l.take j)).length := by rw [cells_len (sz := 2) (by intro x; rw [HG.out]; rfl), List.length_take]; omega
      rw [cells_drop g hjn] at P0
      obtain ⟨x, hxe⟩ : ∃ x, l[j] = x := ⟨_, rfl⟩
      have hmem : x ∈ l := hxe ▸ List.getElem_mem hjn
      rw [hxe, HG.out x] at P0 htk
      have hz2 := congrArg cnts htk
      rw [cnts_app, hz] at hz2
      have hz3 : cnts (cells g (l.take (j + 1))) ≤ S := by
        rw [← HS.out, cells_split g l (j + 1), cnts_app]; omega
      rw [hz2] at hz3
      simp only [cnts] at hz3 hz2
      obtain ⟨D0, hD0⟩ : ∃ D, (raw x.drv).cnt = D := ⟨_, rfl⟩
      obtain ⟨D1, hD1⟩ : ∃ D, (raw x.out).cnt = D := ⟨_, rfl⟩
      simp only [hD0, hD1] at hz2 hz3
      simp only [List.cons_append, List.nil_append] at P0
      have HTK := hide htk
      have HZ2 := hide hz2
      have HLEN := hide hlen
      have HZ := hide hz
      have HD0 := hide hD0
      have HD1 := hide hD1
      have k1 : (j : Int) < (N : Int) := by omega
      clear htk hz2 hlen hz hml HR hjn hv2 hxe hD0 hD1
      obtain ⟨v0, F0, c0, l0, n0, lv0, fin0⟩ := P0.call (p := j * 2) HLEN.out (y := s + z) (by rw [HZ.out])
      try simp only [← Nat.add_assoc] at c0
      have call0 := (dmarkRaw x.drv) v0 F0 (s + z) wr l0 n0 lv0 (by omega) (by rw [HD0.out]; omega)
      rw [HD0.out] at call0
      have FN0 := hide fin0
      have CL0 := hide call0
      clear fin0 call0 P0 l0 n0 lv0
      go_wp2_with fail
      refine CL0.out.mono ?_
      rintro e W0 ⟨rfl, m0, lv0, b0⟩
      have P1 := FN0.out W0 m0 lv0 b0
      clear FN0 CL0 c0 m0 lv0 b0
      obtain ⟨v1, F1, c1, l1, n1, lv1, fin1⟩ := P1.call (p := j * 2 + 1) (by simp only [List.length_append, List.length_cons, List.length_nil]; have := HLEN.out; omega) (y := s + z + D0) (by simp only [cnts_app, cnts, HD0.out]; have := HZ.out; have := HZ.out; omega)
      try simp only [← Nat.add_assoc] at c1
      have call1 := (dmarkRaw x.out) v1 F1 (s + z + D0) W0 l1 n1 lv1 (by omega) (by rw [HD1.out]; omega)
      rw [HD1.out] at call1
      have FN1 := hide fin1
      have CL1 := hide call1
      clear fin1 call1 P1 l1 n1 lv1
      go_wp2_with fail
      refine CL1.out.mono ?_
      rintro e W1 ⟨rfl, m1, lv1, b1⟩
      have P2 := FN1.out W1 m1 lv1 b1
      clear FN1 CL1 c1 m1 lv1 b1
      have fin := MarkL.round (n := N) (by omega) rfl P2 (c := c)
      try simp only [List.append_assoc, List.cons_append, List.nil_append] at fin
      rw [← HTK.out] at fin
      have FIN := hide (And.intro (HZ2.out.trans (show _ = z + (D0 + D1) by omega)) fin)
      clear fin P2 HTK HZ2 HLEN HZ
      go_wp2_with fail
      go_roundw
      case rel => exact ⟨j + 1, z + (D0 + D1), by omega, by go_num, by go_num, by omega, FIN⟩
      case measure => simp [intOf]; omega
    · obtain rfl : j = N := by omega
      obtain ⟨hz, hml⟩ := HR.out
      rw [List.take_of_length_le (by rw [HN.out]; omega)] at hz hml
      rw [List.drop_eq_nil_of_le (by rw [HN.out]; omega)] at hml
      rw [HS.out] at hz
      subst hz
      have FIN := hide (HST.out wr hml)
      clear hml HR
      go_wp2
      go_ret
      exact ⟨rfl, FIN.out⟩

set_option maxRecDepth 20000 in
set_option maxHeartbeats 1600000 in
theorem dmarkDrv (x : DDrv) : MarkA Try.prog 22 x.cells := by
  intro us F s w h hnd hlv hs0 hs1
  have hd := h
  rw [x.cells_eq] at hd
  obtain ⟨A0, m0, c0, r0, G0, rfl, q0⟩ := hd.seqs1
  obtain ⟨A1, m1, c1, r1, G1, rfl, q1⟩ := q0.seqs1
  obtain ⟨A2, m2, c2, r2, G2, rfl, q2⟩ := q1.seqs1
  obtain ⟨A3, m3, c3, r3, G3, rfl, q3⟩ := q2.seqs1
  obtain rfl := q3.nil1
  clear q0 q1 q2 q3
  obtain ⟨us, hus⟩ : ∃ us : List Value, [.slice A0 m0 c0, .slice A1 m1 c1, .slice A2 m2 c2, .slice A3 m3 c3] = us := ⟨_, rfl⟩
  obtain ⟨wa, hwa⟩ : ∃ wa, w.alloc (.cells #[.slice A0 m0 c0, .slice A1 m1 c1, .slice A2 m2 c2, .slice A3 m3 c3] 41) = wa := ⟨_, rfl⟩
  have ba : Below w.heap.size w wa := by rw [← hwa]; exact (Below.refl _ _).alloc (Nat.le_refl _) _
  have bx0 : Box wa w.heap.size 41 us := by rw [← hwa, ← hus]; exact Box.new w _ _
  have hnf : w.heap.size ∉ F := fun hg => Nat.lt_irrefl _ (h.lt _ hg)
  have hlz : wa.heap.size = w.heap.size + 1 := by rw [← hwa]; simp
  rw [hus] at h
  obtain ⟨D0, hD0⟩ : ∃ D, (Go.Proofs.Ytnloknhcdlannaa.names x.srcs).cnt = D := ⟨_, rfl⟩
  have hE0 : (Go.Proofs.Ytnloknhcdlannaa.names x.srcs).cnt0 = D0 := hD0
  obtain ⟨D1, hD1⟩ : ∃ D, (seqOf 2 DIn.cells x.ins).cnt = D := ⟨_, rfl⟩
  have hE1 : (seqOf 2 DIn.cells x.ins).cnt0 = D1 := hD1
  obtain ⟨D2, hD2⟩ : ∃ D, (Go.Proofs.Ytnloknhcdlannaa.names x.outs).cnt = D := ⟨_, rfl⟩
  have hE2 : (Go.Proofs.Ytnloknhcdlannaa.names x.outs).cnt0 = D2 := hD2
  obtain ⟨D3, hD3⟩ : ∃ D, (seqOf 5 DOp.cells x.ops).cnt = D := ⟨_, rfl⟩
  have hE3 : (seqOf 5 DOp.cells x.ops).cnt0 = D3 := hD3
  have hsum : cnts0 x.cells = D0 + D1 + D2 + D3 := by
    rw [x.cells_top]
    simp only [cnts0, hE0, hE1, hE2, hE3]
    omega
  rw [hsum] at hs1 ⊢
  rw [x.cells_top] at h ⊢
  have P0 := MarkV.start (s := s) (h.step ba) hnd (hlv.step ba)
  have HUS := hide hus
  have HBA := hide ba
  have HNF := hide hnf
  clear h hnd hlv hus ba hnf hsum
  go_enter Try.func22, Try.ntmps22
  obtain ⟨F0, s0, l0, n0, lv0, fin0⟩ := P0.call (p := 0) (by rfl) (v := .slice A0 m0 c0) (by rw [← HUS.out]; rfl) (y := s) (by simp only [cnts0_app, cnts0, hE0, hE1, hE2, hE3]; omega)
  have call0 := dmarkNames x.srcs _ F0 (s) wa l0 n0 lv0 (by omega) (by rw [hD0]; omega)
  have cc0 : wa.cell? ⟨w.heap.size, 0, none⟩ = some (.slice A0 m0 c0) := bx0.cell (by rw [← HUS.out]; rfl)
  rw [hD0] at call0
  have CL0 := hide call0
  have HS0 := hide s0
  have FN0 := hide fin0
  have BX0 := hide bx0
  clear call0 fin0 l0 n0 lv0 bx0 s0 P0
  go_wp2_with fail
  refine CL0.out.mono ?_
  rintro e W0 ⟨rfl, k0, lw0, b0⟩
  have P1 := FN0.out W0 k0 lw0 b0
  have bx1 : Box W0 w.heap.size 41 us := BX0.out.keep (b0.block _ BX0.out.lt fun hg => HNF.out (HS0.out _ hg))
  clear FN0 CL0 k0 lw0 b0 BX0 cc0
  obtain ⟨F1, s1, l1, n1, lv1, fin1⟩ := P1.call (p := 1) (by simp only [List.length_append, List.length_cons, List.length_nil]) (v := .slice A1 m1 c1) (by rw [← HUS.out]; rfl) (y := s + D0) (by simp only [cnts0_app, cnts0, hE0, hE1, hE2, hE3]; omega)
  have call1 := dmarkInS x.ins _ F1 (s + D0) W0 l1 n1 lv1 (by omega) (by rw [hD1]; omega)
  have cc1 : W0.cell? ⟨w.heap.size, 1, none⟩ = some (.slice A1 m1 c1) := bx1.cell (by rw [← HUS.out]; rfl)
  rw [hD1] at call1
  have CL1 := hide call1
  have HS1 := hide s1
  have FN1 := hide fin1
  have BX1 := hide bx1
  clear call1 fin1 l1 n1 lv1 bx1 s1 P1
  go_wp2_with fail
  refine CL1.out.mono ?_
  rintro e W1 ⟨rfl, k1, lw1, b1⟩
  have P2 := FN1.out W1 k1 lw1 b1
  have bx2 : Box W1 w.heap.size 41 us := BX1.out.keep (b1.block _ BX1.out.lt fun hg => HNF.out (HS1.out _ hg))
  clear FN1 CL1 k1 lw1 b1 BX1 cc1
  obtain ⟨F2, s2, l2, n2, lv2, fin2⟩ := P2.call (p := 2) (by simp only [List.length_append, List.length_cons, List.length_nil]) (v := .slice A2 m2 c2) (by rw [← HUS.out]; rfl) (y := s + D0 + D1) (by simp only [cnts0_app, cnts0, hE0, hE1, hE2, hE3]; omega)
  have call2 := dmarkNames x.outs _ F2 (s + D0 + D1) W1 l2 n2 lv2 (by omega) (by rw [hD2]; omega)
  have cc2 : W1.cell? ⟨w.heap.size, 2, none⟩ = some (.slice A2 m2 c2) := bx2.cell (by rw [← HUS.out]; rfl)
  rw [hD2] at call2
  have CL2 := hide call2
  have HS2 := hide s2
  have FN2 := hide fin2
  have BX2 := hide bx2
  clear call2 fin2 l2 n2 lv2 bx2 s2 P2
  go_wp2_with fail
  refine CL2.out.mono ?_
  rintro e W2 ⟨rfl, k2, lw2, b2⟩
  have P3 := FN2.out W2 k2 lw2 b2
  have bx3 : Box W2 w.heap.size 41 us := BX2.out.keep (b2.block _ BX2.out.lt fun hg => HNF.out (HS2.out _ hg))
  clear FN2 CL2 k2 lw2 b2 BX2 cc2
  obtain ⟨F3, s3, l3, n3, lv3, fin3⟩ := P3.call (p := 3) (by simp only [List.length_append, List.length_cons, List.length_nil]) (v := .slice A3 m3 c3) (by rw [← HUS.out]; rfl) (y := s + D0 + D1 + D2) (by simp only [cnts0_app, cnts0, hE0, hE1, hE2, hE3]; omega)
  have call3 := dmarkOpS x.ops _ F3 (s + D0 + D1 + D2) W2 l3 n3 lv3 (by omega) (by rw [hD3]; omega)
  have cc3 : W2.cell? ⟨w.heap.size, 3, none⟩ = some (.slice A3 m3 c3) := bx3.cell (by rw [← HUS.out]; rfl)
  rw [hD3] at call3
  have CL3 := hide call3
  have HS3 := hide s3
  have FN3 := hide fin3
  have BX3 := hide bx3
  clear call3 fin3 l3 n3 lv3 bx3 s3 P3
  go_wp2_with fail
  refine CL3.out.mono ?_
  rintro e W3 ⟨rfl, k3, lw3, b3⟩
  have P4 := FN3.out W3 k3 lw3 b3
  have bx4 : Box W3 w.heap.size 41 us := BX3.out.keep (b3.block _ BX3.out.lt fun hg => HNF.out (HS3.out _ hg))
  clear FN3 CL3 k3 lw3 b3 BX3 cc3
  go_wp2_with fail
  go_ret
  have fin := P4.stop HBA.out
  rw [← HUS.out] at fin
  simp only [List.append_assoc, List.cons_append, List.nil_append] at fin
  exact ⟨ret_i64 (by omega), fin⟩

end Go.Proofs.Ytnloknhcdlannaa


namespace Go.Proofs.Ytnloknhcdlannaa
open Go.RowKit
set_option linter.unusedVariables false
set_option linter.unusedSimpArgs false
set_option maxRecDepth 20000 in
set_option maxHeartbeats 1600000 in
theorem dheldOpS (l : List DOp) : HeldC Try.prog 64 (seqOf 5 DOp.cells l) := by
  unfold seqOf
  intro v F s w h hs0 hs1
  obtain ⟨F2, hm0⟩ := HeldL.start h
  rw [Cel.mk] at h
  obtain ⟨A, c, hv, hc1, hc2⟩ := h.form
  obtain ⟨N, hN⟩ : ∃ N, l.length = N := ⟨_, rfl⟩
  obtain ⟨g, hg⟩ : ∃ g : DOp → List Cel, DOp.cells = g := ⟨_, rfl⟩
  have hgx : ∀ x, g x = [.num .i64 x.code, .num .i64 x.out, raw x.name, raw x.text, .num .i64 x.arg] := fun x => by subst hg; exact x.cells_eq
  rw [hg] at hm0 hs1 ⊢
  rw [Cel.cnt] at hs1 ⊢
  rw [hN] at hv hc1 hm0
  obtain ⟨S, hS⟩ : ∃ S, cnts (cells g l) = S := ⟨_, rfl⟩
  rw [hS] at hs1 ⊢
  unfold maxLen at hc2
  have HS := hide hS
  have HN := hide hN
  have HG := hide hgx
  have HM0 := hide hm0
  subst hv
  clear hS hN hg hgx hm0 h
  go_enter Try.func64, Try.ntmps64
  go_wp2
  go_loopw [1, 5] (fun q i wr => ∃ j z : Nat, j ≤ N ∧ i = .int .i64 j ∧ q = .int .i64 (s + z) ∧ z ≤ S ∧ Hid (cnts (cells g (l.take j)) = z ∧ HeldL w (.slice A N c) s F2 N (cells g (l.take j)) (cells g (l.drop j)) wr))
    (fun _ i _ => N - (intOf i).toNat)
  case atStart => exact ⟨0, 0, Nat.zero_le _, rfl, by go_num, Nat.zero_le _, hide ⟨by simp [cells, cnts], HM0.out⟩⟩
  case round =>
    obtain ⟨j, z, hj, rfl, rfl, hzS, HR⟩ := hrel
    by_cases hlt : j < N
    · obtain ⟨hz, hml⟩ := HR.out
      obtain ⟨b, off, c', us', hv, P0⟩ := hml.2 (by omega)
      injection hv with hv1 _ hv2
      subst hv1
      have hjn : j < l.length := by rw [HN.out]; exact hlt
      have htk := cells_take g hjn
      have hlen : j * 5 = (cells g (l.take j)).length := by rw [cells_len (sz := 5) (by intro x; rw [HG.out]; rfl), List.length_take]; omega
      rw [cells_drop g hjn] at P0
      obtain ⟨x, hxe⟩ : ∃ x, l[j] = x := ⟨_, rfl⟩
      have hmem : x ∈ l := hxe ▸ List.getElem_mem hjn
      rw [hxe, HG.out x] at P0 htk
      have hz2 := congrArg cnts htk
      rw [cnts_app, hz] at hz2
      have hz3 : cnts (cells g (l.take (j + 1))) ≤ S := by
        rw [← HS.out, cells_split g l (j + 1), cnts_app]; omega
      rw [hz2] at hz3
      simp only [cnts] at hz3 hz2
      obtain ⟨D2, hD2⟩ : ∃ D, (raw x.name).cnt = D := ⟨_, rfl⟩
      obtain ⟨D3, hD3⟩ : ∃ D, (raw x.text).cnt = D := ⟨_, rfl⟩
      simp only [hD2, hD3] at hz2 hz3
      simp only [num_cnt] at hz2 hz3
      simp only [List.cons_append, List.nil_append] at P0
      have HTK := hide htk
      have HZ2 := hide hz2
      have HLEN := hide hlen
      have HZ := hide hz
      have HB0 := hide hml.1
      have HD2 := hide hD2
      have HD3 := hide hD3
      have k1 : (j : Int) < (N : Int) := by omega
      clear htk hz2 hlen hz hml HR hjn hv2 hxe hD2 hD3
      have c0 := P0.num (p := j * 5) HLEN.out (y := s + z) (by rw [mk1_i64, HZ.out])
      try simp only [← Nat.add_assoc] at c0
      have e0 : (((s + z) : Int) != s + z) = false := by simp
      have P1 := P0.next
      clear P0
      have c1 := P1.num (p := j * 5 + 1) (by simp only [List.length_append, List.length_cons, List.length_nil]; have := HLEN.out; omega) (y := s + z + 1) (by rw [mk1_i64]; simp only [cnts_app, cnts, num_cnt]; have := HZ.out; omega)
      try simp only [← Nat.add_assoc] at c1
      have e1 : (((s + z + 1) : Int) != s + z + 1) = false := by simp
      have P2 := P1.next
      clear P1
      obtain ⟨v2, F2, c2, l2⟩ := P2.call (p := j * 5 + 2) (by simp only [List.length_append, List.length_cons, List.length_nil]; have := HLEN.out; omega) (y := s + z + 1 + 1) (by simp only [cnts_app, cnts, num_cnt]; have := HZ.out; omega)
      try simp only [← Nat.add_assoc] at c2
      have call2 := (dheldRaw x.name) v2 F2 (s + z + 1 + 1) wr l2 (by omega) (by rw [HD2.out]; omega)
      rw [HD2.out] at call2
      have CL2 := hide call2
      have PN2 := P2.next
      clear call2 P2 l2
      have q2 : ¬ (s + z + 1 + 1 + (D2 : Int) < 0) := by omega
      go_wp2_with fail
      refine CL2.out.mono ?_
      rintro e W2 ⟨rfl, b2⟩
      have P3 := PN2.step b2
      have HB3 := hide (HB0.out.trans (b2.mono HB0.out.size))
      clear CL2 c2 b2 PN2 c0 e0 c1 e1
      obtain ⟨v3, F3, c3, l3⟩ := P3.call (p := j * 5 + 3) (by simp only [List.length_append, List.length_cons, List.length_nil]; have := HLEN.out; omega) (y := s + z + 1 + 1 + D2) (by simp only [cnts_app, cnts, num_cnt, HD2.out]; have := HZ.out; omega)
      try simp only [← Nat.add_assoc] at c3
      have call3 := (dheldRaw x.text) v3 F3 (s + z + 1 + 1 + D2) W2 l3 (by omega) (by rw [HD3.out]; omega)
      rw [HD3.out] at call3
      have CL3 := hide call3
      have PN3 := P3.next
      clear call3 P3 l3
      have q3 : ¬ (s + z + 1 + 1 + D2 + (D3 : Int) < 0) := by omega
      go_wp2_with fail
      refine CL3.out.mono ?_
      rintro e W3 ⟨rfl, b3⟩
      have P4 := PN3.step b3
      have HB4 := hide (HB3.out.trans (b3.mono HB3.out.size))
      clear CL3 c3 b3 PN3 q2
      have c4 := P4.num (p := j * 5 + 4) (by simp only [List.length_append, List.length_cons, List.length_nil]; have := HLEN.out; omega) (y := s + z + 1 + 1 + D2 + D3) (by rw [mk1_i64]; simp only [cnts_app, cnts, num_cnt, HD2.out, HD3.out]; have := HZ.out; omega)
      try simp only [← Nat.add_assoc] at c4
      have e4 : (((s + z + 1 + 1 + D2 + D3) : Int) != s + z + 1 + 1 + D2 + D3) = false := by simp
      have P5 := P4.next
      clear P4
      have fin := HeldL.round (n := N) (w := w) rfl P5 HB4.out (c := c)
      try simp only [List.append_assoc, List.cons_append, List.nil_append] at fin
      rw [← HTK.out] at fin
      have FIN := hide (And.intro (HZ2.out.trans (show _ = z + (1 + 1 + D2 + D3 + 1) by omega)) fin)
      clear fin P5 HTK HZ2 HLEN HZ
      go_wp2_with fail
      go_roundw
      case rel => exact ⟨j + 1, z + (1 + 1 + D2 + D3 + 1), by omega, by go_num, by go_num, by omega, FIN⟩
      case measure => simp [intOf]; omega
    · obtain rfl : j = N := by omega
      obtain ⟨hz, hml⟩ := HR.out
      rw [List.take_of_length_le (by rw [HN.out]; omega)] at hz
      rw [HS.out] at hz
      subst hz
      have FIN := hide hml.1
      clear hml HR
      go_wp2
      go_ret
      exact ⟨rfl, FIN.out⟩

set_option maxRecDepth 20000 in
set_option maxHeartbeats 1600000 in
theorem dheldInS (l : List DIn) : HeldC Try.prog 63 (seqOf 2 DIn.cells l) := by
  unfold seqOf
  intro v F s w h hs0 hs1
  obtain ⟨F2, hm0⟩ := HeldL.start h
  rw [Cel.mk] at h
  obtain ⟨A, c, hv, hc1, hc2⟩ := h.form
  obtain ⟨N, hN⟩ : ∃ N, l.length = N := ⟨_, rfl⟩
  obtain ⟨g, hg⟩ : ∃ g : DIn → List Cel, DIn.cells = g := ⟨_, rfl⟩
  have hgx : ∀ x, g x = [raw x.drv, raw x.out] := fun x => by subst hg; exact x.cells_eq
  rw [hg] at hm0 hs1 ⊢
  rw [Cel.cnt] at hs1 ⊢
  rw [hN] at hv hc1 hm0
  obtain ⟨S, hS⟩ : ∃ S, cnts (cells g l) = S := ⟨_, rfl⟩
  rw [hS] at hs1 ⊢
  unfold maxLen at hc2
  have HS := hide hS
  have HN := hide hN
  have HG := hide hgx
  have HM0 := hide hm0
  subst hv
  clear hS hN hg hgx hm0 h
  go_enter Try.func63, Try.ntmps63
  go_wp2
  go_loopw [1, 5] (fun q i wr => ∃ j z : Nat, j ≤ N ∧ i = .int .i64 j ∧ q = .int .i64 (s + z) ∧ z ≤ S ∧ Hid (cnts (cells g (l.take j)) = z ∧ HeldL w (.slice A N c) s F2 N (cells g (l.take j)) (cells g (l.drop j)) wr))
    (fun _ i _ => N - (intOf i).toNat)
  case atStart => exact ⟨0, 0, Nat.zero_le _, rfl, by go_num, Nat.zero_le _, hide ⟨by simp [cells, cnts], HM0.out⟩⟩
  case round =>
    obtain ⟨j, z, hj, rfl, rfl, hzS, HR⟩ := hrel
    by_cases hlt : j < N
    · obtain ⟨hz, hml⟩ := HR.out
      obtain ⟨b, off, c', us', hv, P0⟩ := hml.2 (by omega)
      injection hv with hv1 _ hv2
      subst hv1
      have hjn : j < l.length := by rw [HN.out]; exact hlt
      have htk := cells_take g hjn
      have hlen : j * 2 = (cells g (l.take j)).length := by rw [cells_len (sz := 2) (by intro x; rw [HG.out]; rfl), List.length_take]; omega
      rw [cells_drop g hjn] at P0
      obtain ⟨x, hxe⟩ : ∃ x, l[j] = x := ⟨_, rfl⟩
      have hmem : x ∈ l := hxe ▸ List.getElem_mem hjn
      rw [hxe, HG.out x] at P0 htk
      have hz2 := congrArg cnts htk
      rw [cnts_app, hz] at hz2
      have hz3 : cnts (cells g (l.take (j + 1))) ≤ S := by
        rw [← HS.out, cells_split g l (j + 1), cnts_app]; omega
      rw [hz2] at hz3
      simp only [cnts] at hz3 hz2
      obtain ⟨D0, hD0⟩ : ∃ D, (raw x.drv).cnt = D := ⟨_, rfl⟩
      obtain ⟨D1, hD1⟩ : ∃ D, (raw x.out).cnt = D := ⟨_, rfl⟩
      simp only [hD0, hD1] at hz2 hz3
      simp only [List.cons_append, List.nil_append] at P0
      have HTK := hide htk
      have HZ2 := hide hz2
      have HLEN := hide hlen
      have HZ := hide hz
      have HB0 := hide hml.1
      have HD0 := hide hD0
      have HD1 := hide hD1
      have k1 : (j : Int) < (N : Int) := by omega
      clear htk hz2 hlen hz hml HR hjn hv2 hxe hD0 hD1
      obtain ⟨v0, F0, c0, l0⟩ := P0.call (p := j * 2) HLEN.out (y := s + z) (by rw [HZ.out])
      try simp only [← Nat.add_assoc] at c0
      have call0 := (dheldRaw x.drv) v0 F0 (s + z) wr l0 (by omega) (by rw [HD0.out]; omega)
      rw [HD0.out] at call0
      have CL0 := hide call0
      have PN0 := P0.next
      clear call0 P0 l0
      have q0 : ¬ (s + z + (D0 : Int) < 0) := by omega
      go_wp2_with fail
      refine CL0.out.mono ?_
      rintro e W0 ⟨rfl, b0⟩
      have P1 := PN0.step b0
      have HB1 := hide (HB0.out.trans (b0.mono HB0.out.size))
      clear CL0 c0 b0 PN0
      obtain ⟨v1, F1, c1, l1⟩ := P1.call (p := j * 2 + 1) (by simp only [List.length_append, List.length_cons, List.length_nil]; have := HLEN.out; omega) (y := s + z + D0) (by simp only [cnts_app, cnts, HD0.out]; have := HZ.out; omega)
      try simp only [← Nat.add_assoc] at c1
      have call1 := (dheldRaw x.out) v1 F1 (s + z + D0) W0 l1 (by omega) (by rw [HD1.out]; omega)
      rw [HD1.out] at call1
      have CL1 := hide call1
      have PN1 := P1.next
      clear call1 P1 l1
      have q1 : ¬ (s + z + D0 + (D1 : Int) < 0) := by omega
      go_wp2_with fail
      refine CL1.out.mono ?_
      rintro e W1 ⟨rfl, b1⟩
      have P2 := PN1.step b1
      have HB2 := hide (HB1.out.trans (b1.mono HB1.out.size))
      clear CL1 c1 b1 PN1 q0
      have fin := HeldL.round (n := N) (w := w) rfl P2 HB2.out (c := c)
      try simp only [List.append_assoc, List.cons_append, List.nil_append] at fin
      rw [← HTK.out] at fin
      have FIN := hide (And.intro (HZ2.out.trans (show _ = z + (D0 + D1) by omega)) fin)
      clear fin P2 HTK HZ2 HLEN HZ
      go_wp2_with fail
      go_roundw
      case rel => exact ⟨j + 1, z + (D0 + D1), by omega, by go_num, by go_num, by omega, FIN⟩
      case measure => simp [intOf]; omega
    · obtain rfl : j = N := by omega
      obtain ⟨hz, hml⟩ := HR.out
      rw [List.take_of_length_le (by rw [HN.out]; omega)] at hz
      rw [HS.out] at hz
      subst hz
      have FIN := hide hml.1
      clear hml HR
      go_wp2
      go_ret
      exact ⟨rfl, FIN.out⟩

set_option maxRecDepth 20000 in
set_option maxHeartbeats 1600000 in
theorem dheldDrv (x : DDrv) : HeldA Try.prog 28 x.cells := by
  intro us F s w h hs0 hs1
  have hd := h
  rw [x.cells_eq] at hd
  simp only [mkc0] at hd
  obtain ⟨A0, m0, c0, r0, G0, rfl, q0⟩ := Lies.seqs1 hd
  obtain ⟨A1, m1, c1, r1, G1, rfl, q1⟩ := Lies.seqs1 q0
  obtain ⟨A2, m2, c2, r2, G2, rfl, q2⟩ := Lies.seqs1 q1
  obtain ⟨A3, m3, c3, r3, G3, rfl, q3⟩ := Lies.seqs1 q2
  obtain rfl := q3.nil1
  clear q0 q1 q2 q3
  obtain ⟨us, hus⟩ : ∃ us : List Value, [.slice A0 m0 c0, .slice A1 m1 c1, .slice A2 m2 c2, .slice A3 m3 c3] = us := ⟨_, rfl⟩
  obtain ⟨wa, hwa⟩ : ∃ wa, w.alloc (.cells #[.slice A0 m0 c0, .slice A1 m1 c1, .slice A2 m2 c2, .slice A3 m3 c3] 41) = wa := ⟨_, rfl⟩
  have ba : Below w.heap.size w wa := by rw [← hwa]; exact (Below.refl _ _).alloc (Nat.le_refl _) _
  have bx0 : Box wa w.heap.size 41 us := by rw [← hwa, ← hus]; exact Box.new w _ _
  rw [hus] at h
  obtain ⟨D0, hD0⟩ : ∃ D, (Go.Proofs.Ytnloknhcdlannaa.names x.srcs).cnt = D := ⟨_, rfl⟩
  have hE0 : (Go.Proofs.Ytnloknhcdlannaa.names x.srcs).cnt0 = D0 := hD0
  obtain ⟨D1, hD1⟩ : ∃ D, (seqOf 2 DIn.cells x.ins).cnt = D := ⟨_, rfl⟩
  have hE1 : (seqOf 2 DIn.cells x.ins).cnt0 = D1 := hD1
  obtain ⟨D2, hD2⟩ : ∃ D, (Go.Proofs.Ytnloknhcdlannaa.names x.outs).cnt = D := ⟨_, rfl⟩
  have hE2 : (Go.Proofs.Ytnloknhcdlannaa.names x.outs).cnt0 = D2 := hD2
  obtain ⟨D3, hD3⟩ : ∃ D, (seqOf 5 DOp.cells x.ops).cnt = D := ⟨_, rfl⟩
  have hE3 : (seqOf 5 DOp.cells x.ops).cnt0 = D3 := hD3
  have hsum : cnts0 x.cells = D0 + D1 + D2 + D3 := by
    rw [x.cells_top]
    simp only [cnts0, hE0, hE1, hE2, hE3]
    omega
  rw [hsum] at hs1 ⊢
  rw [x.cells_top] at h
  have P0 := HeldV.start (h.step ba)
  have HUS := hide hus
  have HB0 := hide ba
  clear h hus ba hsum
  go_enter Try.func28, Try.ntmps28
  obtain ⟨F0, l0⟩ := P0.call (p := 0) (by rfl) (v := .slice A0 m0 c0) (by rw [← HUS.out]; rfl) (y := s) (by simp only [cnts0_app, cnts0, hE0, hE1, hE2, hE3]; omega)
  have call0 := dheldNames x.srcs _ F0 (s) wa l0 (by omega) (by rw [hD0]; omega)
  have cc0 : wa.cell? ⟨w.heap.size, 0, none⟩ = some (.slice A0 m0 c0) := bx0.cell (by rw [← HUS.out]; rfl)
  rw [hD0] at call0
  have CL0 := hide call0
  have BX0 := hide bx0
  have PN0 := P0.next
  have q0 : ¬ (s + (D0 : Int) < 0) := by omega
  clear call0 l0 bx0 P0
  go_wp2_with fail
  refine CL0.out.mono ?_
  rintro e W0 ⟨rfl, b0⟩
  have P1 := PN0.step b0
  have bx1 := BX0.out.step b0
  have HB1 := hide (HB0.out.trans (b0.mono HB0.out.size))
  clear CL0 PN0 b0 BX0 cc0
  obtain ⟨F1, l1⟩ := P1.call (p := 1) (by simp only [List.length_append, List.length_cons, List.length_nil]) (v := .slice A1 m1 c1) (by rw [← HUS.out]; rfl) (y := s + D0) (by simp only [cnts0_app, cnts0, hE0, hE1, hE2, hE3]; omega)
  have call1 := dheldInS x.ins _ F1 (s + D0) W0 l1 (by omega) (by rw [hD1]; omega)
  have cc1 : W0.cell? ⟨w.heap.size, 1, none⟩ = some (.slice A1 m1 c1) := bx1.cell (by rw [← HUS.out]; rfl)
  rw [hD1] at call1
  have CL1 := hide call1
  have BX1 := hide bx1
  have PN1 := P1.next
  have q1 : ¬ (s + D0 + (D1 : Int) < 0) := by omega
  clear call1 l1 bx1 P1
  go_wp2_with fail
  refine CL1.out.mono ?_
  rintro e W1 ⟨rfl, b1⟩
  have P2 := PN1.step b1
  have bx2 := BX1.out.step b1
  have HB2 := hide (HB1.out.trans (b1.mono HB1.out.size))
  clear CL1 PN1 b1 BX1 cc1
  obtain ⟨F2, l2⟩ := P2.call (p := 2) (by simp only [List.length_append, List.length_cons, List.length_nil]) (v := .slice A2 m2 c2) (by rw [← HUS.out]; rfl) (y := s + D0 + D1) (by simp only [cnts0_app, cnts0, hE0, hE1, hE2, hE3]; omega)
  have call2 := dheldNames x.outs _ F2 (s + D0 + D1) W1 l2 (by omega) (by rw [hD2]; omega)
  have cc2 : W1.cell? ⟨w.heap.size, 2, none⟩ = some (.slice A2 m2 c2) := bx2.cell (by rw [← HUS.out]; rfl)
  rw [hD2] at call2
  have CL2 := hide call2
  have BX2 := hide bx2
  have PN2 := P2.next
  have q2 : ¬ (s + D0 + D1 + (D2 : Int) < 0) := by omega
  clear call2 l2 bx2 P2
  go_wp2_with fail
  refine CL2.out.mono ?_
  rintro e W2 ⟨rfl, b2⟩
  have P3 := PN2.step b2
  have bx3 := BX2.out.step b2
  have HB3 := hide (HB2.out.trans (b2.mono HB2.out.size))
  clear CL2 PN2 b2 BX2 cc2
  obtain ⟨F3, l3⟩ := P3.call (p := 3) (by simp only [List.length_append, List.length_cons, List.length_nil]) (v := .slice A3 m3 c3) (by rw [← HUS.out]; rfl) (y := s + D0 + D1 + D2) (by simp only [cnts0_app, cnts0, hE0, hE1, hE2, hE3]; omega)
  have call3 := dheldOpS x.ops _ F3 (s + D0 + D1 + D2) W2 l3 (by omega) (by rw [hD3]; omega)
  have cc3 : W2.cell? ⟨w.heap.size, 3, none⟩ = some (.slice A3 m3 c3) := bx3.cell (by rw [← HUS.out]; rfl)
  rw [hD3] at call3
  have CL3 := hide call3
  have BX3 := hide bx3
  have PN3 := P3.next
  have q3 : ¬ (s + D0 + D1 + D2 + (D3 : Int) < 0) := by omega
  clear call3 l3 bx3 P3
  go_wp2_with fail
  refine CL3.out.mono ?_
  rintro e W3 ⟨rfl, b3⟩
  have P4 := PN3.step b3
  have bx4 := BX3.out.step b3
  have HB4 := hide (HB3.out.trans (b3.mono HB3.out.size))
  clear CL3 PN3 b3 BX3 cc3
  go_wp2_with fail
  go_ret
  exact ⟨ret_i64 (by omega), HB4.out⟩

end Go.Proofs.Ytnloknhcdlannaa
