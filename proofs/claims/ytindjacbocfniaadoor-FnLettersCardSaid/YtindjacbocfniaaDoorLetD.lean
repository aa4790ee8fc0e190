/-
  The draws of FnLetters.
-/
import Derived.Test.YtindjacbocfniaaDoorDraws
import Derived.Test.YtindjacbocfniaaDoorB32
namespace Go.Proofs.YtindjacbocfniaaDoor
open Go.RowKit
set_option linter.unusedVariables false

set_option maxRecDepth 20000 in
set_option maxHeartbeats 1600000 in
theorem drawBase32 (l : List Int) (hB : Byt l) (v : Value) (w : World) (hv : Rd w v (bs l)) :
    Calls Tryd.prog 15 #[v] w fun e w' => Drawn w e w' 65 := by
  have h0 := drawNew l hB v w hv
  have HV := hide hv
  clear hv
  go_enter Tryd.func15, Tryd.ntmps15
  go_wp2_with fail
  refine h0.mono ?_
  rintro e w1 ⟨g, rfl, hg, c1, b1⟩
  have hL := rd_ints w1 [0, 1, 2, 5, 10, 64, 65] 3 (by decide)
  have hglt := c1.lt
  have ba := (Below.refl w1.heap.size w1).alloc (Nat.le_refl _) (.cells (ints [0, 1, 2, 5, 10, 64, 65]).toArray 3)
  have hp := drawPick [0, 1, 2, 5, 10, 64, 65] (by decide) (by decide) _ g v l hB w _ (fun W hO => Rd.outsideHi hL hO (by omega)) HV.out (b1.trans (ba.mono b1.size)) hg (c1.step ba)
  go_wp2_with fail
  refine hp.mono ?_
  rintro e w2 ⟨x, rfl, hx, c2, o2⟩
  have hx2 : 0 ≤ x ∧ x ≤ 65 := by simp at hx; omega
  have b2 := o2.below (b1.trans (ba.mono b1.size)) hg (b1.trans (ba.mono b1.size)).size
  go_wp2_with fail
  refine (drawSome x hx2.1 (by omega) g v l hB w w2 HV.out b2 hg c2).mono ?_
  rintro e w3 ⟨v3, l3, rfl, hB3, hl3, o3, c3, x3⟩
  go_wp2_with fail
  go_ret
  exact ⟨_, l3, rfl, hB3, by omega, o3.wide b2.size (Nat.le_refl _) (Nat.le_refl _), x3.below b2 hg b2.size⟩


set_option maxRecDepth 20000 in
set_option maxHeartbeats 1600000 in
theorem drawNameOf (l : List Int) (hB : Byt l) (v : Value) (w : World) (hv : Rd w v (bs l)) :
    Calls Tryd.prog 20 #[v] w fun e w' => ∃ (k : Int) (v' : Value) (l' : List Int), e = .returned (.tuple #[.int .u8 k, v']) ∧ (0 ≤ k ∧ k ≤ 255) ∧ Byt l' ∧ l'.length ≤ 30 ∧ Own 5 w.heap.size w'.heap.size w' v' (bs l') ∧ Below w.heap.size w w' := by
  have h0 := drawNew l hB v w hv
  have HV := hide hv
  clear hv
  go_enter Tryd.func20, Tryd.ntmps20
  go_wp2_with fail
  refine h0.mono ?_
  rintro e w1 ⟨g, rfl, hg, c1, b1⟩
  have hp := drawByte g v l hB w w1 HV.out b1 hg c1
  go_wp2_with fail
  refine hp.mono ?_
  rintro e w2 ⟨x, rfl, x0, x1, c2, o2⟩
  have b2 := o2.below b1 hg b1.size
  go_wp2_with fail
  refine (drawSome 30 (by omega) (by omega) g v l hB w w2 HV.out b2 hg c2).mono ?_
  rintro e w3 ⟨v3, l3, rfl, hB3, hl3, o3, c3, x3⟩
  go_wp2_with fail
  go_ret2
  exact ⟨x, _, l3, rfl, ⟨x0, x1⟩, hB3, by omega, o3.wide b2.size (Nat.le_refl _) (Nat.le_refl _), x3.below b2 hg b2.size⟩

set_option maxRecDepth 20000 in
set_option maxHeartbeats 1600000 in
theorem letterText (g : Nat) (v : Value) (l : List Int) (hB : Byt l) (w0 w : World) (hv : Rd w0 v (bs l)) (hb : Below w0.heap.size w0 w) (hg : w0.heap.size ≤ g) (hc : Cur w g v l.length) :
    Calls Tryd.prog 39 #[.pointer (some ⟨g, 0, none⟩)] w fun e w' => ∃ (v' : Value) (l' : List Int), e = .returned v' ∧ Byt l' ∧ l'.length ≤ 105 ∧ Own 5 w.heap.size w'.heap.size w' v' (bs l') ∧ Cur w' g v l.length ∧ Outside g (g + 1) w w' := by
  obtain ⟨i0, hi0, hz0, hz1, hz2⟩ := info_parts u8info
  have hglt := hc.lt
  have hL := rd_ints w [0, 1, 2, 4, 8, 16, 16, 104, 105] 3 (by decide)
  have ba := (Below.refl w.heap.size w).alloc (Nat.le_refl _) (.cells (ints [0, 1, 2, 4, 8, 16, 16, 104, 105]).toArray 3)
  have oa := (Outside.refl g (g + 1) w).alloc (.cells (ints [0, 1, 2, 4, 8, 16, 16, 104, 105]).toArray 3)
  have hp := drawPick [0, 1, 2, 4, 8, 16, 16, 104, 105] (by decide) (by decide) _ g v l hB w0 _ (fun W hO => Rd.outsideHi hL hO (by omega)) hv (hb.trans (ba.mono hb.size)) hg (hc.step ba)
  have key : ∀ W, Outside g (g + 1) w W → Cur W g v l.length → Calls Tryd.prog 41 #[.pointer (some ⟨g, 0, none⟩), .int .i64 32] W fun e w' => ∃ x : Int, e = .returned (.int .i64 x) ∧ Under x 32 ∧ Cur w' g v l.length ∧ Outside g (g + 1) W w' := fun W hO hC =>
    drawBelow 32 (by omega) g v l hB w0 W hv (hO.below hb hg hb.size) hg hC
  have KEY := hide key
  clear hv hb hc key hL ba
  go_enter Tryd.func39, Tryd.ntmps39
  go_wp2_with fail
  refine hp.mono ?_
  rintro e w1 ⟨x, rfl, hx, c1, o1'⟩
  have o1 := oa.trans o1'
  have hx2 : 0 ≤ x ∧ x ≤ 105 := by simp at hx; omega
  obtain ⟨n, rfl⟩ := Int.eq_ofNat_of_zero_le hx2.1
  have hn : n ≤ 105 := by omega
  have hsz1 := o1.size
  clear hp hx hx2 o1' oa
  go_wp2
  go_loopw [3, 5] (fun v5 q wr => ∃ (k : Nat) (xs : List Int), k ≤ n ∧ q = .int .i64 k ∧ xs.length = k ∧ Byt xs ∧ wr.ownsRow w.heap.size 5 1 v5 k (bs xs) ∧ Cur wr g v l.length ∧ Outside g (g + 1) w wr)
    (fun _ q _ => n - (intOf q).toNat)
  case atStart => exact ⟨0, [], by omega, rfl, rfl, Byt.nil, World.ownsRow_nil _ _ _ _, c1, o1⟩
  case round =>
    obtain ⟨k, xs, hk, rfl, hxl, hxB, hown, hcur, hO⟩ := hrel
    have hsz := hO.size
    by_cases hlt : k < n
    · have hcall := KEY.out wr hO hcur
      have HO := hide hown
      have HU := hide hO
      have HXL := hide hxl
      have HXB := hide hxB
      clear hown hcur hO hxl hxB
      go_wp2_with fail
      refine hcall.mono ?_
      rintro e w2 ⟨y, rfl, ⟨y0, y1⟩, c2, o2⟩
      have hs2 := o2.size
      have own2 := ((Own.of HO.out (by rw [bs_length, HXL.out])).outside o2 (.inr (by omega))).1
      obtain ⟨j, rfl⟩ := Int.eq_ofNat_of_zero_le y0
      have hj : j < 32 := by omega
      have hlt2 := ltr_at j hj
      obtain ⟨z0, z1⟩ := ltr_byte (n := (j : Int)) (by omega) (by omega)
      obtain ⟨z, hz⟩ : ∃ z, ltr (j : Int) = z := ⟨_, rfl⟩
      rw [hz] at hlt2 z0 z1
      clear hz
      go_wp2_with (at_builtin; refine wpList_app _ rfl _ _ _ rfl w.heap.size 5 i0 _ 1 Tryd.underlying22 hi0 hz0 hz1 hz2 rfl _ _ _ rfl (own2.alloc _) _ _ rfl (rd_one _ _ _) (bs_one _) (by rw [bs_length, bs_length, HXL.out]; simp only [maxLen, List.length_singleton]; omega) (by rw [bs_length, bs_length, HXL.out]; simp only [List.length_singleton]; omega) (by simp; omega) ?_; intro v3 w3 own3 gr3)
      go_roundw
      case rel => exact ⟨k + 1, xs ++ [z], by omega, by go_num, by rw [List.length_append, HXL.out]; rfl, HXB.out.app (Byt.one z0 z1), own_len (own_cells own3 (by rw [bs_append])) (by rw [bs_length, bs_length, HXL.out]; rfl), (c2.step ((Below.refl _ w2).alloc (Nat.le_refl _) _)).row (own2.alloc _) (by omega) gr3, ((HU.out.trans o2).alloc _).row (own2.alloc _) (Nat.le_refl _) gr3⟩
      case measure => simp [intOf]; omega
    · obtain rfl : k = n := by omega
      have HO := hide hown
      have HU := hide hO
      clear hown hO
      go_wp2
      go_ret
      exact ⟨_, xs, rfl, hxB, by omega, Own.of HO.out (by rw [bs_length, hxl]), hcur, HU.out⟩

/-- The bytes with the k-th turned. -/
theorem set_bs (l : List Int) (k : Nat) (x : Int) : (bs l).set k (.int .u8 x) = bs (l.set k x) := by simp [bs, List.map_set]
theorem Byt.set_ {l : List Int} (h : Byt l) (k : Nat) {x : Int} (h0 : 0 ≤ x) (h1 : x ≤ 255) : Byt (l.set k x) := fun y hy => by
  rcases List.mem_or_eq_of_mem_set hy with h2 | rfl
  · exact h y h2
  · exact ⟨h0, h1⟩

set_option maxRecDepth 20000 in
set_option maxHeartbeats 3200000 in
theorem drawBase32Read (l : List Int) (hB : Byt l) (v : Value) (w : World) (hv : Rd w v (bs l)) :
    Calls Tryd.prog 19 #[v] w fun e w' => Drawn w e w' 105 := by
  have h0 := drawNew l hB v w hv
  have HV := hide hv
  clear hv
  go_enter Tryd.func19, Tryd.ntmps19
  go_wp2_with fail
  refine h0.mono ?_
  rintro e w1 ⟨g, rfl, hg, c1, b1⟩
  have hglt := c1.lt
  go_wp2_with fail
  refine (drawSome 12 (by omega) (by omega) g v l hB w w1 HV.out b1 hg c1).mono ?_
  rintro e w2 ⟨v2, l2, rfl, hB2, hl2, o2, c2, x2⟩
  have b2 := x2.below b1 hg b1.size
  go_wp2_with fail
  refine (specBase l2 hB2 v2 w2 o2.rd (by omega)).mono ?_
  rintro e w3 ⟨v3, rfl, o3, b3⟩
  have c3 := c2.step b3
  have bb3 := b2.trans (b3.mono b2.size)
  have x3 := x2.trans (Outside.of_below b3 g (g + 1))
  have hl3 : (b32 l2).length ≤ 105 := by rw [b32_len]; omega
  have o3' := o3.wide x2.size (Nat.le_refl _) (Nat.le_refl _)
  have hB3 := b32_byt l2
  generalize b32 l2 = l3 at *
  go_wp2_with fail
  refine (drawOnce 3 (by omega) g v l hB w w3 HV.out bb3 hg c3).mono ?_
  rintro e w4 ⟨x, rfl, c4, x4⟩
  have x4' := x3.trans x4
  have bb4 := x4.below bb3 hg bb3.size
  have o4 := o3'.outside x4 (.inr (by omega))
  go_upto_if 11 with (fail)
  go_cut [4] (fun v5 wx => ∃ l5, Byt l5 ∧ l5.length ≤ 105 ∧ wx.ownsRow w1.heap.size 5 1 v5 l5.length (bs l5) ∧ Cur wx g v l.length ∧ Below w.heap.size w wx ∧ w1.heap.size ≤ wx.heap.size)
  case first =>
    cases x with
    | true =>
      go_wp2_with fail
      refine (letterText g v l hB w w4 HV.out bb4 hg c4).mono ?_
      rintro e w5 ⟨v5, l5, rfl, hB5, hl5, o5, c5, x5⟩
      have z5 := x5.size
      have z4 := x4'.size
      go_wp2_with fail
      go_meet
      exact ⟨l5, hB5, hl5, own_len (o5.wide (by omega) (Nat.le_refl _) (Nat.le_refl _)).1 (bs_length _), c5, x5.below bb4 hg bb4.size, by omega⟩
    | false =>
      go_wp2
      go_meet
      exact ⟨l3, hB3, hl3, own_len o4.1 (bs_length _), c4, bb4, x4'.size⟩
  case rest =>
    obtain ⟨l5, hB5, hl5, o5, c5, b5, z5⟩ := hcut
    go_wp2_with fail
    refine (drawOnce 4 (by omega) g v l hB w wc HV.out b5 hg c5).mono ?_
    rintro e w6 ⟨y, rfl, c6, x6⟩
    have b6 := x6.below b5 hg b5.size
    have z6 := x6.size
    have o6 := own_len ((Own.of o5 (bs_length _).symm).outside x6 (.inr (by omega))).1 (bs_length _)
    have fin : ∀ (W : World) (u : Value) (L : List Int), Byt L → L.length ≤ 105 → W.ownsRow w1.heap.size 5 1 u L.length (bs L) → Below w.heap.size w W → Drawn w (.returned u) W 105 := fun W u L h1 h2 h3 h4 =>
      ⟨u, L, rfl, h1, h2, (Own.of h3 (bs_length _).symm).wide b1.size (Nat.le_refl _) (Nat.le_refl _), h4⟩
    have FIN := hide fin
    obtain ⟨A5, cc, rfl, hcc, hcm⟩ := own_slice o6
    unfold maxLen at hcm
    cases y with
    | false =>
      have hF := fin w6 _ l5 hB5 hl5 o6 b6
      have HF := hide hF
      clear fin hF o5 o6
      go_wp2
      go_ret
      exact HF.out
    | true =>
      rcases Nat.eq_zero_or_pos l5.length with hz | hz
      · have hl0 := List.eq_nil_of_length_eq_zero hz
        subst hl0
        have hF := fin w6 _ [] hB5 hl5 o6 b6
        have HF := hide hF
        clear fin hF o5 o6
        go_wp2
        go_ret
        exact HF.out
      · obtain ⟨gb, rfl, hgb, _⟩ := own_form o6 hz
        clear fin
        have hp1 := drawBelow (l5.length : Int) (by omega) g v l hB w w6 HV.out b6 hg c6
        have O6 := hide o6
        clear o5 o6
        go_wp2_with fail
        refine hp1.mono ?_
        rintro e w7 ⟨p, rfl, ⟨p0, p1⟩, c7, x7⟩
        have b7 := x7.below b6 hg b6.size
        have z7 := x7.size
        obtain ⟨k, rfl⟩ := Int.eq_ofNat_of_zero_le p0
        have hk : k < l5.length := by omega
        have o7 := own_len ((Own.of O6.out (bs_length _).symm).outside x7 (.inr (by omega))).1 (bs_length _)
        have hp2 := drawByte g v l hB w w7 HV.out b7 hg c7
        have O7 := hide o7
        clear o7
        go_wp2_with fail
        refine hp2.mono ?_
        rintro e w8 ⟨q, rfl, q0, q1, c8, x8⟩
        have b8 := x8.below b7 hg b7.size
        have z8 := x8.size
        have o8 := own_len ((Own.of O7.out (bs_length _).symm).outside x8 (.inr (by omega))).1 (bs_length _)
        have hout := o8.cellAt k (by omega)
        have hfz := o8.frozenAt k
        obtain ⟨hst, hgr⟩ := o8.stored k (.int .u8 q)
        rw [bs_get hk] at hout
        rw [set_bs] at hst
        have bf : Below w.heap.size w (w8.setCell ⟨gb, k, none⟩ (.int .u8 q)) := b8.setCell (by dsimp only; have := b1.size; omega) _
        have hF := FIN.out _ _ (l5.set k q) (hB5.set_ k q0 q1) (by rw [List.length_set]; exact hl5) (own_len hst (by rw [List.length_set])) bf
        have HF := hide hF
        have k1 : (k : Int) < (l5.length : Int) := by omega
        clear hst hgr o8 hF bf
        go_wp2
        go_ret
        exact HF.out

end Go.Proofs.YtindjacbocfniaaDoor
