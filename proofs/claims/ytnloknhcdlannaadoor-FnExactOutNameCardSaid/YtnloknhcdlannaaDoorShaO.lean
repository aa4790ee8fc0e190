
/-
  The program's Sha256.
-/
import Derived.Test.YtnloknhcdlannaaDoorShaN
namespace Go.Proofs.YtnloknhcdlannaaDoor
open Go.RowKit
set_option linter.unusedVariables false

/-- What comes of the three calls, whatever the two slices are called. -/
theorem shaEnd (l : List Int) (hB : Byt l) (n : Nat) (hn : l.length / 64 = n) (s1 s2 : S8) (m : Nat) (h1 : hashN S0 (l.take (64 * n)) n = s1) (hm : (l.drop (64 * n) ++ tailB l.length).length = 64 * m) (h2 : hashN s1 (l.drop (64 * n) ++ tailB l.length) m = s2) :
    shaL l = outB s2.list := by
  subst hn h1 h2
  rw [shaL_parts, hm]
  congr 3
  omega

set_option maxRecDepth 20000 in
set_option maxHeartbeats 3200000 in
theorem implShaIn (l : List Int) (hB : Byt l) (v : Value) (w : World) (hv : Rd w v (bs l)) (hl : l.length ≤ 100000) (hT : Tab w) :
    Calls Tryd.prog 52 #[v] w fun e w' => ∃ v', e = .returned v' ∧ Own 5 w.heap.size w'.heap.size w' v' (bs (shaL l)) ∧ Below w.heap.size w w' := by
  obtain ⟨A, c, hV, hc1, hc2, hrd⟩ := id hv
  rw [bs_length] at *
  unfold maxLen at hc2
  subst hV
  obtain ⟨n, hn⟩ : ∃ n, l.length / 64 = n := ⟨_, rfl⟩
  obtain ⟨m, hm⟩ : ∃ m, (l.drop (64 * n) ++ tailB l.length).length = 64 * m := ⟨(l.drop (64 * n) ++ tailB l.length).length / 64, by
    have := pad_mod l.length
    rw [List.length_append, List.length_drop]
    omega⟩
  have hmb : m ≤ 10 := by
    have := pad_le l.length
    rw [List.length_append, List.length_drop] at hm
    omega
  obtain ⟨s1, h1⟩ : ∃ s1, hashN S0 (l.take (64 * n)) n = s1 := ⟨_, rfl⟩
  have hs1 : s1.Ok := by rw [← h1]; exact hashN_ok S0_ok _ _
  obtain ⟨s2, h2⟩ : ∃ s2, hashN s1 (l.drop (64 * n) ++ tailB l.length) m = s2 := ⟨_, rfl⟩
  have hs2 : s2.Ok := by rw [← h2]; exact hashN_ok hs1 _ _
  rw [shaEnd l hB n hn s1 s2 m h1 hm h2]
  have hz : zpad (l.drop (64 * n)).length = zpad l.length := by rw [← hn]; exact zpad_rest l
  -- the two slices
  have hA : ∀ v1 W, Rd w v1 (bs (l.take (64 * n))) → At W W.heap.size.pred 88 (wd S0.list) → True := fun _ _ _ _ => trivial
  clear hA
  have ht : (l.take (64 * n)).length = 64 * n := by rw [List.length_take]; omega
  have hd : (l.drop (64 * n)).length = l.length - 64 * n := List.length_drop
  have first : ∀ (v1 : Value) (g : Nat) (w1 : World), Rd w v1 (bs (l.take (64 * n))) → Below w.heap.size w w1 → w.heap.size ≤ g → At w1 g 88 (wd S0.list) →
      Calls Tryd.prog 72 #[.pointer (some ⟨g, 0, none⟩), v1] w1 fun e w2 => (∃ v, e = .returned v) ∧ At w2 g 88 (wd s1.list) ∧ Outside g (g + 1) w1 w2 := fun v1 g w1 hr hb hg hat => by
    have h := mixAll (l.take (64 * n)) (hB.take _) n ht (by omega) S0 S0_ok g v1 w1 (fun W hO => hr.far hb hO hg) hat (hT.step hb) (Nat.lt_of_lt_of_le hT.lt hg)
    rw [h1] at h
    exact h
  have second : ∀ (v2 : Value) (q : Int) (W : World), q = (l.length : Int) → Rd W v2 (bs (l.drop (64 * n))) →
      Calls Tryd.prog 73 #[v2, .int .i64 q] W fun e w' => ∃ v', e = .returned v' ∧ w'.ownsRow W.heap.size 5 1 v' (64 * m) (bs (l.drop (64 * n) ++ tailB l.length)) ∧ Below W.heap.size W w' := fun v2 q W hq hr => by
    subst hq
    have h := padded (l.drop (64 * n)) v2 l.length W hr hl (by rw [hd]; omega) hz
    rw [hm] at h
    exact h
  have third : ∀ (v3 : Value) (g lo : Nat) (W : World), W.ownsRow lo 5 1 v3 (64 * m) (bs (l.drop (64 * n) ++ tailB l.length)) → g < lo → At W g 88 (wd s1.list) → Tab W → w.heap.size ≤ g →
      Calls Tryd.prog 72 #[.pointer (some ⟨g, 0, none⟩), v3] W fun e w2 => (∃ v, e = .returned v) ∧ At w2 g 88 (wd s2.list) ∧ Outside g (g + 1) W w2 := fun v3 g lo W ho hlo hat hT2 hg => by
    have h := mixAll (l.drop (64 * n) ++ tailB l.length) ((hB.drop _).app (tailB_byt _)) m hm (by omega) s1 hs1 g v3 W
      (fun W' hO => ((Own.of ho (by rw [bs_length, hm])).outside hO (.inr hlo)).rd) hat hT2 (Nat.lt_of_lt_of_le hT.lt hg)
    rw [h2] at h
    exact h
  have last : ∀ (g : Nat) (W : World), At W g 88 (wd s2.list) →
      Calls Tryd.prog 74 #[.pointer (some ⟨g, 0, none⟩)] W fun e w' => ∃ v', e = .returned v' ∧ Own 5 W.heap.size w'.heap.size w' v' (bs (outB s2.list)) ∧ Below W.heap.size W w' := fun g W hat =>
    hashSum s2.list rfl (S8.list_32 hs2) g W hat
  have HT := hide hT
  have hdiv : (l.length : Int) / 64 * 64 = ((64 * n : Nat) : Int) := by omega
  have H1 : Hid (∀ k, k = 64 * n → Rd w (.slice A k c) (bs (l.take (64 * n)))) := hide (fun k hk => by
    subst hk
    cases A with
    | none =>
      have h0 : l.length = 0 := by
        rcases Nat.eq_zero_or_pos l.length with h | h
        · exact h
        · obtain ⟨b, off, hA, _⟩ := hrd h
          cases hA
      have e : l.take (64 * n) = [] := by rw [List.eq_nil_of_length_eq_zero h0, List.take_nil]
      rw [e]
      exact Rd.empty (by omega) (by unfold maxLen; omega)
    | some a =>
      rcases Nat.eq_zero_or_pos l.length with h | h
      · have e : l.take (64 * n) = [] := by rw [List.eq_nil_of_length_eq_zero h, List.take_nil]
        rw [e]
        exact Rd.empty (by omega) (by unfold maxLen; omega)
      · obtain ⟨b, off, hA, hblt, hcell⟩ := hrd h
        cases hA
        have hp := Rd.part hcell hblt (k := 0) (n := 64 * n) (by omega) hc1 (by unfold maxLen; omega) rfl
        simpa using hp)
  have H2 : Hid (∀ A2 k c2, k = l.length - 64 * n → (k = 0 ∨ ∃ b off, A = some ⟨b, off, none⟩ ∧ A2 = some ⟨b, off + 64 * n, none⟩) → c2 = c - 64 * n → Rd w (.slice A2 k c2) (bs (l.drop (64 * n)))) := hide (fun A2 k c2 hk hh hc => by
    have e : (l.drop (64 * n)).take (l.length - 64 * n) = l.drop (64 * n) := List.take_of_length_le (by rw [List.length_drop]; omega)
    rcases Nat.eq_zero_or_pos k with h0 | h0
    · have e0 : l.drop (64 * n) = [] := List.drop_eq_nil_of_le (by omega)
      rw [e0]
      exact Rd.empty h0 (by unfold maxLen; omega)
    · rcases hh with h | ⟨b, off, rfl, rfl⟩
      · omega
      · obtain ⟨b2, off2, hA, hblt, hcell⟩ := hrd (by omega)
        cases hA
        have hp := Rd.part hcell hblt (k := 64 * n) (n := l.length - 64 * n) (by omega) hc1 (by unfold maxLen; omega) hk
        rw [e] at hp
        rw [hc]
        exact hp)
  have u0 : (0 : Int) ≤ ((64 * n : Nat) : Int) := by omega
  have u1 : ((64 * n : Nat) : Int) ≤ (l.length : Int) := by omega
  have u2 : ((64 * n : Nat) : Int) ≤ (c : Int) := by omega
  have Z0 : Hid (A = none → l.length = 0) := hide (fun hA => by
    rcases Nat.eq_zero_or_pos l.length with h | h
    · exact h
    · obtain ⟨b, off, hA2, _⟩ := hrd h
      rw [hA] at hA2
      cases hA2)
  have Z1 : Hid (0 < l.length → ∀ a, A = some a → ∃ b off, a = ⟨b, off, none⟩) := hide (fun h a hA => by
    obtain ⟨b, off, hA2, _⟩ := hrd h
    rw [hA] at hA2
    cases hA2
    exact ⟨_, _, rfl⟩)
  have HB := hide hB
  have G1 := hide first
  have G2 := hide second
  have G3 := hide third
  have G4 := hide last
  clear hv hrd hB first second third last hm hmb h1 hs1 h2 hs2 hz ht hd hT
  have hdiv2 : (l.length : Int) / 64 * 64 = 64 * (n : Int) := by omega
  have u3 : 64 * (n : Int) ≤ (l.length : Int) := by omega
  have u4 : 64 * (n : Int) ≤ (c : Int) := by omega
  clear hdiv hn u0 u1 u2
  cases A with
  | none =>
    have hl0 : l.length = 0 := Z0.out rfl
    have hn0 : n = 0 := by omega
    subst hn0
    go_enter Tryd.func52, Tryd.ntmps52
    go_wp2_with (first
      | ((with_reducible refine at_slot 8 ?_); refine wpList_build_as (wd S0.list) rfl _ _ rfl (by kernel_rfl) ?_)
      | ((with_reducible refine at_slot 3 ?_); refine wpList_alloc_zero rfl _ rfl (wd Z8) (by kernel_rfl) ?_; intro w1 at1 b1 z1)
      | ((with_reducible refine at_none ?_); refine wpList_store_all rfl _ _ _ rfl w.heap.size (wd S0.list) rfl rfl _ _ at1 (by kernel_rfl) (by kernel_rfl) (wd_one _) ?_; intro w2 at2 b2 z2 n2; have bw2 := b1.trans (b2 _ (Nat.le_refl _)))
      | (go_at_call 72; (with_reducible refine (G1.out _ w.heap.size w2 (H1.out _ (by omega)) bw2 (Nat.le_refl _) at2).mono ?_); rintro e w3 ⟨⟨v3, rfl⟩, at3, o3⟩; have bw3 := o3.below bw2 (Nat.le_refl _) bw2.size; have t3 := HT.out.step bw3)
      | (go_at_call 73; (with_reducible refine (G2.out _ _ w3 (by omega) (Rd.below (H2.out _ _ _ (by omega) (.inl (by omega)) (by omega)) bw3)).mono ?_); rintro e w4 ⟨v4, rfl, o4, b4⟩; have at4 := at3.step b4; have bw4 := bw3.trans (b4.mono bw3.size))
      | (go_at_call 72; (with_reducible refine (G3.out _ w.heap.size w3.heap.size w4 o4 at3.lt at4 (t3.step b4) (Nat.le_refl _)).mono ?_); rintro e w5 ⟨⟨v5, rfl⟩, at5, o5⟩; have bw5 := o5.below bw4 (Nat.le_refl _) bw4.size)
      | (go_at_call 74; (with_reducible refine (G4.out w.heap.size w5 at5).mono ?_); rintro e w6 ⟨v6, rfl, o6, b6⟩))
    go_ret
    exact ⟨_, rfl, o6.wide bw5.size (Nat.le_refl _) (Nat.le_refl _), bw5.trans (b6.mono bw5.size)⟩
  | some a =>
    by_cases hcw : c = 64 * n
    · subst hcw
      have hll : l.length = 64 * n := by omega
      go_enter Tryd.func52, Tryd.ntmps52
      go_wp2_with (first
        | ((with_reducible refine at_slot 8 ?_); refine wpList_build_as (wd S0.list) rfl _ _ rfl (by kernel_rfl) ?_)
        | ((with_reducible refine at_slot 3 ?_); refine wpList_alloc_zero rfl _ rfl (wd Z8) (by kernel_rfl) ?_; intro w1 at1 b1 z1)
        | ((with_reducible refine at_none ?_); refine wpList_store_all rfl _ _ _ rfl w.heap.size (wd S0.list) rfl rfl _ _ at1 (by kernel_rfl) (by kernel_rfl) (wd_one _) ?_; intro w2 at2 b2 z2 n2; have bw2 := b1.trans (b2 _ (Nat.le_refl _)))
        | (go_at_call 72; (with_reducible refine (G1.out _ w.heap.size w2 (H1.out _ (by omega)) bw2 (Nat.le_refl _) at2).mono ?_); rintro e w3 ⟨⟨v3, rfl⟩, at3, o3⟩; have bw3 := o3.below bw2 (Nat.le_refl _) bw2.size; have t3 := HT.out.step bw3)
        | (go_at_call 73; (with_reducible refine (G2.out _ _ w3 (by omega) (Rd.below (H2.out _ _ _ (by omega) (.inl (by omega)) (by omega)) bw3)).mono ?_); rintro e w4 ⟨v4, rfl, o4, b4⟩; have at4 := at3.step b4; have bw4 := bw3.trans (b4.mono bw3.size))
        | (go_at_call 72; (with_reducible refine (G3.out _ w.heap.size w3.heap.size w4 o4 at3.lt at4 (t3.step b4) (Nat.le_refl _)).mono ?_); rintro e w5 ⟨⟨v5, rfl⟩, at5, o5⟩; have bw5 := o5.below bw4 (Nat.le_refl _) bw4.size)
        | (go_at_call 74; (with_reducible refine (G4.out w.heap.size w5 at5).mono ?_); rintro e w6 ⟨v6, rfl, o6, b6⟩))
      go_ret
      exact ⟨_, rfl, o6.wide bw5.size (Nat.le_refl _) (Nat.le_refl _), bw5.trans (b6.mono bw5.size)⟩
    · rcases Nat.eq_zero_or_pos l.length with hl0 | hl0
      · have hn0 : n = 0 := by omega
        subst hn0
        go_enter Tryd.func52, Tryd.ntmps52
        go_wp2_with (first
          | ((with_reducible refine at_slot 8 ?_); refine wpList_build_as (wd S0.list) rfl _ _ rfl (by kernel_rfl) ?_)
          | ((with_reducible refine at_slot 3 ?_); refine wpList_alloc_zero rfl _ rfl (wd Z8) (by kernel_rfl) ?_; intro w1 at1 b1 z1)
          | ((with_reducible refine at_none ?_); refine wpList_store_all rfl _ _ _ rfl w.heap.size (wd S0.list) rfl rfl _ _ at1 (by kernel_rfl) (by kernel_rfl) (wd_one _) ?_; intro w2 at2 b2 z2 n2; have bw2 := b1.trans (b2 _ (Nat.le_refl _)))
          | (go_at_call 72; (with_reducible refine (G1.out _ w.heap.size w2 (H1.out _ (by omega)) bw2 (Nat.le_refl _) at2).mono ?_); rintro e w3 ⟨⟨v3, rfl⟩, at3, o3⟩; have bw3 := o3.below bw2 (Nat.le_refl _) bw2.size; have t3 := HT.out.step bw3)
          | (go_at_call 73; (with_reducible refine (G2.out _ _ w3 (by omega) (Rd.below (H2.out _ _ _ (by omega) (.inl (by omega)) (by omega)) bw3)).mono ?_); rintro e w4 ⟨v4, rfl, o4, b4⟩; have at4 := at3.step b4; have bw4 := bw3.trans (b4.mono bw3.size))
          | (go_at_call 72; (with_reducible refine (G3.out _ w.heap.size w3.heap.size w4 o4 at3.lt at4 (t3.step b4) (Nat.le_refl _)).mono ?_); rintro e w5 ⟨⟨v5, rfl⟩, at5, o5⟩; have bw5 := o5.below bw4 (Nat.le_refl _) bw4.size)
          | (go_at_call 74; (with_reducible refine (G4.out w.heap.size w5 at5).mono ?_); rintro e w6 ⟨v6, rfl, o6, b6⟩))
        go_ret
        exact ⟨_, rfl, o6.wide bw5.size (Nat.le_refl _) (Nat.le_refl _), bw5.trans (b6.mono bw5.size)⟩
      · obtain ⟨b, off, ha⟩ := Z1.out hl0 a rfl
        subst ha
        go_enter Tryd.func52, Tryd.ntmps52
        go_wp2_with (first
          | ((with_reducible refine at_slot 8 ?_); refine wpList_build_as (wd S0.list) rfl _ _ rfl (by kernel_rfl) ?_)
          | ((with_reducible refine at_slot 3 ?_); refine wpList_alloc_zero rfl _ rfl (wd Z8) (by kernel_rfl) ?_; intro w1 at1 b1 z1)
          | ((with_reducible refine at_none ?_); refine wpList_store_all rfl _ _ _ rfl w.heap.size (wd S0.list) rfl rfl _ _ at1 (by kernel_rfl) (by kernel_rfl) (wd_one _) ?_; intro w2 at2 b2 z2 n2; have bw2 := b1.trans (b2 _ (Nat.le_refl _)))
          | (go_at_call 72; (with_reducible refine (G1.out _ w.heap.size w2 (H1.out _ rfl) bw2 (Nat.le_refl _) at2).mono ?_); rintro e w3 ⟨⟨v3, rfl⟩, at3, o3⟩; have bw3 := o3.below bw2 (Nat.le_refl _) bw2.size; have t3 := HT.out.step bw3)
          | (go_at_call 73; (with_reducible refine (G2.out _ _ w3 (by omega) (Rd.below (H2.out _ _ _ (by omega) (.inr ⟨_, _, rfl, rfl⟩) (by omega)) bw3)).mono ?_); rintro e w4 ⟨v4, rfl, o4, b4⟩; have at4 := at3.step b4; have bw4 := bw3.trans (b4.mono bw3.size))
          | (go_at_call 72; (with_reducible refine (G3.out _ w.heap.size w3.heap.size w4 o4 at3.lt at4 (t3.step b4) (Nat.le_refl _)).mono ?_); rintro e w5 ⟨⟨v5, rfl⟩, at5, o5⟩; have bw5 := o5.below bw4 (Nat.le_refl _) bw4.size)
          | (go_at_call 74; (with_reducible refine (G4.out w.heap.size w5 at5).mono ?_); rintro e w6 ⟨v6, rfl, o6, b6⟩))
        go_ret
        exact ⟨_, rfl, o6.wide bw5.size (Nat.le_refl _) (Nat.le_refl _), bw5.trans (b6.mono bw5.size)⟩

set_option maxHeartbeats 400000 in
theorem implSha (l : List Int) (hB : Byt l) (v : Value) (w : World) (hv : Rd w v (bs l)) (hT : Tab w) :
    Calls Tryd.prog 52 #[v] w fun e w' => ∃ v', e = .returned v' ∧ Own 5 w.heap.size w'.heap.size w' v' (bs (sha256 l)) ∧ Below w.heap.size w w' := by
  by_cases h : 100000 < l.length
  · rw [sha256, if_pos h]
    obtain ⟨A, c, hV, hc1, hc2, _⟩ := id hv
    rw [bs_length] at *
    unfold maxLen at hc2
    subst hV
    clear hv hT
    go_enter Tryd.func52, Tryd.ntmps52
    go_wp2
    go_ret
    exact ⟨_, rfl, Own.of (World.ownsRow_nil _ _ _ _) rfl, Below.refl _ _⟩
  · rw [sha256, if_neg h]
    exact implShaIn l hB v w hv (by omega) hT

end Go.Proofs.YtnloknhcdlannaaDoor
