/-
  Marks over a slice of texts that own their rows: they are written, and found again.
-/
import Derived.Test.YtchmppikpeeghaaOwnS
namespace Go.Proofs.Ytchmppikpeeghaa
open Go.RowKit
set_option linter.unusedVariables false

/-- A row of bytes lies in a block of its own, or it is empty. -/
theorem own_one {w : World} {lo : Nat} {u : Value} {l : List Int} (h : w.ownsRow lo 5 1 u l.length (bs l)) (hlo : lo ≤ w.heap.size) : ∃ a b, Own 5 a b w u (bs l) ∧ lo ≤ a ∧ (u.ownBlock = none ∧ b = a ∨ u.ownBlock = some a ∧ b = a + 1) := by
  rcases h.2 with ⟨rfl, h0⟩ | ⟨g, cap, cur, rfl, hb, hg, r⟩
  · exact ⟨lo, lo, ⟨own_len h (bs_length l).symm, hlo, fun g hg => by cases hg⟩, Nat.le_refl _, .inl ⟨rfl, rfl⟩⟩
  · have hlt : g < w.heap.size := (Array.getElem?_eq_some_iff.1 hg).1
    refine ⟨g, g + 1, ⟨?_, by omega, fun k hk => ?_⟩, hb, .inr ⟨rfl, rfl⟩⟩
    · rw [bs_length]
      exact ⟨h.1, .inr ⟨g, cap, cur, rfl, Nat.le_refl _, hg, r⟩⟩
    · have : g = k := Option.some.inj hk
      omega

set_option maxRecDepth 20000 in
set_option maxHeartbeats 1600000 in
theorem markS (ns : List (List Int)) (v : Value) (s : Int) (lo : Nat) (w : World) (h : OwnS lo w v ns) (hlo : lo ≤ w.heap.size) (hl : ns.length ≤ 1099511627776) (hs : 0 ≤ s ∧ s + sumLen ns ≤ 1099511627776) :
    Calls Try.prog 36 #[v, .int .i64 s] w fun e w' => e = .returned (.int .i64 (s + sumLen ns)) ∧ OwnS lo w' v (mksN s ns) ∧ Below lo w w' := by
  obtain ⟨us, hU⟩ := h
  obtain ⟨N, hN⟩ : ∃ N, ns.length = N := ⟨_, rfl⟩
  have hul := hU.len
  have row := hU.row
  obtain ⟨A, c, hv, hc1, hc2⟩ := own_slice row
  rw [hul, hN] at hv hc1
  subst hv
  unfold maxLen at hc2
  obtain ⟨S, hS⟩ : ∃ S, sumLen ns = S := ⟨_, rfl⟩
  rw [hS] at hs ⊢
  obtain ⟨hs0, hs1⟩ := hs
  have HSB := hide (fun j => hS ▸ sumLen_take ns j)
  have HSS := hide hS
  have HUL := hide hul
  have HNL := hide hN
  have HU := hide hU
  clear hS hul hN hU row
  go_enter Try.func36, Try.ntmps36
  go_wp2
  go_loopw [1, 5] (fun q i wr => ∃ j z : Nat, j ≤ N ∧ i = .int .i64 j ∧ q = .int .i64 (s + z) ∧ Hid (sumLen (ns.take j) = z) ∧
      Hid (∀ i u, us[i]? = some u → w.heap.size ≤ wr.heap.size ∧ wr.ownsRow lo 5 1 u (if i < j then (mksN s ns).getD i [] else ns.getD i []).length (bs (if i < j then (mksN s ns).getD i [] else ns.getD i []))) ∧
      Hid (wr.ownsRow lo 22 1 (.slice A N c) us.length us) ∧ Below lo w wr)
    (fun _ i _ => N - (intOf i).toNat)
  case atStart => exact ⟨0, 0, Nat.zero_le _, rfl, by go_num, hide (by simp [sumLen]), hide (fun i u hu => ⟨Nat.le_refl _, by simpa using HU.out.each i u hu⟩), hide HU.out.row, Below.refl _ _⟩
  case round =>
    obtain ⟨j, z, hj, rfl, rfl, HZ, HE, HR, hbel⟩ := hrel
    have HB := hide hbel
    by_cases hlt : j < N
    · have hjn : j < ns.length := by rw [HNL.out]; exact hlt
      have hju : j < us.length := by rw [HUL.out]; exact hjn
      obtain ⟨u, hu⟩ : ∃ u, us[j]? = some u := ⟨_, List.getElem?_eq_getElem hju⟩
      obtain ⟨hwle, ho⟩ := HE.out j u hu
      rw [if_neg (by omega)] at ho
      have hlw : lo ≤ wr.heap.size := Nat.le_trans hlo hwle
      obtain ⟨a, b, ho1, hla, hab⟩ := own_one ho hlw
      obtain ⟨A', c', hA', _, _, hrd⟩ := own_rdV HR.out rfl
      injection hA' with hA1 hA2 hA3
      obtain ⟨bb, off, hb1, hblt, hcell⟩ := hrd (by omega)
      have hb2 : A = some ⟨bb, off, none⟩ := hA1.trans hb1
      subst hb2
      have q1 := hcell j u hu
      have hnx := sumLen_next hjn
      have hsb := HSB.out (j + 1)
      rw [hnx, HZ.out] at hsb
      have hmk := markBytes (ns.getD j []) u (s + z) a b wr ho1 (by omega) ⟨by omega, by omega⟩
      have hat := mksN_at hjn s
      rw [HZ.out] at hat
      have fin := fun (w2 : World) (o2 : Own 5 a b w2 u (bs (mks (s + z) (ns.getD j []).length))) (m2 : Outside a b wr w2) => by
        have hne : ∀ i x g, i ≠ j → us[i]? = some x → x.ownBlock = some g → g < a ∨ b ≤ g := fun i x g hij hx hg => by
          rcases hab with ⟨_, hb3⟩ | ⟨hug, hb3⟩
          · omega
          · by_cases e : g = a
            · subst e
              exact absurd hg (HU.out.sep j i u x g (fun h => hij h.symm) hu hx hug)
            · omega
        have hrow : w2.ownsRow lo 22 1 (.slice (some ⟨bb, off, none⟩) N c) us.length us := own_keep HR.out fun g hg => m2.block g (HR.out.lt g hg).2 (by
          rcases hab with ⟨_, hb3⟩ | ⟨hug, hb3⟩
          · omega
          · rcases own_ne HR.out ho (by decide) with h | h
            · rw [hug] at h; cases h
            · by_cases hga : g = a
              · subst hga; exact absurd (hug.trans hg.symm) h
              · omega)
        have hbl : Below lo w w2 := m2.below hbel hla hlw
        exact (⟨by rw [hnx, HZ.out], fun i x hx => ⟨Nat.le_trans hwle m2.size, by
          by_cases hij : i = j
          · subst hij
            obtain rfl : u = x := Option.some.inj (hu.symm.trans hx)
            rw [if_pos (by omega), hat]
            exact own_base (own_len o2.1 (bs_length _)) hla
          · have h0 := (HE.out i x hx).2
            by_cases h : i < j
            · rw [if_pos h] at h0
              rw [if_pos (by omega)]
              exact own_keep h0 fun g hg => m2.block g (h0.lt g hg).2 (hne i x g hij hx hg)
            · rw [if_neg h] at h0
              rw [if_neg (by omega)]
              exact own_keep h0 fun g hg => m2.block g (h0.lt g hg).2 (hne i x g hij hx hg)⟩, hrow, hbl⟩ : sumLen (ns.take (j + 1)) = z + (ns.getD j []).length ∧ (∀ i u, us[i]? = some u → w.heap.size ≤ w2.heap.size ∧ w2.ownsRow lo 5 1 u (if i < j + 1 then (mksN s ns).getD i [] else ns.getD i []).length (bs (if i < j + 1 then (mksN s ns).getD i [] else ns.getD i []))) ∧ w2.ownsRow lo 22 1 (.slice (some ⟨bb, off, none⟩) N c) us.length us ∧ Below lo w w2)
      have HMK := hide hmk
      have FIN := hide fin
      generalize (ns.getD j []).length = Z at *
      have k1 : (j : Int) < (N : Int) := by omega
      clear hmk fin hat ho ho1 hcell hrd HE HR hbel hnx hA1 hA2 hA3 hb1 hab hla hlw hwle
      go_wp2_with fail
      refine HMK.out.mono ?_
      rintro e w2 ⟨rfl, o2, m2⟩
      have F := hide (FIN.out w2 o2 m2)
      clear o2 m2 q1
      go_wp2_with fail
      go_roundw
      case rel => exact ⟨j + 1, z + Z, by omega, by go_num, by go_num, hide F.out.1, hide F.out.2.1, hide F.out.2.2.1, F.out.2.2.2⟩
      case measure => simp [intOf]; omega
    · obtain rfl : j = N := by omega
      have hz : z = S := by
        rw [← HZ.out, List.take_of_length_le (by rw [HNL.out]; omega), HSS.out]
      have hfin : OwnS lo wr (.slice A j c) (mksN s ns) := by
        refine ⟨us, by rw [mksN_len, HUL.out], HR.out, fun i u hu => ?_, HU.out.sep⟩
        have h0 := (HE.out i u hu).2
        rw [if_pos (by have := (List.getElem?_eq_some_iff.1 hu).1; rw [HUL.out, HNL.out] at this; exact this)] at h0
        exact h0
      have HF := hide hfin
      subst hz
      clear hfin hbel HE
      go_wp2
      go_ret
      exact ⟨rfl, HF.out, HB.out⟩

set_option maxRecDepth 20000 in
set_option maxHeartbeats 1600000 in
theorem heldS (ns : List (List Int)) (v : Value) (s : Int) (w : World) (h : RdN w v (mksN s ns)) (hl : ns.length ≤ 1099511627776) (hs : 0 ≤ s ∧ s + sumLen ns ≤ 1099511627776) :
    Calls Try.prog 37 #[v, .int .i64 s] w fun e w' => e = .returned (.int .i64 (s + sumLen ns)) ∧ Below w.heap.size w w' := by
  obtain ⟨vs, ⟨A, c, hv, hc1, hc2, hrd⟩, hvl, hvs⟩ := h
  obtain ⟨N, hN⟩ : ∃ N, ns.length = N := ⟨_, rfl⟩
  rw [mksN_len, hN] at hvl
  rw [hvl] at hv hc1 hrd
  subst hv
  unfold maxLen at hc2
  obtain ⟨S, hS⟩ : ∃ S, sumLen ns = S := ⟨_, rfl⟩
  rw [hS] at hs ⊢
  obtain ⟨hs0, hs1⟩ := hs
  have HSB := hide (fun j => hS ▸ sumLen_take ns j)
  have HSS := hide hS
  have HVL := hide hvl
  have HNL := hide hN
  have HRD := hide hrd
  have HVS := hide hvs
  clear hS hvl hN hrd hvs
  go_enter Try.func37, Try.ntmps37
  go_wp2
  go_loopw [1, 5] (fun q i wr => ∃ j z : Nat, j ≤ N ∧ i = .int .i64 j ∧ q = .int .i64 (s + z) ∧ Hid (sumLen (ns.take j) = z) ∧ Below w.heap.size w wr)
    (fun _ i _ => N - (intOf i).toNat)
  case atStart => exact ⟨0, 0, Nat.zero_le _, rfl, by go_num, hide (by simp [sumLen]), Below.refl _ _⟩
  case round =>
    obtain ⟨j, z, hj, rfl, rfl, HZ, hbel⟩ := hrel
    have HB := hide hbel
    by_cases hlt : j < N
    · have hjn : j < ns.length := by rw [HNL.out]; exact hlt
      have hjv : j < vs.length := by rw [HVL.out]; exact hlt
      obtain ⟨b, off, rfl, hblt, hcell⟩ := HRD.out (by omega)
      obtain ⟨u, hu⟩ : ∃ u, vs[j]? = some u := ⟨_, List.getElem?_eq_getElem hjv⟩
      have q1 := (hbel.cell (p := ⟨b, off + j, none⟩) hblt).trans (hcell j u hu)
      have hru := (HVS.out j u hu).below hbel
      have hat := mksN_at hjn s
      rw [HZ.out] at hat
      rw [hat] at hru
      have hnx := sumLen_next hjn
      have hsb := HSB.out (j + 1)
      rw [hnx, HZ.out] at hsb
      have hh := heldBytes (s + z) (ns.getD j []).length u wr hru (by omega) ⟨by omega, by omega⟩
      have HH := hide hh
      have HNX : Hid (sumLen (ns.take (j + 1)) = z + (ns.getD j []).length) := hide (by rw [hnx, HZ.out])
      generalize (ns.getD j []).length = Z at *
      have k1 : (j : Int) < (N : Int) := by omega
      have k2 : ¬ (s + (z : Int) + (Z : Int) < 0) := by omega
      clear hh hat hru hcell hbel hnx
      go_wp2_with fail
      refine HH.out.mono ?_
      rintro e w2 ⟨rfl, b2⟩
      have HB2 := hide (HB.out.trans (b2.mono HB.out.size))
      clear b2
      go_wp2_with fail
      go_roundw
      case rel => exact ⟨j + 1, z + Z, by omega, by go_num, by go_num, HNX, HB2.out⟩
      case measure => simp [intOf]; omega
    · obtain rfl : j = N := by omega
      have hz : z = S := by
        rw [← HZ.out, List.take_of_length_le (by rw [HNL.out]; omega), HSS.out]
      subst hz
      clear hbel
      go_wp2
      go_ret
      exact ⟨rfl, HB.out⟩

end Go.Proofs.Ytchmppikpeeghaa
