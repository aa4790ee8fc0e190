/-
  The model's count of a tree's nodes.
-/
import Derived.Test.YtchmppikpeeghaaSizeS
namespace Go.Proofs.Ytchmppikpeeghaa
open Go.RowKit
set_option linter.unusedVariables false

def SizeAt (t : T) : Prop := ∀ (q : Q) (w : World), t.size ≤ 1000 → TIn w t q →
  Calls Try.prog 60 #[q.val] w fun e w' => e = .returned (.int .i64 t.size) ∧ Below w.heap.size w w'

theorem T.sizes_mem {ts : List T} {t : T} (h : t ∈ ts) : t.size ≤ T.sizes ts := by
  induction ts with
  | nil => cases h
  | cons t0 ts ih =>
    rw [T.sizes]
    rcases List.mem_cons.1 h with rfl | h
    · omega
    · have := ih h; omega

set_option maxRecDepth 20000 in
set_option maxHeartbeats 1600000 in
theorem specSize : ∀ t : T, SizeAt t := by
  intro t
  induction t using T.ind with
  | h k d ns ks ih =>
    intro q w hs hq
    obtain ⟨A, c, A', c', A'', c'', ed, hc1, hc2, en, hc1', hc2', ec, hc1'', hc2''⟩ := hq.lens
    rw [TIn] at hq
    obtain ⟨hk, _, hn, qs, hkk, hks⟩ := hq
    obtain ⟨K, hK⟩ : ∃ K, ks.length = K := ⟨_, rfl⟩
    obtain ⟨D, hD⟩ : ∃ D, d.length = D := ⟨_, rfl⟩
    obtain ⟨N, hN⟩ : ∃ N, ns.length = N := ⟨_, rfl⟩
    rw [hD] at ed
    rw [hN] at en
    rw [hK] at ec hc1''
    rw [T.size] at hs ⊢
    obtain ⟨S, hS⟩ : ∃ S, T.sizes ks = S := ⟨_, rfl⟩
    have hmem : ∀ t ∈ ks, t.size ≤ 1000 := fun t ht => by have := T.sizes_mem ht; omega
    rw [hS] at hs ⊢
    unfold maxLen at hc2''
    obtain ⟨wa, hwa, box, ba, hz⟩ := boxed w q 31
    rw [hk] at hwa box
    rw [ec] at hwa box
    rw [ed] at hwa box
    rw [en] at hwa box
    rw [show q.val = .agg #[.int .i64 k, .slice A D c, .slice A' N c', .slice A'' K c''] by rw [← hk, ← ed, ← en, ← ec]]
    rw [ec] at hkk
    have HBOX := hide box
    have HKK := hide hkk
    have HKS := hide hks
    have HIH := hide ih
    have HM := hide hmem
    have HKL := hide hK
    have HS := hide hS
    have hS0 : (S : Int) ≤ 1000 := by omega
    clear box hkk hks ih hmem hK hS hn ed en ec hk hD hN hc1 hc2 hc1' hc2'
    go_enter Try.func60, Try.ntmps60
    go_wp2
    go_loopw [3, 4] (fun u i wr => ∃ j : Nat, j ≤ K ∧ i = .int .i64 j ∧ u = .int .i64 (1 + T.sizes (ks.take j)) ∧ T.sizes (ks.take j) ≤ S ∧ Below w.heap.size w wr ∧ C4 wr w.heap.size 31 (.int .i64 k) (.slice A D c) (.slice A' N c') (.slice A'' K c''))
      (fun _ i _ => K - (intOf i).toNat)
    case atStart => exact ⟨0, Nat.zero_le _, rfl, by simp [T.sizes], by simp [T.sizes], ba, HBOX.out⟩
    case round =>
      obtain ⟨j, hj, rfl, rfl, hle, hbel, box⟩ := hrel
      have x3 := box.c3
      by_cases hlt : j < K
      · have hjk : j < ks.length := by rw [HKL.out]; exact hlt
        obtain ⟨q', hq', hqt⟩ := HKS.out.at_ j ks[j] (List.getElem?_eq_getElem hjk)
        have hkk := HKK.out
        obtain ⟨b3, off3, hA3, hb3, rng⟩ := hkk.get hq'
        subst hA3
        have rng2 := rangeAt_below rng hbel hb3
        have hcall := HIH.out ks[j] (List.getElem_mem hjk) q' wr (HM.out _ (List.getElem_mem hjk)) (hqt.below hbel)
        have hnext := T.sizes_next hjk
        have hszle := T.sizes_take ks (j + 1)
        rw [HS.out] at hszle
        have HRNG := hide rng2
        have HB := hide hbel
        have HBX := hide box
        generalize (ks[j]).size = z at *
        generalize hS1 : T.sizes (ks.take j) = S1 at *
        generalize hS2 : T.sizes (ks.take (j + 1)) = S2 at *
        have HS2 := hide hS2
        have k1 : (j : Int) < (K : Int) := by omega
        have k3 : (S1 : Int) ≤ 1000 := by omega
        have k4 : (z : Int) ≤ 1000 := by omega
        clear hkk rng rng2 hq' hqt hbel box hS1 hS2 hb3
        go_wp2_with ((with_reducible refine at_slot 17 ?_); refine wpList_load_mid rfl _ _ rfl b3 (off3 + j * 4) rfl _ _ HRNG.out Try.underlying31 rfl (by kernel_rfl) ?_)
        refine hcall.mono ?_
        rintro e w2 ⟨rfl, bb2⟩
        go_wp2_with fail
        go_roundw
        case rel => exact ⟨j + 1, by omega, by go_num, by rw [HS2.out, hnext]; go_num, by rw [HS2.out]; omega, HB.out.trans (bb2.mono HB.out.size), HBX.out.step bb2⟩
        case measure => simp [intOf]; omega
      · obtain rfl : j = K := by omega
        have e2 : ks.take j = ks := List.take_of_length_le (by rw [HKL.out]; omega)
        have e3 : T.sizes (ks.take j) = S := by rw [e2, HS.out]
        rw [e3]
        have HB := hide hbel
        clear hbel box e2 e3 hle
        go_wp2
        go_ret
        exact ⟨ret_int (by omega), HB.out⟩

end Go.Proofs.Ytchmppikpeeghaa
