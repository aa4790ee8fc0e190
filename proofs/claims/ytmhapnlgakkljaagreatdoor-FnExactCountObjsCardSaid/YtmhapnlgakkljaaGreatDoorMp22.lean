/-
  Parts of the proof: NodeI.
-/
import Derived.Test.YtmhapnlgakkljaaGreatDoorMp9
import Derived.Test.YtmhapnlgakkljaaGreatDoorMp21
import Derived.Test.YtmhapnlgakkljaaGreatDoorMp1

/-
  The program's look at one node.
-/
namespace Go.Proofs.YtmhapnlgakkljaaGreatDoor
open Go.RowKit
set_option linter.unusedVariables false

set_option maxRecDepth 20000 in
set_option maxHeartbeats 1600000 in
theorem implNodeOk (t : T) (hB : t.Byts) (q : Q) (w : World) (hq : TIn w t q) :
    Calls Tryz.prog 143 #[q.val] w fun e w' => e = .returned (.bool t.nodeOk) ∧ Below w.heap.size w w' := by
  obtain ⟨k, d, ns, ks⟩ := t
  obtain ⟨A, c, A', c', A'', c'', ed, hc1, hc2, en, hc1', hc2', ec, hc1'', hc2''⟩ := hq.lens
  rw [TIn] at hq
  obtain ⟨hk, _, hn, _⟩ := hq
  rw [T.Byts] at hB
  have hasc := fun W (hb : Below w.heap.size w W) => asc_P ns ▸ ascendE ns hB.2.1 q.n W (hn.below hb)
  obtain ⟨D, hD⟩ : ∃ D, d.length = D := ⟨_, rfl⟩
  obtain ⟨N, hN⟩ : ∃ N, ns.length = N := ⟨_, rfl⟩
  obtain ⟨K, hK⟩ : ∃ K, ks.length = K := ⟨_, rfl⟩
  obtain ⟨B, hBa⟩ : ∃ B, asc ns = B := ⟨_, rfl⟩
  have hok : (T.node k d ns ks).nodeOk = if k = 2 then decide (D = 0 ∧ K ≤ 6 ∧ N = K) && B else decide (0 ≤ k ∧ k ≤ 3 ∧ D ≤ 400 ∧ N = 0 ∧ K = 0) := by rw [T.nodeOk, hD, hN, hK, hBa]
  rw [hok]
  rw [hD] at ed hc1
  rw [hN] at en hc1'
  rw [hK] at ec hc1''
  unfold maxLen at hc2 hc2' hc2''
  obtain ⟨wa, hwa, box, ba, hz⟩ := boxed w q 52
  have HASC := hide (hasc wa ba)
  have x0 := box.c0
  have x1 := box.c1
  have x2 := box.c2
  have x3 := box.c3
  rw [hk] at x0 hwa
  rw [ed] at x1 hwa
  rw [ec] at x3 hwa
  rw [hBa] at HASC
  rw [en] at x2 hwa HASC
  rw [show q.val = .agg #[.int .i64 k, .slice A D c, .slice A' N c', .slice A'' K c''] by rw [← hk, ← ed, ← en, ← ec]]
  clear hasc hD hN hK hBa hok ed en ec hn hB box hk
  by_cases h2 : k = 2
  · subst h2
    rw [if_pos rfl]
    by_cases hD0 : D = 0
    · subst hD0
      by_cases hK6 : K ≤ 6
      · by_cases hNK : N = K
        · subst hNK
          have he : ((N : Int) == (N : Int)) = true := by simp
          rw [decide_eq_true ⟨rfl, hK6, rfl⟩, Bool.true_and]
          go_enter Tryz.func143, Tryz.ntmps143
          go_wp2_with fail
          refine HASC.out.mono ?_
          rintro e w' ⟨rfl, b2⟩
          go_wp2_with fail
          go_ret
          exact ⟨rfl, ba.trans (b2.mono ba.size)⟩
        · have he : ((N : Int) == (K : Int)) = false := by simpa using (by omega : ¬ (N : Int) = (K : Int))
          rw [decide_eq_false (by omega), Bool.false_and]
          clear HASC
          go_enter Tryz.func143, Tryz.ntmps143
          go_wp2
          go_ret
          exact ⟨rfl, ba⟩
      · rw [decide_eq_false (by omega), Bool.false_and]
        clear HASC
        go_enter Tryz.func143, Tryz.ntmps143
        go_wp2
        go_ret
        exact ⟨rfl, ba⟩
    · have he : ((D : Int) == 0) = false := by simpa using (by omega : ¬ (D : Int) = 0)
      rw [decide_eq_false (by omega), Bool.false_and]
      clear HASC
      go_enter Tryz.func143, Tryz.ntmps143
      go_wp2
      go_ret
      exact ⟨rfl, ba⟩
  · rw [if_neg h2]
    have hk2 : (k == 2) = false := by simpa using h2
    clear HASC
    by_cases hall : 0 ≤ k ∧ k ≤ 3 ∧ D ≤ 400 ∧ N = 0 ∧ K = 0
    · rw [decide_eq_true hall]
      obtain ⟨g0, g1, g2, rfl, rfl⟩ := hall
      go_enter Tryz.func143, Tryz.ntmps143
      go_wp2
      go_ret
      exact ⟨rfl, ba⟩
    · rw [decide_eq_false hall]
      rcases (by omega : k < 0 ∨ 3 < k ∨ (0 ≤ k ∧ k ≤ 3 ∧ 400 < D) ∨ (0 ≤ k ∧ k ≤ 3 ∧ D ≤ 400 ∧ 0 < N) ∨ (0 ≤ k ∧ k ≤ 3 ∧ D ≤ 400 ∧ N = 0 ∧ 0 < K)) with g | g | ⟨g0, g1, g2⟩ | ⟨g0, g1, g2, g3⟩ | ⟨g0, g1, g2, g3, g4⟩
      · go_enter Tryz.func143, Tryz.ntmps143
        go_wp2
        go_ret
        exact ⟨rfl, ba⟩
      · have g5 : ¬ k ≤ 3 := by omega
        go_enter Tryz.func143, Tryz.ntmps143
        go_wp2
        go_ret
        exact ⟨rfl, ba⟩
      · have g5 : ¬ (D : Int) ≤ 400 := by omega
        go_enter Tryz.func143, Tryz.ntmps143
        go_wp2
        go_ret
        exact ⟨rfl, ba⟩
      · have he : ((N : Int) == 0) = false := by simpa using (by omega : ¬ (N : Int) = 0)
        go_enter Tryz.func143, Tryz.ntmps143
        go_wp2
        go_ret
        exact ⟨rfl, ba⟩
      · subst g3
        have he : ((K : Int) == 0) = false := by simpa using (by omega : ¬ (K : Int) = 0)
        go_enter Tryz.func143, Tryz.ntmps143
        go_wp2
        go_ret
        exact ⟨rfl, ba⟩

end Go.Proofs.YtmhapnlgakkljaaGreatDoor
