
/-
  The model's Sorted.
-/
import Derived.Test.YtnloknhcdlannaaAscP
import Derived.Test.YtnloknhcdlannaaNameQ
import Derived.Deep.QuietTactic
import Derived.BigQuiet
import Derived.Deep.Cut
import Derived.Deep.DeepCutAuto
import Derived.IntWalk
namespace Go.Proofs.Ytnloknhcdlannaa
open Go.RowKit
set_option linter.unusedVariables false

set_option maxRecDepth 20000 in
set_option maxHeartbeats 1600000 in
theorem specSorted (ns : List (List Int)) (hB : BytN ns) (v : Value) (w : World) (hv : RdN w v ns) (hl : ∀ n ∈ ns, n.length ≤ 1048576) :
    Calls Try.prog 44 #[v] w fun e w' => e = .returned (.bool (ascP nameOk ns)) ∧ Below w.heap.size w w' := by
  obtain ⟨vs, A, c, hV, hc1, hc2, hvl⟩ : ∃ (vs : List Value) (A : Option Addr) (c : Nat), v = .slice A ns.length c ∧ ns.length ≤ c ∧ c ≤ maxLen ∧ vs.length = ns.length := by
    obtain ⟨vs, ⟨A, c, e, h1, h2, _⟩, h4, _⟩ := hv
    rw [h4] at e h1
    exact ⟨vs, A, c, e, h1, h2, h4⟩
  subst hV
  obtain ⟨N, hN⟩ : ∃ N, ns.length = N := ⟨_, rfl⟩
  rw [hN] at hc1 hv ⊢
  unfold maxLen at hc2
  have HNL := hide hN
  have HNN := hide hv
  have HBN := hide hB
  have HLL := hide hl
  obtain ⟨R, hR⟩ : ∃ R, ascP nameOk ns = R := ⟨_, rfl⟩
  rw [hR]
  have HR := hide hR
  clear hN hv hB hl hvl hR
  go_enter Try.func44, Try.ntmps44
  go_wp2
  go_loopw [3] (fun i wr => ∃ j : Nat, j ≤ N ∧ i = .int .i64 j ∧ Hid (∀ m, m < j → nameP nameOk ns m = true) ∧ Below w.heap.size w wr)
    (fun i _ => N - (intOf i).toNat)
  case atStart => exact ⟨0, Nat.zero_le _, rfl, hide (fun m hm => by omega), Below.refl _ _⟩
  case round =>
    obtain ⟨j, hj, rfl, HNM, hbel⟩ := hrel
    have HB := hide hbel
    by_cases hlt : j < N
    · have hjn : j < ns.length := by rw [HNL.out]; exact hlt
      obtain ⟨b, off, u, hA', hblt, cu, ru⟩ := HNN.out.get hjn
      subst hA'
      have q1 := (hbel.cell (p := ⟨b, off + j, none⟩) hblt).trans cu
      have rr1 := ru.below hbel
      have hmj : ns.getD j [] ∈ ns := by simp [List.getD, List.getElem?_eq_getElem hjn]
      have hBj : Byt (ns.getD j []) := HBN.out _ hmj
      have hLj := HLL.out _ hmj
      have hnm : nameP nameOk ns j = (nameOk (ns.getD j []) && (decide (j = 0) || lessL (ns.getD (j - 1) []) (ns.getD j []))) := rfl
      have hent : ∀ W, Rd W u (bs (ns.getD j [])) → Calls Try.prog 45 #[u] W fun e w' => e = .returned (.bool (nameOk (ns.getD j []))) ∧ ∃ m, w' = W.drewN m := fun W hr => (specNameQ (ns.getD j []) hBj u W hr (by omega)).mono fun e w' ⟨he, hw⟩ => ⟨he, 0, hw.symm⟩
      have k1 : (j : Int) < (N : Int) := by omega
      have k0 : (0 : Int) ≤ (j : Int) := by omega
      have k2 : (j : Int).toNat = j := by omega
      go_upto_region 4 with (fail)
      go_cut [33] (fun v wx => v = .bool (!nameP nameOk ns j) ∧ ∃ m, wx = wr.drewN m)
      case first =>
        have HE := hide hent
        have hq : ∀ m, Rd (wr.drewN m) u (bs (ns.getD j [])) := fun m => rr1
        have HQ := hide hq
        have HNA := hide hnm
        have hnn := HNN.out
        clear hent hq hnm
        cases he : nameOk (ns.getD j []) with
        | false =>
          rw [he] at HE HNA
          clear he hbel hnn
          go_quiet ((go_at_call 45; exact Calls.quiet_of (HE.out _ (HQ.out _))))
          go_wp2
          go_meet
          exact ⟨by rw [HNA.out]; rfl, _, rfl⟩
        | true =>
          rw [he, Bool.true_and] at HNA
          rw [he] at HE
          clear he
          by_cases hj0 : j = 0
          · subst hj0
            have q1' : wr.cell? ⟨b, off, none⟩ = some u := by simpa using q1
            clear hbel hnn
            go_quiet ((go_at_call 45; exact Calls.quiet_of (HE.out _ (HQ.out _))))
            go_wp2
            go_meet
            exact ⟨by rw [HNA.out]; rfl, _, rfl⟩
          · rw [decide_eq_false hj0, Bool.false_or] at HNA
            obtain ⟨b2, off2, u2, hA2, _, cu2, ru2⟩ := hnn.get (m := j - 1) (by omega)
            injection hA2 with hA3
            injection hA3 with hA4 hA5
            subst hA4 hA5
            have q2 := (hbel.cell (p := ⟨b, off + (j - 1), none⟩) hblt).trans cu2
            have rr2 := ru2.below hbel
            have hBi : Byt (ns.getD (j - 1) []) := HBN.out _ (by simp [List.getD, List.getElem?_eq_getElem (show j - 1 < ns.length by omega)])
            have cv1 := conv_rd (P := Try.prog) Try.underlying22 Try.underlying5 Try.underlying9 rr1
            have cv2 := conv_rd (P := Try.prog) Try.underlying22 Try.underlying5 Try.underlying9 rr2
            have cw1 := fun m => conv_rd (P := Try.prog) Try.underlying22 Try.underlying5 Try.underlying9 (show Rd (wr.drewN m) u (bs (ns.getD j [])) from rr1)
            have cw2 := fun m => conv_rd (P := Try.prog) Try.underlying22 Try.underlying5 Try.underlying9 (show Rd (wr.drewN m) u2 (bs (ns.getD (j - 1) [])) from rr2)
            have hls := less_str hBi hBj
            have k3 : (j : Int) - 1 < (N : Int) := by omega
            have k4 : (0 : Int) ≤ (j : Int) - 1 := by omega
            have k5 : ((j : Int) - 1).toNat = j - 1 := by omega
            have k6 : IntKind.i64.wrap ((j : Int) - 1) = (j : Int) - 1 := IntWalk.i64_in _ (by omega)
            have k7 : 0 < j := by omega
            generalize lessL (ns.getD (j - 1) []) (ns.getD j []) = L at *
            generalize strOfNums (ns.getD (j - 1) []) = s1 at *
            generalize strOfNums (ns.getD j []) = s2 at *
            clear hbel hnn rr2 hBi hBj hj0
            cases L with
            | true =>
              go_quiet ((go_at_call 45; exact Calls.quiet_of (HE.out _ (HQ.out _))))
              go_wp2
              go_meet
              exact ⟨by rw [HNA.out]; rfl, _, rfl⟩
            | false =>
              go_quiet ((go_at_call 45; exact Calls.quiet_of (HE.out _ (HQ.out _))))
              go_wp2
              go_meet
              exact ⟨by rw [HNA.out]; rfl, _, rfl⟩
      case rest =>
        obtain ⟨hv, m, hwm⟩ := hcut
        subst hwm
        have HB2 := hide (below_drewN hbel m)
        clear q1 cu ru rr1 hent hnm hBj hbel
        cases hna : nameP nameOk ns j with
        | false =>
          rw [hna] at hv
          subst hv
          have hm1 : R = false := by
            rw [← HR.out, Bool.eq_false_iff]
            intro h
            rw [ascP_at.1 h j hjn] at hna
            cases hna
          have HM1 := hide hm1
          clear hm1 hna
          go_wp2
          go_ret
          exact ⟨ret_bool HM1.out.symm, HB2.out⟩
        | true =>
          rw [hna] at hv
          subst hv
          have HNM2 : Hid (∀ m, m < j + 1 → nameP nameOk ns m = true) := hide (fun m hm => by
            by_cases h : m = j
            · subst h; exact hna
            · exact HNM.out m (by omega))
          clear hna
          go_wp2
          go_roundw
          case rel => exact ⟨j + 1, by omega, by go_num, HNM2, HB2.out⟩
          case measure => simp [intOf]; omega
    · obtain rfl : j = N := by omega
      have hm1 : R = true := by rw [← HR.out]; exact ascP_at.2 (fun m hm => HNM.out m (by rw [HNL.out] at hm; exact hm))
      have HM1 := hide hm1
      clear hm1 hbel
      go_wp2
      go_ret
      exact ⟨ret_bool HM1.out.symm, HB.out⟩

end Go.Proofs.Ytnloknhcdlannaa
