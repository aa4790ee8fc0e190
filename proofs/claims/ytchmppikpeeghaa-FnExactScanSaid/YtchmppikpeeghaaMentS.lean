/-
  The model's Mentions.
-/
import Derived.Test.YtchmppikpeeghaaMentP
import Derived.Test.YtchmppikpeeghaaNameQ
import Derived.Test.YtchmppikpeeghaaNameOkS
import Derived.Test.YtchmppikpeeghaaOwn
import Derived.Laws.BytesArg
import Derived.IntWalk
import Derived.Deep.QuietTactic
import Derived.BigQuiet
import Derived.Deep.Cut
import Derived.Deep.DeepCutAuto
import Derived.Deep.CutBlock
namespace Go.Proofs.Ytchmppikpeeghaa
open Go.RowKit
set_option linter.unusedVariables false

set_option maxRecDepth 20000 in
set_option maxHeartbeats 800000 in
theorem specMent (b n : List Int) (hB : Byt b) (hN : Byt n) (h0 : 0 < n.length) (vb vn : Value) (w : World) (hb : Rd w vb (bs b)) (hn : Rd w vn (bs n)) (hl : b.length ≤ 1099511627776) (hln : n.length ≤ 1099511627776) :
    Calls Try.prog 65 #[vb, vn] w fun e w' => e = .returned (.bool (contL b n)) ∧ Below w.heap.size w w' := by
  obtain ⟨A, c, rfl, hc1, hc2, hrd⟩ := hb
  obtain ⟨A', c', hV', hc1', hc2', _⟩ := id hn
  rw [bs_length] at *
  subst hV'
  have HC2 := hide hc2
  unfold maxLen at hc2 hc2'
  obtain ⟨N, hNl⟩ : ∃ N, n.length = N := ⟨_, rfl⟩
  obtain ⟨M, hMl⟩ : ∃ M, b.length = M := ⟨_, rfl⟩
  obtain ⟨R, hR⟩ : ∃ R, contL b n = R := ⟨_, rfl⟩
  have HR : Hid (contF b n (b.length + 1 - 0) 0 = R) := by rw [← hR, contL]; exact hide rfl
  rw [hR]
  rw [hNl] at hn hc1' h0 hln ⊢
  rw [hMl] at hc1 hl hrd ⊢
  have HN := hide hn
  have HRD := hide hrd
  have HNL := hide hNl
  have HML := hide hMl
  clear hR hn hrd hNl hMl
  go_enter Try.func65, Try.ntmps65
  go_wp2
  go_loopw [5] (fun i wr => ∃ k : Nat, k ≤ M + 1 ∧ i = .int .i64 k ∧ Hid (contF b n (b.length + 1 - k) k = R) ∧ Below w.heap.size w wr) (fun i _ => M + 1 - (intOf i).toNat)
  case atStart => exact ⟨0, by omega, rfl, HR, Below.refl _ _⟩
  case round =>
    obtain ⟨k, hk, rfl, hx, hbel⟩ := hrel
    have HB := hide hbel
    by_cases hlt : k + N ≤ M
    · obtain ⟨bb, off, rfl, hblt, hcell⟩ := HRD.out (by omega)
      have hm := contF_more (b := b) (n := n) (k := k) (by rw [HML.out]; omega)
      rw [hx.out] at hm
      have r1 : ∀ m, Rd (wr.drewN m) (.slice (some ⟨bb, off + k, none⟩) N (c - k)) (bs ((b.drop k).take N)) := fun m => Rd.part (fun i u hu => (hbel.cell (p := ⟨bb, off + i, none⟩) hblt).trans (hcell i u hu)) (Nat.lt_of_lt_of_le hblt hbel.size) (by rw [HML.out]; exact hlt) (by rw [HML.out]; exact hc1) HC2.out rfl
      have r2 : ∀ m, Rd (wr.drewN m) (.slice A' N c') (bs n) := fun m => HN.out.below (below_drewN hbel m)
      have cw1 := fun m => conv_rd (P := Try.prog) Try.underlying22 Try.underlying5 Try.underlying9 (r1 m)
      have cw2 := fun m => conv_rd (P := Try.prog) Try.underlying22 Try.underlying5 Try.underlying9 (r2 m)
      have cv1 := cw1 0
      have cv2 := cw2 0
      have hpiece : ((strOfNums ((b.drop k).take N)).toList == (strOfNums n).toList) = atL b n k := by
        rw [atL]
        by_cases h : (b.drop k).take n.length = n
        · rw [HNL.out] at h ⊢
          rw [h, decide_eq_true ⟨by rw [HML.out]; exact hlt, rfl⟩]; simp
        · rw [decide_eq_false (fun h2 => h h2.2)]
          simp only [beq_eq_false_iff_ne]
          intro e
          refine h ?_
          rw [HNL.out]
          exact str_inj ((hB.drop k).take _) hN e
      have k0 : (k : Int) + (N : Int) ≤ (M : Int) := by omega
      have k1 : (k : Int) + (N : Int) ≤ (c : Int) := by omega
      have k2 : IntKind.i64.wrap ((k : Int) + (N : Int)) = (k : Int) + (N : Int) := IntWalk.i64_in _ (by omega)
      have k3 : (0 : Int) ≤ (k : Int) := by omega
      have k4 : (k : Int).toNat = k := by omega
      have k5 : ((k : Int) + (N : Int)).toNat = k + N := by omega
      have k6 : k + N - k = N := by omega
      have k7 : (k : Int) ≤ (k : Int) + (N : Int) := by omega
      have k8 : ¬ c = k := by omega
      have HM := hide hm
      clear hm hbel hcell r1 r2
      generalize strOfNums ((b.drop k).take N) = s1 at *
      generalize strOfNums n = s2 at *
      cases hat : atL b n k with
      | true =>
        rw [hat] at hpiece
        have hR1 : R = true := by have := HM.out; rw [hat] at this; simpa using this
        have HR1 := hide hR1
        clear hR1 hat
        go_upto_region 4 with (fail)
        go_quiet (fail)
        go_wp2
        go_ret
        exact ⟨ret_bool HR1.out.symm, below_drewN HB.out _⟩
      | false =>
        rw [hat] at hpiece
        have hm2 : contF b n (b.length + 1 - (k + 1)) (k + 1) = R := by have := HM.out; rw [hat] at this; simpa using this.symm
        have HM2 := hide hm2
        clear hm2 hat
        go_upto_region 4 with (fail)
        go_quiet (fail)
        go_wp2
        go_roundw
        case rel => exact ⟨k + 1, by omega, by go_num, HM2, below_drewN HB.out _⟩
        case measure => simp [intOf]; omega
    · have hR1 : R = false := by rw [← hx.out, contF_end (by rw [HML.out, HNL.out]; omega)]
      have HR1 := hide hR1
      have k0 : ¬ (k : Int) + (N : Int) ≤ (M : Int) := by omega
      clear hR1 hbel
      go_wp2
      go_ret
      exact ⟨ret_bool HR1.out.symm, HB.out⟩

set_option maxHeartbeats 400000 in
theorem specMentions (b n : List Int) (hB : Byt b) (hN : Byt n) (vb vn : Value) (w : World) (hb : Rd w vb (bs b)) (hn : Rd w vn (bs n)) (hl : b.length ≤ 1099511627776) (hln : n.length ≤ 1099511627776) :
    Calls Try.prog 38 #[vb, vn] w fun e w' => e = .returned (.bool (mentL b n)) ∧ Below w.heap.size w w' := by
  have h1 := specNameOk n hN vn w hn hln
  rw [mentL]
  cases hk : nameOk n with
  | false =>
    rw [hk] at h1
    have H1 := hide h1
    clear h1 hk hb hn
    go_enter Try.func38, Try.ntmps38
    go_wp2_with fail
    refine H1.out.mono ?_
    rintro e w1 ⟨rfl, b1⟩
    go_wp2_with fail
    go_ret
    exact ⟨rfl, b1⟩
  | true =>
    rw [hk] at h1
    have h16 : 0 < n.length := by
      rw [nameOk, Bool.and_eq_true, decide_eq_true_eq] at hk
      omega
    have h2 := fun W (hb' : Below w.heap.size w W) => specMent b n hB hN h16 vb vn W (hb.below hb') (hn.below hb') hl hln
    rw [Bool.true_and]
    have H1 := hide h1
    have H2 := hide h2
    clear h1 h2 hk hb hn
    go_enter Try.func38, Try.ntmps38
    go_wp2_with fail
    refine H1.out.mono ?_
    rintro e w1 ⟨rfl, b1⟩
    go_wp2_with fail
    refine (H2.out w1 b1).mono ?_
    rintro e w2 ⟨rfl, b2⟩
    go_wp2_with fail
    go_ret
    exact ⟨rfl, b1.trans (b2.mono b1.size)⟩

end Go.Proofs.Ytchmppikpeeghaa
