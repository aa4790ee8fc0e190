/-
  The model's l3rewrite.
-/
import Derived.Test.YtchmppikpeeghaaDoorRewP
namespace Go.Proofs.YtchmppikpeeghaaDoor
open Go.RowKit
set_option linter.unusedVariables false

set_option maxRecDepth 20000 in
set_option maxHeartbeats 1600000 in
theorem l3rew (b f t : List Int) (hB : Byt b) (hF : Byt f) (hft : t.length = f.length) (h0 : 0 < f.length) (vb vf vt : Value) (w : World) (hb : Rd w vb (bs b)) (hf : Rd w vf (bs f)) (ht : Rd w vt (bs t)) (hbl : b.length ≤ 1099511627776) (hfl : f.length ≤ 1099511627776) :
    Calls Tryd.prog 11 #[vb, vf, vt] w fun e w' => ∃ v', e = .returned v' ∧ w'.ownsRow w.heap.size 5 1 v' b.length (bs (rewL b f t)) ∧ Below w.heap.size w w' := by
  obtain ⟨i0, hi0, hz0, hz1, hz2⟩ := info_parts u8info
  obtain ⟨A, c, rfl, hc1, hc2, _⟩ := id hb
  obtain ⟨A', c', rfl, hc1', hc2', _⟩ := id hf
  obtain ⟨A3, c3, rfl, hc13, hc23, hrd3⟩ := id ht
  simp only [bs_length] at hb hf ht hc1 hc1' hc13 hrd3 ⊢
  rw [hft] at ht hc13 hrd3 ⊢
  obtain ⟨bt, ot, rfl, htl, htc⟩ := hrd3 (by omega)
  obtain ⟨N, hNl⟩ : ∃ N, f.length = N := ⟨_, rfl⟩
  obtain ⟨M, hMl⟩ : ∃ M, b.length = M := ⟨_, rfl⟩
  obtain ⟨R, hR⟩ : ∃ R, rewL b f t = R := ⟨_, rfl⟩
  have HR : Hid (([] : List Int) ++ rwF f t (M + 1) (b.drop 0) = R) := by rw [← hR, ← hMl]; exact hide rfl
  rw [hR]
  rw [hNl] at hf hft h0 hfl hc1' hc13 ⊢
  rw [hMl] at hb hc1 hbl ⊢
  unfold maxLen at hc2 hc2' hc23
  have HV := hide hb
  have HF := hide hf
  have HTC := hide htc
  have HNL := hide hNl
  have HML := hide hMl
  have HTL := hide hft
  have bl : (bs b).length = M := by rw [bs_length, hMl]
  clear hR hb hf ht hNl hMl htc hft hrd3
  go_enter Tryd.func11, Tryd.ntmps11
  go_wp2_with (at_builtin; refine wpList_app _ rfl (.tmp 9) (.tmp 10) _ rfl w.heap.size 5 i0 _ 1 Tryd.underlying22 hi0 hz0 hz1 hz2 rfl _ 0 [] rfl (own_lit0 w _) _ (bs b) rfl (HV.out.alloc _) (bs_one b) (by rw [bl]; simp only [maxLen]; omega) (by rw [bl]; omega) (by simp) ?_; intro v1 w1 own1 gr1; have HO1 := hide (own_len (own_cells own1 (List.nil_append _)) (by rw [bl]; omega : _ = M)); have HB1 := hide (below_app0 gr1); obtain ⟨A1, c1, rfl, hd1, hd2⟩ := own_slice HO1.out; clear own1 gr1)
  go_loopw [8] (fun i wr => ∃ (k n : Nat) (pre : List Int), k ≤ M ∧ i = .int .i64 k ∧ M < k + n ∧ pre.length = k ∧ Hid (pre ++ rwF f t n (b.drop k) = R) ∧ Hid (wr.ownsRow w.heap.size 5 1 (.slice A1 M c1) M (bs (pre ++ b.drop k))) ∧ Below w.heap.size w wr) (fun i _ => M - (intOf i).toNat)
  case atStart => exact ⟨0, M + 1, [], Nat.zero_le _, rfl, by omega, rfl, HR, HO1, HB1.out⟩
  case round =>
    obtain ⟨k, n, pre, hk, rfl, hn, hpl, hx, HO, hbel⟩ := hrel
    have HB := hide hbel
    by_cases hlt : k + N ≤ M
    · obtain ⟨g, rfl, hg1, hg2⟩ := own_form HO.out (by omega)
      have hml : (b.drop k).length = M - k := by rw [List.length_drop, HML.out]
      have hxl : (pre ++ b.drop k).length = M := by rw [List.length_append, hpl, hml]; omega
      have hwle : w.heap.size ≤ wr.heap.size := hbel.size
      have r1 : ∀ m, Rd (wr.drewN m) (.slice (some ⟨g, k, none⟩) N (c1 - k)) (bs ((b.drop k).take N)) := fun m => by
        have h1 := Rd.part (w := wr) (b := g) (off := 0) (k := k) (n := N) (l := pre ++ b.drop k) (c := c1) (fun i u hu => by
          rw [Nat.zero_add]
          have hi := (List.getElem?_eq_some_iff.1 hu).1
          rw [bs_length, hxl] at hi
          rw [HO.out.cellAt i (by omega)]
          exact hu) hg2 (by rw [hxl]; exact hlt) (by rw [hxl]; exact hd1) hd2 (n' := N) rfl
        rw [Nat.zero_add, List.drop_left' hpl] at h1
        exact h1
      have r2 : ∀ m, Rd (wr.drewN m) (.slice A' N c') (bs f) := fun m => HF.out.below (below_drewN hbel m)
      have cw1 := fun m => conv_rd (P := Tryd.prog) Tryd.underlying22 Tryd.underlying5 Tryd.underlying9 (r1 m)
      have cw2 := fun m => conv_rd (P := Tryd.prog) Tryd.underlying22 Tryd.underlying5 Tryd.underlying9 (r2 m)
      have cv1 := cw1 0
      have cv2 := cw2 0
      have hpiece : ((strOfNums ((b.drop k).take N)).toList == (strOfNums f).toList) = decide ((b.drop k).take N = f) := by
        by_cases h : (b.drop k).take N = f
        · rw [decide_eq_true h, h]; simp
        · rw [decide_eq_false h]
          simp only [beq_eq_false_iff_ne]
          exact fun e => h (str_inj ((hB.drop k).take _) hF e)
      have hfl2 : f.length ≤ (b.drop k).length := by rw [HNL.out, hml]; omega
      obtain ⟨n, rfl⟩ : ∃ m, n = m + 1 := ⟨n - 1, by omega⟩
      have htk : f.length = N := HNL.out
      have k0 : (k : Int) + (N : Int) ≤ (M : Int) := by omega
      have k1 : (k : Int) + (N : Int) ≤ (c1 : Int) := by omega
      have k2 : IntKind.i64.wrap ((k : Int) + (N : Int)) = (k : Int) + (N : Int) := IntWalk.i64_in _ (by omega)
      have k3 : (0 : Int) ≤ (k : Int) := by omega
      have k4 : (k : Int).toNat = k := by omega
      have k5 : ((k : Int) + (N : Int)).toNat = k + N := by omega
      have k6 : k + N - k = N := by omega
      have k7 : (k : Int) ≤ (k : Int) + (N : Int) := by omega
      have k8 : ¬ c1 = k := by omega
      obtain ⟨cur, hcur, hcl⟩ := own_cells_at HO.out
      have HCUR := hide hcur
      have HPL := hide hpl
      have hx0 := hx.out
      clear hbel r1 r2 hcur hpl hxl hml
      by_cases hat : (b.drop k).take N = f
      · rw [decide_eq_true hat] at hpiece
        rw [rwF_hit hfl2 (by rw [htk]; exact hat), ← List.append_assoc, htk, List.drop_drop] at hx0
        have HX := hide hx0
        clear hx0 hx hat hfl2 htk
        generalize strOfNums ((b.drop k).take N) = s1 at *
        generalize strOfNums f = s2 at *
        have hbtl : (bs t).length = N := by rw [bs_length]; exact HTL.out
        have hpl2 : (pre ++ t).length = k + N := by rw [List.length_append, HPL.out, HTL.out]
        have HP2 := hide hpl2
        have hcs : ∀ m j u, (bs t)[j]? = some u → (wr.drewN m).cell? ((⟨bt, ot, none⟩ : Addr).add j) = some u := fun m j u hu => by
          rw [Addr.add_lit]
          exact (below_drewN HB.out m).cell (p := ⟨bt, ot + j, none⟩) htl |>.trans (HTC.out j u hu)
        have HCS := hide hcs
        have hcap : N ≤ M - k := by omega
        clear hpl2 hcs
        go_upto_region 4 with (fail)
        go_quiet (fail)
        go_wp2_with ((with_reducible refine at_slot 34 ?_); refine wpList_copy_splice rfl (.tmp 32) (.tmp 33) _ _ rfl 5 Tryd.underlying22 (by kernel_rfl) _ _ _ _ _ _ rfl rfl g k cur 5 HCUR.out (bs t) (by rw [hbtl]; exact (Nat.min_eq_left hcap).symm) (fun _ => ⟨rfl, _, rfl, HCS.out _⟩) (by rw [hbtl, hcl]; omega) (bs_one t) w.heap.size w (below_drewN HB.out _) hg1 ?_; intro w2 HG2 hB2)
        have ho2 := own_spliced HO.out HCUR.out (by rw [hbtl]; omega) HG2.out
        rw [splice_bs HPL.out HTL.out, List.drop_drop] at ho2
        have HO2 := hide ho2
        have HB2 := hide hB2
        clear ho2 hB2
        go_wp2
        go_roundw
        case rel => exact ⟨k + N, n, pre ++ t, by omega, by go_num, by omega, HP2.out, HX, HO2, HB2.out⟩
        case measure => simp [intOf]; omega
      · rw [decide_eq_false hat] at hpiece
        rw [rwF_miss hfl2 (by rw [htk]; exact hat), ← List.append_assoc, List.drop_drop] at hx0
        have HX := hide hx0
        clear hx0 hx hat hfl2 htk
        generalize strOfNums ((b.drop k).take N) = s1 at *
        generalize strOfNums f = s2 at *
        have HR2 : Hid (wr.ownsRow w.heap.size 5 1 (.slice (some ⟨g, 0, none⟩) M c1) M (bs ((pre ++ (b.drop k).take 1) ++ b.drop (k + 1)))) := by
          have e : (pre ++ (b.drop k).take 1) ++ b.drop (k + 1) = pre ++ b.drop k := by
            rw [List.append_assoc, ← List.drop_drop, List.take_append_drop]
          rw [e]
          exact HO
        have hpl2 : (pre ++ (b.drop k).take 1).length = k + 1 := by rw [List.length_append, HPL.out, List.length_take, List.length_drop, HML.out]; omega
        have HP2 := hide hpl2
        clear hpl2
        go_upto_region 4 with (fail)
        go_quiet (fail)
        go_wp2
        go_roundw
        case rel => exact ⟨k + 1, n, pre ++ (b.drop k).take 1, by omega, by go_num, by omega, HP2.out, HX, hide HR2.out, below_drewN HB.out _⟩
        case measure => simp [intOf]; omega
    · have hE := hx.out
      rw [rwF_end (by rw [List.length_drop, HML.out, HNL.out]; omega)] at hE
      have HO2 : Hid (wr.ownsRow w.heap.size 5 1 (.slice A1 M c1) M (bs R)) := by rw [← hE]; exact HO
      have k0 : ¬ (k : Int) + (N : Int) ≤ (M : Int) := by omega
      clear hbel hE hx HO
      go_wp2
      go_ret
      exact ⟨_, rfl, HO2.out, HB.out⟩

end Go.Proofs.YtchmppikpeeghaaDoor
