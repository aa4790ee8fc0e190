/-
  The library's Replace, of texts of one length.
-/
import Derived.Test.YtchmppikpeeghaaDoorRewC
namespace Go.Proofs.YtchmppikpeeghaaDoor
open Go.RowKit
set_option linter.unusedVariables false

theorem own_step {W W' : World} {lo n size : Nat} {e : TypeId} {v : Value} {xs : List Value} (h : W.ownsRow lo e size v n xs) (hb : Below W.heap.size W W') : W'.ownsRow lo e size v n xs :=
  h.kept (row := none) ⟨hb.os, hb.tape, hb.output, hb.size, fun k hk _ => hb.block k hk⟩ (by cases hv : v.ownBlock <;> simp)

set_option maxRecDepth 20000 in
set_option maxHeartbeats 1600000 in
theorem implReplace (b f t : List Int) (hB : Byt b) (hF : Byt f) (hft : t.length = f.length) (h2 : 2 ≤ f.length) (vb vf vt : Value) (w : World) (hb : Rd w vb (bs b)) (hf : Rd w vf (bs f)) (ht : Rd w vt (bs t)) (hv : NilOk vb) (hbl : b.length ≤ 4000000000) (hfl : f.length ≤ 1048576) (hm : MaxL w) :
    Calls Tryd.prog 16 #[vb, vf, vt, .int .i64 (-1)] w fun e w' => ∃ v', e = .returned v' ∧ w'.ownsRow w.heap.size 5 1 v' b.length (bs (rewL b f t)) ∧ Below w.heap.size w w' := by
  obtain ⟨i0, hi0, hz0, hz1, hz2⟩ := info_parts u8info
  have hcount := countBytes b f hB hF h2 vb vf w hb hf hv hbl (by omega) hm
  obtain ⟨A, c, rfl, hc1, hc2, hrd⟩ := id hb
  obtain ⟨A', c', rfl, hc1', hc2', _⟩ := id hf
  obtain ⟨A3, c3, rfl, hc13, hc23, hrd3⟩ := id ht
  simp only [bs_length] at hb hf ht hc1 hc1' hc13 hrd hrd3 hcount ⊢
  rw [hft] at ht hc13 hrd3 ⊢
  obtain ⟨bt, ot, rfl, htl, htc⟩ := hrd3 (by omega)
  obtain ⟨N, hNl⟩ : ∃ N, f.length = N := ⟨_, rfl⟩
  obtain ⟨M, hMl⟩ : ∃ M, b.length = M := ⟨_, rfl⟩
  rw [hNl] at hf hft hfl hc1' hc13 hcount h2 ⊢
  rw [hMl] at hb hc1 hbl hrd hcount ⊢
  unfold maxLen at hc2 hc2' hc23
  have HV := hide hb
  have HF := hide hf
  have HT := hide ht
  have HTC := hide htc
  have HRD := hide hrd
  have HNL := hide hNl
  have HML := hide hMl
  have HTL := hide hft
  have HM := hide hm
  have bl : (bs b).length = M := by rw [bs_length, hMl]
  cases hC : Lib.count (Lib.bytesOf b) (Lib.bytesOf f) with
  | zero =>
    have hR : rewL b f t = b := cnt_zero hB hF (by omega) hC _
    rw [hR]
    rw [hC] at hcount
    have HCNT := hide hcount
    clear hR hb hf ht hNl hMl htc hft hrd hrd3 hcount hC hm
    go_enter Tryd.func16, Tryd.ntmps16
    go_wp2_with fail
    refine HCNT.out.mono ?_
    rintro e w1 ⟨rfl, b1⟩
    have HV1 := hide (HV.out.below b1)
    have HB1 := hide b1
    have hsz1 : w.heap.size ≤ w1.heap.size := b1.size
    clear b1
    go_wp2_with (at_builtin; refine wpList_app _ rfl _ (.tmp 24) _ rfl w.heap.size 5 i0 _ 1 Tryd.underlying22 hi0 hz0 hz1 hz2 rfl _ 0 [] rfl (World.ownsRow_nil _ _ _ _) _ (bs b) rfl HV1.out (bs_one b) (by rw [bl]; simp only [maxLen]; omega) (by rw [bl]; omega) (by omega) ?_; intro v1 w2 own1 gr1)
    go_ret
    exact ⟨_, rfl, own_len (own_cells own1 (List.nil_append _)) (by rw [bl]; omega), Below.row HB1.out hsz1 (World.ownsRow_nil w1 w.heap.size 5 1) gr1⟩
  | succ C =>
    obtain ⟨R, hR⟩ : ∃ R, rewL b f t = R := ⟨_, rfl⟩
    have HR : Hid (([] : List Int) ++ rwF f t (M + 1) (b.drop 0) = R) := by rw [← hR, ← hMl]; exact hide rfl
    have HC : Hid (Lib.count (Lib.bytesOf (b.drop 0)) (Lib.bytesOf f) = (C + 1) - 0) := hide hC
    rw [hR]
    rw [hC] at hcount
    have hCM : C + 1 ≤ M + 1 := by
      have := Lib.count_le (Lib.bytesOf b) (Lib.bytesOf f)
      rw [bytesOf_len, hMl, hC] at this
      exact this
    have hNM : N ≤ M := by
      obtain ⟨i, m, _, hf3, _⟩ := cnt_next (t := t) hB hF (by omega) hC (b.length + 1) (by omega)
      omega
    have HCNT := hide hcount
    clear hR hb hf ht hNl hMl htc hft hrd hrd3 hcount hC hm
    go_enter Tryd.func16, Tryd.ntmps16
    go_wp2_with fail
    refine HCNT.out.mono ?_
    rintro e w1 ⟨rfl, b1⟩
    have HB1 := hide b1
    have hsz1 : w.heap.size ≤ w1.heap.size := b1.size
    clear b1
    go_wp2_with (at_make; refine wpList_make_full _ rfl _ _ 22 rfl w.heap.size 5 i0 _ 1 Tryd.underlying22 hi0 hz0 hz1 .i64 .i64 _ _ M rfl rfl rfl rfl (by rw [hz2]; omega) (by simp only [maxLen]; omega) hsz1 ?_; intro w2 own2 gr2)
    have ho2 : w2.ownsRow w.heap.size 5 1 (.slice (some ⟨w1.heap.size, 0, none⟩) M M) M (bs (([] : List Int) ++ List.replicate M 0)) := by
      have e : (madeCells (Value.int .u8 0).cells (M * 1)).toList = bs (([] : List Int) ++ List.replicate M 0) := by
        rw [Nat.mul_one]
        exact (toList_madeCells_one _ _).trans (by simp [bs])
      rw [← e]
      exact own2
    have HO2 := hide ho2
    have hb2 : Below w.heap.size w w2 := HB1.out.trans ((Below.refl _ _).grown gr2 hsz1 (fun _ h => by cases h))
    clear own2 gr2 ho2
    have hg1 : w.heap.size ≤ w1.heap.size := hsz1
    obtain ⟨g, hg⟩ : ∃ g, w1.heap.size = g := ⟨_, rfl⟩
    rw [hg] at HO2 hg1 ⊢
    clear hg hsz1 HB1
    have hdec : decide (0 < N) = true := decide_eq_true (by omega)
    rw [hdec]
    clear hdec
    go_loopw [11, 12, 49] (fun tw ts ti wr => ∃ (k n it : Nat) (pre Z : List Int), it ≤ C + 1 ∧ ti = .int .i64 it ∧ tw = .int .i64 k ∧ ts = .int .i64 k ∧ k ≤ M ∧ M < k + n ∧ pre.length = k ∧ Z.length = M - k ∧ Hid (pre ++ rwF f t n (b.drop k) = R) ∧ Hid (Lib.count (Lib.bytesOf (b.drop k)) (Lib.bytesOf f) = (C + 1) - it) ∧ Hid (wr.ownsRow w.heap.size 5 1 (.slice (some ⟨g, 0, none⟩) M M) M (bs (pre ++ Z))) ∧ Below w.heap.size w wr) (fun _ _ ti _ => C + 1 - (intOf ti).toNat)
    case atStart => exact ⟨0, M + 1, 0, [], List.replicate M 0, Nat.zero_le _, rfl, rfl, rfl, Nat.zero_le _, by omega, rfl, by simp, HR, HC, HO2, hb2⟩
    case round =>
      clear HR HC HO2 hb2
      obtain ⟨k, n, it, pre, Z, hit, rfl, rfl, rfl, hk, hn, hpl, hzl, hx, hcn, HO, hbel⟩ := hrel
      have HB := hide hbel
      by_cases hlt : it < C + 1
      · have hml : (b.drop k).length = M - k := by rw [List.length_drop, HML.out]
        obtain ⟨i, m, hidx, hfit, hc2', hm2, hrw⟩ := cnt_next (l := b.drop k) (t := t) (c := C - it) (hB.drop k) hF (by rw [HNL.out]; omega) (by rw [hcn.out]; omega) n (by rw [hml]; omega)
        rw [HNL.out, hml] at hfit hm2
        rw [HNL.out, List.drop_drop] at hc2' hrw
        obtain ⟨bb, off, rfl, hblt, hcell⟩ := HRD.out (by omega)
        have hbwr : bb < wr.heap.size := Nat.lt_of_lt_of_le hblt hbel.size
        have hcr : ∀ i u, (bs b)[i]? = some u → wr.cell? ⟨bb, off + i, none⟩ = some u := fun i u hu => (hbel.cell (p := ⟨bb, off + i, none⟩) hblt).trans (hcell i u hu)
        have r1 : Rd wr (.slice (some ⟨bb, off + k, none⟩) (M - k) (c - k)) (bs (b.drop k)) := by
          have h1 := Rd.part (w := wr) (k := k) (n := M - k) hcr hbwr (by rw [HML.out]; omega) (by rw [HML.out]; exact hc1) (by unfold maxLen; exact hc2) (n' := M - k) rfl
          rw [List.take_of_length_le (by rw [hml]; exact Nat.le_refl _)] at h1
          exact h1
        have hcall := indexBytes (b.drop k) f (hB.drop k) hF (by rw [HNL.out]; omega) (by rw [hml]; omega) _ _ wr r1 (HF.out.below hbel) (by rw [hml]; omega) (by rw [HNL.out]; omega) (HM.out.step hbel)
        rw [hidx] at hcall
        have hx0 := hx.out
        rw [hrw, ← List.append_assoc, ← List.append_assoc] at hx0
        have HX := hide hx0
        have HC2 := hide hc2'
        have HCALL := hide hcall
        have HPL := hide hpl
        have HZL := hide hzl
        have hxl : ((b.drop k).take i).length = i := by rw [List.length_take, hml]; omega
        have HXS : Hid (∀ W : World, Below w.heap.size w W → ∀ j u, (bs ((b.drop k).take i))[j]? = some u → W.cell? ((⟨bb, off + k, none⟩ : Addr).add j) = some u) := hide (fun W hW j u hu => by
          rw [Addr.add_lit]
          have hj := (List.getElem?_eq_some_iff.1 hu).1
          rw [bs_length, hxl] at hj
          have e : (bs b)[k + j]? = some u := by
            rw [← hu]
            simp [bs, List.getElem?_drop, hj]
          have h3 := (hW.cell (p := ⟨bb, off + (k + j), none⟩) hblt).trans (hcell (k + j) u e)
          rw [Nat.add_assoc]
          exact h3)
        have HTS : Hid (∀ W : World, Below w.heap.size w W → ∀ j u, (bs t)[j]? = some u → W.cell? ((⟨bt, ot, none⟩ : Addr).add j) = some u) := hide (fun W hW j u hu => by
          rw [Addr.add_lit]
          exact (hW.cell (p := ⟨bt, ot + j, none⟩) htl).trans (HTC.out j u hu))
        obtain ⟨X, hX⟩ : ∃ X, (b.drop k).take i = X := ⟨_, rfl⟩
        rw [hX] at HX HXS hxl
        have HXL := hide hxl
        have hbx : (bs X).length = i := by rw [bs_length]; exact hxl
        have hbtl : (bs t).length = N := by rw [bs_length]; exact HTL.out
        have k0 : (k : Int) ≤ (M : Int) := by omega
        have k1 : (k : Int) + (i : Int) ≤ (c : Int) := by omega
        have k2 : IntKind.i64.wrap ((k : Int) + (i : Int)) = (k : Int) + (i : Int) := IntWalk.i64_in _ (by omega)
        have k3 : (0 : Int) ≤ (k : Int) := by omega
        have k4 : (k : Int).toNat = k := by omega
        have k5 : ((k : Int) + (i : Int)).toNat = k + i := by omega
        have k6 : k + i - k = i := by omega
        have k7 : (k : Int) ≤ (k : Int) + (i : Int) := by omega
        have k8 : ¬ c = k := by omega
        have k9 : ¬ M = k := by omega
        have k10 : ¬ M = k + i := by omega
        have k11 : (0 : Int) ≤ (k : Int) + (i : Int) := by omega
        have k12 : (k : Int) + (i : Int) ≤ (M : Int) := by omega
        have k13 : IntKind.i64.wrap ((k : Int) + (i : Int) + (N : Int)) = (k : Int) + (i : Int) + (N : Int) := IntWalk.i64_in _ (by omega)
        have hi1 : i ≤ M - k := by omega
        have hi2 : N ≤ M - (k + i) := by omega
        clear hx hx0 hrw hcn hc2' hidx hcall r1 hcr hcell hpl hzl hxl hml hX hbel
        go_wp2_with fail
        refine HCALL.out.mono ?_
        rintro e w3 ⟨rfl, b3⟩
        have hb3 : Below w.heap.size w w3 := HB.out.trans (b3.mono HB.out.size)
        have ho3 := own_step HO.out b3
        obtain ⟨cur, hcur, hcl⟩ := own_cells_at ho3
        have HO3 := hide ho3
        have HB3 := hide hb3
        have HCUR := hide hcur
        clear b3 hb3 ho3 hcur
        go_upto_region 15 with (fail)
        go_region_law (refine step_copy_splice rfl (.tmp 61) (.tmp 65) _ _ rfl 5 Tryd.underlying22 (by kernel_rfl) (some ⟨g, k, none⟩) (some ⟨bb, off + k, none⟩) (M - k) (M - k) i (c - k) (by simp [Act.eval, Act.put]) (by simp [Act.eval, Act.put]) g k cur 5 HCUR.out (bs X) (by rw [hbx]; exact (Nat.min_eq_left hi1).symm) (fun _ => ⟨rfl, _, rfl, HXS.out _ (HB3.out.trans (Below.refl _ _).drew)⟩) (by rw [hbx, hcl]; omega) (bs_one X) w.heap.size w (HB3.out.trans (Below.refl _ _).drew) hg1 ?_; intro w4 HG4 hB4)
        have ho4 := own_spliced HO3.out HCUR.out (by rw [hbx]; omega) HG4.out
        rw [splice_bs HPL.out HXL.out] at ho4
        have HO4 := hide ho4
        have hcl4 : (splice cur k (bs X)).length = M := by rw [length_splice _ _ _ (by rw [hbx, hcl]; omega)]; exact hcl
        obtain ⟨cur4, hcur4⟩ : ∃ L, splice cur k (bs X) = L := ⟨_, rfl⟩
        rw [hcur4] at HG4 hcl4
        have HP4 : Hid ((pre ++ X).length = k + i) := hide (by rw [List.length_append, HPL.out, HXL.out])
        have HB4 := hide hB4
        clear ho4 hcur4 HCUR HO3 HO hcl hB4
        go_wp2_with ((with_reducible refine at_slot 73 ?_); refine wpList_copy_splice rfl (.tmp 71) (.tmp 72) _ _ rfl 5 Tryd.underlying22 (by kernel_rfl) _ _ _ _ _ _ rfl rfl g (k + i) cur4 5 HG4.out (bs t) (by rw [hbtl]; exact (Nat.min_eq_left hi2).symm) (fun _ => ⟨rfl, _, rfl, HTS.out _ HB4.out⟩) (by rw [hbtl, hcl4]; omega) (bs_one t) w.heap.size w HB4.out hg1 ?_; intro w5 HG5 hB5)
        have ho5 := own_spliced HO4.out HG4.out (by rw [hbtl]; omega) HG5.out
        rw [splice_bs HP4.out HTL.out] at ho5
        have HO5 := hide ho5
        have HB5 := hide hB5
        have HP5 : Hid ((pre ++ X ++ t).length = k + (i + N)) := hide (by rw [List.length_append, HP4.out, HTL.out]; omega)
        have HZ5 : Hid (((Z.drop i).drop N).length = M - (k + (i + N))) := hide (by rw [List.length_drop, List.length_drop, HZL.out]; omega)
        clear ho5 hB5
        go_wp2
        go_roundw
        case rel => exact ⟨k + (i + N), m, it + 1, pre ++ X ++ t, (Z.drop i).drop N, by omega, by go_num, by go_num, by go_num, by omega, by omega, HP5.out, HZ5.out, HX, hide (by rw [show C + 1 - (it + 1) = C - it by omega]; exact HC2.out), HO5, HB5.out⟩
        case measure => simp [intOf]; omega
      · obtain rfl : it = C + 1 := by omega
        have hE := hx.out
        rw [cnt_zero (hB.drop k) hF (by rw [HNL.out]; omega) (by rw [hcn.out]; omega) n] at hE
        have HE := hide hE
        obtain ⟨bb, off, rfl, hblt, hcell⟩ := HRD.out (by omega)
        obtain ⟨cur, hcur, hcl⟩ := own_cells_at HO.out
        have HCUR := hide hcur
        have HPL := hide hpl
        have HZL := hide hzl
        have hml : (b.drop k).length = M - k := by rw [List.length_drop, HML.out]
        rcases Nat.lt_or_ge k M with hkM | hkM
        · obtain ⟨D, hD⟩ : ∃ D, M - k = D := ⟨_, rfl⟩
          obtain ⟨Y, hY⟩ : ∃ Y, b.drop k = Y := ⟨_, rfl⟩
          have HXS : Hid (∀ W : World, Below w.heap.size w W → ∀ j u, (bs Y)[j]? = some u → W.cell? ((⟨bb, off + k, none⟩ : Addr).add j) = some u) := hide (fun W hW j u hu => by
            rw [Addr.add_lit]
            have e : (bs b)[k + j]? = some u := by
              rw [← hu, ← hY]
              simp [bs, List.getElem?_drop]
            have h3 := (hW.cell (p := ⟨bb, off + (k + j), none⟩) hblt).trans (hcell (k + j) u e)
            rw [Nat.add_assoc]
            exact h3)
          have hby : (bs Y).length = D := by rw [bs_length, ← hY, hml, hD]
          have HROW : Hid (splice (bs (pre ++ Z)) k (bs Y) = bs R) := hide (by
            rw [splice_bs HPL.out (show Y.length = D by rw [← hY, hml, hD]), List.drop_of_length_le (by rw [HZL.out]; omega), List.append_nil, ← hY, HE.out])
          have k1 : (k : Int) ≤ (c : Int) := by omega
          have k2 : IntKind.i64.wrap ((k : Int) + (D : Int)) = (k : Int) + (D : Int) := IntWalk.i64_in _ (by omega)
          have k3 : (0 : Int) ≤ (k : Int) := by omega
          have k4 : (k : Int).toNat = k := by omega
          have k5 : ((k : Int) + (D : Int)).toNat = M := by omega
          have k8 : ¬ c = k := by omega
          have k9 : ¬ M = k := by omega
          have k11 : (0 : Int) ≤ (k : Int) + (D : Int) := by omega
          have k12 : (k : Int) + (D : Int) ≤ (M : Int) := by omega
          have k0 : (k : Int) ≤ (M : Int) := by omega
          clear hE hcell hx hcn hcur hpl hzl hml hY hbel
          go_upto_region 28 with (fail)
          go_region_law (refine step_copy_splice rfl (.tmp 123) (.tmp 126) _ _ rfl 5 Tryd.underlying22 (by kernel_rfl) (some ⟨g, k, none⟩) (some ⟨bb, off + k, none⟩) (M - k) (M - k) (M - k) (c - k) (by simp [Act.eval, Act.put, hD]) (by simp [Act.eval, Act.put, hD]) g k cur 5 HCUR.out (bs Y) (by rw [hby, hD]; exact (Nat.min_self D).symm) (fun _ => ⟨rfl, _, rfl, HXS.out _ (HB.out.trans (Below.refl _ _).drew)⟩) (by rw [hby, hcl]; omega) (bs_one Y) w.heap.size w (HB.out.trans (Below.refl _ _).drew) hg1 ?_; intro w4 HG4 hB4)
          have ho4 := own_spliced HO.out HCUR.out (by rw [hby]; omega) HG4.out
          rw [HROW.out] at ho4
          have HO4 := hide ho4
          have HB4 := hide hB4
          clear ho4 hB4
          go_wp2
          go_ret
          exact ⟨_, rfl, HO4.out, HB4.out⟩
        · obtain rfl : k = M := by omega
          have hE2 : pre ++ Z = R := by rw [← HE.out, List.drop_of_length_le (by rw [HML.out]; exact Nat.le_refl _), List.eq_nil_of_length_eq_zero (by rw [HZL.out]; omega : Z.length = 0)]
          have HROW : Hid (splice (bs (pre ++ Z)) 0 [] = bs R) := hide (by rw [hE2]; simp [splice])
          have k3 : (0 : Int) ≤ (k : Int) := by omega
          have k4 : (k : Int).toNat = k := by omega
          have k1 : (k : Int) ≤ (c : Int) := by omega
          by_cases hcM : c = k
          · clear hE2 hE hcell hx hcn hcur hpl hzl hml hbel
            go_upto_region 28 with (fail)
            go_region_law (refine step_copy_splice rfl (.tmp 123) (.tmp 126) _ _ rfl 5 Tryd.underlying22 (by kernel_rfl) (some ⟨g, 0, none⟩) (some ⟨bb, off, none⟩) 0 0 0 (0) (by simp [Act.eval, Act.put]) (by simp [Act.eval, Act.put, hcM]) g 0 cur 5 HCUR.out [] (by simp) (fun h => absurd h (by simp)) (by simp) (by simp) w.heap.size w (HB.out.trans (Below.refl _ _).drew) hg1 ?_; intro w4 HG4 hB4)
            have ho4 := own_spliced HO.out HCUR.out (by simp) HG4.out
            rw [HROW.out] at ho4
            have HO4 := hide ho4
            have HB4 := hide hB4
            clear ho4 hB4
            go_wp2
            go_ret
            exact ⟨_, rfl, HO4.out, HB4.out⟩
          · clear hE2 hE hcell hx hcn hcur hpl hzl hml hbel
            go_upto_region 28 with (fail)
            go_region_law (refine step_copy_splice rfl (.tmp 123) (.tmp 126) _ _ rfl 5 Tryd.underlying22 (by kernel_rfl) (some ⟨g, 0, none⟩) (some ⟨bb, off + k, none⟩) 0 0 0 (c - k) (by simp [Act.eval, Act.put]) (by simp [Act.eval, Act.put]) g 0 cur 5 HCUR.out [] (by simp) (fun h => absurd h (by simp)) (by simp) (by simp) w.heap.size w (HB.out.trans (Below.refl _ _).drew) hg1 ?_; intro w4 HG4 hB4)
            have ho4 := own_spliced HO.out HCUR.out (by simp) HG4.out
            rw [HROW.out] at ho4
            have HO4 := hide ho4
            have HB4 := hide hB4
            clear ho4 hB4
            go_wp2
            go_ret
            exact ⟨_, rfl, HO4.out, HB4.out⟩

end Go.Proofs.YtchmppikpeeghaaDoor
