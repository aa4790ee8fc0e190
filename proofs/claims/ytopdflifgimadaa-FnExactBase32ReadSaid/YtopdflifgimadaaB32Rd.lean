/-
  Base32Read: the model's walk.
-/
import Derived.Test.YtopdflifgimadaaB32R
import Derived.Test.YtopdflifgimadaaB32
import Derived.Test.YtopdflifgimadaaNameOk
import Derived.Deep.RegionWith
namespace Go.Proofs.Ytopdflifgimadaa
open Go.RowKit

theorem all_ok (l : List Int) : l.all (fun x => decide (0 ≤ lidx x)) = okFrom l 0 := by simp [okFrom]

/-- One more character: the number of the pending bits. -/
theorem pend {l : List Int} (hB : Byt l) {k m h : Nat} (hk : k < l.length) (hm : 5 * k = 8 * m + h) (hx : 0 ≤ lidx (l.getD k 0)) :
    pf (dbit (l.map lidx)) (8 * m) (h + 5) = pf (dbit (l.map lidx)) (8 * m) h * 32 + lidx (l.getD k 0) := by
  have e : (l.map lidx).getD k 0 = lidx (l.getD k 0) := by simp [List.getD, hk]
  have hy := hB.at_ k
  have hf := lidx_facts hy.1 hy.2
  rw [pf_split, ← hm, dbit_five _ _ (by rw [e]; exact ⟨hx, hf.2.1⟩), e]
  rfl

theorem str_inj {a b : List Int} (ha : Byt a) (hb : Byt b) (h : (strOfNums a).toList = (strOfNums b).toList) : a = b := by
  rw [ByteArray.toList_eq, ByteArray.toList_eq, strOfNums_data, strOfNums_data] at h
  induction a generalizing b with
  | nil =>
    cases b with
    | nil => rfl
    | cons y b => simp at h
  | cons x a ih =>
    cases b with
    | nil => simp at h
    | cons y b =>
      simp only [List.map_cons, List.cons.injEq] at h
      have h1 := congrArg UInt8.toNat h.1
      rw [UInt8.toNat_ofNat', UInt8.toNat_ofNat'] at h1
      have hx := ha x (List.mem_cons_self ..)
      have hy := hb y (List.mem_cons_self ..)
      have e : x = y := by omega
      rw [e, ih (fun z hz => ha z (List.mem_cons_of_mem _ hz)) (fun z hz => hb z (List.mem_cons_of_mem _ hz)) h.2]
theorem outs_app {d : List Int} {m : Nat} {x : Int} (h : x = pf (dbit d) (8 * m) 8) : bs (outs d m) ++ bs [x] = bs (outs d (m + 1)) := by rw [outs_succ, bs_append, h]

set_option maxRecDepth 20000 in
set_option maxHeartbeats 3000000 in
theorem specB32Read (l : List Int) (hB : Byt l) (v : Value) (w : World) (hv : Rd w v (bs l)) (hl : l.length ≤ 103) :
    Calls Try.prog 24 #[v] w fun e w' => ∃ v', e = .returned (.tuple #[v', .bool (b32Read l).2]) ∧ Own 5 w.heap.size w'.heap.size w' v' (bs (b32Read l).1) ∧ Below w.heap.size w w' := by
  obtain ⟨i0, hi0, hz0, hz1, hz2⟩ := info_parts u8info
  have HV := hide hv
  obtain ⟨A, c, rfl, hc1, hc2, hrd⟩ := hv
  rw [bs_length] at *
  unfold maxLen at hc2
  obtain ⟨R, hR⟩ : ∃ R, b32Read l = R := ⟨_, rfl⟩
  rw [hR]
  have hR2 : (if okFrom l 0 = true then (if (5 * l.length) % 8 < 5 ∧ pf (dbit (l.map lidx)) (8 * (5 * l.length / 8)) ((5 * l.length) % 8) = 0 then (outs (l.map lidx) (5 * l.length / 8), true) else ([], false)) else ([], false)) = R := by
    rw [← hR, b32Read, if_neg (Nat.not_lt.2 hl), all_ok]
  have HR := hide hR2
  clear hR hR2
  go_enter Try.func24, Try.ntmps24
  go_wp2
  go_loopw [4, 5, 6, 7] (fun v n b i wr => ∃ (k m h : Nat) (nn : Int), k ≤ l.length ∧ 5 * k = 8 * m + h ∧ h < 8 ∧ i = .int .i64 k ∧ b = .int .i64 h ∧ n = .int .i64 nn ∧ 0 ≤ nn ∧ nn ≤ 4095 ∧ Hid (nn % 2 ^ h = pf (dbit (l.map lidx)) (8 * m) h) ∧
      wr.ownsRow w.heap.size 5 1 v m (bs (outs (l.map lidx) m)) ∧ Hid (okFrom l 0 = okFrom l k) ∧ Below w.heap.size w wr)
    (fun _ _ _ i _ => l.length - (intOf i).toNat)
  case atStart => exact ⟨0, 0, 0, 0, by omega, by omega, by omega, rfl, rfl, rfl, by omega, by omega, hide rfl, World.ownsRow_nil _ _ _ _, hide rfl, Below.refl _ _⟩
  case round =>
    obtain ⟨k, m, h, nn, hk, hkm, hh, rfl, rfl, rfl, hn0, hn1, HN, hown, hok, hbel⟩ := hrel
    have HO := hide hown
    have HB := hide hbel
    clear hown hbel
    by_cases hlt : k < l.length
    · obtain ⟨b, off, rfl, hblt, hcell⟩ := hrd (by omega)
      have hin : wr.cell? ⟨b, off + k, none⟩ = some (.int .u8 (l.getD k 0)) := (HB.out.cell (p := ⟨b, off + k, none⟩) hblt).trans (hcell k _ (bs_get hlt))
      have hm := okFrom_more hlt
      have hpend := pend (m := m) (h := h) hB hlt hkm
      obtain ⟨y0, y1⟩ := hB.at_ k
      have hlf := lidx_facts y0 y1
      generalize l.getD k 0 = y at *
      obtain ⟨z, hz⟩ : ∃ z, lidx y = z := ⟨_, rfl⟩
      rw [hz] at hm hpend hlf
      have HZ := hide hz
      have HM := hide hm
      have HP := hide hpend
      obtain ⟨zl, zh, -, -⟩ := hlf
      clear hz hm hcell hrd hpend
      by_cases hzp : 0 ≤ z
      · have HD := hide (decide_eq_true hzp)
        have HP2 := hide (HP.out hzp)
        have hok2 : Hid (okFrom l 0 = okFrom l (k + 1)) := hide (by rw [hok.out, HM.out, HD.out, Bool.true_and])
        have hand : bits .and .i64 (nn * 32 + z) 4095 = (nn * 32 + z) % 4096 := and_low 12 (by omega) (by omega) (by omega)
        rcases (by omega : h = 0 ∨ h = 1 ∨ h = 2 ∨ h = 3 ∨ h = 4 ∨ h = 5 ∨ h = 6 ∨ h = 7) with rfl | rfl | rfl | rfl | rfl | rfl | rfl | rfl
        · go_wp2_with (go_at_call 32; refine (letterIdx _ (by omega) (by omega) _).mono ?_; rintro e w' ⟨rfl, rfl⟩; rw [HZ.out])
          go_roundw
          case rel => exact ⟨k + 1, m, 5, (nn * 32 + z) % 4096, by omega, by omega, by omega, by go_num, rfl, rfl, by omega, by omega, hide (by rw [HP2.out, ← HN.out]; omega), HO.out, hok2, HB.out⟩
          case measure => simp [intOf]; omega
        · go_wp2_with (go_at_call 32; refine (letterIdx _ (by omega) (by omega) _).mono ?_; rintro e w' ⟨rfl, rfl⟩; rw [HZ.out])
          go_roundw
          case rel => exact ⟨k + 1, m, 6, (nn * 32 + z) % 4096, by omega, by omega, by omega, by go_num, rfl, rfl, by omega, by omega, hide (by rw [HP2.out, ← HN.out]; omega), HO.out, hok2, HB.out⟩
          case measure => simp [intOf]; omega
        · go_wp2_with (go_at_call 32; refine (letterIdx _ (by omega) (by omega) _).mono ?_; rintro e w' ⟨rfl, rfl⟩; rw [HZ.out])
          go_roundw
          case rel => exact ⟨k + 1, m, 7, (nn * 32 + z) % 4096, by omega, by omega, by omega, by go_num, rfl, rfl, by omega, by omega, hide (by rw [HP2.out, ← HN.out]; omega), HO.out, hok2, HB.out⟩
          case measure => simp [intOf]; omega
        · have HT1 : Hid ((nn * 32 + z) % 256 = pf (dbit (l.map lidx)) (8 * m) 8) := hide (by
            have h := HP2.out
            rw [← HN.out] at h
            exact (by omega : (nn * 32 + z) % 256 = nn % 2 ^ 3 * 32 + z).trans h.symm)
          go_wp2_with (first | (go_at_call 32; refine (letterIdx _ (by omega) (by omega) _).mono ?_; rintro e w' ⟨rfl, rfl⟩; rw [HZ.out]) | (at_builtin; refine wpList_app _ rfl (.tmp 36) (.tmp 41) _ rfl w.heap.size 5 i0 _ 1 Try.underlying22 hi0 hz0 hz1 hz2 rfl _ _ _ rfl (HO.out.alloc _) _ _ rfl (rd_one _ _ _) (bs_one _) (by rw [bs_length]; simp only [maxLen, List.length_singleton]; omega) (by rw [bs_length]; simp only [List.length_singleton]; omega) (by have := HB.out.size; simp; omega) ?_; intro v3 w3 own3 gr3))
          go_roundw
          case rel => exact ⟨k + 1, m + 1, 0, (nn * 32 + z) % 4096, by omega, by omega, by omega, by go_num, rfl, rfl, by omega, by omega, hide (by show _ = (0 : Int); omega), own_cells own3 (outs_app (by rw [← HT1.out])), hok2, Below.row (HB.out.alloc HB.out.size _) (by have := HB.out.size; simp; omega) (HO.out.alloc _) gr3⟩
          case measure => simp [intOf]; omega
        · have ht := pf_top (dbit_bit (l.map lidx)) (8 * m) 8 1
          rw [show (8 + 1 : Nat) = 4 + 5 from rfl, HP2.out, ← HN.out] at ht
          obtain ⟨ht1, ht2⟩ := ht
          have HT1 := hide ht1
          have HT2 := hide ht2
          clear ht1 ht2
          go_wp2_with (first | (go_at_call 32; refine (letterIdx _ (by omega) (by omega) _).mono ?_; rintro e w' ⟨rfl, rfl⟩; rw [HZ.out]) | (at_builtin; refine wpList_app _ rfl (.tmp 36) (.tmp 41) _ rfl w.heap.size 5 i0 _ 1 Try.underlying22 hi0 hz0 hz1 hz2 rfl _ _ _ rfl (HO.out.alloc _) _ _ rfl (rd_one _ _ _) (bs_one _) (by rw [bs_length]; simp only [maxLen, List.length_singleton]; omega) (by rw [bs_length]; simp only [List.length_singleton]; omega) (by have := HB.out.size; simp; omega) ?_; intro v3 w3 own3 gr3))
          go_roundw
          case rel => exact ⟨k + 1, m + 1, 1, (nn * 32 + z) % 4096, by omega, by omega, by omega, by go_num, rfl, rfl, by omega, by omega, hide (by rw [show 8 * (m + 1) = 8 * m + 8 by omega, ← HT2.out]; omega), own_cells own3 (outs_app (by rw [← HT1.out]; omega)), hok2, Below.row (HB.out.alloc HB.out.size _) (by have := HB.out.size; simp; omega) (HO.out.alloc _) gr3⟩
          case measure => simp [intOf]; omega
        · have ht := pf_top (dbit_bit (l.map lidx)) (8 * m) 8 2
          rw [show (8 + 2 : Nat) = 5 + 5 from rfl, HP2.out, ← HN.out] at ht
          obtain ⟨ht1, ht2⟩ := ht
          have HT1 := hide ht1
          have HT2 := hide ht2
          clear ht1 ht2
          go_wp2_with (first | (go_at_call 32; refine (letterIdx _ (by omega) (by omega) _).mono ?_; rintro e w' ⟨rfl, rfl⟩; rw [HZ.out]) | (at_builtin; refine wpList_app _ rfl (.tmp 36) (.tmp 41) _ rfl w.heap.size 5 i0 _ 1 Try.underlying22 hi0 hz0 hz1 hz2 rfl _ _ _ rfl (HO.out.alloc _) _ _ rfl (rd_one _ _ _) (bs_one _) (by rw [bs_length]; simp only [maxLen, List.length_singleton]; omega) (by rw [bs_length]; simp only [List.length_singleton]; omega) (by have := HB.out.size; simp; omega) ?_; intro v3 w3 own3 gr3))
          go_roundw
          case rel => exact ⟨k + 1, m + 1, 2, (nn * 32 + z) % 4096, by omega, by omega, by omega, by go_num, rfl, rfl, by omega, by omega, hide (by rw [show 8 * (m + 1) = 8 * m + 8 by omega, ← HT2.out]; omega), own_cells own3 (outs_app (by rw [← HT1.out]; omega)), hok2, Below.row (HB.out.alloc HB.out.size _) (by have := HB.out.size; simp; omega) (HO.out.alloc _) gr3⟩
          case measure => simp [intOf]; omega
        · have ht := pf_top (dbit_bit (l.map lidx)) (8 * m) 8 3
          rw [show (8 + 3 : Nat) = 6 + 5 from rfl, HP2.out, ← HN.out] at ht
          obtain ⟨ht1, ht2⟩ := ht
          have HT1 := hide ht1
          have HT2 := hide ht2
          clear ht1 ht2
          go_wp2_with (first | (go_at_call 32; refine (letterIdx _ (by omega) (by omega) _).mono ?_; rintro e w' ⟨rfl, rfl⟩; rw [HZ.out]) | (at_builtin; refine wpList_app _ rfl (.tmp 36) (.tmp 41) _ rfl w.heap.size 5 i0 _ 1 Try.underlying22 hi0 hz0 hz1 hz2 rfl _ _ _ rfl (HO.out.alloc _) _ _ rfl (rd_one _ _ _) (bs_one _) (by rw [bs_length]; simp only [maxLen, List.length_singleton]; omega) (by rw [bs_length]; simp only [List.length_singleton]; omega) (by have := HB.out.size; simp; omega) ?_; intro v3 w3 own3 gr3))
          go_roundw
          case rel => exact ⟨k + 1, m + 1, 3, (nn * 32 + z) % 4096, by omega, by omega, by omega, by go_num, rfl, rfl, by omega, by omega, hide (by rw [show 8 * (m + 1) = 8 * m + 8 by omega, ← HT2.out]; omega), own_cells own3 (outs_app (by rw [← HT1.out]; omega)), hok2, Below.row (HB.out.alloc HB.out.size _) (by have := HB.out.size; simp; omega) (HO.out.alloc _) gr3⟩
          case measure => simp [intOf]; omega
        · have ht := pf_top (dbit_bit (l.map lidx)) (8 * m) 8 4
          rw [show (8 + 4 : Nat) = 7 + 5 from rfl, HP2.out, ← HN.out] at ht
          obtain ⟨ht1, ht2⟩ := ht
          have HT1 := hide ht1
          have HT2 := hide ht2
          clear ht1 ht2
          go_wp2_with (first | (go_at_call 32; refine (letterIdx _ (by omega) (by omega) _).mono ?_; rintro e w' ⟨rfl, rfl⟩; rw [HZ.out]) | (at_builtin; refine wpList_app _ rfl (.tmp 36) (.tmp 41) _ rfl w.heap.size 5 i0 _ 1 Try.underlying22 hi0 hz0 hz1 hz2 rfl _ _ _ rfl (HO.out.alloc _) _ _ rfl (rd_one _ _ _) (bs_one _) (by rw [bs_length]; simp only [maxLen, List.length_singleton]; omega) (by rw [bs_length]; simp only [List.length_singleton]; omega) (by have := HB.out.size; simp; omega) ?_; intro v3 w3 own3 gr3))
          go_roundw
          case rel => exact ⟨k + 1, m + 1, 4, (nn * 32 + z) % 4096, by omega, by omega, by omega, by go_num, rfl, rfl, by omega, by omega, hide (by rw [show 8 * (m + 1) = 8 * m + 8 by omega, ← HT2.out]; omega), own_cells own3 (outs_app (by rw [← HT1.out]; omega)), hok2, Below.row (HB.out.alloc HB.out.size _) (by have := HB.out.size; simp; omega) (HO.out.alloc _) gr3⟩
          case measure => simp [intOf]; omega
      · have HD := hide (decide_eq_false hzp)
        have hfin : R = ([], false) := by
          rw [← HR.out, hok.out, HM.out, HD.out, Bool.false_and]
          rfl
        have HF := hide hfin
        clear hfin
        go_wp2_with (go_at_call 32; refine (letterIdx _ (by omega) (by omega) _).mono ?_; rintro e w' ⟨rfl, rfl⟩; rw [HZ.out])
        go_ret2
        rw [HF.out]
        exact ⟨_, rfl, Own.of (World.ownsRow_nil _ _ _ _) rfl, HB.out⟩
    · obtain rfl : k = l.length := by omega
      have hall : okFrom l 0 = true := by rw [hok.out, okFrom_end (Nat.le_refl _)]
      have hchar : ∀ x ∈ l, 0 ≤ lidx x := by
        intro x hx
        have := List.all_eq_true.1 hall x (by simpa using hx)
        simpa using this
      have hiff := b32_outs l hB hchar m h hkm hh
      have hmm : 5 * l.length / 8 = m := by omega
      have hhh : 5 * l.length % 8 = h := by omega
      have hR3 := HR.out
      rw [hall, if_pos rfl, hmm, hhh] at hR3
      have hO : Byt (outs (l.map lidx) m) := outs_byt _ m
      have hol : (outs (l.map lidx) m).length ≤ 1000000 := by rw [outs_len]; omega
      obtain ⟨O, hOe⟩ : ∃ O, outs (l.map lidx) m = O := ⟨_, rfl⟩
      have hOl : m = O.length := by rw [← hOe, outs_len]
      rw [hOe] at hiff hR3 hO hol
      have hown : Own 5 w.heap.size wr.heap.size wr u4 (bs O) := by
        have h1 := HO.out
        rw [hOe] at h1
        exact Own.of h1 (by rw [bs_length, hOl])
      have hcv := fun (W : World) (hW : Below wr.heap.size wr W) => conv_rd (P := Try.prog) Try.underlying22 Try.underlying5 Try.underlying9 ((HV.out.below HB.out).below hW)
      have hcv0 := hcv wr.drew (Below.refl _ _).drew
      have HW : Hid (Own 5 w.heap.size wr.heap.size wr.drew u4 (bs O)) := hide (hown.below (Below.refl wr.heap.size wr).drew (Nat.le_refl _))
      have HCV := hide hcv
      have HIF := hide hiff
      have HR3 := hide hR3
      clear hown hcv hall hchar hmm hhh hrd hiff hR3
      go_wp2
      go_region_with (go_at_call 31; refine (specBase O hO _ _ HW.out.rd hol).mono ?_; rintro e w3 ⟨v3, rfl, o3, b3⟩; have hcv1 := HCV.out w3 ((Below.refl _ _).drew.trans b3); have hcv2 := conv_rd (P := Try.prog) Try.underlying22 Try.underlying5 Try.underlying9 o3.rd)
      all_goals go_wp2
      all_goals go_ret2
      all_goals
        have hbw : Below w.heap.size w w3 := HB.out.trans (((Below.refl w.heap.size wr).drew).trans (b3.mono HB.out.size))
        first
          | (have ht : (!((strOfNums (b32 O)).toList == (strOfNums l).toList)) = true := by assumption
             have hbl : ¬ b32 O = l := by
               intro h
               rw [h] at ht
               simp at ht
             have hr := HR3.out
             rw [if_neg (fun h => hbl (HIF.out.2 h))] at hr
             rw [← hr]
             exact ⟨_, rfl, Own.of (World.ownsRow_nil _ _ _ _) rfl, hbw⟩)
          | (have ht : (!((strOfNums (b32 O)).toList == (strOfNums l).toList)) = false := by assumption
             have hbl : b32 O = l := str_inj (b32_byt _) hB (by simpa using ht)
             have hr := HR3.out
             rw [if_pos (HIF.out.1 hbl)] at hr
             rw [← hr]
             exact ⟨_, rfl, (HW.out.below b3 (Nat.le_refl _)).wide (Nat.le_refl _) b3.size (Nat.le_refl _), hbw⟩)
end Go.Proofs.Ytopdflifgimadaa
