/-
  Base32Read: the program's walk, and the law.
-/
import Derived.Test.YtindjacbocfniaaDoorB32Rd
namespace Go.Proofs.YtindjacbocfniaaDoor
open Go.RowKit

theorem b32Read_room (l : List Int) (hl : l.length ≤ 1048576) : (b32Read l).1.length ≤ 1099511627776 := by
  unfold b32Read
  split
  · simp
  · split
    · split
      · rw [outs_len]; omega
      · simp
    · simp

set_option maxRecDepth 20000 in
set_option maxHeartbeats 4000000 in
theorem implB32ReadIn (l : List Int) (hB : Byt l) (v : Value) (w : World) (hv : Rd w v (bs l)) (hl : l.length ≤ 103) :
    Calls Tryd.prog 17 #[v] w fun e w' => ∃ v', e = .returned (.tuple #[v', .bool (b32Read l).2]) ∧ Own 5 w.heap.size w'.heap.size w' v' (bs (b32Read l).1) ∧ Below w.heap.size w w' := by
  obtain ⟨i0, hi0, hz0, hz1, hz2⟩ := info_parts u8info
  have hcv := conv_rd (P := Tryd.prog) Tryd.underlying22 Tryd.underlying5 Tryd.underlying9 hv
  obtain ⟨A, c, rfl, hc1, hc2, hrd⟩ := hv
  rw [bs_length] at *
  unfold maxLen at hc2
  clear hrd
  obtain ⟨R, hR⟩ : ∃ R, b32Read l = R := ⟨_, rfl⟩
  rw [hR]
  have hR2 : (if okFrom l 0 = true then (if (5 * l.length) % 8 < 5 ∧ pf (dbit (l.map lidx)) (8 * (5 * l.length / 8)) ((5 * l.length) % 8) = 0 then (outs (l.map lidx) (5 * l.length / 8), true) else ([], false)) else ([], false)) = R := by
    rw [← hR, b32Read, if_neg (Nat.not_lt.2 hl), all_ok]
  have HR := hide hR2
  clear hR hR2
  have hsz := strOfNums_size l
  have hget : ∀ k (h : k < (strOfNums l).size), (((strOfNums l)[k]'h).toNat : Int) = l.getD k 0 := fun k h => str_get hB h
  generalize strOfNums l = s at *
  have HSZ := hide hsz
  have HG := hide hget
  clear hsz hget
  go_enter Tryd.func17, Tryd.ntmps17
  go_wp2
  clear hcv
  go_loopw [4, 5, 6] (fun v n b wr => ∃ (k m h : Nat), k ≤ l.length ∧ 5 * k = 8 * m + h ∧ h < 8 ∧ b = .int .i64 h ∧ n = .int .i64 (pf (dbit (l.map lidx)) (8 * m) h) ∧
      wr.ownsRow (w.heap.size + 1) 5 1 v m (bs (outs (l.map lidx) m)) ∧ wr.heap[w.heap.size]? = some (.stringIter s k) ∧ Hid (okFrom l 0 = okFrom l k) ∧ Below w.heap.size w wr)
    (fun _ _ _ wr => l.length - wr.iterPos w.heap.size)
  case atStart => exact ⟨0, 0, 0, by omega, by omega, by omega, rfl, rfl, World.ownsRow_nil _ _ _ _, by simpa using World.iter_heap w s 0, hide rfl, (Below.refl _ w).alloc (Nat.le_refl _) _⟩
  case round =>
    obtain ⟨k, m, h, hk, hkm, hh, rfl, rfl, hown, hit, hok, hbw⟩ := hrel
    have hwz : w.heap.size < wr.heap.size := (Array.getElem?_eq_some_iff.1 hit).1
    obtain ⟨r0, r1⟩ := pf_pos (dbit_bit (l.map lidx)) (8 * m) h
    by_cases hlt : k < l.length
    · have hps : k < s.size := by rw [HSZ.out]; exact hlt
      have hgk := HG.out k hps
      have hm := okFrom_more hlt
      have hpend := pend (m := m) (h := h) hB hlt hkm
      obtain ⟨r, hr⟩ : ∃ r, pf (dbit (l.map lidx)) (8 * m) h = r := ⟨_, rfl⟩
      rw [hr] at r0 r1 hpend ⊢
      obtain ⟨y0, y1⟩ := hB.at_ k
      have hlf := lidx_facts y0 y1
      generalize l.getD k 0 = y at *
      obtain ⟨z, hz⟩ : ∃ z, lidx y = z := ⟨_, rfl⟩
      rw [hz] at hm hpend hlf
      have HZ := hide hz
      have HM := hide hm
      have HP := hide hpend
      have HRR := hide hr
      obtain ⟨zl, zh, zhi, -⟩ := hlf
      clear hz hm hpend hr
      by_cases h128 : y < 128
      · have hnx : ∀ ty, (Instr.next (.pointer (some ⟨w.heap.size, 0, none⟩)) true ty).run Tryd.prog wr = _ := fun ty => Lib.run_next_ascii_at wr w.heap.size s k ty hit hps (by omega)
        rw [hgk] at hnx
        have hit2 := Lib.iterAt_heap wr w.heap.size s k (k + 1) hit
        have hbw2 := Lib.below_iterAt hbw (k := w.heap.size) (by omega) s (k + 1)
        have hwz2 : (wr.iterAt w.heap.size s (k + 1)).heap.size = wr.heap.size := Lib.iterAt_size _ _ _ _
        have hown2 := ownsRow_iterAt hown (Nat.lt_succ_self w.heap.size) s (k + 1)
        have hm0 : wr.iterPos w.heap.size = k := iterPos_of hit
        generalize wr.iterAt w.heap.size s (k + 1) = w2 at *
        have hlt2 : w.heap.size < w2.heap.size := by omega
        have HM0 := hide hm0
        have HI := hide hit2
        have HB := hide hbw2
        have HO := hide (show w2.ownsRow (w.heap.size + 1) 5 1 u4 m (bs (outs (l.map lidx) m)) from hown2)
        clear hm0 hit hit2 hbw hbw2 hgk hwz2 hown hown2 zhi
        by_cases hzp : 0 ≤ z
        · have HD := hide (decide_eq_true hzp)
          have HP2 := hide (HP.out hzp)
          have hok2 : Hid (okFrom l 0 = okFrom l (k + 1)) := hide (by rw [hok.out, HM.out, HD.out, Bool.true_and])
          have r128 : r < 128 := by
            rcases (by omega : h = 0 ∨ h = 1 ∨ h = 2 ∨ h = 3 ∨ h = 4 ∨ h = 5 ∨ h = 6 ∨ h = 7) with rfl | rfl | rfl | rfl | rfl | rfl | rfl | rfl <;> omega
          have hor : bits .or .i64 (r * 32) z = r * 32 + z := or_below 5 hzp (by omega) r0 (by omega)
          go_wp2_with fail
          refine (indexRuneLow y y0 h128 w2).mono ?_
          rintro e w3 ⟨rfl, b3⟩
          rw [HZ.out]
          have hI3 : w3.heap[w.heap.size]? = some (.stringIter s (k + 1)) := (b3.block _ hlt2).trans HI.out
          have HI3 := hide hI3
          have hm3 : w3.iterPos w.heap.size = k + 1 := iterPos_of hI3
          have HM3 := hide hm3
          have hO3 : w3.ownsRow (w.heap.size + 1) 5 1 u4 m (bs (outs (l.map lidx) m)) := own_len ((Own.of HO.out (by rw [bs_length, outs_len])).step b3).1 (by rw [bs_length, outs_len])
          have HO3 := hide hO3
          have hB3 : Below w.heap.size w w3 := HB.out.trans (b3.mono (by omega))
          have HB3 := hide hB3
          have hlt3 : w.heap.size + 1 ≤ w3.heap.size := Nat.le_trans hlt2 b3.size
          clear hI3 hm3 hO3 hB3
          rcases (by omega : h = 0 ∨ h = 1 ∨ h = 2 ∨ h = 3 ∨ h = 4 ∨ h = 5 ∨ h = 6 ∨ h = 7) with rfl | rfl | rfl | rfl | rfl | rfl | rfl | rfl
          · go_wp2_with fail
            go_roundw
            case rel => exact ⟨k + 1, m, 5, by omega, by omega, by omega, rfl, by rw [HP2.out], HO3.out, HI3.out, hok2, HB3.out⟩
            case measure => rw [HM3.out, HM0.out]; omega
          · go_wp2_with fail
            go_roundw
            case rel => exact ⟨k + 1, m, 6, by omega, by omega, by omega, rfl, by rw [HP2.out], HO3.out, HI3.out, hok2, HB3.out⟩
            case measure => rw [HM3.out, HM0.out]; omega
          · go_wp2_with fail
            go_roundw
            case rel => exact ⟨k + 1, m, 7, by omega, by omega, by omega, rfl, by rw [HP2.out], HO3.out, HI3.out, hok2, HB3.out⟩
            case measure => rw [HM3.out, HM0.out]; omega
          · have HT1 : Hid ((r * 32 + z) % 256 = pf (dbit (l.map lidx)) (8 * m) 8) := hide (by
              have h := HP2.out
              exact (by omega : (r * 32 + z) % 256 = r * 32 + z).trans h.symm)
            have hand : bits .and .i64 (r * 32 + z) 0 = 0 := (and_low 0 (by omega) (by omega) (by omega)).trans (by simp)
            go_wp2_with (at_builtin; refine wpList_app _ rfl (.tmp 33) (.tmp 38) _ rfl (w.heap.size + 1) 5 i0 _ 1 Tryd.underlying22 hi0 hz0 hz1 hz2 rfl _ _ _ rfl (HO3.out.alloc _) _ _ rfl (rd_one _ _ _) (bs_one _) (by rw [bs_length]; simp only [maxLen, List.length_singleton]; omega) (by rw [bs_length]; simp only [List.length_singleton]; omega) (by simp; omega) ?_; intro w5v w5 own5 gr5)
            have hrow : ∀ g, u4.ownBlock = some g → w.heap.size + 1 ≤ g := fun g hg => (HO3.out.lt g hg).1
            have hI5 : w5.heap[w.heap.size]? = some (.stringIter s (k + 1)) := by
              rw [gr5.block w.heap.size (by simp; omega) (fun e => by have := hrow _ e.symm; omega), Below.heap_alloc _ _ _ (by omega)]
              exact HI3.out
            have hm5 : w5.iterPos w.heap.size = k + 1 := iterPos_of hI5
            go_roundw
            case rel => exact ⟨k + 1, m + 1, 0, by omega, by omega, by omega, rfl, rfl, own_cells own5 (outs_app (by rw [← HT1.out]; omega)), hI5, hok2, (HB3.out.alloc (by omega) _).grown gr5 (by simp; omega) (fun g hg => by have := hrow g hg; omega)⟩
            case measure => rw [hm5, HM0.out]; omega
          · have ht := pf_top (dbit_bit (l.map lidx)) (8 * m) 8 1
            rw [show (8 + 1 : Nat) = 4 + 5 from rfl, HP2.out] at ht
            obtain ⟨ht1, ht2⟩ := ht
            have HT1 := hide ht1
            have HT2 := hide ht2
            clear ht1 ht2
            have hand : bits .and .i64 (r * 32 + z) 1 = (r * 32 + z) % 2 := and_low 1 (by omega) (by omega) (by omega)
            go_wp2_with (at_builtin; refine wpList_app _ rfl (.tmp 33) (.tmp 38) _ rfl (w.heap.size + 1) 5 i0 _ 1 Tryd.underlying22 hi0 hz0 hz1 hz2 rfl _ _ _ rfl (HO3.out.alloc _) _ _ rfl (rd_one _ _ _) (bs_one _) (by rw [bs_length]; simp only [maxLen, List.length_singleton]; omega) (by rw [bs_length]; simp only [List.length_singleton]; omega) (by simp; omega) ?_; intro w5v w5 own5 gr5)
            have hrow : ∀ g, u4.ownBlock = some g → w.heap.size + 1 ≤ g := fun g hg => (HO3.out.lt g hg).1
            have hI5 : w5.heap[w.heap.size]? = some (.stringIter s (k + 1)) := by
              rw [gr5.block w.heap.size (by simp; omega) (fun e => by have := hrow _ e.symm; omega), Below.heap_alloc _ _ _ (by omega)]
              exact HI3.out
            have hm5 : w5.iterPos w.heap.size = k + 1 := iterPos_of hI5
            go_roundw
            case rel => exact ⟨k + 1, m + 1, 1, by omega, by omega, by omega, rfl, by rw [show 8 * (m + 1) = 8 * m + 8 by omega, ← HT2.out]; go_num, own_cells own5 (outs_app (by rw [← HT1.out]; omega)), hI5, hok2, (HB3.out.alloc (by omega) _).grown gr5 (by simp; omega) (fun g hg => by have := hrow g hg; omega)⟩
            case measure => rw [hm5, HM0.out]; omega
          · have ht := pf_top (dbit_bit (l.map lidx)) (8 * m) 8 2
            rw [show (8 + 2 : Nat) = 5 + 5 from rfl, HP2.out] at ht
            obtain ⟨ht1, ht2⟩ := ht
            have HT1 := hide ht1
            have HT2 := hide ht2
            clear ht1 ht2
            have hand : bits .and .i64 (r * 32 + z) 3 = (r * 32 + z) % 4 := and_low 2 (by omega) (by omega) (by omega)
            go_wp2_with (at_builtin; refine wpList_app _ rfl (.tmp 33) (.tmp 38) _ rfl (w.heap.size + 1) 5 i0 _ 1 Tryd.underlying22 hi0 hz0 hz1 hz2 rfl _ _ _ rfl (HO3.out.alloc _) _ _ rfl (rd_one _ _ _) (bs_one _) (by rw [bs_length]; simp only [maxLen, List.length_singleton]; omega) (by rw [bs_length]; simp only [List.length_singleton]; omega) (by simp; omega) ?_; intro w5v w5 own5 gr5)
            have hrow : ∀ g, u4.ownBlock = some g → w.heap.size + 1 ≤ g := fun g hg => (HO3.out.lt g hg).1
            have hI5 : w5.heap[w.heap.size]? = some (.stringIter s (k + 1)) := by
              rw [gr5.block w.heap.size (by simp; omega) (fun e => by have := hrow _ e.symm; omega), Below.heap_alloc _ _ _ (by omega)]
              exact HI3.out
            have hm5 : w5.iterPos w.heap.size = k + 1 := iterPos_of hI5
            go_roundw
            case rel => exact ⟨k + 1, m + 1, 2, by omega, by omega, by omega, rfl, by rw [show 8 * (m + 1) = 8 * m + 8 by omega, ← HT2.out]; go_num, own_cells own5 (outs_app (by rw [← HT1.out]; omega)), hI5, hok2, (HB3.out.alloc (by omega) _).grown gr5 (by simp; omega) (fun g hg => by have := hrow g hg; omega)⟩
            case measure => rw [hm5, HM0.out]; omega
          · have ht := pf_top (dbit_bit (l.map lidx)) (8 * m) 8 3
            rw [show (8 + 3 : Nat) = 6 + 5 from rfl, HP2.out] at ht
            obtain ⟨ht1, ht2⟩ := ht
            have HT1 := hide ht1
            have HT2 := hide ht2
            clear ht1 ht2
            have hand : bits .and .i64 (r * 32 + z) 7 = (r * 32 + z) % 8 := and_low 3 (by omega) (by omega) (by omega)
            go_wp2_with (at_builtin; refine wpList_app _ rfl (.tmp 33) (.tmp 38) _ rfl (w.heap.size + 1) 5 i0 _ 1 Tryd.underlying22 hi0 hz0 hz1 hz2 rfl _ _ _ rfl (HO3.out.alloc _) _ _ rfl (rd_one _ _ _) (bs_one _) (by rw [bs_length]; simp only [maxLen, List.length_singleton]; omega) (by rw [bs_length]; simp only [List.length_singleton]; omega) (by simp; omega) ?_; intro w5v w5 own5 gr5)
            have hrow : ∀ g, u4.ownBlock = some g → w.heap.size + 1 ≤ g := fun g hg => (HO3.out.lt g hg).1
            have hI5 : w5.heap[w.heap.size]? = some (.stringIter s (k + 1)) := by
              rw [gr5.block w.heap.size (by simp; omega) (fun e => by have := hrow _ e.symm; omega), Below.heap_alloc _ _ _ (by omega)]
              exact HI3.out
            have hm5 : w5.iterPos w.heap.size = k + 1 := iterPos_of hI5
            go_roundw
            case rel => exact ⟨k + 1, m + 1, 3, by omega, by omega, by omega, rfl, by rw [show 8 * (m + 1) = 8 * m + 8 by omega, ← HT2.out]; go_num, own_cells own5 (outs_app (by rw [← HT1.out]; omega)), hI5, hok2, (HB3.out.alloc (by omega) _).grown gr5 (by simp; omega) (fun g hg => by have := hrow g hg; omega)⟩
            case measure => rw [hm5, HM0.out]; omega
          · have ht := pf_top (dbit_bit (l.map lidx)) (8 * m) 8 4
            rw [show (8 + 4 : Nat) = 7 + 5 from rfl, HP2.out] at ht
            obtain ⟨ht1, ht2⟩ := ht
            have HT1 := hide ht1
            have HT2 := hide ht2
            clear ht1 ht2
            have hand : bits .and .i64 (r * 32 + z) 15 = (r * 32 + z) % 16 := and_low 4 (by omega) (by omega) (by omega)
            go_wp2_with (at_builtin; refine wpList_app _ rfl (.tmp 33) (.tmp 38) _ rfl (w.heap.size + 1) 5 i0 _ 1 Tryd.underlying22 hi0 hz0 hz1 hz2 rfl _ _ _ rfl (HO3.out.alloc _) _ _ rfl (rd_one _ _ _) (bs_one _) (by rw [bs_length]; simp only [maxLen, List.length_singleton]; omega) (by rw [bs_length]; simp only [List.length_singleton]; omega) (by simp; omega) ?_; intro w5v w5 own5 gr5)
            have hrow : ∀ g, u4.ownBlock = some g → w.heap.size + 1 ≤ g := fun g hg => (HO3.out.lt g hg).1
            have hI5 : w5.heap[w.heap.size]? = some (.stringIter s (k + 1)) := by
              rw [gr5.block w.heap.size (by simp; omega) (fun e => by have := hrow _ e.symm; omega), Below.heap_alloc _ _ _ (by omega)]
              exact HI3.out
            have hm5 : w5.iterPos w.heap.size = k + 1 := iterPos_of hI5
            go_roundw
            case rel => exact ⟨k + 1, m + 1, 4, by omega, by omega, by omega, rfl, by rw [show 8 * (m + 1) = 8 * m + 8 by omega, ← HT2.out]; go_num, own_cells own5 (outs_app (by rw [← HT1.out]; omega)), hI5, hok2, (HB3.out.alloc (by omega) _).grown gr5 (by simp; omega) (fun g hg => by have := hrow g hg; omega)⟩
            case measure => rw [hm5, HM0.out]; omega
        · have HD := hide (decide_eq_false hzp)
          have hfin : R = ([], false) := by
            rw [← HR.out, hok.out, HM.out, HD.out, Bool.false_and]
            rfl
          have HF := hide hfin
          clear hfin
          go_wp2_with fail
          refine (indexRuneLow y y0 h128 w2).mono ?_
          rintro e w3 ⟨rfl, b3⟩
          rw [HZ.out]
          go_wp2_with fail
          go_ret2
          rw [HF.out]
          exact ⟨_, rfl, Own.of (World.ownsRow_nil _ _ _ _) rfl, HB.out.trans (b3.mono (by omega))⟩
      · have hnx : ∀ ty, (Instr.next (.pointer (some ⟨w.heap.size, 0, none⟩)) true ty).run Tryd.prog wr = _ := fun ty => Lib.run_next_any_at wr w.heap.size s k ty hit hps
        have hd1 := decode_high s k hps (by omega)
        have hd2 := decode_le s k
        have hbw2 := Lib.below_iterAt hbw (k := w.heap.size) (by omega) s (k + (Utf8.decode s k).2)
        have hwz2 : (wr.iterAt w.heap.size s (k + (Utf8.decode s k).2)).heap.size = wr.heap.size := Lib.iterAt_size _ _ _ _
        generalize wr.iterAt w.heap.size s (k + (Utf8.decode s k).2) = w2 at *
        generalize (Utf8.decode s k).1 = q at *
        have hlt2 : w.heap.size < w2.heap.size := by omega
        have hfin : R = ([], false) := by
          have hd : decide (0 ≤ z) = false := by
            have := zhi (by omega)
            rw [this]
            rfl
          rw [← HR.out, hok.out, HM.out, hd, Bool.false_and]
          rfl
        have HF := hide hfin
        have HB := hide hbw2
        obtain ⟨hq1, -⟩ := hd1
        have hir := indexRune (q : Int) (by omega) (by omega) w2
        rw [if_neg (by omega)] at hir
        have HIR := hide hir
        clear hfin hit hbw hbw2 hgk hwz2 hir hown zhi
        go_wp2_with fail
        refine Calls.mono HIR.out ?_
        rintro e w3 ⟨rfl, b3⟩
        go_wp2_with fail
        go_ret2
        rw [HF.out]
        exact ⟨_, rfl, Own.of (World.ownsRow_nil _ _ _ _) rfl, HB.out.trans (b3.mono (by omega))⟩
    · obtain rfl : k = l.length := by omega
      have hnx : ∀ ty, (Instr.next (.pointer (some ⟨w.heap.size, 0, none⟩)) true ty).run Tryd.prog wr = _ := fun ty => Lib.run_next_end_at wr w.heap.size s l.length ty hit (by rw [HSZ.out]; omega)
      have hall : okFrom l 0 = true := by rw [hok.out, okFrom_end (Nat.le_refl _)]
      have hmm : 5 * l.length / 8 = m := by omega
      have hhh : 5 * l.length % 8 = h := by omega
      have hR3 := HR.out
      rw [hall, if_pos rfl, hmm, hhh] at hR3
      obtain ⟨r, hr⟩ : ∃ r, pf (dbit (l.map lidx)) (8 * m) h = r := ⟨_, rfl⟩
      rw [hr] at hR3 r0 r1 ⊢
      have HO := hide (show wr.ownsRow (w.heap.size + 1) 5 1 u4 m (bs (outs (l.map lidx) m)) from hown)
      have HB := hide hbw
      by_cases hg : h < 5 ∧ r = 0
      · rw [if_pos hg] at hR3
        obtain ⟨hg5, rfl⟩ := hg
        have HR3 := hide hR3
        clear hR3 hr hall hmm hhh hit hbw hown
        go_wp2
        go_ret2
        rw [← HR3.out]
        exact ⟨_, rfl, (Own.of HO.out (by rw [bs_length, outs_len])).wide (by omega) (Nat.le_refl _) (Nat.le_refl _), HB.out⟩
      · rw [if_neg hg] at hR3
        have HR3 := hide hR3
        clear hR3 hr hall hmm hhh hit hbw hown
        by_cases hg5 : h < 5
        · have hr0 : ¬ r = 0 := fun e => hg ⟨hg5, e⟩
          have hrb : (r != 0) = true := by simpa using hr0
          clear hg hr0
          go_wp2
          go_ret2
          rw [← HR3.out]
          exact ⟨_, rfl, Own.of (World.ownsRow_nil _ _ _ _) rfl, HB.out⟩
        · clear hg
          go_wp2
          go_ret2
          rw [← HR3.out]
          exact ⟨_, rfl, Own.of (World.ownsRow_nil _ _ _ _) rfl, HB.out⟩

set_option maxHeartbeats 400000 in
theorem implB32Read (l : List Int) (hB : Byt l) (v : Value) (w : World) (hv : Rd w v (bs l)) :
    Calls Tryd.prog 17 #[v] w fun e w' => ∃ v', e = .returned (.tuple #[v', .bool (b32Read l).2]) ∧ Own 5 w.heap.size w'.heap.size w' v' (bs (b32Read l).1) ∧ Below w.heap.size w w' := by
  by_cases h : 103 < l.length
  · rw [b32Read, if_pos h]
    obtain ⟨A, c, rfl, -, -, -⟩ := hv
    rw [bs_length]
    go_enter Tryd.func17, Tryd.ntmps17
    go_wp2
    go_ret2
    exact ⟨_, rfl, Own.of (World.ownsRow_nil _ _ _ _) rfl, Below.refl _ _⟩
  · exact implB32ReadIn l hB v w hv (by omega)

end Go.Proofs.YtindjacbocfniaaDoor
