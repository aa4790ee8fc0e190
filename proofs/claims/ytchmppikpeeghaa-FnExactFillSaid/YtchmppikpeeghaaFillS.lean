/-
  The model's Fill.
-/
import Derived.Test.YtchmppikpeeghaaFillP
import Derived.Test.YtchmppikpeeghaaNameOkS
namespace Go.Proofs.Ytchmppikpeeghaa
open Go.RowKit
set_option linter.unusedVariables false

set_option maxRecDepth 20000 in
set_option maxHeartbeats 3200000 in
theorem specL3fill (b : List Int) (args : List (List Int)) (hB : Byt b) (ha : allNm args = true) (hb4 : b.length ≤ 400) (ha10 : args.length ≤ 10) (vb va : Value) (w : World) (hb : Rd w vb (bs b)) (hn : RdN w va args) :
    Calls Try.prog 73 #[vb, va] w fun e w' => ∃ v, e = .returned (.tuple #[v, .bool (fillA b args (b.length + 1) 0 []).isSome]) ∧ Own 5 w.heap.size w'.heap.size w' v (bs ((fillA b args (b.length + 1) 0 []).getD [])) ∧ Below w.heap.size w w' := by
  obtain ⟨i0, hi0, hz0, hz1, hz2⟩ := info_parts u8info
  obtain ⟨A, c, rfl, hc1, hc2, hrd⟩ := hb
  obtain ⟨A', c', hV, hc1', hc2'⟩ : ∃ (A' : Option Addr) (c' : Nat), va = .slice A' args.length c' ∧ args.length ≤ c' ∧ c' ≤ maxLen := by
    obtain ⟨vs, ⟨A, c, e, h1, h2, _⟩, h4, _⟩ := hn
    rw [h4] at e h1
    exact ⟨A, c, e, h1, h2⟩
  subst hV
  rw [bs_length] at hc1 hrd ⊢
  unfold maxLen at hc2 hc2'
  obtain ⟨R, hR⟩ : ∃ R, fillA b args (b.length + 1) 0 [] = R := ⟨_, rfl⟩
  rw [hR]
  obtain ⟨M, hM⟩ : ∃ M, b.length = M := ⟨_, rfl⟩
  obtain ⟨K, hK⟩ : ∃ K, args.length = K := ⟨_, rfl⟩
  rw [hM] at hR hc1 hrd hb4 ⊢
  rw [hK] at hc1' hn ha10 ⊢
  have HR := hide hR
  have HML := hide hM
  have HKL := hide hK
  have HRD := hide hrd
  have HN := hide hn
  have HA := hide ha
  clear hR hM hK hrd hn ha
  go_enter Try.func73, Try.ntmps73
  go_wp2
  go_loopw [6, 7] (fun u i wr => ∃ (k f : Nat) (out : List Int), k ≤ M ∧ i = .int .i64 k ∧ M < k + f ∧ Hid (fillA b args f k out = R) ∧ out.length ≤ 16 * k ∧ Hid (wr.ownsRow w.heap.size 5 1 u out.length (bs out)) ∧ Below w.heap.size w wr) (fun _ i _ => M - (intOf i).toNat)
  case atStart => exact ⟨0, M + 1, [], Nat.zero_le _, rfl, by omega, HR, by simp, hide (World.ownsRow_nil _ _ _ _), Below.refl _ _⟩
  case round =>
    obtain ⟨k, f, out, hk, rfl, hf, hx, hout, HO, hbel⟩ := hrel
    have HB := hide hbel
    by_cases hlt : k < M
    · obtain ⟨f, rfl⟩ : ∃ g, f = g + 1 := ⟨f - 1, by omega⟩
      obtain ⟨bb, off, rfl, hblt, hcell⟩ := HRD.out (by omega)
      have hin : wr.cell? ⟨bb, off + k, none⟩ = some (.int .u8 (b.getD k 0)) := (hbel.cell (p := ⟨bb, off + k, none⟩) hblt).trans (hcell k _ (bs_get (by rw [HML.out]; exact hlt)))
      have hkb : k < b.length := by rw [HML.out]; exact hlt
      obtain ⟨x, hxv⟩ : ∃ x, b.getD k 0 = x := ⟨_, rfl⟩
      rw [hxv] at hin
      by_cases h36 : x = 36
      · subst h36
        have hwle : w.heap.size ≤ wr.heap.size := hbel.size
        by_cases hlt1 : k + 1 < M
        · have hin2 : wr.cell? ⟨bb, off + (k + 1), none⟩ = some (.int .u8 (b.getD (k + 1) 0)) := (hbel.cell (p := ⟨bb, off + (k + 1), none⟩) hblt).trans (hcell (k + 1) _ (bs_get (by rw [HML.out]; exact hlt1)))
          have hin3 : wr.cell? ⟨bb, off + k + 1, none⟩ = some (.int .u8 (b.getD (k + 1) 0)) := hin2
          obtain ⟨y, hyv⟩ : ∃ y, b.getD (k + 1) 0 = y := ⟨_, rfl⟩
          obtain ⟨y0, y1⟩ := hB.at_ (k + 1)
          rw [hyv] at hin2 hin3 y0 y1
          have hm := fillA_mark (args := args) (f := f) (out := out) hkb hxv (by rw [HML.out]; exact hlt1) hyv
          rw [hx.out] at hm
          have k1 : (k : Int) + 1 < (M : Int) := by omega
          have k2 : ((k : Int) + 1).toNat = k + 1 := by omega
          by_cases hy36 : y = 36
          · subst hy36
            rw [mean_dollar] at hm
            have HM := hide hm
            clear hm hcell hx hbel
            go_wp2_with (at_builtin; refine wpList_app _ rfl (.tmp 39) (.tmp 40) _ rfl w.heap.size 5 i0 _ 1 Try.underlying22 hi0 hz0 hz1 hz2 rfl _ _ _ rfl (HO.out.alloc _) _ _ rfl (rd_one _ _ _) (bs_one _) (by simp [bs, maxLen]; omega) (by simp [bs]; omega) (by simp; omega) ?_; intro v3 w3 own3 gr3)
            go_roundw
            case rel => exact ⟨k + 2, f, out ++ [36], by omega, by go_num, by omega, hide HM.out.symm, by rw [List.length_append, List.length_singleton]; omega, hide (own_len (own_cells own3 (bs_append _ _).symm) (by simp [bs])), Below.row (HB.out.alloc HB.out.size _) (by simp; omega) (HO.out.alloc _) gr3⟩
            case measure => simp [intOf]; omega
          · have hyne : (y == 36) = false := by simpa using hy36
            by_cases hbad : y < 48 ∨ (K : Int) ≤ y - 48
            · rw [mean_none hy36 (by rw [HKL.out]; exact hbad)] at hm
              have HM := hide hm
              clear hm hcell hx hbel
              rcases (by omega : y < 48 ∨ (48 ≤ y ∧ 57 < y) ∨ (48 ≤ y ∧ y ≤ 57 ∧ (K : Int) ≤ y - 48)) with g | ⟨g, g1⟩ | ⟨g, g1, g2⟩
              all_goals
                clear hbad
                go_wp2
                go_ret2
                refine ⟨_, by rw [HM.out]; rfl, ?_, HB.out⟩
                rw [HM.out]
                exact Own.of (World.ownsRow_nil _ _ _ _) rfl
            · have g0 : 48 ≤ y := by omega
              have g1 : y - 48 < (K : Int) := by omega
              have g2 : y ≤ 57 := by omega
              obtain ⟨m, hmm⟩ : ∃ m, (y - 48).toNat = m := ⟨_, rfl⟩
              have hmK : m < K := by omega
              rw [mean_arg g0 hmm (by rw [HKL.out]; exact hmK)] at hm
              obtain ⟨b2, off2, un, hA2, hb2, cun, run⟩ := HN.out.get (m := m) (by rw [HKL.out]; exact hmK)
              subst hA2
              have n0 := (hbel.cell (p := ⟨b2, off2 + m, none⟩) hb2).trans cun
              have hrun := run.below hbel
              have hl16 := allNm_at HA.out m
              generalize args.getD m [] = t at *
              have HM := hide hm
              have HRUN := hide hrun
              have g3 : 0 ≤ y - 48 := by omega
              have g4 : (y - 48) % 256 = y - 48 := by omega
              clear hm hcell hx hbel hrun run cun hbad
              go_wp2_with (at_builtin; refine wpList_app _ rfl (.tmp 71) (.tmp 79) _ rfl w.heap.size 5 i0 _ 1 Try.underlying22 hi0 hz0 hz1 hz2 rfl _ _ _ rfl HO.out _ (bs t) rfl HRUN.out (bs_one _) (by simp [bs, maxLen]; omega) (by simp [bs]; omega) (by omega) ?_; intro v3 w3 own3 gr3)
              go_roundw
              case rel => exact ⟨k + 2, f, out ++ t, by omega, by go_num, by omega, hide HM.out.symm, by rw [List.length_append]; omega, hide (own_len (own_cells own3 (bs_append _ _).symm) (by simp [bs])), Below.row HB.out HB.out.size HO.out gr3⟩
              case measure => simp [intOf]; omega
        · have hm := fillA_last (args := args) (f := f) (out := out) hkb hxv (by rw [HML.out]; exact hlt1)
          rw [hx.out] at hm
          have HM := hide hm
          have k1 : ¬ (k : Int) + 1 < (M : Int) := by omega
          clear hm hcell hx hbel
          go_wp2
          go_ret2
          refine ⟨_, by rw [HM.out]; rfl, ?_, HB.out⟩
          rw [HM.out]
          exact Own.of (World.ownsRow_nil _ _ _ _) rfl
      · have hm := fillA_plain (args := args) (f := f) (out := out) hkb hxv h36
        rw [hx.out] at hm
        have HM := hide hm
        have hne : (x != 36) = true := by simpa using h36
        have hwle : w.heap.size ≤ wr.heap.size := hbel.size
        clear hm hcell hx hbel
        go_wp2_with (at_builtin; refine wpList_app _ rfl (.tmp 19) (.tmp 24) _ rfl w.heap.size 5 i0 _ 1 Try.underlying22 hi0 hz0 hz1 hz2 rfl _ _ _ rfl (HO.out.alloc _) _ _ rfl (rd_one _ _ _) (bs_one _) (by simp [bs, maxLen]; omega) (by simp [bs]; omega) (by simp; omega) ?_; intro v3 w3 own3 gr3)
        go_roundw
        case rel => exact ⟨k + 1, f, out ++ [x], by omega, by go_num, by omega, hide HM.out.symm, by rw [List.length_append, List.length_singleton]; omega, hide (own_len (own_cells own3 (bs_append _ _).symm) (by simp [bs])), Below.row (HB.out.alloc HB.out.size _) (by simp; omega) (HO.out.alloc _) gr3⟩
        case measure => simp [intOf]; omega
    · obtain rfl : k = M := by omega
      have hm : R = some out := by rw [← hx.out, fillA_end (by rw [HML.out]; omega)]
      have HM := hide hm
      clear hm hbel
      go_wp2
      go_ret2
      refine ⟨_, by rw [HM.out]; rfl, ?_, HB.out⟩
      rw [HM.out]
      exact Own.of (own_cells HO.out rfl) (by rw [bs_length]; rfl)

end Go.Proofs.Ytchmppikpeeghaa
