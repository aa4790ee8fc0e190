/-
  The program's Fill.
-/
import Derived.Test.YtchmppikpeeghaaFillM
import Derived.Test.YtchmppikpeeghaaDatC
namespace Go.Proofs.Ytchmppikpeeghaa
open Go.RowKit
set_option linter.unusedVariables false

set_option maxRecDepth 20000 in
set_option maxHeartbeats 3200000 in
theorem implMarks (b : List Int) (args : List (List Int)) (hB : Byt b) (ha : allNm args = true) (hb4 : b.length ≤ 400) (ha10 : args.length ≤ 10) (vb va : Value) (g : Nat) (w : World) (hbox : Boxed w g 23 va) (hb : Rd w vb (bs b)) (hn : RdN w va args) :
    Calls Try.prog 76 #[vb, .func (.func 75) #[] #[.pointer (some ⟨g, 0, none⟩)]] w fun e w' => ∃ v, e = .returned (.tuple #[v, .bool (fillA b args (b.length + 1) 0 []).isSome]) ∧ Own 5 w.heap.size w'.heap.size w' v (bs ((fillA b args (b.length + 1) 0 []).getD [])) ∧ Below w.heap.size w w' := by
  obtain ⟨i0, hi0, hz0, hz1, hz2⟩ := info_parts u8info
  obtain ⟨A, c, rfl, hc1, hc2, hrd⟩ := hb
  rw [bs_length] at hc1 hrd ⊢
  unfold maxLen at hc2
  obtain ⟨R, hR⟩ : ∃ R, fillA b args (b.length + 1) 0 [] = R := ⟨_, rfl⟩
  rw [hR]
  obtain ⟨M, hM⟩ : ∃ M, b.length = M := ⟨_, rfl⟩
  rw [hM] at hR hc1 hrd hb4 ⊢
  have HR := hide hR
  have HML := hide hM
  have HRD := hide hrd
  have hnone := fun (W : World) (hW : Below w.heap.size w W) => meantNone args ha10 va g W ((hW.block _ hbox.lt).trans hbox) (hn.below hW)
  have hsome := fun (W : World) (hW : Below w.heap.size w W) => meantSome args ha ha10 va g W ((hW.block _ hbox.lt).trans hbox) (hn.below hW)
  have HNO := hide hnone
  have HSO := hide hsome
  have HA := hide ha
  clear hR hM hrd hn ha hbox hnone hsome
  go_enter Try.func76, Try.ntmps76
  go_wp2
  go_loopw [6, 7] (fun u i wr => ∃ (k f : Nat) (out : List Int), k ≤ M ∧ i = .int .i64 k ∧ M < k + f ∧ Hid (fillA b args f k out = R) ∧ out.length ≤ 16 * k ∧ Hid (wr.ownsRow w.heap.size 5 1 u out.length (bs out)) ∧ Below w.heap.size w wr) (fun _ i _ => M - (intOf i).toNat)
  case atStart => exact ⟨0, M + 1, [], Nat.zero_le _, rfl, by omega, HR, by simp, hide (World.ownsRow_nil _ _ _ _), Below.refl _ _⟩
  case round =>
    obtain ⟨k, f, out, hk, rfl, hf, hx, hout, HO, hbel⟩ := hrel
    have HB := hide hbel
    by_cases hlt : k < M
    · obtain ⟨f, rfl⟩ : ∃ g, f = g + 1 := ⟨f - 1, by omega⟩
      obtain ⟨bb, off, rfl, hblt, hcell⟩ := HRD.out (by omega)
      have hin : wr.cell? ⟨bb, off + k, none⟩ = some (.int .u8 (b.getD k 0)) := (hbel.cell (p := ⟨bb, off + k, none⟩) hblt).trans (hcell k _ (bs_get (by rw [HML.out]; exact hlt)))
      have hkb : k < b.length := by rw [HML.out]; exact hlt
      obtain ⟨x, hxv⟩ : ∃ x, b.getD k 0 = x := ⟨_, rfl⟩
      rw [hxv] at hin
      have hwle : w.heap.size ≤ wr.heap.size := hbel.size
      by_cases h36 : x = 36
      · subst h36
        by_cases hlt1 : k + 1 < M
        · have hin2 : wr.cell? ⟨bb, off + (k + 1), none⟩ = some (.int .u8 (b.getD (k + 1) 0)) := (hbel.cell (p := ⟨bb, off + (k + 1), none⟩) hblt).trans (hcell (k + 1) _ (bs_get (by rw [HML.out]; exact hlt1)))
          have hin3 : wr.cell? ⟨bb, off + k + 1, none⟩ = some (.int .u8 (b.getD (k + 1) 0)) := hin2
          obtain ⟨y, hyv⟩ : ∃ y, b.getD (k + 1) 0 = y := ⟨_, rfl⟩
          obtain ⟨y0, y1⟩ := hB.at_ (k + 1)
          rw [hyv] at hin2 hin3 y0 y1
          have hm := fillA_mark (args := args) (f := f) (out := out) hkb hxv (by rw [HML.out]; exact hlt1) hyv
          rw [hx.out] at hm
          have k1 : (k : Int) + 1 < (M : Int) := by omega
          have k2 : ((k : Int) + 1).toNat = k + 1 := by omega
          have k3 : ((k : Int) + 1 == (M : Int)) = false := by simpa using (by omega : ¬ (k : Int) + 1 = (M : Int))
          cases hmy : mean args y with
          | none =>
            rw [hmy] at hm
            have HM := hide hm
            have HC := hide (HNO.out wr hbel y y0 y1 hmy)
            clear hm hcell hx hbel hmy
            go_wp2_with fail
            refine HC.out.mono ?_
            rintro e w3 ⟨rfl, b3⟩
            have hq := fun (W : World) => Lib.run_eql_slice_nil (P := Try.prog) W 22 5 none 0 0 0 0 Try.underlying22
            have HB3 := hide (HB.out.trans (b3.mono HB.out.size))
            clear b3
            go_wp2_with fail
            go_ret2
            refine ⟨_, by rw [HM.out]; rfl, ?_, HB3.out⟩
            rw [HM.out]
            exact Own.of (World.ownsRow_nil _ _ _ _) rfl
          | some t =>
            rw [hmy] at hm
            have hl16 : t.length ≤ 16 := by
              rw [mean] at hmy
              split at hmy
              · injection hmy with hmy; subst hmy; simp
              · split at hmy
                · cases hmy
                · injection hmy with hmy; subst hmy; exact allNm_at HA.out _
            have HM := hide hm
            have HC := hide (HSO.out wr hbel y y0 y1 t hmy)
            clear hm hcell hx hbel hmy
            go_wp2_with fail
            refine HC.out.mono ?_
            rintro e w3 ⟨at_, nt, ct, rfl, rt, b3⟩
            have hq := fun (W : World) => Lib.run_eql_slice_nil (P := Try.prog) W 22 5 (some at_) nt ct 0 0 Try.underlying22
            have HB3 := hide (HB.out.trans (b3.mono HB.out.size))
            have HO3 := hide (own_step HO.out b3)
            have HRT := hide rt
            have hw3 : w.heap.size ≤ w3.heap.size := HB3.out.size
            clear b3 rt hin hin2 hin3
            go_wp2_with (at_builtin; refine wpList_app _ rfl (.tmp 41) (.tmp 42) _ rfl w.heap.size 5 i0 _ 1 Try.underlying22 hi0 hz0 hz1 hz2 rfl _ _ _ rfl HO3.out _ (bs t) rfl HRT.out (bs_one _) (by simp [bs, maxLen]; omega) (by simp [bs]; omega) (by omega) ?_; intro v4 w4 own4 gr4)
            go_roundw
            case rel => exact ⟨k + 2, f, out ++ t, by omega, by go_num, by omega, hide HM.out.symm, by rw [List.length_append]; omega, hide (own_len (own_cells own4 (bs_append _ _).symm) (by simp [bs])), Below.row HB3.out HB3.out.size HO3.out gr4⟩
            case measure => simp [intOf]; omega
        · have hm := fillA_last (args := args) (f := f) (out := out) hkb hxv (by rw [HML.out]; exact hlt1)
          rw [hx.out] at hm
          have HM := hide hm
          obtain rfl : M = k + 1 := by omega
          have k3 : (((k : Int) + 1) == ((k + 1 : Nat) : Int)) = true := by simp
          clear hm hcell hx hbel
          go_wp2
          go_ret2
          refine ⟨_, by rw [HM.out]; rfl, ?_, HB.out⟩
          rw [HM.out]
          exact Own.of (World.ownsRow_nil _ _ _ _) rfl
      · have hm := fillA_plain (args := args) (f := f) (out := out) hkb hxv h36
        rw [hx.out] at hm
        have HM := hide hm
        have hne : (x != 36) = true := by simpa using h36
        clear hm hcell hx hbel
        go_wp2_with (at_builtin; refine wpList_app _ rfl (.tmp 20) (.tmp 25) _ rfl w.heap.size 5 i0 _ 1 Try.underlying22 hi0 hz0 hz1 hz2 rfl _ _ _ rfl (HO.out.alloc _) _ _ rfl (rd_one _ _ _) (bs_one _) (by simp [bs, maxLen]; omega) (by simp [bs]; omega) (by simp; omega) ?_; intro v3 w3 own3 gr3)
        go_roundw
        case rel => exact ⟨k + 1, f, out ++ [x], by omega, by go_num, by omega, hide HM.out.symm, by rw [List.length_append, List.length_singleton]; omega, hide (own_len (own_cells own3 (bs_append _ _).symm) (by simp [bs])), Below.row (HB.out.alloc HB.out.size _) (by simp; omega) (HO.out.alloc _) gr3⟩
        case measure => simp [intOf]; omega
    · obtain rfl : k = M := by omega
      have hm : R = some out := by rw [← hx.out, fillA_end (by rw [HML.out]; omega)]
      have HM := hide hm
      clear hm hbel
      go_wp2
      go_ret2
      refine ⟨_, by rw [HM.out]; rfl, ?_, HB.out⟩
      rw [HM.out]
      exact Own.of (own_cells HO.out rfl) (by rw [bs_length]; rfl)

end Go.Proofs.Ytchmppikpeeghaa
