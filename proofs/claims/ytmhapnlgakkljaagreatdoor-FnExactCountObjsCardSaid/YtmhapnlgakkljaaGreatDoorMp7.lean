/-
  Parts of the proof: EntryQ.
-/
import Derived.Test.YtmhapnlgakkljaaGreatDoorMp6

/-
  EntryOk leaves the world as it is.
-/
namespace Go.Proofs.YtmhapnlgakkljaaGreatDoor
open Go.RowKit
set_option linter.unusedVariables false

set_option maxRecDepth 20000 in
set_option maxHeartbeats 1600000 in
theorem specEntryQ (l : List Int) (hB : Byt l) (v : Value) (w : World) (hv : Rd w v (bs l)) :
    Calls Tryz.prog 82 #[v] w fun e w' => e = .returned (.bool (entryOk l)) ∧ w = w' := by
  obtain ⟨A, c, rfl, hc1, hc2, hrd⟩ := hv
  rw [bs_length] at *
  unfold maxLen at hc2
  obtain ⟨R, hR⟩ : ∃ R, entryOk l = R := ⟨_, rfl⟩
  rw [hR]
  rcases (by omega : l.length = 0 ∨ 8 < l.length ∨ (1 ≤ l.length ∧ l.length ≤ 8)) with h0 | h9 | ⟨h1, h8⟩
  · rw [entryOk_out (by omega)] at hR
    subst hR
    clear hrd
    go_enter Tryz.func82, Tryz.ntmps82
    go_wp2
    go_ret
    exact ⟨rfl, rfl⟩
  · rw [entryOk_out (by omega)] at hR
    subst hR
    clear hrd
    go_enter Tryz.func82, Tryz.ntmps82
    go_wp2
    go_ret
    exact ⟨rfl, rfl⟩
  · obtain ⟨b, off, rfl, hblt, hcell⟩ := hrd (by omega)
    have hfst : w.cell? ⟨b, off, none⟩ = some (.int .u8 (l.getD 0 0)) := by
      have := hcell 0 _ (bs_get (by omega))
      simpa using this
    by_cases h46 : l.getD 0 0 = 46
    · rw [entryOk_out (by omega)] at hR
      rw [h46] at hfst
      subst hR
      clear hrd hcell h46
      go_enter Tryz.func82, Tryz.ntmps82
      go_wp2
      go_ret
      exact ⟨rfl, rfl⟩
    · rw [entryOk_in ⟨h1, h8, h46⟩] at hR
      obtain ⟨z0, hz0⟩ : ∃ z0, l.getD 0 0 = z0 := ⟨_, rfl⟩
      rw [hz0] at hfst h46
      have hne : (z0 == 46) = false := by simpa using h46
      have HR := hide hR
      have HC := hide hcell
      clear hR hrd hcell hz0 h46
      go_enter Tryz.func82, Tryz.ntmps82
      go_wp2
      go_loopw [3] (fun i wr => ∃ k : Nat, k ≤ l.length ∧ i = .int .i64 k ∧ Hid (entryFrom l k = R) ∧ w = wr) (fun i _ => l.length - (intOf i).toNat)
      case atStart => exact ⟨0, by omega, rfl, HR, rfl⟩
      case round =>
        obtain ⟨k, hk, rfl, hx, hww⟩ := hrel
        subst hww
        by_cases hlt : k < l.length
        · have hin : w.cell? ⟨b, off + k, none⟩ = some (.int .u8 (l.getD k 0)) := HC.out k _ (bs_get hlt)
          have hm := entryFrom_more hlt
          obtain ⟨y0, y1⟩ := hB.at_ k
          generalize l.getD k 0 = y at *
          clear hfst hne
          rcases (by omega : (97 ≤ y ∧ y ≤ 122) ∨ (48 ≤ y ∧ y ≤ 57) ∨ y = 46 ∨ y = 45 ∨ y < 45 ∨ y = 47 ∨ (57 < y ∧ y < 97) ∨ 122 < y) with hy | hy | hy | hy | hy | hy | hy | hy
          · have hm2 : entryFrom l k = entryFrom l (k + 1) := by rw [hm, entryChar, decide_eq_true (by omega), Bool.true_and]
            have HM := hide hm2
            clear hm hm2
            obtain ⟨y2, y3⟩ := hy
            go_wp2
            go_roundw
            case rel => exact ⟨k + 1, by omega, by go_num, hide (by rw [← hx.out, HM.out]), trivial⟩
            case measure => simp [intOf]; omega
          · have hm2 : entryFrom l k = entryFrom l (k + 1) := by rw [hm, entryChar, decide_eq_true (by omega), Bool.true_and]
            have HM := hide hm2
            clear hm hm2
            obtain ⟨y2, y3⟩ := hy
            go_wp2
            go_roundw
            case rel => exact ⟨k + 1, by omega, by go_num, hide (by rw [← hx.out, HM.out]), trivial⟩
            case measure => simp [intOf]; omega
          · have hm2 : entryFrom l k = entryFrom l (k + 1) := by rw [hm, entryChar, decide_eq_true (by omega), Bool.true_and]
            have HM := hide hm2
            clear hm hm2
            subst hy
            go_wp2
            go_roundw
            case rel => exact ⟨k + 1, by omega, by go_num, hide (by rw [← hx.out, HM.out]), trivial⟩
            case measure => simp [intOf]; omega
          · have hm2 : entryFrom l k = entryFrom l (k + 1) := by rw [hm, entryChar, decide_eq_true (by omega), Bool.true_and]
            have HM := hide hm2
            clear hm hm2
            subst hy
            go_wp2
            go_roundw
            case rel => exact ⟨k + 1, by omega, by go_num, hide (by rw [← hx.out, HM.out]), trivial⟩
            case measure => simp [intOf]; omega
          all_goals
            have hm2 : entryFrom l k = false := by rw [hm, entryChar, decide_eq_false (by omega), Bool.false_and]
            have q1 : (y != 46) = true := by simpa using (by omega : ¬ y = 46)
            have q2 : (y != 45) = true := by simpa using (by omega : ¬ y = 45)
            try obtain ⟨y2, y3⟩ := hy
            try have y4 : ¬ y ≤ 57 := by omega
            try have y5 : ¬ y ≤ 122 := by omega
            have HM := hide hm2
            clear hm hm2
            go_wp2
            go_ret
            exact ⟨ret_bool (by rw [← hx.out, HM.out]), rfl⟩
        · have hfin : true = R := by rw [← hx.out, entryFrom_end (by omega)]
          have HF := hide hfin
          clear hfin
          go_wp2
          go_ret
          exact ⟨ret_bool (by rw [← HF.out]), rfl⟩

set_option maxRecDepth 20000 in
set_option maxHeartbeats 1600000 in
theorem implEntryQ (l : List Int) (hB : Byt l) (v : Value) (w : World) (hv : Rd w v (bs l)) :
    Calls Tryz.prog 158 #[v] w fun e w' => e = .returned (.bool (entryOk l)) ∧ w = w' := by
  obtain ⟨A, c, rfl, hc1, hc2, hrd⟩ := hv
  rw [bs_length] at *
  unfold maxLen at hc2
  obtain ⟨R, hR⟩ : ∃ R, entryOk l = R := ⟨_, rfl⟩
  rw [hR]
  rcases (by omega : l.length = 0 ∨ 8 < l.length ∨ (1 ≤ l.length ∧ l.length ≤ 8)) with h0 | h9 | ⟨h1, h8⟩
  · rw [entryOk_out (by omega)] at hR
    subst hR
    clear hrd
    go_enter Tryz.func158, Tryz.ntmps158
    go_wp2
    go_ret
    exact ⟨rfl, rfl⟩
  · rw [entryOk_out (by omega)] at hR
    subst hR
    clear hrd
    go_enter Tryz.func158, Tryz.ntmps158
    go_wp2
    go_ret
    exact ⟨rfl, rfl⟩
  · obtain ⟨b, off, rfl, hblt, hcell⟩ := hrd (by omega)
    have hfst : w.cell? ⟨b, off, none⟩ = some (.int .u8 (l.getD 0 0)) := by
      have := hcell 0 _ (bs_get (by omega))
      simpa using this
    by_cases h46 : l.getD 0 0 = 46
    · rw [entryOk_out (by omega)] at hR
      rw [h46] at hfst
      subst hR
      clear hrd hcell h46
      go_enter Tryz.func158, Tryz.ntmps158
      go_wp2
      go_ret
      exact ⟨rfl, rfl⟩
    · rw [entryOk_in ⟨h1, h8, h46⟩] at hR
      obtain ⟨z0, hz0⟩ : ∃ z0, l.getD 0 0 = z0 := ⟨_, rfl⟩
      rw [hz0] at hfst h46
      have hne : (z0 == 46) = false := by simpa using h46
      have HR := hide hR
      have HC := hide hcell
      clear hR hrd hcell hz0 h46
      go_enter Tryz.func158, Tryz.ntmps158
      go_wp2
      go_loopw [21] (fun i wr => ∃ k : Nat, k ≤ l.length ∧ i = .int .i64 k ∧ Hid (entryFrom l k = R) ∧ w = wr) (fun i _ => l.length - (intOf i).toNat)
      case atStart => exact ⟨0, by omega, rfl, HR, rfl⟩
      case round =>
        obtain ⟨k, hk, rfl, hx, hww⟩ := hrel
        subst hww
        by_cases hlt : k < l.length
        · have hin : w.cell? ⟨b, off + k, none⟩ = some (.int .u8 (l.getD k 0)) := HC.out k _ (bs_get hlt)
          have hm := entryFrom_more hlt
          obtain ⟨y0, y1⟩ := hB.at_ k
          generalize l.getD k 0 = y at *
          clear hfst hne
          have hidx := entS_idx y0 y1
          have hcall := indexByteAny entS y w
          generalize firstIdx entS y.toNat.toUInt8 = z at *
          by_cases hy : entryChar y = true
          · rw [hy] at hm hidx
            rw [Bool.true_and] at hm
            have hz : ¬ z < 0 := by simpa using hidx
            have HM := hide hm
            clear hm hidx hy
            go_wp2_with (go_at_call 178; refine hcall.mono ?_; rintro e w' ⟨rfl, rfl⟩)
            go_roundw
            case rel => exact ⟨k + 1, by omega, by go_num, hide (by rw [← hx.out, HM.out]), trivial⟩
            case measure => simp [intOf]; omega
          · have hy2 : entryChar y = false := by simpa using hy
            rw [hy2] at hm hidx
            rw [Bool.false_and] at hm
            have hz : z < 0 := by simpa using hidx
            have HM := hide hm
            clear hm hidx hy hy2
            go_wp2_with (go_at_call 178; refine hcall.mono ?_; rintro e w' ⟨rfl, rfl⟩)
            go_ret
            exact ⟨ret_bool (by rw [← hx.out, HM.out]), rfl⟩
        · have hfin : true = R := by rw [← hx.out, entryFrom_end (by omega)]
          have HF := hide hfin
          clear hfin
          go_wp2
          go_ret
          exact ⟨ret_bool (by rw [← HF.out]), rfl⟩

end Go.Proofs.YtmhapnlgakkljaaGreatDoor
