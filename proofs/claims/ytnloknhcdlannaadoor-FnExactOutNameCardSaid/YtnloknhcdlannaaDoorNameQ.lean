
/-
  NameOk leaves the model's world as it is.
-/
import Derived.Test.YtnloknhcdlannaaDoorLetter
namespace Go.Proofs.YtnloknhcdlannaaDoor
open Go.RowKit

set_option maxRecDepth 20000 in
set_option maxHeartbeats 800000 in
theorem specNameQ (l : List Int) (hB : Byt l) (v : Value) (w : World) (hv : Rd w v (bs l)) (hl : l.length ≤ 1099511627776) :
    Calls Tryd.prog 34 #[v] w fun e w' => e = .returned (.bool (nameOk l)) ∧ w = w' := by
  obtain ⟨A, c, rfl, hc1, hc2, hrd⟩ := hv
  rw [bs_length] at *
  unfold maxLen at hc2
  obtain ⟨R, hR⟩ : ∃ R, nameOk l = R := ⟨_, rfl⟩
  rw [hR]
  by_cases h16 : l.length = 16
  · have HR : Hid (okFrom l 0 = R) := by
      rw [← hR, nameOk, h16]
      exact hide rfl
    have H16 := hide h16
    have hlo : l.length ≤ 16 := by omega
    have hhi : 16 ≤ l.length := by omega
    have hne : ((l.length : Int) != 16) = false := by rw [h16]; rfl
    clear hR h16
    go_enter Tryd.func34, Tryd.ntmps34
    go_wp2
    go_loopw [3] (fun i wr => ∃ k : Nat, k ≤ l.length ∧ i = .int .i64 k ∧ Hid (okFrom l k = R) ∧ w = wr) (fun i _ => l.length - (intOf i).toNat)
    case atStart => exact ⟨0, by omega, rfl, HR, rfl⟩
    case round =>
      obtain ⟨k, hk, rfl, hx, hww⟩ := hrel
      subst hww
      by_cases hlt : k < l.length
      · obtain ⟨b, off, rfl, hblt, hcell⟩ := hrd (by omega)
        have hin : w.cell? ⟨b, off + k, none⟩ = some (.int .u8 (l.getD k 0)) := hcell k _ (bs_get hlt)
        have hm := okFrom_more hlt
        obtain ⟨y0, y1⟩ := hB.at_ k
        generalize l.getD k 0 = y at *
        obtain ⟨z, hz⟩ : ∃ z, lidx y = z := ⟨_, rfl⟩
        rw [hz] at hm
        have HZ := hide hz
        have HM := hide hm
        clear hz hm hcell hrd
        by_cases hz0 : 0 ≤ z
        · have HD := hide (decide_eq_true hz0)
          go_wp2_with (go_at_call 56; refine (letterIdx _ (by omega) (by omega) _).mono ?_; rintro e w' ⟨rfl, rfl⟩; rw [HZ.out])
          go_roundw
          case rel => exact ⟨k + 1, by omega, by go_num, hide (by rw [← hx.out, HM.out, HD.out, Bool.true_and]), trivial⟩
          case measure => simp [intOf]; omega
        · have HD := hide (decide_eq_false hz0)
          go_wp2_with (go_at_call 56; refine (letterIdx _ (by omega) (by omega) _).mono ?_; rintro e w' ⟨rfl, rfl⟩; rw [HZ.out])
          go_ret
          exact ⟨ret_bool (by rw [← hx.out, HM.out, HD.out, Bool.false_and]), rfl⟩
      · have hfin : true = R := by rw [← hx.out, okFrom_end (by omega)]
        have HF := hide hfin
        clear hfin hrd
        go_wp2
        go_ret
        exact ⟨ret_bool (by rw [← HF.out]), rfl⟩
  · have HR : Hid (false = R) := by
      rw [← hR, nameOk]
      exact hide (by simp [h16])
    have hne : ((l.length : Int) != 16) = true := by simpa using (by omega : ¬ (l.length : Int) = 16)
    clear hR hrd h16
    go_enter Tryd.func34, Tryd.ntmps34
    go_wp2
    go_ret
    exact ⟨ret_bool (by rw [← HR.out]), rfl⟩

end Go.Proofs.YtnloknhcdlannaaDoor
