
/-
  The model's place of a character.
-/
import Derived.Test.YtnloknhcdlannaaDoorNameOk
namespace Go.Proofs.YtnloknhcdlannaaDoor
open Go.RowKit

set_option maxRecDepth 20000 in
set_option maxHeartbeats 800000 in
theorem letterIdx (x : Int) (h0 : 0 ≤ x) (h1 : x ≤ 255) (w : World) :
    Calls Tryd.prog 56 #[.int .u8 x] w fun e w' => e = .returned (.int .i64 (lidx x)) ∧ w = w' := by
  obtain ⟨R, hR⟩ : ∃ R, lidx x = R := ⟨_, rfl⟩
  rw [hR]
  have HR := hide hR
  clear hR
  go_enter Tryd.func56, Tryd.ntmps56
  go_wp2
  go_loop [3] (fun i => ∃ k : Nat, k ≤ 32 ∧ i = .int .i64 k ∧ Hid (lfrom x (32 - k) k = R)) (fun i => 32 - (intOf i).toNat)
  case atStart => exact ⟨0, by omega, rfl, HR⟩
  case round =>
    obtain ⟨k, hk, rfl, hx⟩ := hrel
    by_cases hlt : k < 32
    · have hl := ltr_at k hlt
      have hstep : lfrom x (32 - k) k = if ltr k = x then (k : Int) else lfrom x (32 - (k + 1)) (k + 1) := by
        have e : 32 - k = (32 - (k + 1)) + 1 := by omega
        rw [e]
        rfl
      have HS := hide hstep
      clear hstep
      obtain ⟨z, hz⟩ : ∃ z, ltr k = z := ⟨_, rfl⟩
      rw [hz] at hl
      have HZ := hide hz
      clear hz
      by_cases he : z = x
      · subst he
        go_wp2
        go_ret
        refine ⟨ret_int ?_, rfl⟩
        rw [← hx.out, HS.out, if_pos HZ.out]
      · have hne : (z == x) = false := by simpa using he
        have HE := hide he
        clear he
        go_wp2
        go_round
        case rel => exact ⟨k + 1, by omega, by go_num, hide (by rw [← hx.out, HS.out, HZ.out, if_neg HE.out])⟩
        case measure => simp [intOf]; omega
    · obtain rfl : k = 32 := by omega
      go_wp2
      go_ret
      exact ⟨ret_int hx.out, rfl⟩

end Go.Proofs.YtnloknhcdlannaaDoor
