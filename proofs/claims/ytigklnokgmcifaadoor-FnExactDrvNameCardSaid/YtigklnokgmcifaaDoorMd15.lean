/-
  Parts of the proof: Entry.
-/
import Derived.Test.YtigklnokgmcifaaDoorMd4
import Derived.Test.YtigklnokgmcifaaDoorMd2
import Derived.Lib.OthersKept

/-
  EntryOk: the model and the program agree on what an entry name is.
-/
namespace Go.Proofs.YtigklnokgmcifaaDoor
open Go.RowKit
set_option linter.unusedVariables false

def entryChar (x : Int) : Bool := decide ((97 ≤ x ∧ x ≤ 122) ∨ (48 ≤ x ∧ x ≤ 57) ∨ x = 46 ∨ x = 45)
def entryFrom (l : List Int) (k : Nat) : Bool := (l.drop k).all entryChar
def entryOk (l : List Int) : Bool := decide (1 ≤ l.length ∧ l.length ≤ 8 ∧ l.getD 0 0 ≠ 46) && entryFrom l 0
theorem entryFrom_more {l : List Int} {k : Nat} (h : k < l.length) : entryFrom l k = (entryChar (l.getD k 0) && entryFrom l (k + 1)) := by
  unfold entryFrom
  rw [List.drop_eq_getElem_cons h, List.all_cons]
  simp [List.getD, List.getElem?_eq_getElem h]
theorem entryFrom_end {l : List Int} {k : Nat} (h : l.length ≤ k) : entryFrom l k = true := by
  unfold entryFrom
  rw [List.drop_eq_nil_of_le h]
  rfl
theorem entryOk_out {l : List Int} (h : ¬ (1 ≤ l.length ∧ l.length ≤ 8 ∧ l.getD 0 0 ≠ 46)) : entryOk l = false := by
  rw [entryOk, decide_eq_false h, Bool.false_and]
theorem entryOk_in {l : List Int} (h : 1 ≤ l.length ∧ l.length ≤ 8 ∧ l.getD 0 0 ≠ 46) : entryOk l = entryFrom l 0 := by
  rw [entryOk, decide_eq_true h, Bool.true_and]

set_option maxRecDepth 20000 in
set_option maxHeartbeats 1600000 in
theorem specEntryOk (l : List Int) (hB : Byt l) (v : Value) (w : World) (hv : Rd w v (bs l)) :
    Calls Tryd.prog 29 #[v] w fun e w' => e = .returned (.bool (entryOk l)) ∧ Below w.heap.size w w' := by
  obtain ⟨A, c, rfl, hc1, hc2, hrd⟩ := hv
  rw [bs_length] at *
  unfold maxLen at hc2
  obtain ⟨R, hR⟩ : ∃ R, entryOk l = R := ⟨_, rfl⟩
  rw [hR]
  rcases (by omega : l.length = 0 ∨ 8 < l.length ∨ (1 ≤ l.length ∧ l.length ≤ 8)) with h0 | h9 | ⟨h1, h8⟩
  · rw [entryOk_out (by omega)] at hR
    subst hR
    clear hrd
    go_enter Tryd.func29, Tryd.ntmps29
    go_wp2
    go_ret
    exact ⟨rfl, Below.refl _ _⟩
  · rw [entryOk_out (by omega)] at hR
    subst hR
    clear hrd
    go_enter Tryd.func29, Tryd.ntmps29
    go_wp2
    go_ret
    exact ⟨rfl, Below.refl _ _⟩
  · obtain ⟨b, off, rfl, hblt, hcell⟩ := hrd (by omega)
    have hfst : w.cell? ⟨b, off, none⟩ = some (.int .u8 (l.getD 0 0)) := by
      have := hcell 0 _ (bs_get (by omega))
      simpa using this
    by_cases h46 : l.getD 0 0 = 46
    · rw [entryOk_out (by omega)] at hR
      rw [h46] at hfst
      subst hR
      clear hrd hcell h46
      go_enter Tryd.func29, Tryd.ntmps29
      go_wp2
      go_ret
      exact ⟨rfl, Below.refl _ _⟩
    · rw [entryOk_in ⟨h1, h8, h46⟩] at hR
      obtain ⟨z0, hz0⟩ : ∃ z0, l.getD 0 0 = z0 := ⟨_, rfl⟩
      rw [hz0] at hfst h46
      have hne : (z0 == 46) = false := by simpa using h46
      have HR := hide hR
      have HC := hide hcell
      clear hR hrd hcell hz0 h46
      go_enter Tryd.func29, Tryd.ntmps29
      go_wp2
      go_loopw [3] (fun i wr => ∃ k : Nat, k ≤ l.length ∧ i = .int .i64 k ∧ Hid (entryFrom l k = R) ∧ Below w.heap.size w wr) (fun i _ => l.length - (intOf i).toNat)
      case atStart => exact ⟨0, by omega, rfl, HR, Below.refl _ _⟩
      case round =>
        obtain ⟨k, hk, rfl, hx, hbel⟩ := hrel
        by_cases hlt : k < l.length
        · have hin : wr.cell? ⟨b, off + k, none⟩ = some (.int .u8 (l.getD k 0)) := (hbel.cell (p := ⟨b, off + k, none⟩) hblt).trans (HC.out k _ (bs_get hlt))
          have hm := entryFrom_more hlt
          obtain ⟨y0, y1⟩ := hB.at_ k
          generalize l.getD k 0 = y at *
          have HB := hide hbel
          clear hbel hfst hne
          rcases (by omega : (97 ≤ y ∧ y ≤ 122) ∨ (48 ≤ y ∧ y ≤ 57) ∨ y = 46 ∨ y = 45 ∨ y < 45 ∨ y = 47 ∨ (57 < y ∧ y < 97) ∨ 122 < y) with hy | hy | hy | hy | hy | hy | hy | hy
          · have hm2 : entryFrom l k = entryFrom l (k + 1) := by rw [hm, entryChar, decide_eq_true (by omega), Bool.true_and]
            have HM := hide hm2
            clear hm hm2
            obtain ⟨y2, y3⟩ := hy
            go_wp2
            go_roundw
            case rel => exact ⟨k + 1, by omega, by go_num, hide (by rw [← hx.out, HM.out]), HB.out⟩
            case measure => simp [intOf]; omega
          · have hm2 : entryFrom l k = entryFrom l (k + 1) := by rw [hm, entryChar, decide_eq_true (by omega), Bool.true_and]
            have HM := hide hm2
            clear hm hm2
            obtain ⟨y2, y3⟩ := hy
            go_wp2
            go_roundw
            case rel => exact ⟨k + 1, by omega, by go_num, hide (by rw [← hx.out, HM.out]), HB.out⟩
            case measure => simp [intOf]; omega
          · have hm2 : entryFrom l k = entryFrom l (k + 1) := by rw [hm, entryChar, decide_eq_true (by omega), Bool.true_and]
            have HM := hide hm2
            clear hm hm2
            subst hy
            go_wp2
            go_roundw
            case rel => exact ⟨k + 1, by omega, by go_num, hide (by rw [← hx.out, HM.out]), HB.out⟩
            case measure => simp [intOf]; omega
          · have hm2 : entryFrom l k = entryFrom l (k + 1) := by rw [hm, entryChar, decide_eq_true (by omega), Bool.true_and]
            have HM := hide hm2
            clear hm hm2
            subst hy
            go_wp2
            go_roundw
            case rel => exact ⟨k + 1, by omega, by go_num, hide (by rw [← hx.out, HM.out]), HB.out⟩
            case measure => simp [intOf]; omega
          all_goals
            have hm2 : entryFrom l k = false := by rw [hm, entryChar, decide_eq_false (by omega), Bool.false_and]
            have q1 : (y != 46) = true := by simpa using (by omega : ¬ y = 46)
            have q2 : (y != 45) = true := by simpa using (by omega : ¬ y = 45)
            try obtain ⟨y2, y3⟩ := hy
            try have y4 : ¬ y ≤ 57 := by omega
            try have y5 : ¬ y ≤ 122 := by omega
            have HM := hide hm2
            clear hm hm2
            go_wp2
            go_ret
            exact ⟨ret_bool (by rw [← hx.out, HM.out]), HB.out⟩
        · have hfin : true = R := by rw [← hx.out, entryFrom_end (by omega)]
          have HF := hide hfin
          have HB := hide hbel
          clear hfin hbel
          go_wp2
          go_ret
          exact ⟨ret_bool (by rw [← HF.out]), HB.out⟩

/-- The characters of an entry as a string. -/
def entS : ByteArray := ⟨#[97, 98, 99, 100, 101, 102, 103, 104, 105, 106, 107, 108, 109, 110, 111, 112, 113, 114, 115, 116, 117, 118, 119, 120, 121, 122, 48, 49, 50, 51, 52, 53, 54, 55, 56, 57, 46, 45]⟩
theorem entS_all : ∀ n : Fin 256, decide (firstIdx entS (UInt8.ofNat n.val) < 0) = !entryChar n.val := by decide +kernel
theorem entS_idx {y : Int} (h0 : 0 ≤ y) (h1 : y ≤ 255) : decide (firstIdx entS y.toNat.toUInt8 < 0) = !entryChar y := by
  obtain ⟨n, rfl⟩ := Int.eq_ofNat_of_zero_le h0
  exact entS_all ⟨n, by omega⟩

theorem ext_indexByte (s : ByteArray) (c : Int) (W : World) : (callFunc 135 #[.string s, .int .u8 c]).run Tryd.prog W = .ok (.value (.int .i64 (firstIdx s c.toNat.toUInt8))) W := by
  rw [run_callFunc_extern Tryd.func135 (by kernel_rfl) (by kernel_rfl) (by kernel_rfl) (e := Extern.BytealgIndexByte.indexByte) (by kernel_rfl), run_indexByte_string]
  rfl
set_option maxHeartbeats 400000 in
theorem indexByteLow (s : ByteArray) (c : Int) (w : World) :
    Calls Tryd.prog 131 #[.string s, .int .u8 c] w fun e w' => e = .returned (.int .i64 (firstIdx s c.toNat.toUInt8)) ∧ w = w' := by
  have hx := ext_indexByte s c
  go_enter Tryd.func131, Tryd.ntmps131
  go_wp2
  go_ret
  exact ⟨rfl, rfl⟩
set_option maxHeartbeats 400000 in
theorem indexByteAny (s : ByteArray) (c : Int) (w : World) :
    Calls Tryd.prog 119 #[.string s, .int .u8 c] w fun e w' => e = .returned (.int .i64 (firstIdx s c.toNat.toUInt8)) ∧ w = w' := by
  go_enter Tryd.func119, Tryd.ntmps119
  go_wp2_with (go_at_call 131; (with_reducible refine (indexByteLow s c w).mono ?_); rintro e w' ⟨rfl, rfl⟩)
  go_ret
  exact ⟨rfl, rfl⟩

set_option maxRecDepth 20000 in
set_option maxHeartbeats 1600000 in
theorem implEntryOk (l : List Int) (hB : Byt l) (v : Value) (w : World) (hv : Rd w v (bs l)) :
    Calls Tryd.prog 99 #[v] w fun e w' => e = .returned (.bool (entryOk l)) ∧ Below w.heap.size w w' := by
  obtain ⟨A, c, rfl, hc1, hc2, hrd⟩ := hv
  rw [bs_length] at *
  unfold maxLen at hc2
  obtain ⟨R, hR⟩ : ∃ R, entryOk l = R := ⟨_, rfl⟩
  rw [hR]
  rcases (by omega : l.length = 0 ∨ 8 < l.length ∨ (1 ≤ l.length ∧ l.length ≤ 8)) with h0 | h9 | ⟨h1, h8⟩
  · rw [entryOk_out (by omega)] at hR
    subst hR
    clear hrd
    go_enter Tryd.func99, Tryd.ntmps99
    go_wp2
    go_ret
    exact ⟨rfl, Below.refl _ _⟩
  · rw [entryOk_out (by omega)] at hR
    subst hR
    clear hrd
    go_enter Tryd.func99, Tryd.ntmps99
    go_wp2
    go_ret
    exact ⟨rfl, Below.refl _ _⟩
  · obtain ⟨b, off, rfl, hblt, hcell⟩ := hrd (by omega)
    have hfst : w.cell? ⟨b, off, none⟩ = some (.int .u8 (l.getD 0 0)) := by
      have := hcell 0 _ (bs_get (by omega))
      simpa using this
    by_cases h46 : l.getD 0 0 = 46
    · rw [entryOk_out (by omega)] at hR
      rw [h46] at hfst
      subst hR
      clear hrd hcell h46
      go_enter Tryd.func99, Tryd.ntmps99
      go_wp2
      go_ret
      exact ⟨rfl, Below.refl _ _⟩
    · rw [entryOk_in ⟨h1, h8, h46⟩] at hR
      obtain ⟨z0, hz0⟩ : ∃ z0, l.getD 0 0 = z0 := ⟨_, rfl⟩
      rw [hz0] at hfst h46
      have hne : (z0 == 46) = false := by simpa using h46
      have HR := hide hR
      have HC := hide hcell
      clear hR hrd hcell hz0 h46
      go_enter Tryd.func99, Tryd.ntmps99
      go_wp2
      go_loopw [21] (fun i wr => ∃ k : Nat, k ≤ l.length ∧ i = .int .i64 k ∧ Hid (entryFrom l k = R) ∧ Below w.heap.size w wr) (fun i _ => l.length - (intOf i).toNat)
      case atStart => exact ⟨0, by omega, rfl, HR, Below.refl _ _⟩
      case round =>
        obtain ⟨k, hk, rfl, hx, hbel⟩ := hrel
        by_cases hlt : k < l.length
        · have hin : wr.cell? ⟨b, off + k, none⟩ = some (.int .u8 (l.getD k 0)) := (hbel.cell (p := ⟨b, off + k, none⟩) hblt).trans (HC.out k _ (bs_get hlt))
          have hm := entryFrom_more hlt
          obtain ⟨y0, y1⟩ := hB.at_ k
          generalize l.getD k 0 = y at *
          have HB := hide hbel
          clear hbel hfst hne
          have hidx := entS_idx y0 y1
          have hcall := indexByteAny entS y wr
          generalize firstIdx entS y.toNat.toUInt8 = z at *
          by_cases hy : entryChar y = true
          · rw [hy] at hm hidx
            rw [Bool.true_and] at hm
            have hz : ¬ z < 0 := by simpa using hidx
            have HM := hide hm
            clear hm hidx hy
            go_wp2_with (go_at_call 119; refine hcall.mono ?_; rintro e w' ⟨rfl, rfl⟩)
            go_roundw
            case rel => exact ⟨k + 1, by omega, by go_num, hide (by rw [← hx.out, HM.out]), HB.out⟩
            case measure => simp [intOf]; omega
          · have hy2 : entryChar y = false := by simpa using hy
            rw [hy2] at hm hidx
            rw [Bool.false_and] at hm
            have hz : z < 0 := by simpa using hidx
            have HM := hide hm
            clear hm hidx hy hy2
            go_wp2_with (go_at_call 119; refine hcall.mono ?_; rintro e w' ⟨rfl, rfl⟩)
            go_ret
            exact ⟨ret_bool (by rw [← hx.out, HM.out]), HB.out⟩
        · have hfin : true = R := by rw [← hx.out, entryFrom_end (by omega)]
          have HF := hide hfin
          have HB := hide hbel
          clear hfin hbel
          go_wp2
          go_ret
          exact ⟨ret_bool (by rw [← HF.out]), HB.out⟩

end Go.Proofs.YtigklnokgmcifaaDoor
