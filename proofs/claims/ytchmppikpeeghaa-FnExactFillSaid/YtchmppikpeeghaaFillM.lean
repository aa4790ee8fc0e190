/-
  The program's closure over the arguments.
-/
import Derived.Test.YtchmppikpeeghaaFillP
import Derived.Test.YtchmppikpeeghaaNameOkI
import Derived.RangeFuncBox
namespace Go.Proofs.Ytchmppikpeeghaa
open Go.RowKit
set_option linter.unusedVariables false

theorem names_form {w : World} {v : Value} {ns : List (List Int)} (hn : RdN w v ns) : ∃ (A : Option Addr) (c : Nat), v = .slice A ns.length c ∧ ns.length ≤ c ∧ c ≤ maxLen := by
  obtain ⟨vs, ⟨A, c, e, h1, h2, _⟩, h4, _⟩ := hn
  rw [h4] at e h1
  exact ⟨A, c, e, h1, h2⟩

set_option maxHeartbeats 800000 in
theorem meantNone (args : List (List Int)) (ha10 : args.length ≤ 10) (va : Value) (g : Nat) (w : World) (hbox : Boxed w g 23 va) (hn : RdN w va args) (y : Int) (y0 : 0 ≤ y) (y1 : y ≤ 255) (hm : mean args y = none) :
    Calls Try.prog 75 #[.int .u8 y, .pointer (some ⟨g, 0, none⟩)] w fun e w' => e = .returned (.slice none 0 0) ∧ Below w.heap.size w w' := by
  obtain ⟨A, c, rfl, hc1, hc2⟩ := names_form hn
  have hy36 : y ≠ 36 := fun h => by rw [h, mean_dollar] at hm; cases hm
  have hbad : y < 48 ∨ (args.length : Int) ≤ y - 48 := by
    rw [mean, if_neg hy36] at hm
    by_cases h : y < 48 ∨ (args.length : Int) ≤ y - 48
    · exact h
    · rw [if_neg h] at hm; cases hm
  have hne : (y == 36) = false := by simpa using hy36
  have q0 := hbox.cell
  generalize args.length = K at *
  unfold maxLen at hc2
  clear hn hbox hm
  rcases (by omega : y < 48 ∨ (48 ≤ y ∧ (K : Int) ≤ y - 48)) with h | ⟨h, h1⟩
  · clear hbad
    go_enter Try.func75, Try.ntmps75
    go_wp2
    go_ret
    exact ⟨rfl, Below.refl _ _⟩
  · clear hbad
    have h2 : (y - 48) % 256 = y - 48 := by omega
    go_enter Try.func75, Try.ntmps75
    go_wp2
    go_ret
    exact ⟨rfl, Below.refl _ _⟩

set_option maxHeartbeats 800000 in
theorem meantSome (args : List (List Int)) (ha : allNm args = true) (ha10 : args.length ≤ 10) (va : Value) (g : Nat) (w : World) (hbox : Boxed w g 23 va) (hn : RdN w va args) (y : Int) (y0 : 0 ≤ y) (y1 : y ≤ 255) (t : List Int) (hm : mean args y = some t) :
    Calls Try.prog 75 #[.int .u8 y, .pointer (some ⟨g, 0, none⟩)] w fun e w' => ∃ a n c, e = .returned (.slice (some a) n c) ∧ Rd w' (.slice (some a) n c) (bs t) ∧ Below w.heap.size w w' := by
  obtain ⟨A, c, rfl, hc1, hc2⟩ := names_form hn
  unfold maxLen at hc2
  have q0 := hbox.cell
  by_cases hy36 : y = 36
  · subst hy36
    rw [mean_dollar] at hm
    injection hm with hm
    subst hm
    clear hbox hn
    go_enter Try.func75, Try.ntmps75
    go_wp2
    go_ret
    exact ⟨_, _, _, rfl, rd_one _ _ _, (Below.refl _ _).alloc (Nat.le_refl _) _⟩
  · rw [mean, if_neg hy36] at hm
    by_cases hbad : y < 48 ∨ (args.length : Int) ≤ y - 48
    · rw [if_pos hbad] at hm; cases hm
    · rw [if_neg hbad] at hm
      injection hm with hm
      have hne : (y == 36) = false := by simpa using hy36
      obtain ⟨m, hmm⟩ : ∃ m, (y - 48).toNat = m := ⟨_, rfl⟩
      rw [hmm] at hm
      have hmK : m < args.length := by omega
      obtain ⟨b2, off2, un, hA2, hb2, cun, run⟩ := hn.get hmK
      subst hA2
      rw [hm] at run
      have h16 : 0 < t.length := by
        have := List.all_eq_true.1 ha t (by rw [← hm]; simp [List.getD, List.getElem?_eq_getElem hmK])
        rw [nameOk_len this]
        omega
      obtain ⟨Au, cu, hu, _, _, hru⟩ := id run
      obtain ⟨bu, offu, rfl, _⟩ := hru (by rw [bs_length]; exact h16)
      have g0 : 48 ≤ y := by omega
      have g1 : y - 48 < (args.length : Int) := by omega
      have g2 : 0 ≤ y - 48 := by omega
      have g4 : (y - 48) % 256 = y - 48 := by omega
      have RUN := hide run
      subst hu
      generalize args.length = K at *
      clear hbox hn hm hru run hbad
      go_enter Try.func75, Try.ntmps75
      go_wp2
      go_ret
      exact ⟨_, _, _, rfl, RUN.out, Below.refl _ _⟩

end Go.Proofs.Ytchmppikpeeghaa
