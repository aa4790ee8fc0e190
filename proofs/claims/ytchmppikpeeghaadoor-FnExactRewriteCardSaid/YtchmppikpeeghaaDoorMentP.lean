/-
  Does a text stand in another one? In plain numbers, and in the library's words.
-/
import Derived.Test.YtchmppikpeeghaaDoorNameOk
import Derived.Lib.IndexMore
import Derived.Lib.IndexBytes
import Derived.Shelf.Bytes.SlIndexWhole
namespace Go.Proofs.YtchmppikpeeghaaDoor
open Go.RowKit
set_option linter.unusedVariables false

/-- The text n stands in b at the place i. -/
def atL (b n : List Int) (i : Nat) : Bool := decide (i + n.length ≤ b.length ∧ (b.drop i).take n.length = n)
def contF (b n : List Int) : Nat → Nat → Bool
  | 0, _ => false
  | f + 1, i => atL b n i || contF b n f (i + 1)
def contL (b n : List Int) : Bool := contF b n (b.length + 1) 0
theorem contF_more {b n : List Int} {k : Nat} (h : k ≤ b.length) : contF b n (b.length + 1 - k) k = (atL b n k || contF b n (b.length + 1 - (k + 1)) (k + 1)) := by
  have e : b.length + 1 - k = (b.length + 1 - (k + 1)) + 1 := by omega
  rw [e, contF]
theorem contF_end {b n : List Int} : ∀ {f k : Nat}, b.length < k + n.length → contF b n f k = false
  | 0, _, _ => rfl
  | f + 1, k, h => by
    rw [contF, contF_end (f := f) (k := k + 1) (by omega), atL, decide_eq_false (fun h2 => by omega)]
    rfl
theorem contF_iff {b n : List Int} : ∀ {f k : Nat}, contF b n f k = true ↔ ∃ i, k ≤ i ∧ i < k + f ∧ atL b n i = true
  | 0, k => ⟨fun h => (by cases h), fun ⟨i, h1, h2, _⟩ => (by omega)⟩
  | f + 1, k => by
    rw [contF, Bool.or_eq_true, contF_iff (f := f) (k := k + 1)]
    constructor
    · rintro (h | ⟨i, h1, h2, h3⟩)
      · exact ⟨k, Nat.le_refl _, by omega, h⟩
      · exact ⟨i, by omega, by omega, h3⟩
    · rintro ⟨i, h1, h2, h3⟩
      by_cases h : i = k
      · subst h; exact .inl h3
      · exact .inr ⟨i, by omega, by omega, h3⟩
theorem contL_iff {b n : List Int} : contL b n = true ↔ ∃ i, atL b n i = true := by
  rw [contL, contF_iff]
  constructor
  · rintro ⟨i, _, _, h⟩; exact ⟨i, h⟩
  · rintro ⟨i, h⟩
    have h2 := of_decide_eq_true h
    exact ⟨i, Nat.zero_le _, by omega, h⟩
theorem bytesOf_len (l : List Int) : (Lib.bytesOf l).length = l.length := by simp [Lib.bytesOf]
theorem bytesOf_part (l : List Int) (i k : Nat) : Lib.bytesOf ((l.drop i).take k) = ((Lib.bytesOf l).drop i).take k := by simp [Lib.bytesOf, List.map_drop, List.map_take]
theorem bytesOf_inj {a b : List Int} (ha : Byt a) (hb : Byt b) (h : Lib.bytesOf a = Lib.bytesOf b) : a = b :=
  str_inj ha hb (by rw [Lib.toList_data, Lib.toList_data]; exact h)
theorem atL_occ {b n : List Int} (hb : Byt b) (hn : Byt n) {i : Nat} (hi : i + n.length ≤ b.length) : Lib.occAt (Lib.bytesOf b) (Lib.bytesOf n) i = atL b n i := by
  rw [Lib.occAt_iff_take _ _ _ (by rw [bytesOf_len, bytesOf_len]; exact hi), bytesOf_len, ← bytesOf_part, atL]
  by_cases h : (b.drop i).take n.length = n
  · rw [h, decide_eq_true ⟨hi, rfl⟩]; simp
  · rw [decide_eq_false (fun h2 => h h2.2)]
    simp only [beq_eq_false_iff_ne]
    exact fun e => h (bytesOf_inj ((hb.drop i).take _) hn e)
theorem contL_lib {b n : List Int} (hb : Byt b) (hn : Byt n) (h0 : 0 < n.length) : Lib.contains (Lib.bytesOf b) (Lib.bytesOf n) = contL b n := by
  rw [Lib.contains]
  rcases Lib.index_spec (Lib.bytesOf b) (Lib.bytesOf n) with ⟨h1, h2⟩ | ⟨i, h1, h2, h3, _⟩
  · rw [h1]
    symm
    show contL b n = false
    rw [Bool.eq_false_iff]
    intro h
    obtain ⟨i, hi⟩ := contL_iff.1 h
    have hi2 := (of_decide_eq_true hi).1
    have := h2 i (by rw [bytesOf_len]; omega)
    rw [atL_occ hb hn hi2, hi] at this
    cases this
  · rw [h1, decide_eq_true (by omega)]
    symm
    rcases Lib.occAt_room h3 with h4 | h4
    · rw [bytesOf_len, bytesOf_len] at h4
      exact contL_iff.2 ⟨i, by rw [← atL_occ hb hn h4]; exact h3⟩
    · have : n.length = 0 := by rw [← bytesOf_len, h4]; rfl
      omega

/-- What Mentions answers. -/
def mentL (b n : List Int) : Bool := nameOk n && contL b n

end Go.Proofs.YtchmppikpeeghaaDoor
