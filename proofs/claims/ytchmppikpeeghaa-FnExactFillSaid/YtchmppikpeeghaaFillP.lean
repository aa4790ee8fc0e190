/-
  Filling a text, in plain numbers.
-/
import Derived.Test.YtchmppikpeeghaaNameOk
import Derived.Test.YtchmppikpeeghaaOkS
namespace Go.Proofs.Ytchmppikpeeghaa
open Go.RowKit
set_option linter.unusedVariables false

/-- What a dollar sign and c stand for. -/
def mean (args : List (List Int)) (c : Int) : Option (List Int) :=
  if c = 36 then some [36] else if c < 48 ∨ (args.length : Int) ≤ c - 48 then none else some (args.getD (c - 48).toNat [])
def fillA (b : List Int) (args : List (List Int)) : Nat → Nat → List Int → Option (List Int)
  | 0, _, out => some out
  | f + 1, i, out =>
    if i < b.length then
      if b.getD i 0 = 36 then
        if i + 1 < b.length then (mean args (b.getD (i + 1) 0)).bind fun t => fillA b args f (i + 2) (out ++ t)
        else none
      else fillA b args f (i + 1) (out ++ [b.getD i 0])
    else some out
section
variable {b : List Int} {args : List (List Int)} {f i : Nat} {out : List Int}
theorem fillA_end (h : b.length ≤ i) : fillA b args f i out = some out := by
  cases f with
  | zero => rfl
  | succ f => rw [fillA, if_neg (by omega)]
theorem fillA_plain {x : Int} (h : i < b.length) (hx : b.getD i 0 = x) (h1 : x ≠ 36) : fillA b args (f + 1) i out = fillA b args f (i + 1) (out ++ [x]) := by
  subst hx
  rw [fillA, if_pos h, if_neg h1]
theorem fillA_last (h : i < b.length) (hx : b.getD i 0 = 36) (h1 : ¬ i + 1 < b.length) : fillA b args (f + 1) i out = none := by
  rw [fillA, if_pos h, if_pos hx, if_neg h1]
theorem fillA_mark {c : Int} (h : i < b.length) (hx : b.getD i 0 = 36) (h1 : i + 1 < b.length) (hc : b.getD (i + 1) 0 = c) : fillA b args (f + 1) i out = (mean args c).bind fun t => fillA b args f (i + 2) (out ++ t) := by
  subst hc
  rw [fillA, if_pos h, if_pos hx, if_pos h1]
end
theorem mean_dollar (args : List (List Int)) : mean args 36 = some [36] := rfl
theorem mean_none {args : List (List Int)} {c : Int} (h : c ≠ 36) (h1 : c < 48 ∨ (args.length : Int) ≤ c - 48) : mean args c = none := by
  rw [mean, if_neg h, if_pos h1]
theorem mean_arg {args : List (List Int)} {c : Int} {m : Nat} (h : 48 ≤ c) (hm : (c - 48).toNat = m) (h1 : m < args.length) : mean args c = some (args.getD m []) := by
  rw [mean, if_neg (by omega), if_neg (by omega), hm]

/-- What Fill answers. -/
def allNm (args : List (List Int)) : Bool := args.all nameOk
def fillR (b : List Int) (args : List (List Int)) : Option (List Int) :=
  if allNm args = true ∧ b.length ≤ 400 ∧ args.length ≤ 10 then fillA b args (b.length + 1) 0 [] else none
theorem nameOk_len {l : List Int} (h : nameOk l = true) : l.length = 16 := by
  rw [nameOk, Bool.and_eq_true, decide_eq_true_eq] at h
  exact h.1
theorem allNm_at {args : List (List Int)} (h : allNm args = true) (m : Nat) : (args.getD m []).length ≤ 16 := by
  rcases Nat.lt_or_ge m args.length with hm | hm
  · have := List.all_eq_true.1 h (args.getD m []) (by simp [List.getD, List.getElem?_eq_getElem hm])
    rw [nameOk_len this]
    omega
  · simp [List.getD, List.getElem?_eq_none hm]
theorem fillA_room (b : List Int) (args : List (List Int)) (ha : allNm args = true) : ∀ (f i : Nat) (out R : List Int), i ≤ b.length → out.length ≤ 16 * i → fillA b args f i out = some R → R.length ≤ 16 * b.length := by
  intro f
  induction f with
  | zero =>
    intro i out R hi ho h
    rw [fillA] at h
    injection h with h
    subst h
    omega
  | succ f ih =>
    intro i out R hi ho h
    by_cases h1 : i < b.length
    · by_cases h2 : b.getD i 0 = 36
      · by_cases h3 : i + 1 < b.length
        · rw [fillA_mark h1 h2 h3 rfl] at h
          cases hm : mean args (b.getD (i + 1) 0) with
          | none => rw [hm] at h; cases h
          | some t =>
            rw [hm] at h
            have ht : t.length ≤ 16 := by
              rw [mean] at hm
              split at hm
              · injection hm with hm; subst hm; simp
              · split at hm
                · cases hm
                · injection hm with hm; subst hm; exact allNm_at ha _
            exact ih (i + 2) (out ++ t) R (by omega) (by rw [List.length_append]; omega) h
        · rw [fillA_last h1 h2 h3] at h
          cases h
      · rw [fillA_plain h1 rfl h2] at h
        exact ih (i + 1) _ R (by omega) (by rw [List.length_append, List.length_singleton]; omega) h
    · rw [fillA_end (by omega)] at h
      injection h with h
      subst h
      omega
theorem fillR_room (b : List Int) (args : List (List Int)) : ((fillR b args).getD []).length ≤ 1099511627776 := by
  rw [fillR]
  split
  · rename_i h
    cases hr : fillA b args (b.length + 1) 0 [] with
    | none => simp
    | some R =>
      have := fillA_room b args h.1 _ 0 [] R (Nat.zero_le _) (by simp) hr
      simp only [Option.getD_some]
      omega
  · simp

end Go.Proofs.Ytchmppikpeeghaa
