/-
  One name in the place of another one: the search, and the number of places.
-/
import Derived.Test.YtchmppikpeeghaaDoorRewP
import Derived.Test.YtchmppikpeeghaaDoorMentP
import Derived.Lib.CountLaws
namespace Go.Proofs.YtchmppikpeeghaaDoor
open Go.RowKit
set_option linter.unusedVariables false

theorem atL_drop {l f : List Int} (h0 : 0 < f.length) (k i : Nat) : atL (l.drop k) f i = atL l f (k + i) := by
  unfold atL
  rw [List.drop_drop, List.length_drop, Bool.eq_iff_iff, decide_eq_true_eq, decide_eq_true_eq]
  constructor
  · rintro ⟨h1, h2⟩; exact ⟨by omega, h2⟩
  · rintro ⟨h1, h2⟩; exact ⟨by omega, h2⟩
theorem rwF_none {f t : List Int} (h0 : 0 < f.length) : ∀ (n : Nat) (l : List Int), (∀ i, atL l f i = false) → rwF f t n l = l
  | 0, l, _ => rfl
  | n + 1, l, h => by
    by_cases hl : f.length ≤ l.length
    · have h1 := h 0
      rw [rwF_miss hl (fun e => by rw [atL, decide_eq_true ⟨by omega, by simpa using e⟩] at h1; cases h1), rwF_none h0 n (l.drop 1) (fun i => by rw [atL_drop h0]; exact h _), List.take_append_drop]
    · exact rwF_end hl
theorem rwF_at {f t : List Int} (h0 : 0 < f.length) : ∀ (i : Nat) (l : List Int) (n : Nat), (∀ j, j < i → atL l f j = false) → atL l f i = true → l.length < n →
    ∃ m, l.length - (i + f.length) < m ∧ rwF f t n l = l.take i ++ t ++ rwF f t m (l.drop (i + f.length))
  | 0, l, n, _, h, hn => by
    obtain ⟨m, rfl⟩ : ∃ m, n = m + 1 := ⟨n - 1, by omega⟩
    obtain ⟨h1, h2⟩ := of_decide_eq_true h
    rw [Nat.zero_add] at h1
    refine ⟨m, by omega, ?_⟩
    rw [rwF_hit h1 (by simpa using h2), Nat.zero_add]
    simp
  | i + 1, l, n, hb, h, hn => by
    obtain ⟨m, rfl⟩ : ∃ m, n = m + 1 := ⟨n - 1, by omega⟩
    obtain ⟨h1, h2⟩ := of_decide_eq_true h
    have hz := hb 0 (by omega)
    have hl : f.length ≤ l.length := by omega
    obtain ⟨m2, hm2, e2⟩ := rwF_at h0 i (l.drop 1) m (fun j hj => by rw [atL_drop h0, Nat.add_comm]; exact hb _ (by omega)) (by rw [atL_drop h0, Nat.add_comm]; exact h) (by rw [List.length_drop]; omega)
    rw [List.length_drop] at hm2
    refine ⟨m2, by omega, ?_⟩
    rw [rwF_miss hl (fun e => by rw [atL, decide_eq_true ⟨by omega, by simpa using e⟩] at hz; cases hz), e2, List.drop_drop, ← List.append_assoc, ← List.append_assoc]
    have e3 : l.take 1 ++ (l.drop 1).take i = l.take (i + 1) := by
      rw [Nat.add_comm i 1, List.take_add]
    rw [e3, show 1 + (i + f.length) = i + 1 + f.length by omega]

theorem cnt_zero {l f t : List Int} (hl : Byt l) (hf : Byt f) (h0 : 0 < f.length) (hc : Lib.count (Lib.bytesOf l) (Lib.bytesOf f) = 0) (n : Nat) : rwF f t n l = l := by
  have hne : Lib.bytesOf f ≠ [] := fun e => by have := congrArg List.length e; rw [bytesOf_len] at this; simp at this; rw [this] at h0; simp at h0
  rcases Lib.index_spec (Lib.bytesOf l) (Lib.bytesOf f) with ⟨h1, h2⟩ | ⟨i, h1, h2, h3, h4⟩
  · refine rwF_none h0 n l fun i => ?_
    by_cases hi : i + f.length ≤ l.length
    · rw [← atL_occ hl hf hi]
      exact h2 i (by rw [bytesOf_len]; omega)
    · rw [atL, decide_eq_false (fun h => hi h.1)]
  · rw [Lib.count_hit hne h1] at hc
    omega
theorem cnt_next {l f t : List Int} {c : Nat} (hl : Byt l) (hf : Byt f) (h0 : 0 < f.length) (hc : Lib.count (Lib.bytesOf l) (Lib.bytesOf f) = c + 1) (n : Nat) (hn : l.length < n) :
    ∃ i m, Lib.index (Lib.bytesOf l) (Lib.bytesOf f) = (i : Nat) ∧ i + f.length ≤ l.length ∧ Lib.count (Lib.bytesOf (l.drop (i + f.length))) (Lib.bytesOf f) = c ∧ l.length - (i + f.length) < m ∧ rwF f t n l = l.take i ++ t ++ rwF f t m (l.drop (i + f.length)) := by
  have hne : Lib.bytesOf f ≠ [] := fun e => by have := congrArg List.length e; rw [bytesOf_len] at this; simp at this; rw [this] at h0; simp at h0
  rcases Lib.index_spec (Lib.bytesOf l) (Lib.bytesOf f) with ⟨h1, h2⟩ | ⟨i, h1, h2, h3, h4⟩
  · rw [Lib.count_miss h1] at hc
    omega
  · have hfit : i + f.length ≤ l.length := by
      have := (Lib.occAt_room h3).resolve_right hne
      rw [bytesOf_len, bytesOf_len] at this
      exact this
    have h5 := Lib.count_hit hne h1
    rw [hc, bytesOf_len] at h5
    have e : (Lib.bytesOf l).drop (i + f.length) = Lib.bytesOf (l.drop (i + f.length)) := by simp [Lib.bytesOf]
    rw [e] at h5
    obtain ⟨m, hm, e2⟩ := rwF_at (t := t) h0 i l n (fun j hj => by
      by_cases hjf : j + f.length ≤ l.length
      · rw [← atL_occ hl hf hjf]; exact h4 j hj
      · rw [atL, decide_eq_false (fun h => hjf h.1)]) (by rw [← atL_occ hl hf hfit]; exact h3) hn
    exact ⟨i, m, h1, hfit, by omega, hm, e2⟩

end Go.Proofs.YtchmppikpeeghaaDoor
