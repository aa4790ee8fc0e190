/-
  Parts of the proof: Name.
-/
import Derived.Test.YtigklnokgmcifaaDoorMd26
import Derived.Test.YtigklnokgmcifaaDoorMd27

/-
  NameOf: the model and the program give the same characters.
-/
namespace Go.Proofs.YtigklnokgmcifaaDoor
open Go.RowKit
set_option linter.unusedVariables false

/-- What NameOf answers. -/
def nameOf (k : Int) (l : List Int) : List Int := if 90000 < l.length then [] else b32 ((shaL (k :: l)).take 10)
theorem sha10_len (l : List Int) : ((shaL l).take 10).length = 10 := by rw [List.length_take, shaL_len]; rfl
theorem sha10_byt (l : List Int) : Byt ((shaL l).take 10) := (shaL_byt l).take 10
theorem nameOf_room (k : Int) (l : List Int) (_ : l.length ≤ 1048576) : (nameOf k l).length ≤ 1099511627776 := by
  unfold nameOf
  split
  · simp
  · rw [b32_len, sha10_len]; omega
theorem base32_ten (l : List Int) : base32 ((shaL l).take 10) = b32 ((shaL l).take 10) := by
  rw [base32, if_neg (by rw [sha10_len]; omega)]

/-- The first ten elements of a row of 32. -/
theorem Rd.ten {w : World} {A : Option Addr} {c : Nat} {l : List Int} (h : Rd w (.slice A 32 c) (bs (shaL l))) : ∃ b off, A = some ⟨b, off, none⟩ ∧ 32 ≤ c ∧ c ≤ maxLen ∧ Rd w (.slice A 10 c) (bs ((shaL l).take 10)) := by
  obtain ⟨A2, c2, e, h1, h2, h3⟩ := h
  rw [bs_length, shaL_len] at *
  injection e with e1 _ e2
  subst e1 e2
  obtain ⟨b, off, rfl, hb, hc⟩ := h3 (by omega)
  refine ⟨b, off, rfl, h1, h2, ?_⟩
  have := Rd.part hc hb (k := 0) (n := 10) (by rw [shaL_len]; omega) (by rw [shaL_len]; exact h1) h2 rfl
  simpa using this

set_option maxRecDepth 20000 in
set_option maxHeartbeats 800000 in
theorem specName (k : Int) (hk : 0 ≤ k ∧ k ≤ 255) (l : List Int) (hB : Byt l) (v : Value) (w : World) (hv : Rd w v (bs l)) (hl : l.length ≤ 90000) :
    Calls Tryd.prog 46 #[.int .u8 k, v] w fun e w' => ∃ v', e = .returned v' ∧ Own 5 w.heap.size w'.heap.size w' v' (bs (b32 ((shaL (k :: l)).take 10))) ∧ Below w.heap.size w w' := by
  obtain ⟨i0, hi0, hz0, hz1, hz2⟩ := info_parts u8info
  have hB2 : Byt (k :: l) := (Byt.one hk.1 hk.2).app hB
  obtain ⟨A, c, hV, hc1, hc2, _⟩ := id hv
  rw [bs_length] at *
  unfold maxLen at hc2
  subst hV
  have HV := hide hv
  clear hv
  have own1 : (w.alloc (.cells #[.int .u8 k] 5)).ownsRow w.heap.size 5 1 (.slice (some ⟨w.heap.size, 0, none⟩) 1 1) 1 (bs [k]) := World.ownsRow_lit w #[.int .u8 k] 1 (by omega) (by simp [maxLen]) rfl
  go_enter Tryd.func46, Tryd.ntmps46
  go_wp2_with (first
    | (at_builtin; refine wpList_app _ rfl _ _ _ rfl w.heap.size 5 i0 _ 1 Tryd.underlying22 hi0 hz0 hz1 hz2 rfl _ _ _ rfl own1 _ (bs l) rfl (HV.out.alloc _) (bs_one l) (by rw [bs_length]; simp only [maxLen]; omega) (by rw [bs_length]; omega) (by simp) ?_; intro v1 w1 own2 gr1; have b1 : Below w.heap.size w w1 := Below.row ((Below.refl _ _).alloc (Nat.le_refl _) _) (by simp) own1 gr1; have r1 : Rd w1 v1 (bs (k :: l)) := (Own.of (own_cells own2 (bs_append [k] l).symm) (by simp [bs]; omega)).rd)
    | (go_at_call 79; (with_reducible refine (specSum (k :: l) hB2 v1 w1 r1 (by simp; omega)).mono ?_); rintro e w2 ⟨v2, rfl, o2, b2⟩; obtain ⟨A2, c2, rfl, hc3, hc4⟩ := own_slice o2.1; rw [bs_length, shaL_len] at *; obtain ⟨bb, off, rfl, hc5, hc6, r2⟩ := o2.rd.ten; unfold maxLen at hc6)
    | (go_at_call 78; (with_reducible refine (specBase ((shaL (k :: l)).take 10) (sha10_byt _) _ w2 r2 (by rw [sha10_len]; omega)).mono ?_); rintro e w3 ⟨v3, rfl, o3, b3⟩))
  go_ret
  have c2' : Below w.heap.size w w2 := b1.trans (b2.mono b1.size)
  exact ⟨_, rfl, o3.wide c2'.size (Nat.le_refl _) (Nat.le_refl _), c2'.trans (b3.mono c2'.size)⟩

set_option maxRecDepth 20000 in
set_option maxHeartbeats 800000 in
theorem implNameOf (k : Int) (hk : 0 ≤ k ∧ k ≤ 255) (l : List Int) (hB : Byt l) (v : Value) (w : World) (hv : Rd w v (bs l)) (hT : Tab w) :
    Calls Tryd.prog 51 #[.int .u8 k, v] w fun e w' => ∃ v', e = .returned v' ∧ Own 5 w.heap.size w'.heap.size w' v' (bs (nameOf k l)) ∧ Below w.heap.size w w' := by
  obtain ⟨i0, hi0, hz0, hz1, hz2⟩ := info_parts u8info
  have hB2 : Byt (k :: l) := (Byt.one hk.1 hk.2).app hB
  obtain ⟨A, c, hV, hc1, hc2, _⟩ := id hv
  rw [bs_length] at *
  unfold maxLen at hc2
  subst hV
  have HT := hide hT
  clear hT
  by_cases h : 90000 < l.length
  · rw [nameOf, if_pos h]
    clear hv
    go_enter Tryd.func51, Tryd.ntmps51
    go_wp2
    go_ret
    exact ⟨_, rfl, Own.of (World.ownsRow_nil _ _ _ _) rfl, Below.refl _ _⟩
  · rw [nameOf, if_neg h]
    have HV := hide hv
    clear hv
    have own1 : (w.alloc (.cells #[.int .u8 k] 5)).ownsRow w.heap.size 5 1 (.slice (some ⟨w.heap.size, 0, none⟩) 1 1) 1 (bs [k]) := World.ownsRow_lit w #[.int .u8 k] 1 (by omega) (by simp [maxLen]) rfl
    have hsh : sha256 (k :: l) = shaL (k :: l) := by rw [sha256, if_neg (by simp; omega)]
    have hbs : base32 ((shaL (k :: l)).take 10) = b32 ((shaL (k :: l)).take 10) := base32_ten _
    rw [← hbs]
    clear hbs
    go_enter Tryd.func51, Tryd.ntmps51
    go_wp2_with (first
      | (at_builtin; refine wpList_app _ rfl _ _ _ rfl w.heap.size 5 i0 _ 1 Tryd.underlying22 hi0 hz0 hz1 hz2 rfl _ _ _ rfl own1 _ (bs l) rfl (HV.out.alloc _) (bs_one l) (by rw [bs_length]; simp only [maxLen]; omega) (by rw [bs_length]; omega) (by simp) ?_; intro v1 w1 own2 gr1; have b1 : Below w.heap.size w w1 := Below.row ((Below.refl _ _).alloc (Nat.le_refl _) _) (by simp) own1 gr1; have r1 : Rd w1 v1 (bs (k :: l)) := (Own.of (own_cells own2 (bs_append [k] l).symm) (by simp [bs]; omega)).rd; have hsha := implSha (k :: l) hB2 v1 w1 r1 (HT.out.step b1); rw [hsh] at hsha)
      | (go_at_call 85; (with_reducible refine hsha.mono ?_); rintro e w2 ⟨v2, rfl, o2, b2⟩; obtain ⟨A2, c2, rfl, hc3, hc4⟩ := own_slice o2.1; rw [bs_length, shaL_len] at *; obtain ⟨bb, off, rfl, hc5, hc6, r2⟩ := o2.rd.ten; unfold maxLen at hc6)
      | (go_at_call 86; (with_reducible refine (implBase32 ((shaL (k :: l)).take 10) (sha10_byt _) _ w2 r2).mono ?_); rintro e w3 ⟨v3, rfl, o3, b3⟩))
    go_ret
    have c2' : Below w.heap.size w w2 := b1.trans (b2.mono b1.size)
    exact ⟨_, rfl, o3.wide c2'.size (Nat.le_refl _) (Nat.le_refl _), c2'.trans (b3.mono c2'.size)⟩

end Go.Proofs.YtigklnokgmcifaaDoor
