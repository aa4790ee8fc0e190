/-
  GetText: the model and the program read the same bytes.
-/
import Derived.Test.YtopdflifgimadaaNumL
import Derived.Test.YtopdflifgimadaaPutI
namespace Go.Proofs.Ytopdflifgimadaa
open Go.RowKit

/-- What GetText answers. -/
def getText (l : List Int) (at_ : Int) : List Int × Int :=
  if (getNum l at_).2 < 0 ∨ 400 < (getNum l at_).1 ∨ l.length - (getNum l at_).2 < (getNum l at_).1 then ([], -1)
  else ((l.drop (getNum l at_).2.toNat).take (getNum l at_).1.toNat, (getNum l at_).2 + (getNum l at_).1)

theorem gnum_range (l : List Int) (hB : Byt l) (at_ : Nat) : ∀ (f k : Nat) (x : Int), 0 ≤ x →
    (gnum l at_ f k x = (0, -1)) ∨ (0 ≤ (gnum l at_ f k x).1 ∧ (gnum l at_ f k x).1 ≤ 2147483647 ∧ 0 < (gnum l at_ f k x).2 ∧ (gnum l at_ f k x).2 ≤ l.length) := by
  intro f
  induction f with
  | zero => intro k x _; exact .inl rfl
  | succ f ih =>
    intro k x hx
    by_cases h : at_ + k < l.length
    · have hy := hB.at_ (at_ + k)
      have hp : 0 ≤ l.getD (at_ + k) 0 % 128 * 128 ^ k := Int.mul_nonneg (by omega) (by exact Int.pow_nonneg (by omega))
      by_cases h1 : l.getD (at_ + k) 0 < 128
      · by_cases h2 : (l.getD (at_ + k) 0 = 0 ∧ 0 < k) ∨ 2147483647 < x + l.getD (at_ + k) 0 % 128 * 128 ^ k
        · exact .inl (gnum_bad h rfl h1 h2)
        · rw [gnum_good h rfl h1 h2]
          refine .inr ⟨?_, ?_, ?_, ?_⟩ <;> dsimp only <;> omega
      · rw [gnum_more h rfl h1]
        exact ih _ _ (by omega)
    · exact .inl (gnum_none h)

theorem getNum_range (l : List Int) (hB : Byt l) (at_ : Int) :
    (getNum l at_ = (0, -1)) ∨ (0 ≤ (getNum l at_).1 ∧ (getNum l at_).1 ≤ 2147483647 ∧ 0 < (getNum l at_).2 ∧ (getNum l at_).2 ≤ l.length) := by
  unfold getNum
  by_cases h : at_ < 0
  · rw [if_pos h]; exact .inl rfl
  · rw [if_neg h]; exact gnum_range l hB _ 5 0 0 (by omega)

/-- A part of a slice that reads as l. -/
theorem Rd.part {w : World} {b off c k n : Nat} {l : List Int} (h : ∀ i u, (bs l)[i]? = some u → w.cell? ⟨b, off + i, none⟩ = some u) (hb : b < w.heap.size) (hk : k + n ≤ l.length) (hc : l.length ≤ c) (hc2 : c ≤ maxLen) {n' : Nat} (hn : n' = n) :
    Rd w (.slice (some ⟨b, off + k, none⟩) n' (c - k)) (bs ((l.drop k).take n)) := by
  subst hn
  have e : (bs ((l.drop k).take n')).length = n' := by rw [bs_length, List.length_take, List.length_drop]; omega
  refine ⟨some ⟨b, off + k, none⟩, c - k, by rw [e], by omega, by omega, fun _ => ⟨b, off + k, rfl, hb, fun i u hu => ?_⟩⟩
  obtain ⟨hi, rfl⟩ := bs_get_inv hu
  have hin : i < n' := by rw [List.length_take] at hi; omega
  have h1 := h (k + i) _ (bs_get (by omega))
  rw [Nat.add_assoc, h1]
  simp [List.getD, hin]
theorem Rd.empty {w : World} {A : Option Addr} {n c : Nat} (hn : n = 0) (hc2 : c ≤ maxLen) : Rd w (.slice A n c) (bs []) := by
  subst hn
  exact ⟨A, c, rfl, Nat.zero_le _, hc2, fun h => by simp [bs] at h⟩

set_option maxRecDepth 20000 in
set_option maxHeartbeats 800000 in
theorem specGetText (l : List Int) (hB : Byt l) (v : Value) (at_ : Int) (w : World) (hv : Rd w v (bs l)) (ha : at_ ≤ 9223372036854775807) (hl : l.length ≤ 1099511627776) :
    Calls Try.prog 20 #[v, .int .i64 at_] w fun e w' => ∃ v', e = .returned (.tuple #[v', .int .i64 (getText l at_).2]) ∧ Own 5 w.heap.size w'.heap.size w' v' (bs (getText l at_).1) ∧ Below w.heap.size w w' := by
  obtain ⟨i0, hi0, hz0, hz1, hz2⟩ := info_parts u8info
  obtain ⟨A, c, hV, hc1, hc2, hrd⟩ := id hv
  rw [bs_length] at *
  subst hV
  have HV := hide hv
  clear hv
  have hr := getNum_range l hB at_
  unfold getText
  obtain ⟨R, hR⟩ : ∃ R, getNum l at_ = R := ⟨_, rfl⟩
  rw [hR] at hr ⊢
  have HR := hide hR
  clear hR
  obtain ⟨n, p⟩ := R
  dsimp only at hr ⊢
  by_cases hbad : p < 0 ∨ 400 < n ∨ l.length - p < n
  · rw [if_pos hbad]
    have HG : Hid (p < 0 ∨ 0 ≤ n ∧ n ≤ 2147483647 ∧ 0 < p ∧ p ≤ l.length) := hide (by
      rcases hr with h | h
      · injection h with h1 h2; left; omega
      · right; exact h)
    clear hr hrd
    dsimp only
    by_cases h1 : p < 0
    · clear hbad
      unfold maxLen at hc2
      go_enter Try.func20, Try.ntmps20
      go_wp2_with fail
      refine (specGetNumAny l hB _ at_ w HV.out ha (by omega)).mono ?_
      rintro e w1 ⟨rfl, b1⟩
      rw [HR.out]
      go_wp2_with fail
      go_ret2
      exact ⟨_, rfl, Own.of (World.ownsRow_nil _ _ _ _) rfl, b1⟩
    · obtain ⟨g1, g2, g3, g4⟩ := HG.out.resolve_left h1
      by_cases h2 : 400 < n
      · clear hbad
        unfold maxLen at hc2
        go_enter Try.func20, Try.ntmps20
        go_wp2_with fail
        refine (specGetNumAny l hB _ at_ w HV.out ha (by omega)).mono ?_
        rintro e w1 ⟨rfl, b1⟩
        rw [HR.out]
        go_wp2_with fail
        go_ret2
        exact ⟨_, rfl, Own.of (World.ownsRow_nil _ _ _ _) rfl, b1⟩
      · have h3 : l.length - p < n := by omega
        clear hbad
        unfold maxLen at hc2
        go_enter Try.func20, Try.ntmps20
        go_wp2_with fail
        refine (specGetNumAny l hB _ at_ w HV.out ha (by omega)).mono ?_
        rintro e w1 ⟨rfl, b1⟩
        rw [HR.out]
        go_wp2_with fail
        go_ret2
        exact ⟨_, rfl, Own.of (World.ownsRow_nil _ _ _ _) rfl, b1⟩
  · rw [if_neg hbad]
    dsimp only
    have HG : 0 ≤ n ∧ n ≤ 2147483647 ∧ 0 < p ∧ p ≤ l.length := by
      rcases hr with h | h
      · injection h with h1 h2; omega
      · exact h
    clear hr
    obtain ⟨g1, g2, g3, g4⟩ := HG
    obtain ⟨nn, rfl⟩ := Int.eq_ofNat_of_zero_le g1
    obtain ⟨pn, rfl⟩ := Int.eq_ofNat_of_zero_le (by omega : 0 ≤ p)
    obtain ⟨b, off, rfl, hblt, hcell⟩ := hrd (by omega)
    have hs : pn + nn ≤ l.length := by omega
    rw [Int.toNat_natCast, Int.toNat_natCast]
    have h400 : nn ≤ 400 := by omega
    have HC := hide hcell
    clear hcell hrd hbad g1 g4
    by_cases hcap : c = pn
    · subst hcap
      obtain rfl : nn = 0 := by omega
      have hM := hide hc2
      unfold maxLen at hc2
      go_enter Try.func20, Try.ntmps20
      go_wp2_with fail
      refine (specGetNumAny l hB _ at_ w HV.out ha (by omega)).mono ?_
      rintro e w1 ⟨rfl, b1⟩
      rw [HR.out]
      go_wp2_with (at_builtin; refine wpList_app _ rfl (.tmp 28) (.tmp 34) _ rfl w1.heap.size 5 i0 _ 1 Try.underlying22 hi0 hz0 hz1 hz2 rfl _ 0 [] rfl (own_lit0 w1 _) _ (bs []) rfl (Rd.empty (by omega) (by simp only [maxLen]; omega)) (bs_one []) (by simp [bs]) (by simp [bs]) (by simp) ?_; intro v2 w2 own2 gr2)
      go_ret2
      refine ⟨v2, by simp, ?_, b1.trans ((below_app0 gr2).mono b1.size)⟩
      rw [List.take_zero]
      exact (Own.of own2 (by simp [bs])).wide b1.size (Nat.le_refl _) (Nat.le_refl _)
    · have hM := hide hc2
      unfold maxLen at hc2
      go_enter Try.func20, Try.ntmps20
      go_wp2_with fail
      refine (specGetNumAny l hB _ at_ w HV.out ha (by omega)).mono ?_
      rintro e w1 ⟨rfl, b1⟩
      rw [HR.out]
      have hpart : Rd w1 (.slice (some ⟨b, off + pn, none⟩) (pn + nn - pn) (c - pn)) (bs ((l.drop pn).take nn)) := Rd.part (fun i u hu => (b1.cell (p := ⟨b, off + i, none⟩) hblt).trans (HC.out i u hu)) (Nat.lt_of_lt_of_le hblt b1.size) hs hc1 hM.out (by omega)
      obtain ⟨Z, hZ⟩ : ∃ Z, (l.drop pn).take nn = Z := ⟨_, rfl⟩
      have hZl : Z.length ≤ 400 := by rw [← hZ, List.length_take]; omega
      rw [hZ] at hpart
      have HP := hide hpart
      have HZ := hide hZ
      clear hpart hZ
      go_wp2_with (at_builtin; refine wpList_app _ rfl (.tmp 28) (.tmp 34) _ rfl w1.heap.size 5 i0 _ 1 Try.underlying22 hi0 hz0 hz1 hz2 rfl _ 0 [] rfl (own_lit0 w1 _) _ (bs Z) rfl (HP.out.alloc _) (bs_one Z) (by rw [bs_length]; simp only [maxLen]; omega) (by rw [bs_length]; omega) (by simp) ?_; intro v2 w2 own2 gr2)
      go_ret2
      refine ⟨_, rfl, ?_, b1.trans ((below_app0 gr2).mono b1.size)⟩
      rw [HZ.out]
      exact (Own.of (own_cells own2 (List.nil_append _)) (by simp)).wide b1.size (Nat.le_refl _) (Nat.le_refl _)

set_option maxRecDepth 20000 in
set_option maxHeartbeats 800000 in
theorem implGetText (l : List Int) (hB : Byt l) (v : Value) (at_ : Int) (w : World) (hv : Rd w v (bs l)) (hl : l.length ≤ 1099511627776) :
    Calls Try.prog 21 #[v, .int .i64 at_] w fun e w' => ∃ v', e = .returned (.tuple #[v', .int .i64 (getText l at_).2]) ∧ Own 5 w.heap.size w'.heap.size w' v' (bs (getText l at_).1) ∧ Below w.heap.size w w' := by
  obtain ⟨A, c, hV, hc1, hc2, hrd⟩ := id hv
  rw [bs_length] at *
  subst hV
  have HV := hide hv
  clear hv
  have hr := getNum_range l hB at_
  unfold getText
  obtain ⟨R, hR⟩ : ∃ R, getNum l at_ = R := ⟨_, rfl⟩
  rw [hR] at hr ⊢
  have HR := hide hR
  clear hR
  obtain ⟨n, p⟩ := R
  dsimp only at hr ⊢
  by_cases hbad : p < 0 ∨ 400 < n ∨ l.length - p < n
  · rw [if_pos hbad]
    have HG : Hid (p < 0 ∨ 0 ≤ n ∧ n ≤ 2147483647 ∧ 0 < p ∧ p ≤ l.length) := hide (by
      rcases hr with h | h
      · injection h with h1 h2; left; omega
      · right; exact h)
    clear hr hrd
    dsimp only
    by_cases h1 : p < 0
    · clear hbad
      unfold maxLen at hc2
      go_enter Try.func21, Try.ntmps21
      go_wp2_with fail
      refine (implGetNumAny l hB _ at_ w HV.out (by omega)).mono ?_
      rintro e w1 ⟨rfl, b1⟩
      rw [HR.out]
      go_wp2_with fail
      go_ret2
      exact ⟨_, rfl, Own.of (World.ownsRow_nil _ _ _ _) rfl, b1⟩
    · obtain ⟨g1, g2, g3, g4⟩ := HG.out.resolve_left h1
      by_cases h2 : 400 < n
      · clear hbad
        unfold maxLen at hc2
        go_enter Try.func21, Try.ntmps21
        go_wp2_with fail
        refine (implGetNumAny l hB _ at_ w HV.out (by omega)).mono ?_
        rintro e w1 ⟨rfl, b1⟩
        rw [HR.out]
        go_wp2_with fail
        go_ret2
        exact ⟨_, rfl, Own.of (World.ownsRow_nil _ _ _ _) rfl, b1⟩
      · have h3 : l.length - p < n := by omega
        clear hbad
        unfold maxLen at hc2
        go_enter Try.func21, Try.ntmps21
        go_wp2_with fail
        refine (implGetNumAny l hB _ at_ w HV.out (by omega)).mono ?_
        rintro e w1 ⟨rfl, b1⟩
        rw [HR.out]
        go_wp2_with fail
        go_ret2
        exact ⟨_, rfl, Own.of (World.ownsRow_nil _ _ _ _) rfl, b1⟩
  · rw [if_neg hbad]
    dsimp only
    have HG : 0 ≤ n ∧ n ≤ 2147483647 ∧ 0 < p ∧ p ≤ l.length := by
      rcases hr with h | h
      · injection h with h1 h2; omega
      · exact h
    clear hr
    obtain ⟨g1, g2, g3, g4⟩ := HG
    obtain ⟨nn, rfl⟩ := Int.eq_ofNat_of_zero_le g1
    obtain ⟨pn, rfl⟩ := Int.eq_ofNat_of_zero_le (by omega : 0 ≤ p)
    obtain ⟨b, off, rfl, hblt, hcell⟩ := hrd (by omega)
    have hs : pn + nn ≤ l.length := by omega
    rw [Int.toNat_natCast, Int.toNat_natCast]
    have h400 : nn ≤ 400 := by omega
    have HC := hide hcell
    clear hcell hrd hbad g1 g4
    by_cases hcap : c = pn
    · subst hcap
      obtain rfl : nn = 0 := by omega
      have hM := hide hc2
      unfold maxLen at hc2
      go_enter Try.func21, Try.ntmps21
      go_wp2_with fail
      refine (implGetNumAny l hB _ at_ w HV.out (by omega)).mono ?_
      rintro e w1 ⟨rfl, b1⟩
      rw [HR.out]
      go_wp2_with fail
      refine (clone [] _ w1 (Rd.empty (by omega) (by simp only [maxLen]; omega)) (by simp)).mono ?_
      rintro e w2 ⟨v2, rfl, own2, b2⟩
      go_wp2_with fail
      go_ret2
      refine ⟨v2, by simp, ?_, b1.trans (b2.mono b1.size)⟩
      rw [List.take_zero]
      exact (Own.of own2 (by simp [bs])).wide b1.size (Nat.le_refl _) (Nat.le_refl _)
    · have hM := hide hc2
      unfold maxLen at hc2
      go_enter Try.func21, Try.ntmps21
      go_wp2_with fail
      refine (implGetNumAny l hB _ at_ w HV.out (by omega)).mono ?_
      rintro e w1 ⟨rfl, b1⟩
      rw [HR.out]
      have hpart : Rd w1 (.slice (some ⟨b, off + pn, none⟩) nn (c - pn)) (bs ((l.drop pn).take nn)) := Rd.part (fun i u hu => (b1.cell (p := ⟨b, off + i, none⟩) hblt).trans (HC.out i u hu)) (Nat.lt_of_lt_of_le hblt b1.size) hs hc1 hM.out (by omega)
      obtain ⟨Z, hZ⟩ : ∃ Z, (l.drop pn).take nn = Z := ⟨_, rfl⟩
      have hZl : Z.length ≤ 400 := by rw [← hZ, List.length_take]; omega
      rw [hZ] at hpart
      have HP := hide hpart
      have HZ := hide hZ
      clear hpart hZ
      go_wp2_with fail
      refine (clone Z _ w1 HP.out (by omega)).mono ?_
      rintro e w2 ⟨v2, rfl, own2, b2⟩
      go_wp2_with fail
      go_ret2
      refine ⟨_, rfl, ?_, b1.trans (b2.mono b1.size)⟩
      rw [HZ.out]
      exact (Own.of own2 (by simp [bs])).wide b1.size (Nat.le_refl _) (Nat.le_refl _)

theorem getText_room (l : List Int) (at_ : Int) (hl : l.length ≤ 1048576) : (getText l at_).1.length ≤ 1099511627776 := by
  unfold getText
  split
  · simp
  · rw [List.length_take, List.length_drop]
    omega

end Go.Proofs.Ytopdflifgimadaa
