
/-
  Base32 in plain numbers: bits, groups of five, characters.
-/
import Derived.Test.YtnloknhcdlannaaDoorBase
namespace Go.Proofs.YtnloknhcdlannaaDoor
open Go.RowKit

/-- The characters. -/
def abcB : ByteArray := ⟨#[48, 49, 50, 51, 52, 53, 54, 55, 56, 57, 97, 98, 99, 100, 102, 103, 104, 105, 106, 107, 108, 109, 110, 112, 113, 114, 115, 118, 119, 120, 121, 122]⟩
def abcL : List Int := [48, 49, 50, 51, 52, 53, 54, 55, 56, 57, 97, 98, 99, 100, 102, 103, 104, 105, 106, 107, 108, 109, 110, 112, 113, 114, 115, 118, 119, 120, 121, 122]
def ltr (n : Int) : Int := abcL.getD n.toNat 0
theorem ltr_all : ∀ k : Fin 32, ((abcB[k.val]'(by simp [abcB, ByteArray.size])).toNat : Int) = ltr k.val := by decide +kernel
theorem ltr_range : ∀ k : Fin 32, 0 ≤ ltr k.val ∧ ltr k.val ≤ 255 := by decide +kernel
theorem ltr_at (k : Nat) (h : k < 32) : (((⟨#[48, 49, 50, 51, 52, 53, 54, 55, 56, 57, 97, 98, 99, 100, 102, 103, 104, 105, 106, 107, 108, 109, 110, 112, 113, 114, 115, 118, 119, 120, 121, 122]⟩ : ByteArray)[k]'(by simpa [ByteArray.size] using h)).toNat : Int) = ltr k := ltr_all ⟨k, h⟩
theorem ltr_byte {n : Int} (h0 : 0 ≤ n) (h1 : n < 32) : 0 ≤ ltr n ∧ ltr n ≤ 255 := by
  obtain ⟨k, rfl⟩ := Int.eq_ofNat_of_zero_le h0
  exact ltr_range ⟨k, by omega⟩

/-- The bits below the j-th stay. -/
theorem and_low {x : Int} (j : Nat) (hj : j ≤ 32) (h0 : 0 ≤ x) (h1 : x < 9223372036854775808) : bits .and .i64 x (2 ^ j - 1) = x % 2 ^ j := by
  obtain ⟨a, rfl⟩ := Int.eq_ofNat_of_zero_le h0
  have hp : 1 ≤ 2 ^ j := Nat.one_le_two_pow
  have hp2 : 2 ^ j ≤ 2 ^ 32 := Nat.pow_le_pow_right (by omega) hj
  have e : ((2 : Int) ^ j - 1) = ((2 ^ j - 1 : Nat) : Int) := by
    rw [Int.ofNat_sub hp]; simp
  rw [e, and64 (by omega) (by omega), Nat.and_two_pow_sub_one_eq_mod]
  simp
theorem or_below {x c : Int} (j : Nat) (hx0 : 0 ≤ x) (hx1 : x < 2 ^ j) (hc0 : 0 ≤ c) (hs : x + c * 2 ^ j < 9223372036854775808) : bits .or .i64 (c * 2 ^ j) x = c * 2 ^ j + x := by
  obtain ⟨a, rfl⟩ := Int.eq_ofNat_of_zero_le hx0
  obtain ⟨b, rfl⟩ := Int.eq_ofNat_of_zero_le hc0
  have e : ((b : Int) * 2 ^ j) = ((b * 2 ^ j : Nat) : Int) := by simp
  rw [e] at hs ⊢
  have ha : a < 2 ^ j := by
    have e2 : ((2 : Int) ^ j) = ((2 ^ j : Nat) : Int) := by simp
    rw [e2] at hx1
    omega
  rw [or64 (by omega) (by omega), Nat.mul_comm, ← Nat.two_pow_add_eq_or_of_lt ha]
  omega

/-- The k-th bit of the bytes, the highest of each first; 0 behind the last. -/
def bitI (l : List Int) (k : Nat) : Int := l.getD (k / 8) 0 / 2 ^ (7 - k % 8) % 2
theorem bitI_01 (l : List Int) (k : Nat) : 0 ≤ bitI l k ∧ bitI l k ≤ 1 := by unfold bitI; omega
/-- The number of the t bits from i on. -/
def part (l : List Int) (i : Nat) : Nat → Int
  | 0 => 0
  | t + 1 => 2 * part l i t + bitI l (i + t)
theorem part_range (l : List Int) (i t : Nat) (h : t ≤ 5) : 0 ≤ part l i t ∧ part l i t < 2 ^ t := by
  rcases (by omega : t = 0 ∨ t = 1 ∨ t = 2 ∨ t = 3 ∨ t = 4 ∨ t = 5) with rfl | rfl | rfl | rfl | rfl | rfl <;> simp only [part] <;>
    (have h0 := bitI_01 l (i + 0); have h1 := bitI_01 l (i + 1); have h2 := bitI_01 l (i + 2); have h3 := bitI_01 l (i + 3); have h4 := bitI_01 l (i + 4); omega)
theorem p_32 {t : Nat} {p : Int} (ht : t ≤ 5) (h : p < 2 ^ t) : p < 32 := by
  rcases (by omega : t = 0 ∨ t = 1 ∨ t = 2 ∨ t = 3 ∨ t = 4 ∨ t = 5) with rfl | rfl | rfl | rfl | rfl | rfl <;> omega
/-- The groups from the bit i on. -/
def grp (l : List Int) (i : Nat) : List Int := if i < 8 * l.length then part l i 5 :: grp l (i + 5) else []
termination_by 8 * l.length - i
theorem grp_more {l : List Int} {i : Nat} (h : i < 8 * l.length) : grp l i = part l i 5 :: grp l (i + 5) := by rw [grp, if_pos h]
theorem grp_end {l : List Int} {i : Nat} (h : ¬ i < 8 * l.length) : grp l i = [] := by rw [grp, if_neg h]
/-- What Base32 writes. -/
def b32 (l : List Int) : List Int := (grp l 0).map ltr
theorem grp_len (l : List Int) (i : Nat) : (grp l i).length = (8 * l.length - i + 4) / 5 := by
  by_cases h : i < 8 * l.length
  · rw [grp_more h, List.length_cons, grp_len l (i + 5)]
    omega
  · rw [grp_end h]
    simp
    omega
termination_by 8 * l.length - i
theorem grp_lt (l : List Int) (i : Nat) : ∀ x ∈ grp l i, 0 ≤ x ∧ x < 32 := by
  by_cases h : i < 8 * l.length
  · rw [grp_more h]
    intro x hx
    rcases List.mem_cons.1 hx with rfl | hx
    · exact part_range l i 5 (by omega)
    · exact grp_lt l (i + 5) x hx
  · rw [grp_end h]
    simp
termination_by 8 * l.length - i
theorem b32_len (l : List Int) : (b32 l).length = (8 * l.length + 4) / 5 := by rw [b32, List.length_map, grp_len]; omega
theorem b32_byt (l : List Int) : Byt (b32 l) := by
  intro y hy
  obtain ⟨x, hx, rfl⟩ := List.mem_map.1 hy
  have := grp_lt l 0 x hx
  exact ltr_byte this.1 this.2

theorem part_split (l : List Int) (i a : Nat) : ∀ b, part l i (a + b) = part l i a * 2 ^ b + part l (i + a) b := by
  intro b
  induction b with
  | zero => simp [part]
  | succ b ih =>
    have e : part l i (a + (b + 1)) = 2 * part l i (a + b) + bitI l (i + (a + b)) := rfl
    have e2 : part l (i + a) (b + 1) = 2 * part l (i + a) b + bitI l (i + a + b) := rfl
    rw [e, e2, ih, Nat.add_assoc, Int.pow_succ, ← Int.mul_assoc]
    generalize part l i a * 2 ^ b = q
    omega
theorem part_pos (l : List Int) (i t : Nat) : 0 ≤ part l i t ∧ part l i t < 2 ^ t := by
  induction t with
  | zero => simp [part]
  | succ t ih =>
    have := bitI_01 l (i + t)
    rw [part, Int.pow_succ]
    generalize (2 : Int) ^ t = q at *
    omega
theorem part_top (l : List Int) (i a b : Nat) : part l i (a + b) / 2 ^ b = part l i a ∧ part l i (a + b) % 2 ^ b = part l (i + a) b := by
  have h := part_pos l (i + a) b
  have hp : (0 : Int) < 2 ^ b := Int.pow_pos (by omega)
  rw [part_split]
  constructor
  · rw [Int.add_comm, Int.add_mul_ediv_right _ _ (by omega), Int.ediv_eq_zero_of_lt h.1 h.2]
    omega
  · rw [Int.add_comm, Int.add_mul_emod_self_right, Int.emod_eq_of_lt h.1 h.2]
theorem part_byte (l : List Int) (hB : Byt l) (k : Nat) : part l (8 * k) 8 = l.getD k 0 := by
  have hy := hB.at_ k
  have q : ∀ t : Nat, t < 8 → (8 * k + t) / 8 = k ∧ (8 * k + t) % 8 = t := fun t ht => by omega
  simp only [part, bitI, (q 0 (by omega)).1, (q 0 (by omega)).2, (q 1 (by omega)).1, (q 1 (by omega)).2, (q 2 (by omega)).1, (q 2 (by omega)).2, (q 3 (by omega)).1, (q 3 (by omega)).2,
    (q 4 (by omega)).1, (q 4 (by omega)).2, (q 5 (by omega)).1, (q 5 (by omega)).2, (q 6 (by omega)).1, (q 6 (by omega)).2, (q 7 (by omega)).1, (q 7 (by omega)).2]
  generalize l.getD k 0 = y at *
  omega
theorem part_over (l : List Int) (i t : Nat) (h : 8 * l.length ≤ i) : part l i t = 0 := by
  induction t with
  | zero => rfl
  | succ t ih =>
    rw [part, ih]
    unfold bitI
    rw [List.getD_eq_getElem?_getD, List.getElem?_eq_none (by omega)]
    simp

end Go.Proofs.YtnloknhcdlannaaDoor
