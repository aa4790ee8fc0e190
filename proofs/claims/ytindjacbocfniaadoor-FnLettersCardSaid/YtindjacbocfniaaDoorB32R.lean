/-
  Base32Read in plain numbers: the bytes out of the characters, and when they are just theirs.
-/
import Derived.Test.YtindjacbocfniaaDoorRune
namespace Go.Proofs.YtindjacbocfniaaDoor
open Go.RowKit

/-- The number of the t bits of f from i on. -/
def pf (f : Nat → Int) (i : Nat) : Nat → Int
  | 0 => 0
  | t + 1 => 2 * pf f i t + f (i + t)
def Bit (f : Nat → Int) : Prop := ∀ k, 0 ≤ f k ∧ f k ≤ 1
section
variable {f g : Nat → Int}
theorem part_pf (l : List Int) (i t : Nat) : part l i t = pf (bitI l) i t := by
  induction t with
  | zero => rfl
  | succ t ih => rw [part, pf, ih]
theorem pf_split (f : Nat → Int) (i a : Nat) : ∀ b, pf f i (a + b) = pf f i a * 2 ^ b + pf f (i + a) b := by
  intro b
  induction b with
  | zero => simp [pf]
  | succ b ih =>
    have e : pf f i (a + (b + 1)) = 2 * pf f i (a + b) + f (i + (a + b)) := rfl
    have e2 : pf f (i + a) (b + 1) = 2 * pf f (i + a) b + f (i + a + b) := rfl
    rw [e, e2, ih, Nat.add_assoc, Int.pow_succ, ← Int.mul_assoc]
    generalize pf f i a * 2 ^ b = q
    omega
theorem pf_pos (hf : Bit f) (i t : Nat) : 0 ≤ pf f i t ∧ pf f i t < 2 ^ t := by
  induction t with
  | zero => simp [pf]
  | succ t ih =>
    have := hf (i + t)
    rw [pf, Int.pow_succ]
    generalize (2 : Int) ^ t = q at *
    omega
theorem pf_top (hf : Bit f) (i a b : Nat) : pf f i (a + b) / 2 ^ b = pf f i a ∧ pf f i (a + b) % 2 ^ b = pf f (i + a) b := by
  have h := pf_pos hf (i + a) b
  have hp : (0 : Int) < 2 ^ b := Int.pow_pos (by omega)
  rw [pf_split]
  constructor
  · rw [Int.add_comm, Int.add_mul_ediv_right _ _ (by omega), Int.ediv_eq_zero_of_lt h.1 h.2]
    omega
  · rw [Int.add_comm, Int.add_mul_emod_self_right, Int.emod_eq_of_lt h.1 h.2]
/-- The t-th of n bits. -/
theorem pf_bit (hf : Bit f) (i : Nat) {n t : Nat} (h : t < n) : pf f i n / 2 ^ (n - 1 - t) % 2 = f (i + t) := by
  have e : n = (t + 1) + (n - 1 - t) := by omega
  have h1 := (pf_top hf i (t + 1) (n - 1 - t)).1
  rw [← e] at h1
  rw [h1, pf]
  have := hf (i + t)
  omega
theorem pf_congr (i t : Nat) (h : ∀ k, k < t → f (i + k) = g (i + k)) : pf f i t = pf g i t := by
  induction t with
  | zero => rfl
  | succ t ih => rw [pf, pf, ih (fun k hk => h k (by omega)), h t (by omega)]
theorem pf_inj (hf : Bit f) (hg : Bit g) (i t : Nat) (h : pf f i t = pf g i t) : ∀ k, k < t → f (i + k) = g (i + k) := by
  intro k hk
  rw [← pf_bit hf i hk, ← pf_bit hg i hk, h]
theorem pf_zero (i t : Nat) (h : ∀ k, k < t → f (i + k) = 0) : pf f i t = 0 := by
  induction t with
  | zero => rfl
  | succ t ih => rw [pf, ih (fun k hk => h k (by omega)), h t (by omega)]; rfl
theorem pf_zero_inv (hf : Bit f) (i t : Nat) (h : pf f i t = 0) : ∀ k, k < t → f (i + k) = 0 := by
  intro k hk
  rw [← pf_bit hf i hk, h]
  simp
end

/-- The k-th bit of five-bit groups. -/
def dbit (d : List Int) (k : Nat) : Int := d.getD (k / 5) 0 / 2 ^ (4 - k % 5) % 2
theorem dbit_bit (d : List Int) : Bit (dbit d) := fun k => by unfold dbit; omega
theorem bitI_bit (l : List Int) : Bit (bitI l) := bitI_01 l
theorem dbit_five (d : List Int) (i : Nat) (h : 0 ≤ d.getD i 0 ∧ d.getD i 0 < 32) : pf (dbit d) (5 * i) 5 = d.getD i 0 := by
  have q : ∀ t : Nat, t < 5 → (5 * i + t) / 5 = i ∧ (5 * i + t) % 5 = t := fun t ht => by omega
  simp only [pf, dbit, (q 0 (by omega)).1, (q 0 (by omega)).2, (q 1 (by omega)).1, (q 1 (by omega)).2, (q 2 (by omega)).1, (q 2 (by omega)).2, (q 3 (by omega)).1, (q 3 (by omega)).2,
    (q 4 (by omega)).1, (q 4 (by omega)).2]
  generalize d.getD i 0 = y at *
  omega
/-- The first m whole bytes. -/
def outs (d : List Int) (m : Nat) : List Int := (List.range m).map fun j => pf (dbit d) (8 * j) 8
theorem outs_len (d : List Int) (m : Nat) : (outs d m).length = m := by simp [outs]
theorem outs_succ (d : List Int) (m : Nat) : outs d (m + 1) = outs d m ++ [pf (dbit d) (8 * m) 8] := by simp [outs, List.range_succ]
theorem outs_byt (d : List Int) (m : Nat) : Byt (outs d m) := by
  intro x hx
  obtain ⟨j, _, rfl⟩ := List.mem_map.1 hx
  have := pf_pos (dbit_bit d) (8 * j) 8
  omega
theorem outs_bit (d : List Int) (m k : Nat) : bitI (outs d m) k = if k < 8 * m then dbit d k else 0 := by
  unfold bitI
  by_cases h : k < 8 * m
  · rw [if_pos h]
    have e : (outs d m).getD (k / 8) 0 = pf (dbit d) (8 * (k / 8)) 8 := by
      have hj : k / 8 < m := by omega
      simp [outs, List.getD, hj]
    rw [e]
    have hb := pf_bit (dbit_bit d) (8 * (k / 8)) (n := 8) (t := k % 8) (by omega)
    have e1 : 8 - 1 - k % 8 = 7 - k % 8 := by omega
    have e2 : 8 * (k / 8) + k % 8 = k := by omega
    rw [e1, e2] at hb
    exact hb
  · rw [if_neg h, List.getD_eq_getElem?_getD, List.getElem?_eq_none (by rw [outs_len]; omega)]
    simp
theorem grp_get (l : List Int) (k i : Nat) : (grp l k)[i]? = if k + 5 * i < 8 * l.length then some (part l (k + 5 * i) 5) else none := by
  induction i generalizing k with
  | zero =>
    by_cases h : k < 8 * l.length
    · rw [grp_more h]; simp [h]
    · rw [grp_end h]; simp [h]
  | succ i ih =>
    by_cases h : k < 8 * l.length
    · rw [grp_more h, List.getElem?_cons_succ, ih (k + 5)]
      have e : k + 5 + 5 * i = k + 5 * (i + 1) := by omega
      rw [e]
    · rw [grp_end h, if_neg (by omega)]; simp
theorem lidx_ltr : ∀ k : Fin 32, lidx (ltr k.val) = k.val := by decide +kernel

/-- The characters of the bytes are the text just where fewer than five bits are left, all 0. -/
theorem b32_outs (l : List Int) (hB : Byt l) (hc : ∀ x ∈ l, 0 ≤ lidx x) (m h : Nat) (hm : 5 * l.length = 8 * m + h) (hh : h < 8) :
    b32 (outs (l.map lidx) m) = l ↔ (h < 5 ∧ pf (dbit (l.map lidx)) (8 * m) h = 0) := by
  generalize hd : l.map lidx = d
  have hdg : ∀ i, i < l.length → d.getD i 0 = lidx (l.getD i 0) ∧ 0 ≤ d.getD i 0 ∧ d.getD i 0 < 32 ∧ ltr (d.getD i 0) = l.getD i 0 := by
    intro i hi
    have e : d.getD i 0 = lidx (l.getD i 0) := by
      rw [← hd]
      simp [List.getD, hi]
    have hy := hB.at_ i
    have hx : 0 ≤ lidx (l.getD i 0) := by
      have : l.getD i 0 = l[i] := by simp [List.getD, hi]
      rw [this]
      exact hc _ (List.getElem_mem hi)
    have hf := lidx_facts hy.1 hy.2
    rw [e]
    exact ⟨rfl, hx, hf.2.1, hf.2.2.2 hx⟩
  have hsame : ∀ i, i < l.length → (∀ k, 8 * m ≤ k → k < 5 * l.length → dbit d k = 0) → part (outs d m) (5 * i) 5 = d.getD i 0 := by
    intro i hi hz
    rw [← dbit_five d i ⟨(hdg i hi).2.1, (hdg i hi).2.2.1⟩, part_pf]
    refine pf_congr _ _ fun k hk => ?_
    rw [outs_bit]
    split
    · rfl
    · exact (hz _ (by omega) (by omega)).symm
  constructor
  · intro heq
    have hlen := congrArg List.length heq
    rw [b32_len, outs_len] at hlen
    have h5 : h < 5 := by omega
    refine ⟨h5, pf_zero _ _ fun k hk => ?_⟩
    have hi : (8 * m + k) / 5 < l.length := by omega
    have hget := congrArg (fun x : List Int => x[(8 * m + k) / 5]?) heq
    simp only [b32, List.getElem?_map, grp_get, outs_len, Nat.zero_add] at hget
    rw [if_pos (by omega)] at hget
    have hl : l[(8 * m + k) / 5]? = some (l.getD ((8 * m + k) / 5) 0) := by simp [List.getD, hi]
    rw [hl] at hget
    simp only [Option.map_some, Option.some.injEq] at hget
    have hr := part_range (outs d m) (5 * ((8 * m + k) / 5)) 5 (by omega)
    obtain ⟨q, hq⟩ := Int.eq_ofNat_of_zero_le hr.1
    have hq32 : q < 32 := by omega
    rw [hq] at hget
    have e1 : lidx (l.getD ((8 * m + k) / 5) 0) = (q : Int) := by rw [← hget]; exact lidx_ltr ⟨q, hq32⟩
    have hdi := hdg _ hi
    have e2 : pf (bitI (outs d m)) (5 * ((8 * m + k) / 5)) 5 = pf (dbit d) (5 * ((8 * m + k) / 5)) 5 := by
      rw [← part_pf, hq, dbit_five d _ ⟨hdi.2.1, hdi.2.2.1⟩, hdi.1, e1]
    have e3 := pf_inj (bitI_bit _) (dbit_bit d) _ 5 e2 ((8 * m + k) % 5) (by omega)
    have e4 : 5 * ((8 * m + k) / 5) + (8 * m + k) % 5 = 8 * m + k := by omega
    rw [e4, outs_bit, if_neg (by omega)] at e3
    exact e3.symm
  · rintro ⟨h5, hz⟩
    have hzero : ∀ k, 8 * m ≤ k → k < 5 * l.length → dbit d k = 0 := by
      intro k hk1 hk2
      have := pf_zero_inv (dbit_bit d) (8 * m) h hz (k - 8 * m) (by omega)
      have e : 8 * m + (k - 8 * m) = k := by omega
      rwa [e] at this
    refine List.ext_getElem? fun i => ?_
    simp only [b32, List.getElem?_map, grp_get, outs_len, Nat.zero_add]
    by_cases hi : i < l.length
    · rw [if_pos (by omega), hsame i hi hzero]
      simp only [Option.map_some, (hdg i hi).2.2.2]
      simp [List.getD, hi]
    · rw [if_neg (by omega), List.getElem?_eq_none (by omega)]
      rfl

/-- What Base32Read answers. -/
def b32Read (l : List Int) : List Int × Bool :=
  if 103 < l.length then ([], false)
  else if l.all (fun x => decide (0 ≤ lidx x)) then
    (if (5 * l.length) % 8 < 5 ∧ pf (dbit (l.map lidx)) (8 * (5 * l.length / 8)) ((5 * l.length) % 8) = 0 then (outs (l.map lidx) (5 * l.length / 8), true) else ([], false))
  else ([], false)

end Go.Proofs.YtindjacbocfniaaDoor
