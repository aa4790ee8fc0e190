
/-
  A hash in plain numbers: padding, blocks one behind the other, the bytes of the result.
-/
import Derived.Test.YtnloknhcdlannaaDoorShaP
namespace Go.Proofs.YtnloknhcdlannaaDoor
open Go.RowKit

def zpad (n : Nat) : Nat := (119 - n % 64) % 64
/-- The first j of the eight bytes of the length in bits. -/
def lenB (n : Nat) : Nat → List Int
  | 0 => []
  | j + 1 => lenB n j ++ [(n : Int) * 8 / 2 ^ (8 * (7 - j)) % 256]
theorem lenB_len (n j : Nat) : (lenB n j).length = j := by
  induction j with
  | zero => rfl
  | succ j ih => rw [lenB, List.length_append, ih]; rfl
theorem lenB_byt (n j : Nat) : Byt (lenB n j) := by
  induction j with
  | zero => exact Byt.nil
  | succ j ih => exact ih.app (Byt.one (by omega) (by omega))
def zeros (n : Nat) : List Int := List.replicate n 0
theorem zeros_len (n : Nat) : (zeros n).length = n := List.length_replicate
theorem zeros_byt (n : Nat) : Byt (zeros n) := fun x hx => by
  obtain rfl := (List.mem_replicate.1 hx).2
  omega
theorem zeros_next (n : Nat) : zeros n ++ [0] = zeros (n + 1) := (List.replicate_succ' (n := n) (a := (0 : Int))).symm
/-- What stands behind a message of n bytes. -/
def tailB (n : Nat) : List Int := 128 :: zeros (zpad n) ++ lenB n 8
theorem tailB_len (n : Nat) : (tailB n).length = 1 + zpad n + 8 := by
  simp [tailB, zeros_len, lenB_len]
  omega
theorem tailB_byt (n : Nat) : Byt (tailB n) := by
  have h : Byt ([128] ++ zeros (zpad n) ++ lenB n 8) := ((Byt.one (by omega) (by omega)).app (zeros_byt _)).app (lenB_byt _ _)
  exact h
def msg (b : List Int) : List Int := b ++ tailB b.length
theorem msg_byt {b : List Int} (h : Byt b) : Byt (msg b) := h.app (tailB_byt _)
theorem pad_mod (n : Nat) : (n + (tailB n).length) % 64 = 0 := by
  rw [tailB_len, zpad]
  omega
theorem pad_le (n : Nat) : (tailB n).length ≤ 72 := by
  rw [tailB_len, zpad]
  omega
theorem msg_len (b : List Int) : (msg b).length = b.length + (tailB b.length).length := by rw [msg, List.length_append]

/-- One block. -/
def plus8 (s r : S8) : S8 := ⟨(s.a + r.a) % 4294967296, (s.b + r.b) % 4294967296, (s.c + r.c) % 4294967296, (s.d + r.d) % 4294967296, (s.e + r.e) % 4294967296, (s.f + r.f) % 4294967296, (s.g + r.g) % 4294967296, (s.h + r.h) % 4294967296⟩
theorem plus8_list (s r : S8) : (plus8 s r).list = add8 s.list r.list := rfl
theorem plus8_ok (s r : S8) : (plus8 s r).Ok := by
  refine ⟨?_, ?_, ?_, ?_, ?_, ?_, ?_, ?_⟩ <;> simp only [plus8] <;> omega
def blockS (s : S8) (b : List Int) : S8 := plus8 s (rnds (wseq b 48) 64 s)
theorem blockS_list (s : S8) (b : List Int) : (blockS s b).list = add8 s.list (rnds (wseq b 48) 64 s).list := by
  rw [blockS]
  exact plus8_list _ _
theorem blockS_ok (s : S8) (b : List Int) : (blockS s b).Ok := by
  rw [blockS]
  exact plus8_ok _ _
def blk64 (l : List Int) (i : Nat) : List Int := (l.drop (64 * i)).take 64
theorem blk_len {l : List Int} {i : Nat} (h : 64 * (i + 1) ≤ l.length) : (blk64 l i).length = 64 := by
  rw [blk64, List.length_take, List.length_drop]
  omega
theorem blk_byt {l : List Int} (h : Byt l) (i : Nat) : Byt (blk64 l i) := (h.drop _).take _
theorem blk_get {l : List Int} {i j : Nat} (hj : j < 64) : (blk64 l i).getD j 0 = l.getD (64 * i + j) 0 := by
  simp [blk64, List.getD, hj, List.getElem?_drop]
/-- All blocks. -/
def hashN (s : S8) (l : List Int) : Nat → S8
  | 0 => s
  | n + 1 => blockS (hashN s l n) (blk64 l n)
theorem hashN_ok {s : S8} (hs : s.Ok) (l : List Int) (n : Nat) : (hashN s l n).Ok := by
  cases n with
  | zero => exact hs
  | succ n => exact blockS_ok _ _
theorem blk_left {a b : List Int} {i : Nat} (h : 64 * (i + 1) ≤ a.length) : blk64 (a ++ b) i = blk64 a i := by
  rw [blk64, blk64, List.drop_append_of_le_length (by omega), List.take_append_of_le_length (by rw [List.length_drop]; omega)]
theorem blk_right {a b : List Int} {n i : Nat} (h : a.length = 64 * n) : blk64 (a ++ b) (n + i) = blk64 b i := by
  rw [blk64, blk64, List.drop_append, List.drop_eq_nil_of_le (by omega), List.nil_append, h]
  congr 2
  omega
theorem hashN_left {s : S8} {a b : List Int} {n : Nat} (h : 64 * n ≤ a.length) : hashN s (a ++ b) n = hashN s a n := by
  induction n with
  | zero => rfl
  | succ n ih => rw [hashN, hashN, ih (by omega), blk_left h]
theorem hashN_both {s : S8} {a b : List Int} {n : Nat} (h : a.length = 64 * n) (m : Nat) : hashN s (a ++ b) (n + m) = hashN (hashN s a n) b m := by
  induction m with
  | zero => exact hashN_left (by omega)
  | succ m ih => rw [← Nat.add_assoc, hashN, hashN, ih, blk_right h]

def S0 : S8 := ⟨0x6a09e667, 0xbb67ae85, 0x3c6ef372, 0xa54ff53a, 0x510e527f, 0x9b05688c, 0x1f83d9ab, 0x5be0cd19⟩
theorem S0_ok : S0.Ok := by
  refine ⟨?_, ?_, ?_, ?_, ?_, ?_, ?_, ?_⟩ <;> simp only [S0] <;> omega

/-- The bytes of words. -/
def outB : List Int → List Int
  | [] => []
  | x :: r => [x / 16777216 % 256, x / 65536 % 256, x / 256 % 256, x % 256] ++ outB r
theorem outB_len (l : List Int) : (outB l).length = 4 * l.length := by
  induction l with
  | nil => rfl
  | cons x r ih =>
    rw [outB, List.length_append, ih]
    simp
    omega
theorem outB_byt (l : List Int) : Byt (outB l) := by
  induction l with
  | nil => exact Byt.nil
  | cons x r ih =>
    rw [outB]
    refine Byt.app ?_ ih
    intro y hy
    simp only [List.mem_cons, List.not_mem_nil, or_false] at hy
    omega
theorem outB_app (a b : List Int) : outB (a ++ b) = outB a ++ outB b := by
  induction a with
  | nil => rfl
  | cons x r ih => rw [List.cons_append, outB, ih, outB, List.append_assoc]
theorem outB_next {l : List Int} {k : Nat} (h : k < l.length) :
    outB (l.take (k + 1)) = outB (l.take k) ++ [l.getD k 0 / 16777216 % 256, l.getD k 0 / 65536 % 256, l.getD k 0 / 256 % 256, l.getD k 0 % 256] := by
  rw [List.take_succ_eq_append_getElem h, outB_app]
  simp [outB, List.getD, h]

/-- What the hash of b is. -/
def shaL (b : List Int) : List Int := outB (hashN S0 (msg b) ((msg b).length / 64)).list
theorem shaL_byt (b : List Int) : Byt (shaL b) := outB_byt _
theorem shaL_len (b : List Int) : (shaL b).length = 32 := by
  rw [shaL, outB_len]
  rfl
/-- In two parts: whole blocks, and the rest with what stands behind it. -/
theorem shaL_parts (b : List Int) : shaL b = outB (hashN (hashN S0 (b.take (64 * (b.length / 64))) (b.length / 64)) (b.drop (64 * (b.length / 64)) ++ tailB b.length) ((b.drop (64 * (b.length / 64)) ++ tailB b.length).length / 64)).list := by
  have e : msg b = b.take (64 * (b.length / 64)) ++ (b.drop (64 * (b.length / 64)) ++ tailB b.length) := by
    rw [msg, ← List.append_assoc, List.take_append_drop]
  have h1 : (b.take (64 * (b.length / 64))).length = 64 * (b.length / 64) := by rw [List.length_take]; omega
  have h2 : (msg b).length / 64 = b.length / 64 + (b.drop (64 * (b.length / 64)) ++ tailB b.length).length / 64 := by
    have := pad_mod b.length
    rw [msg_len, List.length_append, List.length_drop]
    omega
  rw [shaL, h2, e, hashN_both h1]
theorem zpad_rest (b : List Int) : zpad (b.drop (64 * (b.length / 64))).length = zpad b.length := by
  rw [zpad, zpad, List.length_drop]
  congr 2
  omega
end Go.Proofs.YtnloknhcdlannaaDoor
