
/-
  A hash in plain numbers: the schedule, the rounds, a block.
-/
import Derived.Test.YtnloknhcdlannaaDoorSha1
namespace Go.Proofs.YtnloknhcdlannaaDoor
open Go.RowKit

def U32 (l : List Int) : Prop := ∀ x ∈ l, 0 ≤ x ∧ x ≤ 4294967295
theorem U32.at_ {l : List Int} (h : U32 l) (i : Nat) : 0 ≤ l.getD i 0 ∧ l.getD i 0 ≤ 4294967295 := by
  rw [List.getD]
  rcases Nat.lt_or_ge i l.length with hi | hi
  · rw [List.getElem?_eq_getElem hi]
    exact h _ (List.getElem_mem hi)
  · rw [List.getElem?_eq_none hi]
    simp
theorem U32.app {a b : List Int} (ha : U32 a) (hb : U32 b) : U32 (a ++ b) := fun x hx => (List.mem_append.1 hx).elim (ha x) (hb x)
theorem U32.take {l : List Int} (h : U32 l) (n : Nat) : U32 (l.take n) := fun x hx => h x (List.mem_of_mem_take hx)
theorem U32.one {x : Int} (h0 : 0 ≤ x) (h1 : x ≤ 4294967295) : U32 [x] := fun y hy => by
  obtain rfl := List.mem_singleton.1 hy
  exact ⟨h0, h1⟩
theorem U32.zeros (n : Nat) : U32 (List.replicate n 0) := fun x hx => by
  have := (List.mem_replicate.1 hx).2
  omega

def xo (a b : Int) : Int := bits .xor .u32 a b
def sg0 (x : Int) : Int := bits .xor .u32 (bits .xor .u32 (rot 7 x) (rot 18 x)) (x / 8)
def sg1 (x : Int) : Int := bits .xor .u32 (bits .xor .u32 (rot 17 x) (rot 19 x)) (x / 1024)
theorem sg0_32 (x : Int) : 0 ≤ sg0 x ∧ sg0 x ≤ 4294967295 := bits32 _ _ _
theorem sg1_32 (x : Int) : 0 ≤ sg1 x ∧ sg1 x ≤ 4294967295 := bits32 _ _ _

/-- The j-th word of a block. -/
def word (b : List Int) (j : Nat) : Int := b.getD (4 * j) 0 * 16777216 + b.getD (4 * j + 1) 0 * 65536 + b.getD (4 * j + 2) 0 * 256 + b.getD (4 * j + 3) 0
theorem word_32 {b : List Int} (hB : Byt b) (j : Nat) : 0 ≤ word b j ∧ word b j ≤ 4294967295 := by
  have h0 := hB.at_ (4 * j)
  have h1 := hB.at_ (4 * j + 1)
  have h2 := hB.at_ (4 * j + 2)
  have h3 := hB.at_ (4 * j + 3)
  unfold word
  omega
def first16 (b : List Int) : List Int := (List.range 16).map (word b)
/-- The word that is put behind ws. -/
def nextw (ws : List Int) : Int :=
  (ws.getD (ws.length - 16) 0 + sg0 (ws.getD (ws.length - 15) 0) + ws.getD (ws.length - 7) 0 + sg1 (ws.getD (ws.length - 2) 0)) % 4294967296
def wseq (b : List Int) : Nat → List Int
  | 0 => first16 b
  | n + 1 => wseq b n ++ [nextw (wseq b n)]
theorem wseq_len (b : List Int) (n : Nat) : (wseq b n).length = 16 + n := by
  induction n with
  | zero => simp [wseq, first16]
  | succ n ih => rw [wseq, List.length_append, ih]; rfl
theorem nextw_32 (ws : List Int) : 0 ≤ nextw ws ∧ nextw ws ≤ 4294967295 := by unfold nextw; omega
theorem wseq_32 {b : List Int} (hB : Byt b) (n : Nat) : U32 (wseq b n) := by
  induction n with
  | zero =>
    intro x hx
    obtain ⟨j, _, rfl⟩ := List.mem_map.1 hx
    exact word_32 hB j
  | succ n ih => exact ih.app (U32.one (nextw_32 _).1 (nextw_32 _).2)

/-- An array of 64 words, the first of which are ws. -/
def pad64 (ws : List Int) : List Int := ws ++ List.replicate (64 - ws.length) 0
theorem pad64_len {ws : List Int} (h : ws.length ≤ 64) : (pad64 ws).length = 64 := by simp [pad64]; omega
theorem pad64_get {ws : List Int} {i : Nat} (h : i < ws.length) : (pad64 ws).getD i 0 = ws.getD i 0 := by
  simp [pad64, List.getD, List.getElem?_append_left h]
theorem pad64_set {ws : List Int} (h : ws.length < 64) (x : Int) : (pad64 ws).set ws.length x = pad64 (ws ++ [x]) := by
  have e : 64 - ws.length = (64 - (ws ++ [x]).length) + 1 := by simp; omega
  rw [pad64, e, List.replicate_succ, List.set_append, if_neg (by omega), Nat.sub_self, List.set_cons_zero, pad64]
  simp
theorem pad64_32 {ws : List Int} (h : U32 ws) : U32 (pad64 ws) := h.app (U32.zeros _)
theorem pad64_full {ws : List Int} (h : ws.length = 64) : pad64 ws = ws := by simp [pad64, h]

/-- The words on which the rounds work. -/
structure S8 where
  a : Int
  b : Int
  c : Int
  d : Int
  e : Int
  f : Int
  g : Int
  h : Int
def S8.Ok (s : S8) : Prop := (0 ≤ s.a ∧ s.a ≤ 4294967295) ∧ (0 ≤ s.b ∧ s.b ≤ 4294967295) ∧ (0 ≤ s.c ∧ s.c ≤ 4294967295) ∧ (0 ≤ s.d ∧ s.d ≤ 4294967295) ∧ (0 ≤ s.e ∧ s.e ≤ 4294967295) ∧ (0 ≤ s.f ∧ s.f ≤ 4294967295) ∧ (0 ≤ s.g ∧ s.g ≤ 4294967295) ∧ (0 ≤ s.h ∧ s.h ≤ 4294967295)
def S8.list (s : S8) : List Int := [s.a, s.b, s.c, s.d, s.e, s.f, s.g, s.h]

/-- Bits that lie above all of x are added. -/
theorem ofInt32 {a : Nat} (ha : a < 4294967296) : (BitVec.ofInt 32 (a : Int)).toNat = a := by
  rw [BitVec.ofInt_natCast, BitVec.toNat_ofNat]
  exact Nat.mod_eq_of_lt (by omega)
theorem or32 {a b : Nat} (ha : a < 4294967296) (hb : b < 4294967296) : bits .or .u32 (a : Int) (b : Int) = ((a ||| b : Nat) : Int) := by
  have hx : a ||| b < 2 ^ 32 := Nat.or_lt_two_pow (by omega) (by omega)
  show IntKind.u32.wrap ((BitVec.ofInt 32 (a : Int) ||| BitVec.ofInt 32 (b : Int)).toNat : Int) = _
  rw [BitVec.toNat_or, ofInt32 ha, ofInt32 hb, IntKind.wrap_u32]
  omega
theorem or32_below {x c : Int} (j : Nat) (hx0 : 0 ≤ x) (hx1 : x < 2 ^ j) (hc0 : 0 ≤ c) (hs : x + c * 2 ^ j < 4294967296) : bits .or .u32 (c * 2 ^ j) x = c * 2 ^ j + x := by
  obtain ⟨a, rfl⟩ := Int.eq_ofNat_of_zero_le hx0
  obtain ⟨b, rfl⟩ := Int.eq_ofNat_of_zero_le hc0
  have e : ((b : Int) * 2 ^ j) = ((b * 2 ^ j : Nat) : Int) := by simp
  rw [e] at hs ⊢
  have ha : a < 2 ^ j := by
    have e2 : ((2 : Int) ^ j) = ((2 ^ j : Nat) : Int) := by simp
    rw [e2] at hx1
    omega
  rw [or32 (by omega) (by omega), Nat.mul_comm, ← Nat.two_pow_add_eq_or_of_lt ha]
  omega
theorem first16_len (b : List Int) : (first16 b).length = 16 := by simp [first16]
theorem first16_32 {b : List Int} (hB : Byt b) : U32 (first16 b) := wseq_32 hB 0
theorem first16_next {b : List Int} {k : Nat} (h : k < 16) : pad64 ((first16 b).take (k + 1)) = (pad64 ((first16 b).take k)).set k (word b k) := by
  have hl : ((first16 b).take k).length = k := by rw [List.length_take, first16_len]; omega
  have h2 := pad64_set (ws := (first16 b).take k) (by omega) (word b k)
  rw [hl] at h2
  rw [h2, List.take_succ_eq_append_getElem (by rw [first16_len]; exact h)]
  have e : (first16 b)[k]'(by rw [first16_len]; exact h) = word b k := by simp [first16]
  rw [e]

def bs1 (e : Int) : Int := bits .xor .u32 (bits .xor .u32 (rot 6 e) (rot 11 e)) (rot 25 e)
def bs0 (a : Int) : Int := bits .xor .u32 (bits .xor .u32 (rot 2 a) (rot 13 a)) (rot 22 a)
def chw (e f g : Int) : Int := bits .xor .u32 (bits .and .u32 e f) (bits .and .u32 (bits .xor .u32 4294967295 e) g)
def majw (a b c : Int) : Int := bits .xor .u32 (bits .xor .u32 (bits .and .u32 a b) (bits .and .u32 a c)) (bits .and .u32 b c)
/-- One round. -/
def stepS (s : S8) (k w : Int) : S8 :=
  ⟨(s.h + bs1 s.e + chw s.e s.f s.g + k + w + bs0 s.a + majw s.a s.b s.c) % 4294967296, s.a, s.b, s.c, (s.d + (s.h + bs1 s.e + chw s.e s.f s.g + k + w)) % 4294967296, s.e, s.f, s.g⟩
def rnds (ws : List Int) : Nat → S8 → S8
  | 0, s => s
  | n + 1, s => stepS (rnds ws n s) (KL.getD n 0) (ws.getD n 0)
theorem rnds_ok (ws : List Int) {s : S8} (hs : s.Ok) (n : Nat) : (rnds ws n s).Ok := by
  induction n with
  | zero => exact hs
  | succ n ih =>
    obtain ⟨ha, hb, hc, hd, he, hf, hg, hh⟩ := ih
    refine ⟨?_, ha, hb, hc, ?_, he, hf, hg⟩ <;> simp only [rnds, stepS] <;> omega

theorem wrap4 (a b c d e : Int) : IntKind.u32.wrap (IntKind.u32.wrap (IntKind.u32.wrap (IntKind.u32.wrap (a + b) + c) + d) + e) = (a + b + c + d + e) % 4294967296 := by
  simp only [IntKind.wrap_u32]
  omega

/-- Word by word. -/
def add8 (xs ys : List Int) : List Int := List.zipWith (fun x y => (x + y) % 4294967296) xs ys
def mixed (xs ys : List Int) (k : Nat) : List Int := (add8 xs ys).take k ++ xs.drop k
theorem mixed_len {xs ys : List Int} (h : xs.length = ys.length) (k : Nat) : (mixed xs ys k).length = xs.length := by
  simp [mixed, add8, h]
  omega
theorem mixed_get {xs ys : List Int} (h : xs.length = ys.length) {k : Nat} (hk : k < xs.length) : (mixed xs ys k).getD k 0 = xs.getD k 0 := by
  have e : ((add8 xs ys).take k).length = k := by simp [add8, h]; omega
  rw [mixed, List.getD_eq_getElem?_getD, List.getElem?_append_right (by omega), e, Nat.sub_self, List.getElem?_drop, Nat.add_zero, List.getD_eq_getElem?_getD]
theorem mixed_set {xs ys : List Int} (h : xs.length = ys.length) {k : Nat} (hk : k < xs.length) : (mixed xs ys k).set k ((xs.getD k 0 + ys.getD k 0) % 4294967296) = mixed xs ys (k + 1) := by
  have e : ((add8 xs ys).take k).length = k := by simp [add8, h]; omega
  have hk2 : k < (add8 xs ys).length := by simp [add8, h]; omega
  rw [mixed, List.set_append, if_neg (by omega), e, Nat.sub_self, List.drop_eq_getElem_cons hk, List.set_cons_zero, mixed, List.take_succ_eq_append_getElem hk2, List.append_assoc]
  congr 1
  have hk3 : k < ys.length := by omega
  simp [add8, List.getD, hk, hk3]
theorem mixed_end {xs ys : List Int} (h : xs.length = ys.length) : mixed xs ys xs.length = add8 xs ys := by
  rw [mixed, List.drop_length, List.append_nil, List.take_of_length_le (by simp [add8, h])]
theorem S8.list_32 {s : S8} (h : s.Ok) : U32 s.list := by
  obtain ⟨ha, hb, hc, hd, he, hf, hg, hh⟩ := h
  intro x hx
  simp only [S8.list, List.mem_cons, List.not_mem_nil, or_false] at hx
  rcases hx with rfl | rfl | rfl | rfl | rfl | rfl | rfl | rfl <;> assumption

end Go.Proofs.YtnloknhcdlannaaDoor
