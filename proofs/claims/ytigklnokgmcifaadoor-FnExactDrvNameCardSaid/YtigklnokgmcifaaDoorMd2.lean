/-
  Parts of the proof: App, B32P, Own.
-/
import Derived.Test.YtigklnokgmcifaaDoorMd0
import Derived.Test.YtigklnokgmcifaaDoorRows

/-
  append onto a row of the call's own, whatever slice is appended.
-/
namespace Go.Proofs.YtigklnokgmcifaaDoor
open Go.RowKit

theorem u8info : (Tryd.prog.info? 5).map (fun i => (i.zero, i.size, i.bytes)) = some (some (.int .u8 0), 1, 1) := by kernel_rfl

theorem run_app {P : Program} (w : World) (base : Nat) (t ty e : TypeId) (i : TypeInfo) (z : Value) (bytes : Nat) (ht : P.underlying t = some (.slice e)) (hi : P.info? e = some i) (hz : i.zero = some z)
    (hsize : i.size = 1) (hby : i.bytes = bytes) (hzs : z.cells.size = 1)
    (v : Value) (n : Nat) (xs : List Value) (hown : w.ownsRow base e 1 v n xs) (y : Value) (ys : List Value) (hr : Rd w y ys) (h1 : ∀ u ∈ ys, u.oneCell' = true)
    (h63 : n + ys.length ≤ maxLen) (hbytes : (n + ys.length) * bytes ≤ 140737488355328) (hbase : base ≤ w.heap.size) :
    ∃ v' w', (Builtin.append_ #[t, t] ty #[v, y]).run P w = .ok v' w' ∧ w'.ownsRow base e 1 v' (n + ys.length) (xs ++ ys) ∧ w.grownBy w' v.ownBlock := by
  obtain ⟨A, c, rfl, hc, hm, hcell⟩ := hr
  cases A with
  | none =>
    have h0 : ys.length = 0 := by
      rcases Nat.eq_zero_or_pos ys.length with h | h
      · exact h
      · obtain ⟨b, off, hA, _⟩ := hcell h
        cases hA
    obtain rfl := List.eq_nil_of_length_eq_zero h0
    refine ⟨v, w, ?_, by simpa using hown, World.grownBy.refl w _⟩
    rcases hown.2 with ⟨rfl, rfl⟩ | ⟨g, cap, cur, rfl, _, _, hnc, _⟩
    · simp [Builtin.append_, run_underlying ht, sizeOf, typeInfo, hi, Builtin.lenOf, Builtin.firstCells]
    · simp [Builtin.append_, run_underlying ht, sizeOf, typeInfo, hi, Builtin.lenOf, Builtin.firstCells, hnc, storeCells]
  | some ad =>
    have hcells : ∀ j u, ys[j]? = some u → w.cell? (ad.add j) = some u := by
      intro j u hu
      obtain ⟨b, off, hA, _, hc⟩ := hcell (Nat.lt_of_le_of_lt (Nat.zero_le _) (List.getElem?_eq_some_iff.1 hu).1)
      injection hA with hA
      subst hA
      rw [Addr.add_lit]
      exact hc j u hu
    obtain ⟨v', w', hrun, h2, h3, _⟩ := run_append_own (P := P) w base t ty e i z 1 bytes ht hi hz hsize hby hzs (by omega) v n xs hown ad ys.length c ys (by omega) hcells h1 h63 hbytes hbase
    exact ⟨v', w', hrun, h2, h3⟩

theorem wpList_app {P : Program} (w : World) {ops : Array Oper} {rest : List Oper} {o : Oper} {a : Act} {Q : Exit → Act → World → Prop} (hgd : o.guard = none) (s x : Operand) (t : TypeId)
    (ho : o.op = .call { callee := .builtin .append, args := #[s, x], argTypes := #[t, t] })
    (base : Nat) (e : TypeId) (i : TypeInfo) (z : Value) (bytes : Nat) (ht : P.underlying t = some (.slice e)) (hi : P.info? e = some i) (hz : i.zero = some z)
    (hsize : i.size = 1) (hby : i.bytes = bytes) (hzs : z.cells.size = 1)
    (v : Value) (n : Nat) (xs : List Value) (hs : a.eval s = v) (hown : w.ownsRow base e 1 v n xs) (y : Value) (ys : List Value) (hx : a.eval x = y) (hr : Rd w y ys) (h1 : ∀ u ∈ ys, u.oneCell' = true)
    (h63 : n + ys.length ≤ maxLen) (hbytes : (n + ys.length) * bytes ≤ 140737488355328) (hbase : base ≤ w.heap.size)
    (h : ∀ v' w', w'.ownsRow base e 1 v' (n + ys.length) (xs ++ ys) → w.grownBy w' v.ownBlock → wpList P ops Q rest (a.put o.dst v') w') : wpList P ops Q (o :: rest) a w := by
  refine wpList_plain hgd fun K hK => ?_
  obtain ⟨v', w', hrun, h2, h3⟩ := run_app (P := P) w base t o.type e i z bytes ht hi hz hsize hby hzs v n xs hown y ys hr h1 h63 hbytes hbase
  unfold Oper.wp execOp
  simp only [ho, resolve, invoke, builtin, Sem.run_bind, Sem.run_pure, Result.andThen_ok, List.map_toArray, List.map_cons, List.map_nil, hs, hx, hrun]
  exact hK _ _ (h v' w' h2 h3)

/-- A new block of one byte, as it reads. -/
theorem rd_one (w : World) (x : Int) (t : TypeId) : Rd (w.alloc (.cells #[.int .u8 x] t)) (.slice (some ⟨w.heap.size, 0, none⟩) 1 1) (bs [x]) := by
  refine ⟨_, 1, rfl, Nat.le_refl _, by simp [maxLen], fun _ => ⟨w.heap.size, 0, rfl, by simp, fun i u hu => ?_⟩⟩
  obtain ⟨hi, rfl⟩ := bs_get_inv hu
  have hi0 : i = 0 := by simpa using hi
  subst hi0
  rw [World.cell?_alloc_at _ _ _ _ rfl]
  rfl

theorem Below.row {B : Nat} {a w w' : World} {e : TypeId} {size n : Nat} {v : Value} {xs : List Value} (h : Below B a w) (hB : B ≤ w.heap.size) (hown : w.ownsRow B e size v n xs) (hg : w.grownBy w' v.ownBlock) : Below B a w' :=
  h.grown hg hB fun g hgk => (hown.lt g hgk).1

/-- The empty literal is a row of its own. -/
theorem own_lit0 (w : World) (e : TypeId) : (w.alloc (.cells #[] e)).ownsRow w.heap.size e 1 (.slice (some ⟨w.heap.size, 0, none⟩) 0 0) 0 [] :=
  World.ownsRow_lit w #[] 0 (Nat.le_refl _) (Nat.zero_le _) rfl
theorem Rd.alloc {w : World} {v : Value} {xs : List Value} (h : Rd w v xs) (o : Obj) : Rd (w.alloc o) v xs := h.below ((Below.refl _ _).alloc (Nat.le_refl _) o)

theorem below_app0 {w w1 : World} {e : TypeId} (gr : (w.alloc (.cells #[] e)).grownBy w1 (Value.slice (some ⟨w.heap.size, 0, none⟩) 0 0).ownBlock) : Below w.heap.size w w1 :=
  Below.row ((Below.refl _ _).alloc (Nat.le_refl _) _) (by simp) (own_lit0 w e) gr

theorem own_step {W W' : World} {lo n size : Nat} {e : TypeId} {v : Value} {xs : List Value} (h : W.ownsRow lo e size v n xs) (hb : Below W.heap.size W W') : W'.ownsRow lo e size v n xs :=
  h.kept (row := none) ⟨hb.os, hb.tape, hb.output, hb.size, fun k hk _ => hb.block k hk⟩ (by cases hv : v.ownBlock <;> simp)

end Go.Proofs.YtigklnokgmcifaaDoor


/-
  Base32 in plain numbers: bits, groups of five, characters.
-/
namespace Go.Proofs.YtigklnokgmcifaaDoor
open Go.RowKit

/-- The characters. -/
def abcB : ByteArray := ⟨#[48, 49, 50, 51, 52, 53, 54, 55, 56, 57, 97, 98, 99, 100, 102, 103, 104, 105, 106, 107, 108, 109, 110, 112, 113, 114, 115, 118, 119, 120, 121, 122]⟩
def abcL : List Int := [48, 49, 50, 51, 52, 53, 54, 55, 56, 57, 97, 98, 99, 100, 102, 103, 104, 105, 106, 107, 108, 109, 110, 112, 113, 114, 115, 118, 119, 120, 121, 122]
def ltr (n : Int) : Int := abcL.getD n.toNat 0
theorem ltr_all : ∀ k : Fin 32, ((abcB[k.val]'(by simp [abcB, ByteArray.size])).toNat : Int) = ltr k.val := by decide +kernel
theorem ltr_range : ∀ k : Fin 32, 0 ≤ ltr k.val ∧ ltr k.val ≤ 255 := by decide +kernel
theorem ltr_at (k : Nat) (h : k < 32) : (((⟨#[48, 49, 50, 51, 52, 53, 54, 55, 56, 57, 97, 98, 99, 100, 102, 103, 104, 105, 106, 107, 108, 109, 110, 112, 113, 114, 115, 118, 119, 120, 121, 122]⟩ : ByteArray)[k]'(by simpa [ByteArray.size] using h)).toNat : Int) = ltr k := ltr_all ⟨k, h⟩
theorem ltr_byte {n : Int} (h0 : 0 ≤ n) (h1 : n < 32) : 0 ≤ ltr n ∧ ltr n ≤ 255 := by
  obtain ⟨k, rfl⟩ := Int.eq_ofNat_of_zero_le h0
  exact ltr_range ⟨k, by omega⟩

/-- The bits below the j-th stay. -/
theorem and_low {x : Int} (j : Nat) (hj : j ≤ 32) (h0 : 0 ≤ x) (h1 : x < 9223372036854775808) : bits .and .i64 x (2 ^ j - 1) = x % 2 ^ j := by
  obtain ⟨a, rfl⟩ := Int.eq_ofNat_of_zero_le h0
  have hp : 1 ≤ 2 ^ j := Nat.one_le_two_pow
  have hp2 : 2 ^ j ≤ 2 ^ 32 := Nat.pow_le_pow_right (by omega) hj
  have e : ((2 : Int) ^ j - 1) = ((2 ^ j - 1 : Nat) : Int) := by
    rw [Int.ofNat_sub hp]; simp
  rw [e, and64 (by omega) (by omega), Nat.and_two_pow_sub_one_eq_mod]
  simp
theorem or_below {x c : Int} (j : Nat) (hx0 : 0 ≤ x) (hx1 : x < 2 ^ j) (hc0 : 0 ≤ c) (hs : x + c * 2 ^ j < 9223372036854775808) : bits .or .i64 (c * 2 ^ j) x = c * 2 ^ j + x := by
  obtain ⟨a, rfl⟩ := Int.eq_ofNat_of_zero_le hx0
  obtain ⟨b, rfl⟩ := Int.eq_ofNat_of_zero_le hc0
  have e : ((b : Int) * 2 ^ j) = ((b * 2 ^ j : Nat) : Int) := by simp
  rw [e] at hs ⊢
  have ha : a < 2 ^ j := by
    have e2 : ((2 : Int) ^ j) = ((2 ^ j : Nat) : Int) := by simp
    rw [e2] at hx1
    omega
  rw [or64 (by omega) (by omega), Nat.mul_comm, ← Nat.two_pow_add_eq_or_of_lt ha]
  omega

/-- The k-th bit of the bytes, the highest of each first; 0 behind the last. -/
def bitI (l : List Int) (k : Nat) : Int := l.getD (k / 8) 0 / 2 ^ (7 - k % 8) % 2
theorem bitI_01 (l : List Int) (k : Nat) : 0 ≤ bitI l k ∧ bitI l k ≤ 1 := by unfold bitI; omega
/-- The number of the t bits from i on. -/
def part (l : List Int) (i : Nat) : Nat → Int
  | 0 => 0
  | t + 1 => 2 * part l i t + bitI l (i + t)
theorem part_range (l : List Int) (i t : Nat) (h : t ≤ 5) : 0 ≤ part l i t ∧ part l i t < 2 ^ t := by
  rcases (by omega : t = 0 ∨ t = 1 ∨ t = 2 ∨ t = 3 ∨ t = 4 ∨ t = 5) with rfl | rfl | rfl | rfl | rfl | rfl <;> simp only [part] <;>
    (have h0 := bitI_01 l (i + 0); have h1 := bitI_01 l (i + 1); have h2 := bitI_01 l (i + 2); have h3 := bitI_01 l (i + 3); have h4 := bitI_01 l (i + 4); omega)
theorem p_32 {t : Nat} {p : Int} (ht : t ≤ 5) (h : p < 2 ^ t) : p < 32 := by
  rcases (by omega : t = 0 ∨ t = 1 ∨ t = 2 ∨ t = 3 ∨ t = 4 ∨ t = 5) with rfl | rfl | rfl | rfl | rfl | rfl <;> omega
/-- The groups from the bit i on. -/
def grp (l : List Int) (i : Nat) : List Int := if i < 8 * l.length then part l i 5 :: grp l (i + 5) else []
termination_by 8 * l.length - i
theorem grp_more {l : List Int} {i : Nat} (h : i < 8 * l.length) : grp l i = part l i 5 :: grp l (i + 5) := by rw [grp, if_pos h]
theorem grp_end {l : List Int} {i : Nat} (h : ¬ i < 8 * l.length) : grp l i = [] := by rw [grp, if_neg h]
/-- What Base32 writes. -/
def b32 (l : List Int) : List Int := (grp l 0).map ltr
theorem grp_len (l : List Int) (i : Nat) : (grp l i).length = (8 * l.length - i + 4) / 5 := by
  by_cases h : i < 8 * l.length
  · rw [grp_more h, List.length_cons, grp_len l (i + 5)]
    omega
  · rw [grp_end h]
    simp
    omega
termination_by 8 * l.length - i
theorem grp_lt (l : List Int) (i : Nat) : ∀ x ∈ grp l i, 0 ≤ x ∧ x < 32 := by
  by_cases h : i < 8 * l.length
  · rw [grp_more h]
    intro x hx
    rcases List.mem_cons.1 hx with rfl | hx
    · exact part_range l i 5 (by omega)
    · exact grp_lt l (i + 5) x hx
  · rw [grp_end h]
    simp
termination_by 8 * l.length - i
theorem b32_len (l : List Int) : (b32 l).length = (8 * l.length + 4) / 5 := by rw [b32, List.length_map, grp_len]; omega
theorem b32_byt (l : List Int) : Byt (b32 l) := by
  intro y hy
  obtain ⟨x, hx, rfl⟩ := List.mem_map.1 hy
  have := grp_lt l 0 x hx
  exact ltr_byte this.1 this.2

theorem part_split (l : List Int) (i a : Nat) : ∀ b, part l i (a + b) = part l i a * 2 ^ b + part l (i + a) b := by
  intro b
  induction b with
  | zero => simp [part]
  | succ b ih =>
    have e : part l i (a + (b + 1)) = 2 * part l i (a + b) + bitI l (i + (a + b)) := rfl
    have e2 : part l (i + a) (b + 1) = 2 * part l (i + a) b + bitI l (i + a + b) := rfl
    rw [e, e2, ih, Nat.add_assoc, Int.pow_succ, ← Int.mul_assoc]
    generalize part l i a * 2 ^ b = q
    omega
theorem part_pos (l : List Int) (i t : Nat) : 0 ≤ part l i t ∧ part l i t < 2 ^ t := by
  induction t with
  | zero => simp [part]
  | succ t ih =>
    have := bitI_01 l (i + t)
    rw [part, Int.pow_succ]
    generalize (2 : Int) ^ t = q at *
    omega
theorem part_top (l : List Int) (i a b : Nat) : part l i (a + b) / 2 ^ b = part l i a ∧ part l i (a + b) % 2 ^ b = part l (i + a) b := by
  have h := part_pos l (i + a) b
  have hp : (0 : Int) < 2 ^ b := Int.pow_pos (by omega)
  rw [part_split]
  constructor
  · rw [Int.add_comm, Int.add_mul_ediv_right _ _ (by omega), Int.ediv_eq_zero_of_lt h.1 h.2]
    omega
  · rw [Int.add_comm, Int.add_mul_emod_self_right, Int.emod_eq_of_lt h.1 h.2]
theorem part_byte (l : List Int) (hB : Byt l) (k : Nat) : part l (8 * k) 8 = l.getD k 0 := by
  have hy := hB.at_ k
  have q : ∀ t : Nat, t < 8 → (8 * k + t) / 8 = k ∧ (8 * k + t) % 8 = t := fun t ht => by omega
  simp only [part, bitI, (q 0 (by omega)).1, (q 0 (by omega)).2, (q 1 (by omega)).1, (q 1 (by omega)).2, (q 2 (by omega)).1, (q 2 (by omega)).2, (q 3 (by omega)).1, (q 3 (by omega)).2,
    (q 4 (by omega)).1, (q 4 (by omega)).2, (q 5 (by omega)).1, (q 5 (by omega)).2, (q 6 (by omega)).1, (q 6 (by omega)).2, (q 7 (by omega)).1, (q 7 (by omega)).2]
  generalize l.getD k 0 = y at *
  omega
theorem part_over (l : List Int) (i t : Nat) (h : 8 * l.length ≤ i) : part l i t = 0 := by
  induction t with
  | zero => rfl
  | succ t ih =>
    rw [part, ih]
    unfold bitI
    rw [List.getD_eq_getElem?_getD, List.getElem?_eq_none (by omega)]
    simp

end Go.Proofs.YtigklnokgmcifaaDoor


/-
  Small words for rows of the call's own.
-/
namespace Go.Proofs.YtigklnokgmcifaaDoor
open Go.RowKit

theorem own_len {w : World} {base : Nat} {e : TypeId} {v : Value} {n m : Nat} {xs : List Value} (h : w.ownsRow base e 1 v n xs) (hm : n = m) : w.ownsRow base e 1 v m xs := hm ▸ h
theorem own_cells {w : World} {base : Nat} {e : TypeId} {v : Value} {n : Nat} {xs ys : List Value} (h : w.ownsRow base e 1 v n xs) (hm : xs = ys) : w.ownsRow base e 1 v n ys := hm ▸ h
theorem own_slice {w : World} {lo : Nat} {e : TypeId} {n : Nat} {v : Value} {xs : List Value} (h : w.ownsRow lo e 1 v n xs) : ∃ A c, v = .slice A n c ∧ n ≤ c ∧ c ≤ maxLen := by
  rcases h.2 with ⟨rfl, h0⟩ | ⟨g, cap, cur, hv, hb, hg, hnc, hcm, _⟩
  · exact ⟨none, 0, by rw [h0], by omega, Nat.zero_le _⟩
  · exact ⟨_, cap, hv, hnc, hcm⟩
def lenV : Value → Nat
  | .slice _ n _ => n
  | _ => 0
/-- A part of a slice that reads as l. -/
theorem Rd.part {w : World} {b off c k n : Nat} {l : List Int} (h : ∀ i u, (bs l)[i]? = some u → w.cell? ⟨b, off + i, none⟩ = some u) (hb : b < w.heap.size) (hk : k + n ≤ l.length) (hc : l.length ≤ c) (hc2 : c ≤ maxLen) {n' : Nat} (hn : n' = n) :
    Rd w (.slice (some ⟨b, off + k, none⟩) n' (c - k)) (bs ((l.drop k).take n)) := by
  subst hn
  have e : (bs ((l.drop k).take n')).length = n' := by rw [bs_length, List.length_take, List.length_drop]; omega
  refine ⟨some ⟨b, off + k, none⟩, c - k, by rw [e], by omega, by omega, fun _ => ⟨b, off + k, rfl, hb, fun i u hu => ?_⟩⟩
  obtain ⟨hi, rfl⟩ := bs_get_inv hu
  have hin : i < n' := by rw [List.length_take] at hi; omega
  have h1 := h (k + i) _ (bs_get (by omega))
  rw [Nat.add_assoc, h1]
  simp [List.getD, hin]
theorem Rd.empty {w : World} {A : Option Addr} {n c : Nat} (hn : n = 0) (hc2 : c ≤ maxLen) : Rd w (.slice A n c) (bs []) := by
  subst hn
  exact ⟨A, c, rfl, Nat.zero_le _, hc2, fun h => by simp [bs] at h⟩
theorem rd_four (w : World) (x y z u : Int) (t : TypeId) : Rd (w.alloc (.cells #[.int .u8 x, .int .u8 y, .int .u8 z, .int .u8 u] t)) (.slice (some ⟨w.heap.size, 0, none⟩) 4 4) (bs [x, y, z, u]) := by
  refine ⟨_, 4, rfl, Nat.le_refl _, by simp [maxLen], fun _ => ⟨w.heap.size, 0, rfl, by simp, fun i v hv => ?_⟩⟩
  obtain ⟨hi, rfl⟩ := bs_get_inv hv
  have h4 : i < 4 := by simpa using hi
  rw [World.cell?_alloc_at _ _ _ _ rfl]
  rcases (by omega : i = 0 ∨ i = 1 ∨ i = 2 ∨ i = 3) with rfl | rfl | rfl | rfl <;> rfl
/-- Guards: the next operation writes slot n; the next operation writes no slot. -/
theorem at_slot (n : Nat) {P : Program} {ops : Array Oper} {rest : List Oper} {op : Op} {ty : TypeId} {pos : String} {after : Array Edge} {guard : Option (Tmp × Bool)} {a : Act} {w : World} {Q : Exit → Act → World → Prop}
    (h : wpList P ops Q (⟨some n, op, ty, pos, after, guard⟩ :: rest) a w) : wpList P ops Q (⟨some n, op, ty, pos, after, guard⟩ :: rest) a w := h
theorem at_none {P : Program} {ops : Array Oper} {rest : List Oper} {op : Op} {ty : TypeId} {pos : String} {after : Array Edge} {guard : Option (Tmp × Bool)} {a : Act} {w : World} {Q : Exit → Act → World → Prop}
    (h : wpList P ops Q (⟨none, op, ty, pos, after, guard⟩ :: rest) a w) : wpList P ops Q (⟨none, op, ty, pos, after, guard⟩ :: rest) a w := h

end Go.Proofs.YtigklnokgmcifaaDoor
