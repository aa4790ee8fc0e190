
/-
  From a datum that comes in to cells: numbers, rows, in general.
-/
import Derived.Test.YtnloknhcdlannaaLift
import Derived.Test.YtnloknhcdlannaaDTyp
import Derived.Deep.Slices
import Derived.Deep.Fields
import Derived.ChangeSame
import Derived.Lib.SmallJoins
namespace Go.Proofs.Ytnloknhcdlannaa
open Go.ChangeShapes Go.WideShapes Go.ChangeAt Go.RowKit
set_option linter.unusedVariables false

/-! ### The numbers of a datum lie in their bounds -/
mutual
def Cel.ok : Cel → Prop
  | .num k n => (k = .u8 → 0 ≤ n ∧ n ≤ 255) ∧ (k = .i64 → -9223372036854775808 ≤ n ∧ n ≤ 9223372036854775807)
  | .flag _ => True
  | .seq _ _ cs => oks cs
def oks : List Cel → Prop
  | [] => True
  | c :: cs => c.ok ∧ oks cs
end
theorem oks_app (a b : List Cel) : oks (a ++ b) ↔ oks a ∧ oks b := by
  induction a with
  | nil => simp [oks]
  | cons c a ih => simp [oks, ih, and_assoc]
theorem oks_cells {α : Type} (f : α → List Cel) (l : List α) : oks (cells f l) ↔ ∀ x ∈ l, oks (f x) := by
  induction l with
  | nil => simp [cells, oks]
  | cons x l ih => simp [cells, oks_app, ih]
theorem num_ok_i64 (n : Int) : (Cel.num .i64 n).ok ↔ -9223372036854775808 ≤ n ∧ n ≤ 9223372036854775807 := by
  rw [Cel.ok]
  constructor
  · intro h; exact h.2 rfl
  · intro h; exact ⟨fun e => (nomatch e), fun _ => h⟩
theorem num_ok_u8 (n : Int) : (Cel.num .u8 n).ok ↔ 0 ≤ n ∧ n ≤ 255 := by
  rw [Cel.ok]
  constructor
  · intro h; exact h.1 rfl
  · intro h; exact ⟨fun _ => h, fun e => (nomatch e)⟩
theorem raw_ok (l : List Int) : (raw l).ok ↔ Byt l := by
  rw [raw_eq, seqOf, Cel.ok, oks_cells]
  constructor
  · intro h x hx; have := h x hx; rw [oks] at this; exact (num_ok_u8 x).1 this.1
  · intro h x hx; rw [oks]; exact ⟨(num_ok_u8 x).2 (h x hx), trivial⟩
theorem ints_ok (l : List Int) : (ints l).ok ↔ ∀ x ∈ l, -9223372036854775808 ≤ x ∧ x ≤ 9223372036854775807 := by
  rw [ints_eq, seqOf, Cel.ok, oks_cells]
  constructor
  · intro h x hx; have := h x hx; rw [oks] at this; exact (num_ok_i64 x).1 this.1
  · intro h x hx; rw [oks]; exact ⟨(num_ok_i64 x).2 (h x hx), trivial⟩
theorem seqOf_ok {α : Type} (sz : Nat) (f : α → List Cel) (l : List α) : (seqOf sz f l).ok ↔ ∀ x ∈ l, oks (f x) := by
  rw [seqOf, Cel.ok, oks_cells]
theorem names_ok (ns : List (List Int)) : (Go.Proofs.Ytnloknhcdlannaa.names ns).ok ↔ BytN ns := by
  rw [Go.Proofs.Ytnloknhcdlannaa.names, seqOf_ok]
  constructor
  · intro h n hn; have := h n hn; rw [oks] at this; exact (raw_ok n).1 this.1
  · intro h n hn; rw [oks]; exact ⟨(raw_ok n).2 (h n hn), trivial⟩

/-! ### Rows -/
theorem list_of' {α : Type} {R : Nat → α → Prop} : ∀ (n : Nat), (∀ i, i < n → ∃ x, R i x) → ∃ l : List α, l.length = n ∧ ∀ i x, l[i]? = some x → R i x
  | 0, _ => ⟨[], rfl, fun i x h => by simp at h⟩
  | n + 1, h => by
    obtain ⟨l, hl, hr⟩ := list_of' n (fun i hi => h i (by omega))
    obtain ⟨x, hx⟩ := h n (by omega)
    refine ⟨l ++ [x], by simp [hl], fun i y hy => ?_⟩
    by_cases hi : i < n
    · rw [List.getElem?_append_left (by omega)] at hy
      exact hr i y hy
    · rw [List.getElem?_append_right (by omega)] at hy
      have : i - l.length = 0 := by
        have := (List.getElem?_eq_some_iff.1 hy).1
        simp at this
        omega
      rw [this] at hy
      simp at hy
      subst hy
      obtain rfl : i = n := by omega
      exact hx
theorem spot_of' {W : World} {a : Addr} {v : Value} (h : W.cell? (a.add 0) = some v) : ∃ b off, a = ⟨b, off, none⟩ ∧ b < W.heap.size := by
  obtain ⟨b, off, spot⟩ := a
  have hs : spot = none := by simpa [Addr.add] using World.cell?_spot h
  subst hs
  have := World.block_lt_of_cell? W _ h
  exact ⟨b, off, rfl, by simpa [Addr.add] using this⟩
theorem range_join {α : Type} {W : World} {b off n : Nat} (hn : 0 < n) : ∀ (l : List (List Value × α)) (i0 : Nat), (∀ i y, l[i]? = some y → y.1.length = n ∧ ∀ j u, y.1[j]? = some u → W.cell? ⟨b, off + ((i0 + i) * n + j), none⟩ = some u) →
    ∀ j u, (l.flatMap (·.1))[j]? = some u → W.cell? ⟨b, off + (i0 * n + j), none⟩ = some u
  | [], i0, _, j, u, hu => by simp at hu
  | y :: l, i0, h, j, u, hu => by
    obtain ⟨h1, h2⟩ := h 0 y rfl
    rw [List.flatMap_cons] at hu
    by_cases hj : j < n
    · rw [List.getElem?_append_left (by omega)] at hu
      simpa using h2 j u hu
    · rw [List.getElem?_append_right (by omega), h1] at hu
      have := range_join hn l (i0 + 1) (fun i z hz => by
        have := h (i + 1) z (by simpa using hz)
        rw [show i0 + 1 + i = i0 + (i + 1) by omega]
        exact this) (j - n) u hu
      rw [show i0 * n + j = (i0 + 1) * n + (j - n) by rw [Nat.add_mul]; omega]
      exact this
theorem lies_join {α : Type} {W : World} {f : α → List Cel} : ∀ (l : List (List Value × α)), (∀ y ∈ l, ∃ F, Lies W (f y.2) y.1 F) → ∃ F, Lies W (cells f (l.map (·.2))) (l.flatMap (·.1)) F
  | [], _ => ⟨[], lies_nil W⟩
  | y :: l, h => by
    obtain ⟨F1, h1⟩ := h y (List.mem_cons_self ..)
    obtain ⟨F2, h2⟩ := lies_join l fun z hz => h z (List.mem_cons_of_mem _ hz)
    exact ⟨F1 ++ F2, h1.append h2⟩

section
variable {H : Type} {enc : TypeId × Value → H} {W : World}
theorem row_of_trod {α : Type} {ty ety : TypeId} {n : Nat} {f : α → List Cel} (hu : Program.underlying Try.prog ty = some (.slice ety)) (hC : Program.cellsOf Try.prog ety = n) (h64 : n ≤ 64) (hn : 0 < n) {fuel : Nat}
    (hel : ∀ m, m < fuel → ∀ (cs : List Value) (x : DataW H × List MemPlace), DataW.trod enc Try.prog W 0 (fun _ => true) true m ety cs = some x → ∃ a : α, oks (f a) ∧ ∃ F, Lies W (f a) cs F)
    {v : Value} {x : DataW H × List MemPlace} (h : DataW.trod enc Try.prog W 0 (fun _ => true) true fuel ty [v] = some x) : ∃ l : List α, (seqOf n f l).ok ∧ ∃ F, Lie W (seqOf n f l) v F := by
  rcases DataW.trod_slice hu h with ⟨hcs, _⟩ | ⟨a, len, cap, elems, rest, m, hfm, hcs, _, _, hl, hm, hlen, hel2, _, _⟩
  · obtain rfl := List.singleton_inj.1 hcs
    refine ⟨[], (seqOf_ok _ _ _).2 (fun x hx => by cases hx), [], ?_⟩
    rw [Lie]
    refine ⟨h64, [], [], ⟨none, 0, rfl, Nat.le_refl _, Nat.zero_le _, by simp, fun h => absurd h (by simp)⟩, lies_nil W, ?_⟩
    simp [blk_none]
  · obtain rfl := List.singleton_inj.1 hcs
    rw [hC] at hel2
    obtain ⟨l, hll, hlr⟩ := list_of' (R := fun i (y : List Value × α) => (y.1.length = n ∧ ∀ j u, y.1[j]? = some u → W.cell? ((a.add (i * n)).add j) = some u) ∧ oks (f y.2) ∧ ∃ F, Lies W (f y.2) y.1 F) len (fun i hi => by
      have h1 := hel2 i hi
      rw [List.getElem?_eq_getElem (by omega)] at h1
      obtain ⟨cs', h2, h3⟩ := Option.bind_eq_some_iff.1 h1
      obtain ⟨_, hcl, hat⟩ := World.cells?_some h2
      obtain ⟨a', h4, h5⟩ := hel m (by omega) _ _ h3
      exact ⟨(cs', a'), ⟨hcl, fun j u hu => (hat j (by rw [← hcl]; exact (List.getElem?_eq_some_iff.1 hu).1)).trans hu⟩, h4, h5⟩)
    have hmem : ∀ y ∈ l, oks (f y.2) ∧ ∃ F, Lies W (f y.2) y.1 F := fun y hy => by
      obtain ⟨i, hi⟩ := List.getElem?_of_mem hy
      exact (hlr i y hi).2
    obtain ⟨F, hF⟩ := lies_join l fun y hy => (hmem y hy).2
    have hsum : (l.flatMap (·.1)).length = len * n := by
      have : ∀ k : List (List Value × α), (∀ y ∈ k, y.1.length = n) → (k.flatMap (·.1)).length = k.length * n := fun k => by
        induction k with
        | nil => intro _; simp
        | cons y k ih => intro h; rw [List.flatMap_cons, List.length_append, h y (List.mem_cons_self ..), ih fun z hz => h z (List.mem_cons_of_mem _ hz), List.length_cons, Nat.add_mul]; omega
      rw [this l fun y hy => by obtain ⟨i, hi⟩ := List.getElem?_of_mem hy; exact (hlr i y hi).1.1, hll]
    refine ⟨l.map (·.2), ?_, blk (.slice (some a) len cap) ++ F, ?_⟩
    · rw [seqOf_ok]
      intro x hx
      obtain ⟨y, hy, rfl⟩ := List.mem_map.1 hx
      exact (hmem y hy).1
    · rw [Lie, List.length_map, hll]
      refine ⟨h64, l.flatMap (·.1), F, ⟨some a, cap, rfl, hl, hm, hsum, fun hp => ?_⟩, hF, rfl⟩
      have h0 := (hlr 0 l[0] (List.getElem?_eq_getElem (by omega))).1
      obtain ⟨b, off, rfl, hb⟩ := spot_of' (v := l[0].1[0]'(by omega)) (by
        have := h0.2 0 _ (List.getElem?_eq_getElem (by omega))
        rw [Nat.zero_mul] at this
        simpa [Addr.add] using this)
      refine ⟨b, off, rfl, hb, fun j u hu => ?_⟩
      have := range_join (W := W) (b := b) (off := off) hn l 0 (fun i y hy => ⟨(hlr i y hy).1.1, fun j u hu => by
        have h1 := (hlr i y hy).1.2 j u hu
        rw [Go.Deep.add_add, Addr.add_lit] at h1
        rw [Nat.zero_add]
        exact h1⟩) j u hu
      rw [Nat.zero_mul, Nat.zero_add] at this
      exact this
theorem raw_of_trod {fuel : Nat} {v : Value} {x : DataW H × List MemPlace} (h : DataW.trod enc Try.prog W 0 (fun _ => true) true fuel 22 [v] = some x) : ∃ l : List Int, (raw l).ok ∧ ∃ F, Lie W (raw l) v F := by
  obtain ⟨l, h1, F, h2⟩ := row_of_trod (α := Int) (f := fun x => [Cel.num .u8 x]) (n := 1) Try.underlying22 (by kernel_rfl) (by decide) (by decide) (fun m _ cs x hx => by
    obtain ⟨k, rfl, _, hw⟩ := DataW.trod_int Try.underlying5 hx
    exact ⟨k, by rw [oks]; exact ⟨(num_ok_u8 k).2 (u8_of_wf hw), trivial⟩, [], lies_one (lie_num _ _ _)⟩) h
  exact ⟨l, by rw [raw_eq]; exact h1, F, by rw [raw_eq]; exact h2⟩
end

end Go.Proofs.Ytnloknhcdlannaa
