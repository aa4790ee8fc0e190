
/-
  Data: as they are, and as they lie in memory. A struct is a list of cells; a slice is one cell that says how many cells each element has.
-/
import Derived.Test.YtnloknhcdlannaaBytes
import Derived.Test.YtnloknhcdlannaaOwn
import Derived.Deep.MidRow
import Derived.StillTailTactics
import Derived.Deep.RegionWith
namespace Go.Proofs.Ytnloknhcdlannaa
open Go.RowKit
set_option linter.unusedVariables false

inductive Cel where
  | num (k : IntKind) (n : Int)
  | flag (b : Bool)
  | seq (sz n : Nat) (cs : List Cel)

theorem Cel.ind {P : Cel → Prop} (h0 : ∀ k n, P (.num k n)) (h1 : ∀ b, P (.flag b)) (h : ∀ sz n cs, (∀ c ∈ cs, P c) → P (.seq sz n cs)) : ∀ c, P c
  | .num k n => h0 k n
  | .flag b => h1 b
  | .seq sz n cs => h sz n cs fun c hc => Cel.ind h0 h1 h c
termination_by c => SizeOf.sizeOf c
decreasing_by
  have := List.sizeOf_lt_of_mem hc
  simp
  omega

/-- The slice v of n elements of sz cells each reads as the cells us. -/
def Rdc (w : World) (v : Value) (sz n : Nat) (us : List Value) : Prop :=
  ∃ A c, v = .slice A n c ∧ n ≤ c ∧ c ≤ maxLen ∧ us.length = n * sz ∧
    (0 < n → ∃ b off, A = some ⟨b, off, none⟩ ∧ b < w.heap.size ∧ w.rangeAt b off us)

/-- The block of a slice with elements. -/
def blk : Value → List Nat
  | .slice (some a) (_ + 1) _ => [a.block]
  | _ => []
theorem blk_some {a : Addr} {n c : Nat} (h : 0 < n) : blk (.slice (some a) n c) = [a.block] := by
  cases n with
  | zero => omega
  | succ n => rfl
theorem blk_none {A : Option Addr} {c : Nat} : blk (.slice A 0 c) = [] := by cases A <;> rfl

mutual
/-- The datum lies in the cell v; the blocks that it takes, in order, are F. -/
def Lie (w : World) : Cel → Value → List Nat → Prop
  | .num k n, v, F => v = .int k n ∧ F = []
  | .flag b, v, F => v = .bool b ∧ F = []
  | .seq sz n cs, v, F => sz ≤ 64 ∧ ∃ us F2, Rdc w v sz n us ∧ Lies w cs us F2 ∧ F = blk v ++ F2
def Lies (w : World) : List Cel → List Value → List Nat → Prop
  | [], us, F => us = [] ∧ F = []
  | c :: cs, us, F => ∃ u r F1 F2, us = u :: r ∧ F = F1 ++ F2 ∧ Lie w c u F1 ∧ Lies w cs r F2
end

theorem Lies.len {w : World} : ∀ {cs : List Cel} {us : List Value} {F : List Nat}, Lies w cs us F → us.length = cs.length
  | [], us, F, h => by rw [Lies] at h; rw [h.1]; rfl
  | c :: cs, us, F, h => by
    rw [Lies] at h
    obtain ⟨u, r, F1, F2, rfl, _, _, h⟩ := h
    simp [h.len]
theorem lies_nil (w : World) : Lies w [] [] [] := by rw [Lies]; exact ⟨rfl, rfl⟩
theorem lies_cons {w : World} {c : Cel} {cs : List Cel} {u : Value} {us : List Value} {F1 F2 : List Nat} (h : Lie w c u F1) (k : Lies w cs us F2) : Lies w (c :: cs) (u :: us) (F1 ++ F2) := by
  rw [Lies]; exact ⟨u, us, F1, F2, rfl, rfl, h, k⟩
theorem lies_one {w : World} {c : Cel} {u : Value} {F : List Nat} (h : Lie w c u F) : Lies w [c] [u] F := by
  have := lies_cons h (lies_nil w)
  rwa [List.append_nil] at this
theorem lie_num (w : World) (k : IntKind) (n : Int) : Lie w (.num k n) (.int k n) [] := by rw [Lie]; exact ⟨rfl, rfl⟩
theorem lie_flag (w : World) (b : Bool) : Lie w (.flag b) (.bool b) [] := by rw [Lie]; exact ⟨rfl, rfl⟩
theorem Lies.append {w : World} : ∀ {a b : List Cel} {ua ub : List Value} {Fa Fb : List Nat}, Lies w a ua Fa → Lies w b ub Fb → Lies w (a ++ b) (ua ++ ub) (Fa ++ Fb)
  | [], b, ua, ub, Fa, Fb, h, k => by rw [Lies] at h; obtain ⟨rfl, rfl⟩ := h; exact k
  | c :: a, b, ua, ub, Fa, Fb, h, k => by
    rw [Lies] at h
    obtain ⟨u, r, F1, F2, rfl, rfl, h1, h2⟩ := h
    rw [List.append_assoc]
    exact lies_cons h1 (h2.append k)
theorem Lies.parts {w : World} : ∀ {a b : List Cel} {us : List Value} {F : List Nat}, Lies w (a ++ b) us F → ∃ ua ub Fa Fb, us = ua ++ ub ∧ F = Fa ++ Fb ∧ Lies w a ua Fa ∧ Lies w b ub Fb
  | [], b, us, F, h => ⟨[], us, [], F, rfl, rfl, lies_nil w, h⟩
  | c :: a, b, us, F, h => by
    rw [List.cons_append, Lies] at h
    obtain ⟨u, r, F1, F2, rfl, rfl, h1, h2⟩ := h
    obtain ⟨ua, ub, Fa, Fb, rfl, rfl, h3, h4⟩ := h2.parts
    exact ⟨u :: ua, ub, F1 ++ Fa, Fb, rfl, by rw [List.append_assoc], lies_cons h1 h3, h4⟩

theorem Rdc.keep {w w' : World} {v : Value} {sz n : Nat} {us : List Value} (h : Rdc w v sz n us) (hs : w.heap.size ≤ w'.heap.size) (hk : ∀ g ∈ blk v, w'.heap[g]? = w.heap[g]?) : Rdc w' v sz n us := by
  obtain ⟨A, c, rfl, h1, h2, h3, h4⟩ := h
  refine ⟨A, c, rfl, h1, h2, h3, fun hn => ?_⟩
  obtain ⟨b, off, rfl, hb, hr⟩ := h4 hn
  have e := hk b (by rw [blk_some hn]; exact List.mem_singleton.2 rfl)
  exact ⟨b, off, rfl, by omega, fun j u hu => (World.cell?_of_block (w := w) (a := ⟨b, off + j, none⟩) e).trans (hr j u hu)⟩
theorem Rdc.lt {w : World} {v : Value} {sz n : Nat} {us : List Value} (h : Rdc w v sz n us) : ∀ g ∈ blk v, g < w.heap.size := by
  obtain ⟨A, c, rfl, h1, h2, h3, h4⟩ := h
  intro g hg
  rcases Nat.eq_zero_or_pos n with rfl | hn
  · rw [blk_none] at hg; cases hg
  · obtain ⟨b, off, rfl, hb, hr⟩ := h4 hn
    rw [blk_some hn] at hg
    rw [List.mem_singleton.1 hg]
    exact hb

mutual
theorem Lie.lt {w : World} : ∀ {c : Cel} {v : Value} {F : List Nat}, Lie w c v F → ∀ g ∈ F, g < w.heap.size
  | .num k n, v, F, h => by rw [Lie] at h; rw [h.2]; intro g hg; cases hg
  | .flag b, v, F, h => by rw [Lie] at h; rw [h.2]; intro g hg; cases hg
  | .seq sz n cs, v, F, h => by
    rw [Lie] at h
    obtain ⟨_, us, F2, h1, h2, rfl⟩ := h
    intro g hg
    rcases List.mem_append.1 hg with hg | hg
    · exact h1.lt g hg
    · exact h2.lt g hg
theorem Lies.lt {w : World} : ∀ {cs : List Cel} {us : List Value} {F : List Nat}, Lies w cs us F → ∀ g ∈ F, g < w.heap.size
  | [], us, F, h => by rw [Lies] at h; rw [h.2]; intro g hg; cases hg
  | c :: cs, us, F, h => by
    rw [Lies] at h
    obtain ⟨u, r, F1, F2, rfl, rfl, h1, h2⟩ := h
    intro g hg
    rcases List.mem_append.1 hg with hg | hg
    · exact h1.lt g hg
    · exact h2.lt g hg
end
mutual
theorem Lie.keep {w w' : World} (hs : w.heap.size ≤ w'.heap.size) : ∀ {c : Cel} {v : Value} {F : List Nat}, Lie w c v F → (∀ g ∈ F, w'.heap[g]? = w.heap[g]?) → Lie w' c v F
  | .num k n, v, F, h, _ => by rw [Lie] at h ⊢; exact h
  | .flag b, v, F, h, _ => by rw [Lie] at h ⊢; exact h
  | .seq sz n cs, v, F, h, hk => by
    rw [Lie] at h ⊢
    obtain ⟨h0, us, F2, h1, h2, rfl⟩ := h
    exact ⟨h0, us, F2, h1.keep hs fun g hg => hk g (List.mem_append.2 (.inl hg)), h2.keep hs fun g hg => hk g (List.mem_append.2 (.inr hg)), rfl⟩
theorem Lies.keep {w w' : World} (hs : w.heap.size ≤ w'.heap.size) : ∀ {cs : List Cel} {us : List Value} {F : List Nat}, Lies w cs us F → (∀ g ∈ F, w'.heap[g]? = w.heap[g]?) → Lies w' cs us F
  | [], us, F, h, _ => by rw [Lies] at h ⊢; exact h
  | c :: cs, us, F, h, hk => by
    rw [Lies] at h ⊢
    obtain ⟨u, r, F1, F2, rfl, rfl, h1, h2⟩ := h
    exact ⟨u, r, F1, F2, rfl, rfl, h1.keep hs fun g hg => hk g (List.mem_append.2 (.inl hg)), h2.keep hs fun g hg => hk g (List.mem_append.2 (.inr hg))⟩
end
theorem Lie.step {w w' : World} {c : Cel} {v : Value} {F : List Nat} (h : Lie w c v F) (hb : Below w.heap.size w w') : Lie w' c v F := h.keep hb.size fun g hg => hb.block g (h.lt g hg)
theorem Lies.step {w w' : World} {cs : List Cel} {us : List Value} {F : List Nat} (h : Lies w cs us F) (hb : Below w.heap.size w w') : Lies w' cs us F := h.keep hb.size fun g hg => hb.block g (h.lt g hg)

/-! ### Each value is one cell -/
theorem Lie.one {w : World} {c : Cel} {v : Value} {F : List Nat} (h : Lie w c v F) : v.oneCell' = true := by
  cases c with
  | num k n => rw [Lie] at h; rw [h.1]; rfl
  | flag b => rw [Lie] at h; rw [h.1]; rfl
  | seq sz n cs => rw [Lie] at h; obtain ⟨_, us, F2, ⟨A, c, rfl, _⟩, _⟩ := h; rfl
theorem Lies.one {w : World} : ∀ {cs : List Cel} {us : List Value} {F : List Nat}, Lies w cs us F → ∀ u ∈ us, u.oneCell' = true
  | [], us, F, h => by rw [Lies] at h; rw [h.1]; intro u hu; cases hu
  | c :: cs, us, F, h => by
    rw [Lies] at h
    obtain ⟨u, r, F1, F2, rfl, rfl, h1, h2⟩ := h
    intro x hx
    rcases List.mem_cons.1 hx with rfl | hx
    · exact h1.one
    · exact h2.one x hx

/-! ### Rows of numbers -/
abbrev raw (l : List Int) : Cel := .seq 1 l.length (l.map (Cel.num .u8))
abbrev ints (l : List Int) : Cel := .seq 1 l.length (l.map (Cel.num .i64))
theorem lies_nums (w : World) (k : IntKind) : ∀ l : List Int, Lies w (l.map (Cel.num k)) (l.map (Value.int k)) []
  | [] => lies_nil w
  | x :: l => lies_cons (lie_num w k x) (lies_nums w k l)
theorem Lies.nums {w : World} {k : IntKind} : ∀ {l : List Int} {us : List Value} {F : List Nat}, Lies w (l.map (Cel.num k)) us F → us = l.map (Value.int k) ∧ F = []
  | [], us, F, h => by rw [List.map_nil, Lies] at h; exact h
  | x :: l, us, F, h => by
    rw [List.map_cons, Lies] at h
    obtain ⟨u, r, F1, F2, rfl, rfl, h1, h2⟩ := h
    rw [Lie] at h1
    obtain ⟨rfl, rfl⟩ := h1
    obtain ⟨rfl, rfl⟩ := h2.nums
    exact ⟨rfl, rfl⟩
theorem Rd.rdc {w : World} {v : Value} {us : List Value} (h : Rd w v us) {n : Nat} (hn : n = us.length) : Rdc w v 1 n us := by
  subst hn
  obtain ⟨A, c, rfl, h1, h2, h3⟩ := h
  exact ⟨A, c, rfl, h1, h2, by omega, fun hp => by obtain ⟨b, off, e, hb, hc⟩ := h3 hp; exact ⟨b, off, e, hb, hc⟩⟩
theorem Rdc.rd {w : World} {v : Value} {n : Nat} {us : List Value} (h : Rdc w v 1 n us) : Rd w v us := by
  obtain ⟨A, c, rfl, h1, h2, h3, h4⟩ := h
  have e : us.length = n := by omega
  subst e
  exact ⟨A, c, rfl, h1, h2, fun hp => by obtain ⟨b, off, e, hb, hc⟩ := h4 hp; exact ⟨b, off, e, hb, hc⟩⟩
theorem Rd.lie {w : World} {v : Value} {l : List Int} (h : Rd w v (bs l)) : Lie w (raw l) v (blk v) := by
  rw [Lie]
  exact ⟨by decide, bs l, [], h.rdc (bs_length l).symm, lies_nums w .u8 l, by simp⟩
theorem Lie.rd {w : World} {v : Value} {l : List Int} {F : List Nat} (h : Lie w (raw l) v F) : Rd w v (bs l) ∧ F = blk v := by
  rw [Lie] at h
  obtain ⟨_, us, F2, h1, h2, rfl⟩ := h
  obtain ⟨rfl, rfl⟩ := h2.nums
  exact ⟨h1.rd, by simp⟩

/-! ### Lists of typed things -/
def cells {α : Type} (f : α → List Cel) : List α → List Cel
  | [] => []
  | x :: l => f x ++ cells f l
theorem map_cells {α : Type} (f : α → Cel) (l : List α) : l.map f = cells (fun x => [f x]) l := by
  induction l with
  | nil => rfl
  | cons x l ih => simp [cells, ih]
theorem cells_app {α : Type} (f : α → List Cel) (a b : List α) : cells f (a ++ b) = cells f a ++ cells f b := by
  induction a with
  | nil => rfl
  | cons x a ih => simp [cells, ih]
theorem cells_len {α : Type} {f : α → List Cel} {sz : Nat} (hf : ∀ x, (f x).length = sz) (l : List α) : (cells f l).length = l.length * sz := by
  induction l with
  | nil => simp [cells]
  | cons x a ih => simp [cells, ih, hf, Nat.add_mul]; omega
theorem cells_drop {α : Type} (f : α → List Cel) {l : List α} {i : Nat} (h : i < l.length) : cells f (l.drop i) = f l[i] ++ cells f (l.drop (i + 1)) := by
  rw [List.drop_eq_getElem_cons h, cells]
theorem cells_take {α : Type} (f : α → List Cel) {l : List α} {i : Nat} (h : i < l.length) : cells f (l.take (i + 1)) = cells f (l.take i) ++ f l[i] := by
  rw [List.take_succ_eq_append_getElem h, cells_app]
  simp [cells]
theorem cells_split {α : Type} (f : α → List Cel) (l : List α) (i : Nat) : cells f l = cells f (l.take i) ++ cells f (l.drop i) := by
  rw [← cells_app, List.take_append_drop]
abbrev seqOf {α : Type} (sz : Nat) (f : α → List Cel) (l : List α) : Cel := .seq sz l.length (cells f l)
theorem raw_eq (l : List Int) : raw l = seqOf 1 (fun x => [Cel.num .u8 x]) l := by rw [raw, map_cells]
theorem ints_eq (l : List Int) : ints l = seqOf 1 (fun x => [Cel.num .i64 x]) l := by rw [ints, map_cells]
abbrev names (ns : List (List Int)) : Cel := seqOf 1 (fun n => [raw n]) ns

/-! ### What a call leaves alone -/
/-- At most the blocks of F have turned. -/
structure But (F : List Nat) (w w' : World) : Prop where
  os : w'.os = w.os
  tape : w'.tape = w.tape
  output : w'.output = w.output
  size : w.heap.size ≤ w'.heap.size
  block : ∀ k, k < w.heap.size → k ∉ F → w'.heap[k]? = w.heap[k]?
theorem But.refl (F : List Nat) (w : World) : But F w w := ⟨rfl, rfl, rfl, Nat.le_refl _, fun _ _ _ => rfl⟩
theorem But.trans {F : List Nat} {a b c : World} (h : But F a b) (k : But F b c) : But F a c :=
  ⟨k.os.trans h.os, k.tape.trans h.tape, k.output.trans h.output, Nat.le_trans h.size k.size, fun i hi ho => (k.block i (Nat.lt_of_lt_of_le hi h.size) ho).trans (h.block i hi ho)⟩
theorem But.mono {F G : List Nat} {a b : World} (h : But F a b) (hs : ∀ g ∈ F, g ∈ G) : But G a b := ⟨h.os, h.tape, h.output, h.size, fun k hk hg => h.block k hk fun hf => hg (hs k hf)⟩
theorem Below.but {w w' : World} (h : Below w.heap.size w w') (F : List Nat) : But F w w' := ⟨h.os, h.tape, h.output, h.size, fun k hk _ => h.block k hk⟩
theorem But.below {F : List Nat} {B : Nat} {a w w' : World} (h : But F w w') (hb : Below B a w) (hF : ∀ g ∈ F, B ≤ g) (hs : B ≤ w.heap.size) : Below B a w' :=
  hb.trans ⟨h.os, h.tape, h.output, h.size, fun k hk => h.block k (Nat.lt_of_lt_of_le hk hs) fun hg => by have := hF k hg; omega⟩
/-- The blocks may be written. -/
def Live (w : World) (F : List Nat) : Prop := ∀ g ∈ F, ∃ cur e, w.heap[g]? = some (.cells cur e (0, 0))
theorem Live.keep {w w' : World} {F : List Nat} (h : Live w F) (hk : ∀ g ∈ F, w'.heap[g]? = w.heap[g]?) : Live w' F := fun g hg => by
  obtain ⟨cur, e, he⟩ := h g hg
  exact ⟨cur, e, (hk g hg).trans he⟩
theorem Live.lt {w : World} {F : List Nat} (h : Live w F) : ∀ g ∈ F, g < w.heap.size := fun g hg => by
  obtain ⟨cur, e, he⟩ := h g hg
  exact (Array.getElem?_eq_some_iff.1 he).1
theorem Live.step {w w' : World} {F : List Nat} (h : Live w F) (hb : Below w.heap.size w w') : Live w' F := h.keep fun g hg => hb.block g (h.lt g hg)
theorem Live.app {w : World} {F G : List Nat} (h : Live w F) (k : Live w G) : Live w (F ++ G) := fun g hg => (List.mem_append.1 hg).elim (h g) (k g)
theorem Live.set {w : World} {F : List Nat} (h : Live w F) (b j : Nat) (u : Value) : Live (w.setCell ⟨b, j, none⟩ u) F := fun g hg => by
  obtain ⟨cur, e, he⟩ := h g hg
  by_cases hgb : b = g
  · subst hgb
    exact ⟨_, e, heap_setCell_same w b j _ _ _ he⟩
  · exact ⟨cur, e, (Below.heap_setCell w ⟨b, j, none⟩ u g (fun e => hgb e.symm)).trans he⟩
/-- A result's blocks: all different, all new, all may be written. -/
structure Fresh (lo : Nat) (w : World) (F : List Nat) : Prop where
  nodup : F.Nodup
  low : ∀ g ∈ F, lo ≤ g
  live : Live w F
theorem Fresh.nil (lo : Nat) (w : World) : Fresh lo w [] := ⟨List.nodup_nil, (fun _ h => by cases h), fun _ h => by cases h⟩
theorem Fresh.step {lo : Nat} {w w' : World} {F : List Nat} (h : Fresh lo w F) (hb : Below w.heap.size w w') : Fresh lo w' F := ⟨h.nodup, h.low, h.live.step hb⟩
theorem Fresh.base {lo lo' : Nat} {w : World} {F : List Nat} (h : Fresh lo w F) (hl : lo' ≤ lo) : Fresh lo' w F := ⟨h.nodup, fun g hg => Nat.le_trans hl (h.low g hg), h.live⟩
theorem Fresh.app {lo hi : Nat} {w : World} {F G : List Nat} (h : Fresh lo w F) (hh : ∀ g ∈ F, g < hi) (k : Fresh hi w G) (hl : lo ≤ hi) : Fresh lo w (F ++ G) :=
  ⟨List.nodup_append.2 ⟨h.nodup, k.nodup, fun a ha b hb e => by have := hh a ha; have := k.low b hb; omega⟩,
   fun g hg => (List.mem_append.1 hg).elim (h.low g) fun hg => Nat.le_trans hl (k.low g hg), h.live.app k.live⟩
theorem Fresh.more {lo : Nat} {w w' : World} {F G : List Nat} (h : Fresh lo w F) (hb : Below w.heap.size w w') (k : Fresh w.heap.size w' G) (hl : lo ≤ w.heap.size) : Fresh lo w' (F ++ G) :=
  (h.step hb).app (fun g hg => h.live.lt g hg) k hl
theorem Fresh.left {lo : Nat} {w : World} {F G : List Nat} (h : Fresh lo w (F ++ G)) : Fresh lo w F :=
  ⟨(List.nodup_append.1 h.nodup).1, fun g hg => h.low g (List.mem_append.2 (.inl hg)), fun g hg => h.live g (List.mem_append.2 (.inl hg))⟩
theorem Fresh.right {lo : Nat} {w : World} {F G : List Nat} (h : Fresh lo w (F ++ G)) : Fresh lo w G :=
  ⟨(List.nodup_append.1 h.nodup).2.1, fun g hg => h.low g (List.mem_append.2 (.inr hg)), fun g hg => h.live g (List.mem_append.2 (.inr hg))⟩
/-- Behind a call that turns others' blocks only. -/
theorem Lies.but {w w' : World} {cs : List Cel} {us : List Value} {F G : List Nat} (h : Lies w cs us F) (hb : But G w w') (hd : ∀ g ∈ F, g ∉ G) : Lies w' cs us F := h.keep hb.size fun g hg => hb.block g (h.lt g hg) (hd g hg)
theorem Lie.but {w w' : World} {c : Cel} {v : Value} {F G : List Nat} (h : Lie w c v F) (hb : But G w w') (hd : ∀ g ∈ F, g ∉ G) : Lie w' c v F := h.keep hb.size fun g hg => hb.block g (h.lt g hg) (hd g hg)
theorem Live.but {w w' : World} {F G : List Nat} (h : Live w F) (hb : But G w w') (hd : ∀ g ∈ F, g ∉ G) : Live w' F := h.keep fun g hg => hb.block g (h.lt g hg) (hd g hg)

/-! ### Sizes and marks -/
/-- What is left of a measure. -/
def lft (left : Int) (n : Nat) : Int := if (n : Int) ≤ left then left - n else -1
theorem ret_lft {left : Int} {n : Nat} {x : Int} (h : (n : Int) ≤ left) (hx : x = left - n) : Ending.returned (.int .i64 x) = .returned (.int .i64 (lft left n)) := by rw [lft, if_pos h, hx]
theorem ret_lno {left : Int} {n : Nat} (h : left < (n : Int)) : Ending.returned (.int .i64 (-1)) = .returned (.int .i64 (lft left n)) := by rw [lft, if_neg (by omega)]

mutual
def Cel.bulk : Cel → Nat
  | .num _ _ => 0
  | .flag _ => 0
  | .seq _ n cs => n + bulks cs
def bulks : List Cel → Nat
  | [] => 0
  | c :: cs => c.bulk + bulks cs
end
theorem bulks_app (a b : List Cel) : bulks (a ++ b) = bulks a + bulks b := by
  induction a with
  | nil => simp [bulks]
  | cons c a ih => simp [bulks, ih]; omega
mutual
def Cel.cnt : Cel → Nat
  | .num _ _ => 1
  | .flag _ => 1
  | .seq _ _ cs => cnts cs
def cnts : List Cel → Nat
  | [] => 0
  | c :: cs => c.cnt + cnts cs
end
theorem num_cnt (k : IntKind) (n : Int) : (Cel.num k n).cnt = 1 := rfl
theorem flag_cnt (b : Bool) : (Cel.flag b).cnt = 1 := rfl
theorem cnts_app (a b : List Cel) : cnts (a ++ b) = cnts a + cnts b := by
  induction a with
  | nil => simp [cnts]
  | cons c a ih => simp [cnts, ih]; omega
def mk1 : IntKind → Int → Int
  | .u8, s => s % 256
  | _, s => s
theorem mk1_i64 (s : Int) : mk1 .i64 s = s := rfl
theorem mk1_u8 (s : Int) : mk1 .u8 s = s % 256 := rfl
mutual
def Cel.mk : Cel → Int → Cel
  | .num k _, s => .num k (mk1 k s)
  | .flag _, s => .flag (s % 3 == 0)
  | .seq sz n cs, s => .seq sz n (mkc cs s)
def mkc : List Cel → Int → List Cel
  | [], _ => []
  | c :: cs, s => c.mk s :: mkc cs (s + c.cnt)
end
theorem mkc_app (a b : List Cel) (s : Int) : mkc (a ++ b) s = mkc a s ++ mkc b (s + cnts a) := by
  induction a generalizing s with
  | nil => simp [mkc, cnts]
  | cons c a ih => simp [mkc, cnts, ih]; congr 1; omega
theorem mkc_len (a : List Cel) (s : Int) : (mkc a s).length = a.length := by
  induction a generalizing s with
  | nil => simp [mkc]
  | cons c a ih => simp [mkc, ih]
/-- By value: the numbers stay. -/
def Cel.cnt0 : Cel → Nat
  | .num _ _ => 0
  | .flag _ => 0
  | c => c.cnt
def cnts0 : List Cel → Nat
  | [] => 0
  | c :: cs => c.cnt0 + cnts0 cs
theorem cnts0_app (a b : List Cel) : cnts0 (a ++ b) = cnts0 a + cnts0 b := by
  induction a with
  | nil => simp [cnts0]
  | cons c a ih => simp [cnts0, ih]; omega
def Cel.mk0 : Cel → Int → Cel
  | .num k n, _ => .num k n
  | .flag b, _ => .flag b
  | c, s => c.mk s
def mkc0 : List Cel → Int → List Cel
  | [], _ => []
  | c :: cs, s => c.mk0 s :: mkc0 cs (s + c.cnt0)
theorem mkc0_app (a b : List Cel) (s : Int) : mkc0 (a ++ b) s = mkc0 a s ++ mkc0 b (s + cnts0 a) := by
  induction a generalizing s with
  | nil => simp [mkc0, cnts0]
  | cons c a ih => simp [mkc0, cnts0, ih]; congr 1; omega
mutual
theorem Lie.cntb {w : World} : ∀ {c : Cel} {v : Value} {F : List Nat}, Lie w c v F → c.cnt ≤ 1 + 65 * c.bulk
  | .num k n, v, F, h => by simp [Cel.cnt]
  | .flag b, v, F, h => by simp [Cel.cnt]
  | .seq sz n cs, v, F, h => by
    rw [Lie] at h
    obtain ⟨h0, us, F2, ⟨A, c, rfl, _, _, hl, _⟩, h2, rfl⟩ := h
    have h3 := h2.cntb
    have h4 := h2.len
    have h5 : n * sz ≤ n * 64 := Nat.mul_le_mul_left n h0
    rw [Cel.cnt, Cel.bulk]
    omega
theorem Lies.cntb {w : World} : ∀ {cs : List Cel} {us : List Value} {F : List Nat}, Lies w cs us F → cnts cs ≤ cs.length + 65 * bulks cs
  | [], us, F, h => by simp [cnts]
  | c :: cs, us, F, h => by
    rw [Lies] at h
    obtain ⟨u, r, F1, F2, rfl, rfl, h1, h2⟩ := h
    have h3 := h1.cntb
    have h4 := h2.cntb
    rw [cnts, bulks, List.length_cons]
    omega
end
theorem cnts0_le (cs : List Cel) : cnts0 cs ≤ cnts cs := by
  induction cs with
  | nil => simp [cnts0, cnts]
  | cons c cs ih =>
    rw [cnts0, cnts]
    cases c <;> simp [Cel.cnt0] <;> omega
mutual
theorem Cel.mk_cnt : ∀ (c : Cel) (s : Int), (c.mk s).cnt = c.cnt
  | .num k n, s => rfl
  | .flag b, s => rfl
  | .seq sz n cs, s => by rw [Cel.mk, Cel.cnt, Cel.cnt, mkc_cnts cs s]
theorem mkc_cnts : ∀ (cs : List Cel) (s : Int), cnts (mkc cs s) = cnts cs
  | [], s => rfl
  | c :: cs, s => by rw [mkc, cnts, cnts, c.mk_cnt s, mkc_cnts cs]
end

/-! ### The round of a marking loop -/
/-- The cells A are marked, the cells B not yet. -/
structure MarkP (w : World) (b off : Nat) (s : Int) (F : List Nat) (A B : List Cel) (us : List Value) (wr : World) : Prop where
  lies : Lies wr (mkc A s ++ B) us F
  range : wr.rangeAt b off us
  live : Live wr (b :: F)
  nodup : (b :: F).Nodup
  but : But (b :: F) w wr
  lt : b < wr.heap.size

theorem MarkP.cell {w : World} {b off : Nat} {s : Int} {F : List Nat} {A B : List Cel} {c : Cel} {us : List Value} {wr : World} (h : MarkP w b off s F A (c :: B) us wr) {p : Nat} (hp : p = A.length) :
    ∃ v Fa Fc Fb ua ub, F = Fa ++ (Fc ++ Fb) ∧ us = ua ++ v :: ub ∧ ua.length = p ∧ Lies wr (mkc A s) ua Fa ∧ Lie wr c v Fc ∧ Lies wr B ub Fb ∧ wr.cell? ⟨b, off + p, none⟩ = some v ∧ wr.frozen? ⟨b, off + p, none⟩ = false := by
  subst hp
  obtain ⟨ua, ub, Fa, Fb, e1, e2, h1, h2⟩ := h.lies.parts
  rw [Lies] at h2
  obtain ⟨v, r, Fc, Fd, rfl, rfl, h3, h4⟩ := h2
  have hl : ua.length = A.length := by rw [h1.len, mkc_len]
  refine ⟨v, Fa, Fc, Fd, ua, r, e2, e1, hl, h1, h3, h4, h.range A.length v ?_, ?_⟩
  · rw [e1, ← hl]; simp
  · obtain ⟨cur, e, he⟩ := h.live b (List.mem_cons_self ..)
    exact frozen_of_row wr b _ _ _ he

/-- A number or a flag is marked in its place. -/
theorem MarkP.prim {w : World} {b off : Nat} {s : Int} {F : List Nat} {A B : List Cel} {c : Cel} {x y : Value} {us : List Value} {wr : World} (h : MarkP w b off s F A (c :: B) us wr) {p : Nat} (hp : p = A.length)
    (hx : ∀ (w : World) (v : Value) (G : List Nat), Lie w c v G → v = x ∧ G = []) (hy : ∀ w : World, Lie w (c.mk (s + cnts A)) y []) :
    wr.cell? ⟨b, off + p, none⟩ = some x ∧ wr.frozen? ⟨b, off + p, none⟩ = false ∧ ∃ us', MarkP w b off s F (A ++ [c]) B us' (wr.setCell ⟨b, off + p, none⟩ y) := by
  obtain ⟨v, Fa, Fc, Fb, ua, ub, e1, e2, e3, h1, h2, h3, h4, h5⟩ := h.cell hp
  obtain ⟨rfl, rfl⟩ := hx _ _ _ h2
  refine ⟨h4, h5, ?_⟩
  have hnd := List.nodup_cons.1 h.nodup
  have hbut : But [b] wr (wr.setCell ⟨b, off + p, none⟩ y) := ⟨rfl, rfl, rfl, by simp, fun g hg hn => Below.heap_setCell wr ⟨b, off + p, none⟩ _ g (fun e => hn (List.mem_singleton.2 e))⟩
  have hd : ∀ g ∈ F, g ∉ [b] := fun g hg he => hnd.1 (List.mem_singleton.1 he ▸ hg)
  refine ⟨us.set p y, ?_, ?_, h.live.set _ _ _, h.nodup, h.but.trans (hbut.mono fun g hg => List.mem_cons.2 (.inl (List.mem_singleton.1 hg))), by simpa using h.lt⟩
  · have e4 : us.set p y = ua ++ y :: ub := by rw [e2, ← e3]; simp
    rw [e4, mkc_app, mkc, mkc, List.append_assoc, List.singleton_append, e1]
    rw [e1] at hd
    refine (h1.but hbut fun g hg => hd g (by simp [hg])).append ?_
    exact lies_cons (hy _) (h3.but hbut fun g hg => hd g (by simp [hg]))
  · intro j u hu
    by_cases hj : p = j
    · subst hj
      have hlt : p < us.length := by rw [e2]; simp; omega
      rw [List.getElem?_set_self hlt] at hu
      rw [World.cell?_setCell_same _ _ _ h4]
      exact hu
    · rw [List.getElem?_set_ne hj] at hu
      rw [World.cell?_setCell_other _ _ _ _ (by intro e; injection e with e1 e2; omega)]
      exact h.range j u hu
theorem MarkP.num {w : World} {b off : Nat} {s : Int} {F : List Nat} {A B : List Cel} {k : IntKind} {x : Int} {us : List Value} {wr : World} (h : MarkP w b off s F A (.num k x :: B) us wr) {p : Nat} (hp : p = A.length) {y : Int} (hy : y = mk1 k (s + cnts A)) :
    wr.cell? ⟨b, off + p, none⟩ = some (.int k x) ∧ wr.frozen? ⟨b, off + p, none⟩ = false ∧ ∃ us', MarkP w b off s F (A ++ [.num k x]) B us' (wr.setCell ⟨b, off + p, none⟩ (.int k y)) :=
  h.prim hp (fun w v G h => by rw [Lie] at h; exact h) fun w => by rw [Cel.mk, ← hy]; exact lie_num _ _ _
theorem MarkP.flag {w : World} {b off : Nat} {s : Int} {F : List Nat} {A B : List Cel} {x : Bool} {us : List Value} {wr : World} (h : MarkP w b off s F A (.flag x :: B) us wr) {p : Nat} (hp : p = A.length) {y : Bool} (hy : y = ((s + cnts A) % 3 == 0)) :
    wr.cell? ⟨b, off + p, none⟩ = some (.bool x) ∧ wr.frozen? ⟨b, off + p, none⟩ = false ∧ ∃ us', MarkP w b off s F (A ++ [.flag x]) B us' (wr.setCell ⟨b, off + p, none⟩ (.bool y)) :=
  h.prim hp (fun w v G h => by rw [Lie] at h; exact h) fun w => by rw [Cel.mk, ← hy]; exact lie_flag _ _

/-- A cell that is marked by a call. -/
theorem MarkP.call {w : World} {b off : Nat} {s : Int} {F : List Nat} {A B : List Cel} {c : Cel} {us : List Value} {wr : World} (h : MarkP w b off s F A (c :: B) us wr) {p : Nat} (hp : p = A.length) {y : Int} (hy : y = s + cnts A) :
    ∃ v Fc, wr.cell? ⟨b, off + p, none⟩ = some v ∧ Lie wr c v Fc ∧ Fc.Nodup ∧ Live wr Fc ∧
      ∀ W, Lie W (c.mk y) v Fc → Live W Fc → But Fc wr W → MarkP w b off s F (A ++ [c]) B us W := by
  subst hy
  obtain ⟨v, Fa, Fc, Fb, ua, ub, e1, e2, e3, h1, h2, h3, h4, h5⟩ := h.cell hp
  have hnd := List.nodup_cons.1 h.nodup
  have hnd2 := hnd.2
  rw [e1] at hnd2
  obtain ⟨n1, n2, n3⟩ := List.nodup_append.1 hnd2
  obtain ⟨n4, n5, n6⟩ := List.nodup_append.1 n2
  have hcF : ∀ g ∈ Fc, g ∈ F := fun g hg => by rw [e1]; simp [hg]
  refine ⟨v, Fc, h4, h2, n4, fun g hg => h.live g (List.mem_cons.2 (.inr (hcF g hg))), fun W hl hv hb => ?_⟩
  have hbb : b ∉ Fc := fun hg => hnd.1 (hcF b hg)
  refine ⟨?_, ?_, ?_, h.nodup, h.but.trans (hb.mono fun g hg => List.mem_cons.2 (.inr (hcF g hg))), Nat.lt_of_lt_of_le h.lt hb.size⟩
  · rw [mkc_app, mkc, mkc, List.append_assoc, List.singleton_append, e1, e2]
    refine (h1.but hb fun g hg hc => n3 g hg g (List.mem_append.2 (.inl hc)) rfl).append ?_
    exact lies_cons hl (h3.but hb fun g hg hc => n6 g hc g hg rfl)
  · intro j u hu
    rw [World.cell?_of_block (w := wr) (a := ⟨b, off + j, none⟩) (hb.block b h.lt hbb)]
    exact h.range j u hu
  · intro g hg
    by_cases hc : g ∈ Fc
    · exact hv g hc
    · obtain ⟨cur, e, he⟩ := h.live g hg
      exact ⟨cur, e, (hb.block g ((Array.getElem?_eq_some_iff.1 he).1) hc).trans he⟩

/-- The loop's state. -/
def MarkL (w : World) (v : Value) (s : Int) (F2 : List Nat) (n : Nat) (A B : List Cel) (wr : World) : Prop :=
  But (blk v ++ F2) w wr ∧ (0 < n → ∃ b off c us, v = .slice (some ⟨b, off, none⟩) n c ∧ MarkP w b off s F2 A B us wr)
theorem MarkL.start {w : World} {sz n : Nat} {cs : List Cel} {v : Value} {F : List Nat} (h : Lie w (.seq sz n cs) v F) (hnd : F.Nodup) (hlv : Live w F) (s : Int) : ∃ F2, F = blk v ++ F2 ∧ MarkL w v s F2 n [] cs w := by
  rw [Lie] at h
  obtain ⟨_, us, F2, ⟨A, c, rfl, h1, h2, h3, h4⟩, h5, rfl⟩ := h
  refine ⟨F2, rfl, But.refl _ _, fun hn => ?_⟩
  obtain ⟨b, off, rfl, hb, hr⟩ := h4 hn
  rw [blk_some hn] at hnd hlv
  exact ⟨b, off, c, us, rfl, by rw [mkc]; exact h5, hr, hlv, hnd, But.refl _ _, hb⟩
theorem MarkL.stop {w wr : World} {sz n : Nat} {cs : List Cel} {v : Value} {F F2 : List Nat} {s : Int} (h : Lie w (.seq sz n cs) v F) (hF : F = blk v ++ F2) (hlv : Live w F) (hm : MarkL w v s F2 n cs [] wr) :
    Lie wr ((Cel.seq sz n cs).mk s) v F ∧ Live wr F ∧ But F w wr := by
  subst hF
  refine ⟨?_, ?_, hm.1⟩
  · rw [Lie] at h
    obtain ⟨h0, us, F3, ⟨A, c, rfl, h1, h2, h3, h4⟩, h5, h6⟩ := h
    have h7 := List.append_cancel_left h6
    subst h7
    rw [Cel.mk, Lie]
    rcases Nat.eq_zero_or_pos n with rfl | hn
    · have hc : cs = [] := List.eq_nil_of_length_eq_zero (by rw [← h5.len, h3]; omega)
      subst hc
      rw [Lies] at h5
      obtain ⟨rfl, rfl⟩ := h5
      exact ⟨h0, [], [], ⟨A, c, rfl, h1, h2, h3, fun hn => absurd hn (by omega)⟩, by rw [mkc]; exact lies_nil _, rfl⟩
    · obtain ⟨b, off, c', us', e, hP⟩ := hm.2 hn
      injection e with e1 e2 e3
      subst e1
      have hl := hP.lies
      rw [List.append_nil] at hl
      refine ⟨h0, us', F2, ⟨_, c, rfl, h1, h2, ?_, fun _ => ⟨b, off, rfl, hP.lt, hP.range⟩⟩, hl, rfl⟩
      rw [hl.len, mkc_len, ← h5.len, h3]
  · rcases Nat.eq_zero_or_pos n with rfl | hn
    · rw [Lie] at h
      obtain ⟨h0, us, F3, ⟨A, c, rfl, h1, h2, h3, h4⟩, h5, h6⟩ := h
      have hc : cs = [] := List.eq_nil_of_length_eq_zero (by rw [← h5.len, h3]; omega)
      subst hc
      rw [Lies] at h5
      obtain ⟨rfl, rfl⟩ := h5
      have := List.append_cancel_left h6
      subst this
      rw [blk_none]
      intro g hg
      cases hg
    · obtain ⟨b, off, c', us', e, hP⟩ := hm.2 hn
      subst e
      rw [blk_some hn]
      exact hP.live
theorem MarkL.round {w : World} {v : Value} {s : Int} {F2 : List Nat} {n b off c : Nat} {A B : List Cel} {us : List Value} {wr : World} (hn : 0 < n) (hv : v = .slice (some ⟨b, off, none⟩) n c) (h : MarkP w b off s F2 A B us wr) : MarkL w v s F2 n A B wr :=
  ⟨by rw [hv, blk_some hn]; exact h.but, fun _ => ⟨b, off, c, us, hv, h⟩⟩

/-- By value: the cells A are marked, the cells B not yet. -/
structure MarkV (w : World) (s : Int) (F : List Nat) (A B : List Cel) (us : List Value) (wr : World) : Prop where
  lies : Lies wr (mkc0 A s ++ B) us F
  live : Live wr F
  nodup : F.Nodup
  but : But F w wr
theorem MarkV.num {w : World} {s : Int} {F : List Nat} {A B : List Cel} {k : IntKind} {x : Int} {us : List Value} {wr : World} (h : MarkV w s F A (.num k x :: B) us wr) : MarkV w s F (A ++ [.num k x]) B us wr :=
  ⟨by rw [mkc0_app, mkc0, mkc0, Cel.mk0, List.append_assoc]; exact h.lies, h.live, h.nodup, h.but⟩
theorem MarkV.flag {w : World} {s : Int} {F : List Nat} {A B : List Cel} {x : Bool} {us : List Value} {wr : World} (h : MarkV w s F A (.flag x :: B) us wr) : MarkV w s F (A ++ [.flag x]) B us wr :=
  ⟨by rw [mkc0_app, mkc0, mkc0, Cel.mk0, List.append_assoc]; exact h.lies, h.live, h.nodup, h.but⟩
theorem MarkV.call {w : World} {s : Int} {F : List Nat} {A B : List Cel} {sz n : Nat} {cs : List Cel} {us : List Value} {wr : World} (h : MarkV w s F A (.seq sz n cs :: B) us wr) {p : Nat} (hp : p = A.length) {v : Value} (hv : us[p]? = some v) {y : Int} (hy : y = s + cnts0 A) :
    ∃ Fc, (∀ g ∈ Fc, g ∈ F) ∧ Lie wr (.seq sz n cs) v Fc ∧ Fc.Nodup ∧ Live wr Fc ∧
      ∀ W, Lie W ((Cel.seq sz n cs).mk y) v Fc → Live W Fc → But Fc wr W → MarkV w s F (A ++ [.seq sz n cs]) B us W := by
  subst hp hy
  obtain ⟨ua, ub, Fa, Fb, e2, e1, h1, h2⟩ := h.lies.parts
  rw [Lies] at h2
  obtain ⟨v', r, Fc, Fd, rfl, rfl, h2, h3⟩ := h2
  have hl : ua.length = A.length := by
    rw [h1.len]
    clear h h1 e2 hv
    induction A generalizing s with
    | nil => rfl
    | cons c A ih => simp [mkc0, ih]
  have hv2 : v' = v := by
    rw [e2, ← hl] at hv
    simpa using hv
  subst hv2
  have hnd2 := h.nodup
  rw [e1] at hnd2
  obtain ⟨n1, n2, n3⟩ := List.nodup_append.1 hnd2
  obtain ⟨n4, n5, n6⟩ := List.nodup_append.1 n2
  have hcF : ∀ g ∈ Fc, g ∈ F := fun g hg => by rw [e1]; simp [hg]
  refine ⟨Fc, hcF, h2, n4, fun g hg => h.live g (hcF g hg), fun W hlw hvw hb => ⟨?_, ?_, h.nodup, h.but.trans (hb.mono hcF)⟩⟩
  · rw [mkc0_app, mkc0, mkc0, List.append_assoc, List.singleton_append, e1, e2]
    refine (h1.but hb fun g hg hc => n3 g hg g (List.mem_append.2 (.inl hc)) rfl).append ?_
    exact lies_cons hlw (h3.but hb fun g hg hc => n6 g hc g hg rfl)
  · intro g hg
    by_cases hc : g ∈ Fc
    · exact hvw g hc
    · obtain ⟨cur, e, he⟩ := h.live g hg
      exact ⟨cur, e, (hb.block g ((Array.getElem?_eq_some_iff.1 he).1) hc).trans he⟩

/-! ### What the laws' helpers do -/
section
variable (P : Program)
def MarkC (f : FuncId) (c : Cel) : Prop := ∀ (v : Value) (F : List Nat) (s : Int) (w : World), Lie w c v F → F.Nodup → Live w F → 0 ≤ s → s + c.cnt ≤ 1099511627776 →
  Calls P f #[v, .int .i64 s] w fun e w' => e = .returned (.int .i64 (s + c.cnt)) ∧ Lie w' (c.mk s) v F ∧ Live w' F ∧ But F w w'
def MarkA (f : FuncId) (cs : List Cel) : Prop := ∀ (us : List Value) (F : List Nat) (s : Int) (w : World), Lies w cs us F → F.Nodup → Live w F → 0 ≤ s → s + cnts0 cs ≤ 1099511627776 →
  Calls P f #[.agg us.toArray, .int .i64 s] w fun e w' => e = .returned (.int .i64 (s + cnts0 cs)) ∧ Lies w' (mkc0 cs s) us F ∧ Live w' F ∧ But F w w'
def HeldC (f : FuncId) (c : Cel) : Prop := ∀ (v : Value) (F : List Nat) (s : Int) (w : World), Lie w (c.mk s) v F → 0 ≤ s → s + c.cnt ≤ 1099511627776 →
  Calls P f #[v, .int .i64 s] w fun e w' => e = .returned (.int .i64 (s + c.cnt)) ∧ Below w.heap.size w w'
def HeldA (f : FuncId) (cs : List Cel) : Prop := ∀ (us : List Value) (F : List Nat) (s : Int) (w : World), Lies w (mkc0 cs s) us F → 0 ≤ s → s + cnts0 cs ≤ 1099511627776 →
  Calls P f #[.agg us.toArray, .int .i64 s] w fun e w' => e = .returned (.int .i64 (s + cnts0 cs)) ∧ Below w.heap.size w w'
def EqC (f : FuncId) (c : Cel) : Prop := ∀ (v1 v2 : Value) (F1 F2 : List Nat) (w : World), Lie w c v1 F1 → Lie w c v2 F2 →
  Calls P f #[v1, v2] w fun e w' => e = .returned (.bool true) ∧ Below w.heap.size w w'
def EqA (f : FuncId) (cs : List Cel) : Prop := ∀ (us1 us2 : List Value) (F1 F2 : List Nat) (w : World), Lies w cs us1 F1 → Lies w cs us2 F2 →
  Calls P f #[.agg us1.toArray, .agg us2.toArray] w fun e w' => e = .returned (.bool true) ∧ Below w.heap.size w w'
def SzC (f : FuncId) (c : Cel) : Prop := ∀ (v : Value) (F : List Nat) (left : Int) (w : World), Lie w c v F → 0 ≤ left → left ≤ 1048576 →
  Calls P f #[v, .int .i64 left] w fun e w' => e = .returned (.int .i64 (lft left c.bulk)) ∧ Below w.heap.size w w'
def SzA (f : FuncId) (cs : List Cel) : Prop := ∀ (us : List Value) (F : List Nat) (left : Int) (w : World), Lies w cs us F → 0 ≤ left → left ≤ 1048576 →
  Calls P f #[.agg us.toArray, .int .i64 left] w fun e w' => e = .returned (.int .i64 (lft left (bulks cs))) ∧ Below w.heap.size w w'
def ToC (f : FuncId) (c : Cel) : Prop := ∀ (v : Value) (F : List Nat) (w : World), Lie w c v F → c.bulk ≤ 1048576 →
  Calls P f #[v] w fun e w' => ∃ v' F', e = .returned v' ∧ Lie w' c v' F' ∧ Fresh w.heap.size w' F' ∧ Below w.heap.size w w'
def ToA (f : FuncId) (cs : List Cel) : Prop := ∀ (us : List Value) (F : List Nat) (w : World), Lies w cs us F → bulks cs ≤ 1048576 →
  Calls P f #[.agg us.toArray] w fun e w' => ∃ us' F', e = .returned (.agg us'.toArray) ∧ Lies w' cs us' F' ∧ Fresh w.heap.size w' F' ∧ Below w.heap.size w w'
end

/-! ### The round of a reading loop -/
theorem Lies.cell {w : World} {A B : List Cel} {c : Cel} {us : List Value} {F : List Nat} (h : Lies w (A ++ c :: B) us F) {p : Nat} (hp : p = A.length) : ∃ v Fc, us[p]? = some v ∧ Lie w c v Fc := by
  subst hp
  obtain ⟨ua, ub, Fa, Fb, e1, e2, h1, h2⟩ := h.parts
  rw [Lies] at h2
  obtain ⟨v, r, Fc, Fd, rfl, rfl, h3, h4⟩ := h2
  exact ⟨v, Fc, by rw [e1, ← h1.len]; simp, h3⟩
theorem Lies.mid {w : World} {A M B : List Cel} {us : List Value} {F : List Nat} (h : Lies w (A ++ (M ++ B)) us F) {p n : Nat} (hp : p = A.length) (hn : n = M.length) : ∃ Fc, Lies w M ((us.drop p).take n) Fc := by
  subst hp hn
  obtain ⟨ua, ub, Fa, Fb, e1, e2, h1, h2⟩ := h.parts
  obtain ⟨uc, ud, Fc, Fd, e3, e4, h3, h4⟩ := h2.parts
  refine ⟨Fc, ?_⟩
  have : (us.drop A.length).take M.length = uc := by rw [e1, ← h1.len, e3, ← h3.len]; simp
  rw [this]
  exact h3
theorem rangeAt_mid {w : World} {b off : Nat} {us : List Value} (h : w.rangeAt b off us) (p n : Nat) : w.rangeAt b (off + p) ((us.drop p).take n) := fun j v hv => by
  rw [Nat.add_assoc]
  refine h (p + j) v ?_
  rw [List.getElem?_take] at hv
  split at hv
  · rwa [List.getElem?_drop] at hv
  · cases hv

/-- The marks are being found again: the cells A are past. -/
structure HeldP (b off : Nat) (s : Int) (F : List Nat) (A B : List Cel) (us : List Value) (wr : World) : Prop where
  lies : Lies wr (mkc (A ++ B) s) us F
  range : wr.rangeAt b off us
  lt : b < wr.heap.size
theorem HeldP.next {b off : Nat} {s : Int} {F : List Nat} {A B : List Cel} {c : Cel} {us : List Value} {wr : World} (h : HeldP b off s F A (c :: B) us wr) : HeldP b off s F (A ++ [c]) B us wr :=
  ⟨by rw [List.append_assoc]; exact h.lies, h.range, h.lt⟩
theorem HeldP.step {b off : Nat} {s : Int} {F : List Nat} {A B : List Cel} {us : List Value} {wr W : World} (h : HeldP b off s F A B us wr) (hb : Below wr.heap.size wr W) : HeldP b off s F A B us W :=
  ⟨h.lies.step hb, fun j v hv => (hb.cell (p := ⟨b, off + j, none⟩) h.lt).trans (h.range j v hv), Nat.lt_of_lt_of_le h.lt hb.size⟩
theorem HeldP.call {b off : Nat} {s : Int} {F : List Nat} {A B : List Cel} {c : Cel} {us : List Value} {wr : World} (h : HeldP b off s F A (c :: B) us wr) {p : Nat} (hp : p = A.length) {y : Int} (hy : y = s + cnts A) :
    ∃ v Fc, wr.cell? ⟨b, off + p, none⟩ = some v ∧ Lie wr (c.mk y) v Fc := by
  subst hy
  have h1 := h.lies
  rw [mkc_app, mkc] at h1
  obtain ⟨v, Fc, h2, h3⟩ := h1.cell (p := p) (by rw [mkc_len]; exact hp)
  exact ⟨v, Fc, h.range p v h2, h3⟩
theorem HeldP.num {b off : Nat} {s : Int} {F : List Nat} {A B : List Cel} {k : IntKind} {x : Int} {us : List Value} {wr : World} (h : HeldP b off s F A (.num k x :: B) us wr) {p : Nat} (hp : p = A.length) {y : Int} (hy : y = mk1 k (s + cnts A)) :
    wr.cell? ⟨b, off + p, none⟩ = some (.int k y) := by
  obtain ⟨v, Fc, h1, h2⟩ := h.call hp rfl
  rw [Cel.mk, Lie, ← hy] at h2
  rw [h1, h2.1]
theorem HeldP.flag {b off : Nat} {s : Int} {F : List Nat} {A B : List Cel} {x : Bool} {us : List Value} {wr : World} (h : HeldP b off s F A (.flag x :: B) us wr) {p : Nat} (hp : p = A.length) {y : Bool} (hy : y = ((s + cnts A) % 3 == 0)) :
    wr.cell? ⟨b, off + p, none⟩ = some (.bool y) := by
  obtain ⟨v, Fc, h1, h2⟩ := h.call hp rfl
  rw [Cel.mk, Lie, ← hy] at h2
  rw [h1, h2.1]
def HeldL (w : World) (v : Value) (s : Int) (F2 : List Nat) (n : Nat) (A B : List Cel) (wr : World) : Prop :=
  Below w.heap.size w wr ∧ (0 < n → ∃ b off c us, v = .slice (some ⟨b, off, none⟩) n c ∧ HeldP b off s F2 A B us wr)
theorem HeldL.start {w : World} {sz n : Nat} {cs : List Cel} {v : Value} {F : List Nat} {s : Int} (h : Lie w ((Cel.seq sz n cs).mk s) v F) : ∃ F2, HeldL w v s F2 n [] cs w := by
  rw [Cel.mk, Lie] at h
  obtain ⟨_, us, F2, ⟨A, c, rfl, h1, h2, h3, h4⟩, h5, rfl⟩ := h
  refine ⟨F2, Below.refl _ _, fun hn => ?_⟩
  obtain ⟨b, off, rfl, hb, hr⟩ := h4 hn
  exact ⟨b, off, c, us, rfl, h5, hr, hb⟩
theorem HeldL.round {w : World} {v : Value} {s : Int} {F2 : List Nat} {n b off c : Nat} {A B : List Cel} {us : List Value} {wr : World} (hv : v = .slice (some ⟨b, off, none⟩) n c) (h : HeldP b off s F2 A B us wr) (hb : Below w.heap.size w wr) : HeldL w v s F2 n A B wr :=
  ⟨hb, fun _ => ⟨b, off, c, us, hv, h⟩⟩
theorem Lie.form {w : World} {sz n : Nat} {cs : List Cel} {v : Value} {F : List Nat} (h : Lie w (.seq sz n cs) v F) : ∃ A c, v = .slice A n c ∧ n ≤ c ∧ c ≤ maxLen := by
  rw [Lie] at h
  obtain ⟨_, us, F2, ⟨A, c, e, h1, h2, _⟩, _⟩ := h
  exact ⟨A, c, e, h1, h2⟩

/-! ### Cells that are read -/
structure ReadP (b off : Nat) (cs : List Cel) (us : List Value) (F : List Nat) (wr : World) : Prop where
  lies : Lies wr cs us F
  range : wr.rangeAt b off us
  lt : b < wr.heap.size
theorem ReadP.step {b off : Nat} {cs : List Cel} {us : List Value} {F : List Nat} {wr W : World} (h : ReadP b off cs us F wr) (hb : Below wr.heap.size wr W) : ReadP b off cs us F W :=
  ⟨h.lies.step hb, fun j v hv => (hb.cell (p := ⟨b, off + j, none⟩) h.lt).trans (h.range j v hv), Nat.lt_of_lt_of_le h.lt hb.size⟩
theorem ReadP.cell {b off : Nat} {A B : List Cel} {c : Cel} {us : List Value} {F : List Nat} {wr : World} (h : ReadP b off (A ++ c :: B) us F wr) {p : Nat} (hp : p = A.length) : ∃ v Fc, wr.cell? ⟨b, off + p, none⟩ = some v ∧ Lie wr c v Fc := by
  obtain ⟨v, Fc, h1, h2⟩ := h.lies.cell hp
  exact ⟨v, Fc, h.range p v h1, h2⟩
theorem ReadP.mid {b off : Nat} {A M B : List Cel} {us : List Value} {F : List Nat} {wr : World} (h : ReadP b off (A ++ (M ++ B)) us F wr) {p n : Nat} (hp : p = A.length) (hn : M.length = n) :
    ∃ xs Fc, xs.length = n ∧ wr.rangeAt b (off + p) xs ∧ Lies wr M xs Fc := by
  obtain ⟨Fc, h1⟩ := h.lies.mid hp hn.symm
  exact ⟨_, Fc, by rw [h1.len, hn], rangeAt_mid h.range p n, h1⟩
theorem Lie.read {w : World} {sz n : Nat} {cs : List Cel} {v : Value} {F : List Nat} (h : Lie w (.seq sz n cs) v F) :
    ∃ A c, v = .slice A n c ∧ n ≤ c ∧ c ≤ maxLen ∧ (0 < n → ∃ b off us F2, A = some ⟨b, off, none⟩ ∧ ReadP b off cs us F2 w) := by
  rw [Lie] at h
  obtain ⟨_, us, F2, ⟨A, c, e, h1, h2, h3, h4⟩, h5, _⟩ := h
  refine ⟨A, c, e, h1, h2, fun hn => ?_⟩
  obtain ⟨b, off, e2, hb, hr⟩ := h4 hn
  exact ⟨b, off, us, F2, e2, h5, hr, hb⟩
theorem Lie.sz {w : World} {sz n : Nat} {cs : List Cel} {v : Value} {F : List Nat} (h : Lie w (.seq sz n cs) v F) : sz ≤ 64 ∧ cs.length = n * sz := by
  rw [Lie] at h
  obtain ⟨h0, us, F2, ⟨A, c, e, h1, h2, h3, h4⟩, h5, _⟩ := h
  exact ⟨h0, by rw [← h5.len, h3]⟩

/-! ### A struct in a block of its own -/
def Box (w : World) (g : Nat) (t : TypeId) (us : List Value) : Prop := w.heap[g]? = some (.cells us.toArray t (0, 0))
section
variable {w w' : World} {g : Nat} {t : TypeId} {us : List Value}
theorem Box.lt (h : Box w g t us) : g < w.heap.size := (Array.getElem?_eq_some_iff.1 h).1
theorem Box.cell (h : Box w g t us) {j : Nat} {u : Value} (hu : us[j]? = some u) : w.cell? ⟨g, j, none⟩ = some u := by
  rw [cell_of_row w g j _ _ (0, 0) h]
  simpa using hu
theorem Box.fz (h : Box w g t us) (j : Nat) : w.frozen? ⟨g, j, none⟩ = false := frozen_of_row w g j _ _ h
theorem Box.step (h : Box w g t us) (hb : Below w.heap.size w w') : Box w' g t us := (hb.block g h.lt).trans h
theorem Box.keep (h : Box w g t us) (hb : w'.heap[g]? = w.heap[g]?) : Box w' g t us := hb.trans h
theorem Box.set (h : Box w g t us) (j : Nat) (x : Value) : Box (w.setCell ⟨g, j, none⟩ x) g t (us.set j x) := by
  have := heap_setCell_same w g j _ _ x h
  rw [Box, this]
  simp
theorem Box.range (h : Box w g t us) : w.rangeAt g 0 us := fun j v hv => by
  rw [Nat.zero_add]
  exact h.cell hv
theorem Box.mid (h : Box w g t us) (p n : Nat) : w.rangeAt g p ((us.drop p).take n) := fun j v hv => by
  refine h.cell ?_
  rw [List.getElem?_take] at hv
  split at hv
  · rwa [List.getElem?_drop] at hv
  · cases hv
theorem Box.there (h : Box w g t us) {o n : Nat} (hn : o + n ≤ us.length) : w.there g o n := fun j hj => by
  refine ⟨?_, h.fz _⟩
  have : us[o + j]? = some us[o + j] := List.getElem?_eq_getElem (by omega)
  rw [h.cell this]
  rfl
theorem Box.new (w : World) (us : List Value) (t : TypeId) : Box (w.alloc (.cells us.toArray t)) w.heap.size t us := heap_alloc_new w _
theorem Box.other (h : Box w g t us) (b j : Nat) (x : Value) (hne : g ≠ b) : Box (w.setCell ⟨b, j, none⟩ x) g t us := (Below.heap_setCell w ⟨b, j, none⟩ x g hne).trans h
end
/-- A list is written over from a place on. -/
def setList (xs : List Value) : Nat → List Value → List Value
  | _, [] => xs
  | o, v :: r => setList (xs.set o v) (o + 1) r
theorem setList_len (o : Nat) (vs xs : List Value) : (setList xs o vs).length = xs.length := by
  induction vs generalizing o xs with
  | nil => rfl
  | cons v r ih => rw [setList, ih, List.length_set]
theorem Box.sets {g : Nat} {t : TypeId} : ∀ {vs : List Value} {o : Nat} {w : World} {us : List Value}, Box w g t us → Box (w.setCells g o vs) g t (setList us o vs)
  | [], o, w, us, h => h
  | v :: r, o, w, us, h => by
    rw [World.setCells, setList]
    exact Box.sets (h.set o v)
theorem setList_at (us zs vs : List Value) (o : Nat) (ho : o = us.length) (h : vs.length ≤ zs.length) : setList (us ++ zs) o vs = us ++ vs ++ zs.drop vs.length := by
  subst ho
  induction vs generalizing us zs with
  | nil => simp [setList]
  | cons v r ih =>
    cases zs with
    | nil => simp at h
    | cons z zs =>
      rw [setList]
      have e : (us ++ z :: zs).set us.length v = (us ++ [v]) ++ zs := by simp
      rw [e]
      have := ih (us ++ [v]) zs (by simpa using h)
      rw [List.length_append] at this
      rw [show us.length + 1 = us.length + [v].length by rfl, this]
      simp
theorem but_set (w : World) (g o : Nat) (v : Value) : But [g] w (w.setCell ⟨g, o, none⟩ v) := ⟨rfl, rfl, rfl, by simp, fun k hk hn => Below.heap_setCell w ⟨g, o, none⟩ v k (fun e => hn (List.mem_singleton.2 e))⟩
theorem but_sets (w : World) (g : Nat) : ∀ (vs : List Value) (o : Nat), But [g] w (w.setCells g o vs)
  | vs, o => by
    induction vs generalizing o w with
    | nil => exact But.refl _ _
    | cons v r ih =>
      rw [World.setCells]
      exact (but_set w g o v).trans (ih _ _)
theorem size_sets (g : Nat) (vs : List Value) (o : Nat) (w : World) : (w.setCells g o vs).heap.size = w.heap.size := by
  induction vs generalizing o w with
  | nil => rfl
  | cons v r ih => rw [World.setCells, ih]; simp

/-! ### A row that is filled -/
/-- The block g of the row: us, then what was there. -/
structure CopyP (w : World) (g : Nat) (e : TypeId) (tot : Nat) (A : List Cel) (us : List Value) (F : List Nat) (wr : World) : Prop where
  row : ∃ zs, Box wr g e (us ++ zs) ∧ (us ++ zs).length = tot
  lies : Lies wr A us F
  fresh : Fresh (g + 1) wr F
  below : Below w.heap.size w wr
  low : w.heap.size ≤ g
theorem CopyP.start {w w1 : World} {g : Nat} {e : TypeId} {tot : Nat} {zs : List Value} (hb : Box w1 g e zs) (hl : zs.length = tot) (bel : Below w.heap.size w w1) (hg : w.heap.size ≤ g) : CopyP w g e tot [] [] [] w1 :=
  ⟨⟨zs, hb, hl⟩, lies_nil _, Fresh.nil _ _, bel, hg⟩
/-- Behind the call that made the element. -/
theorem CopyP.put {w wr w2 : World} {g : Nat} {e : TypeId} {tot : Nat} {A M : List Cel} {us vs : List Value} {F F2 : List Nat} (h : CopyP w g e tot A us F wr) (hb : Below wr.heap.size wr w2) (hl : Lies w2 M vs F2) (hf : Fresh wr.heap.size w2 F2)
    {p : Nat} (hp : p = A.length) (ht : A.length + M.length ≤ tot) :
    w2.there g p vs.length ∧ CopyP w g e tot (A ++ M) (us ++ vs) (F ++ F2) (w2.setCells g p vs) := by
  obtain ⟨⟨zs, h1, h2⟩, h3, h4, h5, h6⟩ := h
  have hu : us.length = p := by rw [h3.len, hp]
  have hv : vs.length = M.length := hl.len
  have hgl := h1.lt
  have b2 := h1.step hb
  rw [List.length_append] at h2
  have hset : Box (w2.setCells g p vs) g e (us ++ vs ++ zs.drop vs.length) := by
    rw [← setList_at us zs vs p hu.symm (by omega)]
    exact b2.sets
  have bs := but_sets w2 g vs p
  have h4' : Fresh (g + 1) w2 (F ++ F2) := by
    refine (h4.step hb).app (hi := wr.heap.size) (fun x hx => h4.live.lt x hx) hf (by omega)
  have hd : ∀ x ∈ F ++ F2, x ∉ [g] := fun x hx he => by
    have := h4'.low x hx
    have := List.mem_singleton.1 he
    omega
  refine ⟨b2.there (by rw [List.length_append]; omega), ⟨⟨zs.drop vs.length, hset, by simp; omega⟩, ?_, ⟨h4'.nodup, h4'.low, h4'.live.but bs hd⟩, ?_, h6⟩⟩
  · exact ((h3.step hb).append hl).but bs hd
  · exact bs.below (h5.trans (hb.mono (by omega))) (fun x hx => by rw [List.mem_singleton.1 hx]; exact h6) (by have := h5.size; have := hb.size; omega)
theorem CopyP.stop {w wr : World} {g : Nat} {e : TypeId} {n sz : Nat} {A : List Cel} {us : List Value} {F : List Nat} (h : CopyP w g e (n * sz) A us F wr) (hA : A.length = n * sz) (h64 : sz ≤ 64) (hn : n ≤ maxLen) :
    ∃ F', Lie wr (.seq sz n A) (.slice (some ⟨g, 0, none⟩) n n) F' ∧ Fresh w.heap.size wr F' ∧ Below w.heap.size w wr := by
  obtain ⟨⟨zs, h1, h2⟩, h3, h4, h5, h6⟩ := h
  have hz : zs = [] := List.eq_nil_of_length_eq_zero (by rw [List.length_append, h3.len, hA] at h2; omega)
  subst hz
  rw [List.append_nil] at h1 h2
  refine ⟨blk (.slice (some ⟨g, 0, none⟩) n n) ++ F, ?_, ?_, h5⟩
  · rw [Lie]
    exact ⟨h64, us, F, ⟨_, n, rfl, Nat.le_refl _, hn, h2, fun _ => ⟨g, 0, rfl, h1.lt, h1.range⟩⟩, h3, rfl⟩
  · rcases Nat.eq_zero_or_pos n with rfl | hp
    · rw [blk_none]
      exact h4.base (by omega)
    · rw [blk_some hp]
      refine ⟨List.nodup_cons.2 ⟨fun hg => by have := h4.low g hg; omega, h4.nodup⟩, fun x hx => ?_, fun x hx => ?_⟩
      · rcases List.mem_cons.1 hx with rfl | hx
        · exact h6
        · have := h4.low x hx; omega
      · rcases List.mem_cons.1 hx with rfl | hx
        · exact ⟨_, _, h1⟩
        · exact h4.live x hx

/-! ### Guards -/
theorem at_load (ty : TypeId) {P : Program} {ops : Array Oper} {rest : List Oper} {d : Option Tmp} {x : Operand} {t : TypeId} {pos : String} {after : Array Edge} {guard : Option (Tmp × Bool)} {a : Act} {w : World} {Q : Exit → Act → World → Prop}
    (h : wpList P ops Q (⟨d, .load ty x, t, pos, after, guard⟩ :: rest) a w) : wpList P ops Q (⟨d, .load ty x, t, pos, after, guard⟩ :: rest) a w := h
theorem at_store (ty : TypeId) {P : Program} {ops : Array Oper} {rest : List Oper} {d : Option Tmp} {x y : Operand} {t : TypeId} {pos : String} {after : Array Edge} {guard : Option (Tmp × Bool)} {a : Act} {w : World} {Q : Exit → Act → World → Prop}
    (h : wpList P ops Q (⟨d, .store ty x y, t, pos, after, guard⟩ :: rest) a w) : wpList P ops Q (⟨d, .store ty x y, t, pos, after, guard⟩ :: rest) a w := h
/-- Cells read in a region of which only the tail writes. -/
theorem wpStill_load_rng {P : Program} {ops : Array Oper} {rest : List Oper} {o : Oper} {a : Act} {w : World} {K : Act → Prop} (hgd : o.guard = none) (ty : TypeId) (x : Operand) (ho : o.op = .load ty x)
    (b off : Nat) (hx : a.eval x = .pointer (some ⟨b, off, none⟩)) (cs : List Value) (d : TypeDesc) (hc : w.rangeAt b off cs)
    (hu : P.underlying ty = some d) (hd : d.isRow = true) (hi : (P.info? ty).map (·.size) = some cs.length)
    (h : wpStill P ops w K rest (a.put o.dst (.agg cs.toArray))) : wpStill P ops w K (o :: rest) a := by
  refine wpStill_step fun L hL => ?_
  have hw : Region.wanted o (yielded ops a.tmps) = true := by simp [Region.wanted, hgd]
  rw [if_pos hw]
  unfold Oper.still execOp
  simp only [ho, hx, Instr.loadAt, Instr.sureAddr, Sem.run_bind, Sem.run_pure, Result.andThen_ok, run_loadVar_mid w b off ty cs d hc hu hd hi, Oper.stillUpon]
  exact ⟨trivial, hL _ h⟩

end Go.Proofs.Ytnloknhcdlannaa
