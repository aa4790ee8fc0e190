
/-
  Rows that a call makes by append, and what their cells read as; elements that are read.
-/
import Derived.Test.YtnloknhcdlannaaDat
import Derived.Maps.AppendAt
namespace Go.Proofs.Ytnloknhcdlannaa
open Go.RowKit
set_option linter.unusedVariables false

/-- The datum lies in the cells, wherever. -/
def Ins (w : World) (cs : List Cel) (us : List Value) : Prop := ∃ F, Lies w cs us F
def In1 (w : World) (c : Cel) (v : Value) : Prop := ∃ F, Lie w c v F
theorem Ins.step {w w' : World} {cs : List Cel} {us : List Value} (h : Ins w cs us) (hb : Below w.heap.size w w') : Ins w' cs us := h.elim fun F h => ⟨F, h.step hb⟩
theorem In1.step {w w' : World} {c : Cel} {v : Value} (h : In1 w c v) (hb : Below w.heap.size w w') : In1 w' c v := h.elim fun F h => ⟨F, h.step hb⟩

/-- A row of the call's own, and what its cells read as. -/
def Row (lo : Nat) (w : World) (e : TypeId) (sz n : Nat) (cs : List Cel) (v : Value) (F : List Nat) : Prop :=
  sz ≤ 64 ∧ ∃ us, w.ownsRow lo e sz v n us ∧ Lies w cs us F ∧ ∀ g ∈ F, v.ownBlock ≠ some g
theorem Row.nil (lo : Nat) (w : World) (e : TypeId) (sz : Nat) (h : sz ≤ 64) : Row lo w e sz 0 [] (.slice none 0 0) [] :=
  ⟨h, [], World.ownsRow_nil _ _ _ _, lies_nil w, fun _ h => by cases h⟩
theorem Row.lit0 (w : World) (e : TypeId) (sz : Nat) (h : sz ≤ 64) : Row w.heap.size (w.alloc (.cells #[] e)) e sz 0 [] (.slice (some ⟨w.heap.size, 0, none⟩) 0 0) [] :=
  ⟨h, [], World.ownsRow_lit w #[] 0 (Nat.le_refl _) (Nat.zero_le _) (by simp), lies_nil _, fun _ h => by cases h⟩
theorem Row.step {lo : Nat} {w w' : World} {e : TypeId} {sz n : Nat} {cs : List Cel} {v : Value} {F : List Nat} (h : Row lo w e sz n cs v F) (hb : Below w.heap.size w w') : Row lo w' e sz n cs v F := by
  obtain ⟨h0, us, h1, h2, h3⟩ := h
  refine ⟨h0, us, ⟨h1.1, ?_⟩, h2.step hb, h3⟩
  rcases h1.2 with hn | ⟨g, cap, cur, rfl, hbg, hg, rest⟩
  · exact .inl hn
  · exact .inr ⟨g, cap, cur, rfl, hbg, by rw [hb.block g (Array.getElem?_eq_some_iff.1 hg).1]; exact hg, rest⟩
theorem Row.base {lo lo' : Nat} {w : World} {e : TypeId} {sz n : Nat} {cs : List Cel} {v : Value} {F : List Nat} (h : Row lo w e sz n cs v F) (hl : lo' ≤ lo) : Row lo' w e sz n cs v F := by
  obtain ⟨h0, us, h1, h2, h3⟩ := h
  refine ⟨h0, us, ⟨h1.1, ?_⟩, h2, h3⟩
  rcases h1.2 with hn | ⟨g, cap, cur, rfl, hbg, hg, rest⟩
  · exact .inl hn
  · exact .inr ⟨g, cap, cur, rfl, Nat.le_trans hl hbg, hg, rest⟩
theorem Row.form {lo : Nat} {w : World} {e : TypeId} {sz n : Nat} {cs : List Cel} {v : Value} {F : List Nat} (h : Row lo w e sz n cs v F) : ∃ A c, v = .slice A n c ∧ n ≤ c ∧ c ≤ maxLen := by
  obtain ⟨h0, us, h1, h2, h3⟩ := h
  rcases h1.2 with ⟨rfl, rfl⟩ | ⟨g, cap, cur, rfl, hbg, hg, hn, hc, _⟩
  · exact ⟨none, 0, rfl, Nat.le_refl _, Nat.zero_le _⟩
  · exact ⟨_, cap, rfl, hn, hc⟩
theorem Row.low {lo : Nat} {w : World} {e : TypeId} {sz n : Nat} {cs : List Cel} {v : Value} {F : List Nat} (h : Row lo w e sz n cs v F) : ∀ g, v.ownBlock = some g → lo ≤ g ∧ g < w.heap.size := by
  obtain ⟨h0, us, h1, h2, h3⟩ := h
  exact h1.lt
theorem Row.lie {lo : Nat} {w : World} {e : TypeId} {sz n : Nat} {cs : List Cel} {v : Value} {F : List Nat} (h : Row lo w e sz n cs v F) : Lie w (.seq sz n cs) v (blk v ++ F) := by
  obtain ⟨h0, us, h1, h2, h3⟩ := h
  rw [Lie]
  refine ⟨h0, us, F, ?_, h2, rfl⟩
  rcases h1.2 with ⟨rfl, rfl⟩ | ⟨g, cap, cur, rfl, hbg, hg, hn, hc, hs, ht⟩
  · exact ⟨none, 0, rfl, Nat.le_refl _, Nat.zero_le _, h1.1, fun h => by omega⟩
  · refine ⟨_, cap, rfl, hn, hc, h1.1, fun _ => ⟨g, 0, rfl, (Array.getElem?_eq_some_iff.1 hg).1, fun j u hu => ?_⟩⟩
    have hj : j < n * sz := by
      have := (List.getElem?_eq_some_iff.1 hu).1
      have := h1.1
      omega
    rw [Nat.zero_add, h1.cellAt j hj]
    exact hu
theorem Row.in1 {lo : Nat} {w : World} {e : TypeId} {sz n : Nat} {cs : List Cel} {v : Value} {F : List Nat} (h : Row lo w e sz n cs v F) : In1 w (.seq sz n cs) v := ⟨_, h.lie⟩
/-- Both the row's own block and its elements' are above a bound. -/
theorem Row.above {lo : Nat} {w : World} {e : TypeId} {sz n : Nat} {cs : List Cel} {v : Value} {F : List Nat} (h : Row lo w e sz n cs v F) (hF : ∀ g ∈ F, lo ≤ g) : ∀ g ∈ blk v ++ F, lo ≤ g := by
  intro g hg
  rcases List.mem_append.1 hg with hg | hg
  · obtain ⟨h0, us, h1, h2, h3⟩ := h
    rcases h1.2 with ⟨rfl, rfl⟩ | ⟨b, cap, cur, rfl, hbg, _⟩
    · simp [blk] at hg
    · rcases Nat.eq_zero_or_pos n with rfl | hn
      · rw [blk_none] at hg; cases hg
      · rw [blk_some hn] at hg
        rw [List.mem_singleton.1 hg]
        exact hbg
  · exact hF g hg

/-- Blocks that are older than a row, or younger than its world, are not its own. -/
theorem Row.far {lo : Nat} {w : World} {e : TypeId} {sz n : Nat} {cs : List Cel} {v : Value} {F : List Nat} (h : Row lo w e sz n cs v F) {G : List Nat} (hG : ∀ g ∈ G, g < lo ∨ w.heap.size ≤ g) : ∀ g ∈ G, v.ownBlock ≠ some g := fun g hg e => by
  have := h.low g e
  have := hG g hg
  omega
/-- One element, laid into a block of its own for append. -/
theorem one_rdc (w : World) {us : List Value} {sz : Nat} (t : TypeId) (hs : us.length = sz) : Rdc (w.alloc (.cells us.toArray t)) (.slice (some ⟨w.heap.size, 0, none⟩) 1 1) sz 1 us :=
  ⟨_, 1, rfl, Nat.le_refl _, by simp [maxLen], by omega, fun _ => ⟨w.heap.size, 0, rfl, by simp, fun j u hu => by
    rw [Nat.zero_add]
    exact (Box.new w us t).cell hu⟩⟩

theorem run_rowapp {P : Program} (w : World) (lo : Nat) (t ty e : TypeId) (z : Value) (sz bytes : Nat) (ht : P.underlying t = some (.slice e)) (hi : (P.info? e).map (fun i => (i.zero, i.size, i.bytes)) = some (some z, sz, bytes)) (hzs : z.cells.size = sz) (hsz : 0 < sz)
    (v : Value) (n : Nat) (cs : List Cel) (F : List Nat) (hR : Row lo w e sz n cs v F) (y : Value) (m : Nat) (ys : List Value) (ms : List Cel) (G : List Nat) (hr : Rdc w y sz m ys) (hly : Lies w ms ys G) (hd : ∀ g ∈ G, v.ownBlock ≠ some g)
    (h63 : n + m ≤ maxLen) (hbytes : (n + m) * bytes ≤ 140737488355328) (hbase : lo ≤ w.heap.size) :
    ∃ v' w', (Builtin.append_ #[t, t] ty #[v, y]).run P w = .ok v' w' ∧ Row lo w' e sz (n + m) (cs ++ ms) v' (F ++ G) ∧ w.grownBy w' v.ownBlock := by
  obtain ⟨i, hi', hz, hs, hb⟩ : ∃ i, P.info? e = some i ∧ i.zero = some z ∧ i.size = sz ∧ i.bytes = bytes := by
    cases h : P.info? e with
    | none => rw [h] at hi; cases hi
    | some i =>
      rw [h] at hi
      simp only [Option.map_some, Option.some.injEq, Prod.mk.injEq] at hi
      exact ⟨i, rfl, hi.1, hi.2.1, hi.2.2⟩
  obtain ⟨h0, us, h1, h2, h3⟩ := hR
  obtain ⟨A, c, rfl, hc1, hc2, hl, hcell⟩ := hr
  have fin : ∀ v' w', w'.ownsRow lo e sz v' (n + m) (us ++ ys) → w.grownBy w' v.ownBlock → (v'.ownBlock = v.ownBlock ∨ v'.ownBlock = some w.heap.size) → Row lo w' e sz (n + m) (cs ++ ms) v' (F ++ G) := by
    intro v' w' ho hg hv
    have hlt : ∀ g ∈ F ++ G, g < w.heap.size ∧ v.ownBlock ≠ some g := fun g hgm => by
      rcases List.mem_append.1 hgm with hgm | hgm
      · exact ⟨h2.lt g hgm, h3 g hgm⟩
      · exact ⟨hly.lt g hgm, hd g hgm⟩
    refine ⟨h0, us ++ ys, ho, (h2.append hly).keep hg.size fun g hgm => hg.block g (hlt g hgm).1 fun e => (hlt g hgm).2 e.symm, fun g hgm e => ?_⟩
    rcases hv with hv | hv
    · exact (hlt g hgm).2 (hv ▸ e)
    · have := (hlt g hgm).1
      rw [hv] at e
      injection e with e
      omega
  cases A with
  | none =>
    have hm0 : m = 0 := by
      rcases Nat.eq_zero_or_pos m with h | h
      · exact h
      · obtain ⟨b, off, hA, _⟩ := hcell h
        cases hA
    subst hm0
    have hys : ys = [] := List.eq_nil_of_length_eq_zero (by omega)
    subst hys
    refine ⟨v, w, ?_, fin v w (by simpa using h1) (World.grownBy.refl w _) (.inl rfl), World.grownBy.refl w _⟩
    rcases h1.2 with ⟨rfl, rfl⟩ | ⟨g, cap, cur, rfl, _, _, hnc, _⟩
    · simp [Builtin.append_, run_underlying ht, sizeOf, typeInfo, hi', Builtin.lenOf, Builtin.firstCells]
    · simp [Builtin.append_, run_underlying ht, sizeOf, typeInfo, hi', Builtin.lenOf, Builtin.firstCells, hnc, storeCells]
  | some ad =>
    have hcells : ∀ j u, ys[j]? = some u → w.cell? (ad.add j) = some u := by
      intro j u hu
      have hj := (List.getElem?_eq_some_iff.1 hu).1
      have hm : 0 < m := by
        rcases Nat.eq_zero_or_pos m with rfl | h
        · omega
        · exact h
      obtain ⟨b, off, hA, _, hc⟩ := hcell hm
      injection hA with hA
      subst hA
      rw [Addr.add_lit]
      exact hc j u hu
    obtain ⟨v', w', hrun, k2, k3, _, k4⟩ := run_append_own_at (P := P) w lo t ty e i z sz bytes ht hi' hz hs hb hzs hsz v n us h1 ad m c ys hl hcells hly.one h63 hbytes hbase
    exact ⟨v', w', hrun, fin v' w' k2 k3 k4, k3⟩

/-- append of a slice, inside a walk. -/
theorem wpList_rowapp {P : Program} {w : World} {ops : Array Oper} {rest : List Oper} {o : Oper} {a : Act} {Q : Exit → Act → World → Prop} (hgd : o.guard = none) {s x : Operand} {t : TypeId}
    (ho : o.op = .call { callee := .builtin .append, args := #[s, x], argTypes := #[t, t] })
    {lo : Nat} {e : TypeId} {z : Value} {sz bytes : Nat} {v : Value} {n : Nat} {cs : List Cel} {F : List Nat} {y : Value} {m : Nat} {ys : List Value} {ms : List Cel} {G : List Nat}
    (hR : Row lo w e sz n cs v F) (hr : Rdc w y sz m ys) (hy : Lies w ms ys G) (hd : ∀ g ∈ G, v.ownBlock ≠ some g) (hs : a.eval s = v) (hx : a.eval x = y)
    (ht : P.underlying t = some (.slice e)) (hi : (P.info? e).map (fun i => (i.zero, i.size, i.bytes)) = some (some z, sz, bytes)) (hzs : z.cells.size = sz) (hsz : 0 < sz)
    (hb2 : bytes ≤ 512) (hn : n + m ≤ 274877906944) (hbase : lo ≤ w.heap.size)
    (h : ∀ v' w', Row lo w' e sz (n + m) (cs ++ ms) v' (F ++ G) → Below lo w w' → w.grownBy w' v.ownBlock → wpList P ops Q rest (a.put o.dst v') w') : wpList P ops Q (o :: rest) a w := by
  refine wpList_plain hgd fun K hK => ?_
  have hbytes : (n + m) * bytes ≤ 140737488355328 := Nat.le_trans (Nat.mul_le_mul hn hb2) (by decide)
  obtain ⟨v', w', hrun, h2, h4⟩ := run_rowapp (P := P) w lo t o.type e z sz bytes ht hi hzs hsz v n cs F hR y m ys ms G hr hy hd (by unfold maxLen; omega) hbytes hbase
  unfold Oper.wp execOp
  simp only [ho, resolve, invoke, builtin, Sem.run_bind, Sem.run_pure, Result.andThen_ok, List.map_toArray, List.map_cons, List.map_nil, hs, hx, hrun]
  exact hK _ _ (h v' w' h2 ((Below.refl lo w).grown h4 hbase fun g hgk => (hR.low g hgk).1) h4)
/-- append of one element, inside a walk: the element was laid into a block of its own. -/
theorem wpList_row1 {P : Program} {w0 : World} {ops : Array Oper} {rest : List Oper} {o : Oper} {a : Act} {Q : Exit → Act → World → Prop} (hgd : o.guard = none) {s x : Operand} {t : TypeId}
    (ho : o.op = .call { callee := .builtin .append, args := #[s, x], argTypes := #[t, t] })
    {lo : Nat} {e te : TypeId} {z : Value} {sz bytes : Nat} {v : Value} {n : Nat} {cs : List Cel} {F : List Nat} {us : List Value} {ms : List Cel} {G : List Nat}
    (hR : Row lo w0 e sz n cs v F) (hy : Lies w0 ms us G) (hd : ∀ g ∈ G, v.ownBlock ≠ some g) (hms : ms.length = sz) (hs : a.eval s = v) (hx : a.eval x = .slice (some ⟨w0.heap.size, 0, none⟩) 1 1)
    (ht : P.underlying t = some (.slice e)) (hi : (P.info? e).map (fun i => (i.zero, i.size, i.bytes)) = some (some z, sz, bytes)) (hzs : z.cells.size = sz) (hsz : 0 < sz)
    (hb2 : bytes ≤ 512) (hn : n + 1 ≤ 274877906944) (hbase : lo ≤ w0.heap.size)
    (h : ∀ v' w', Row lo w' e sz (n + 1) (cs ++ ms) v' (F ++ G) → Below lo w0 w' → (w0.alloc (.cells us.toArray te)).grownBy w' v.ownBlock → wpList P ops Q rest (a.put o.dst v') w') : wpList P ops Q (o :: rest) a (w0.alloc (.cells us.toArray te)) := by
  have ba : Below w0.heap.size w0 (w0.alloc (.cells us.toArray te)) := (Below.refl _ _).alloc (Nat.le_refl _) _
  refine wpList_rowapp hgd ho (hR.step ba) (one_rdc w0 te (by rw [hy.len]; exact hms)) (hy.step ba) hd hs hx ht hi hzs hsz hb2 hn (Nat.le_trans hbase ba.size) fun v' w' h1 h2 h3 => h v' w' h1 ((ba.mono hbase).trans h2) h3

/-- append of a slice, in a region that draws. -/
theorem step_rowapp {P : Program} {w : World} {ops : Array Oper} {o : Oper} {a : Act} {K : Act → World → Prop} {Q : Exit → Act → World → Prop} {E : Prop} (hgd : o.guard = none) {s x : Operand} {t : TypeId}
    (ho : o.op = .call { callee := .builtin .append, args := #[s, x], argTypes := #[t, t] })
    {lo : Nat} {e : TypeId} {z : Value} {sz bytes : Nat} {v : Value} {n : Nat} {cs : List Cel} {F : List Nat} {y : Value} {m : Nat} {ys : List Value} {ms : List Cel} {G : List Nat}
    (hR : Row lo w e sz n cs v F) (hr : Rdc w y sz m ys) (hy : Lies w ms ys G) (hd : ∀ g ∈ G, v.ownBlock ≠ some g) (hs : a.eval s = v) (hx : a.eval x = y)
    (ht : P.underlying t = some (.slice e)) (hi : (P.info? e).map (fun i => (i.zero, i.size, i.bytes)) = some (some z, sz, bytes)) (hzs : z.cells.size = sz) (hsz : 0 < sz)
    (hb2 : bytes ≤ 512) (hn : n + m ≤ 274877906944) (hbase : lo ≤ w.heap.size)
    (h : ∀ v' w', Row lo w' e sz (n + m) (cs ++ ms) v' (F ++ G) → Below lo w w' → w.grownBy w' v.ownBlock → K (a.put o.dst v') w') : if Region.wanted o (yielded ops a.tmps) = true then Oper.wp P o a w K Q else E := by
  have hw : Region.wanted o (yielded ops a.tmps) = true := by simp [Region.wanted, hgd]
  rw [if_pos hw]
  have hbytes : (n + m) * bytes ≤ 140737488355328 := Nat.le_trans (Nat.mul_le_mul hn hb2) (by decide)
  obtain ⟨v', w', hrun, h2, h4⟩ := run_rowapp (P := P) w lo t o.type e z sz bytes ht hi hzs hsz v n cs F hR y m ys ms G hr hy hd (by unfold maxLen; omega) hbytes hbase
  unfold Oper.wp execOp
  simp only [ho, resolve, invoke, builtin, Sem.run_bind, Sem.run_pure, Result.andThen_ok, List.map_toArray, List.map_cons, List.map_nil, hs, hx, hrun]
  exact h v' w' h2 ((Below.refl lo w).grown h4 hbase fun g hgk => (hR.low g hgk).1) h4
/-- append of one element, in a region that draws. -/
theorem step_row1 {P : Program} {w0 : World} {ops : Array Oper} {o : Oper} {a : Act} {K : Act → World → Prop} {Q : Exit → Act → World → Prop} {E : Prop} (hgd : o.guard = none) {s x : Operand} {t : TypeId}
    (ho : o.op = .call { callee := .builtin .append, args := #[s, x], argTypes := #[t, t] })
    {lo : Nat} {e te : TypeId} {z : Value} {sz bytes : Nat} {v : Value} {n : Nat} {cs : List Cel} {F : List Nat} {us : List Value} {ms : List Cel} {G : List Nat}
    (hR : Row lo w0 e sz n cs v F) (hy : Lies w0 ms us G) (hd : ∀ g ∈ G, v.ownBlock ≠ some g) (hms : ms.length = sz) (hs : a.eval s = v) (hx : a.eval x = .slice (some ⟨w0.heap.size, 0, none⟩) 1 1)
    (ht : P.underlying t = some (.slice e)) (hi : (P.info? e).map (fun i => (i.zero, i.size, i.bytes)) = some (some z, sz, bytes)) (hzs : z.cells.size = sz) (hsz : 0 < sz)
    (hb2 : bytes ≤ 512) (hn : n + 1 ≤ 274877906944) (hbase : lo ≤ w0.heap.size)
    (h : ∀ v' w', Row lo w' e sz (n + 1) (cs ++ ms) v' (F ++ G) → Below lo w0 w' → (w0.alloc (.cells us.toArray te)).grownBy w' v.ownBlock → K (a.put o.dst v') w') : if Region.wanted o (yielded ops a.tmps) = true then Oper.wp P o a (w0.alloc (.cells us.toArray te)) K Q else E := by
  have ba : Below w0.heap.size w0 (w0.alloc (.cells us.toArray te)) := (Below.refl _ _).alloc (Nat.le_refl _) _
  exact step_rowapp hgd ho (hR.step ba) (one_rdc w0 te (by rw [hy.len]; exact hms)) (hy.step ba) hd hs hx ht hi hzs hsz hb2 hn (Nat.le_trans hbase ba.size) fun v' w' h1 h2 h3 => h v' w' h1 ((ba.mono hbase).trans h2) h3
/-- The text that a row of bytes reads as. -/
theorem Row.raw {lo : Nat} {w : World} {e : TypeId} {l : List Int} {v : Value} {F : List Nat} (h : Row lo w e 1 l.length (l.map (Cel.num .u8)) v F) : Rd w v (bs l) := h.lie.rd.1
theorem Rd.rdcT {w : World} {v : Value} {l : List Int} (h : Rd w v (bs l)) : Rdc w v 1 l.length (bs l) := h.rdc (bs_length l).symm

theorem Row.lit0D (w : World) (e : TypeId) (sz : Nat) (h : sz ≤ 64) : Row w.heap.size (w.alloc (.cells #[] e)).drew e sz 0 [] (.slice (some ⟨w.heap.size, 0, none⟩) 0 0) [] := (Row.lit0 w e sz h).step (Below.refl _ _).drew
theorem Row.clone {lo : Nat} {w : World} {e : TypeId} {l : List Int} {v : Value} (h : Row lo w e 1 (0 + l.length) ([] ++ l.map (Cel.num .u8)) v ([] ++ [])) : Row lo w e 1 l.length (l.map (Cel.num .u8)) v [] := by
  rw [Nat.zero_add, List.nil_append, List.nil_append] at h
  exact h
theorem far0 (v : Value) : ∀ g ∈ ([] : List Nat), v.ownBlock ≠ some g := fun _ h => by cases h
theorem alloc2 {w : World} {lo : Nat} (o : Obj) (h : lo ≤ w.heap.size) : lo ≤ (w.alloc o).heap.size := by simp; omega
theorem belNew (w : World) (o : Obj) : Below w.heap.size w (w.alloc o) := (Below.refl _ _).alloc (Nat.le_refl _) o
theorem belNewD (w : World) (o : Obj) : Below w.heap.size w (w.alloc o).drew := ((Below.refl _ _).alloc (Nat.le_refl _) o).drew
theorem lowNewD (w : World) (o : Obj) : w.heap.size ≤ (w.alloc o).drew.heap.size := (belNewD w o).size

/-! ### Elements that are read -/
/-- The j-th element's cells. -/
theorem Lie.elem {α : Type} {f : α → List Cel} {sz : Nat} (hf : ∀ x, (f x).length = sz) {w : World} {l : List α} {v : Value} {F : List Nat} (h : Lie w (seqOf sz f l) v F) {j : Nat} (hj : j < l.length) :
    ∃ b off c us Fj, v = .slice (some ⟨b, off, none⟩) l.length c ∧ b < w.heap.size ∧ w.rangeAt b (off + j * sz) us ∧ Lies w (f l[j]) us Fj ∧ ∀ g ∈ Fj, g ∈ F := by
  rw [Lie] at h
  obtain ⟨_, us, F2, ⟨A, c, rfl, _, _, hl, hc⟩, h2, rfl⟩ := h
  obtain ⟨b, off, rfl, hb, hr⟩ := hc (by omega)
  rw [cells_split f l j, cells_drop f hj] at h2
  obtain ⟨ua, ub, Fa, Fb, rfl, rfl, k1, k2⟩ := h2.parts
  obtain ⟨uc, ud, Fc, Fd, rfl, rfl, k3, k4⟩ := k2.parts
  refine ⟨b, off, c, uc, Fc, rfl, hb, fun q u hu => ?_, k3, fun g hg => by simp [hg]⟩
  have hla : ua.length = j * sz := by rw [k1.len, cells_len hf, List.length_take, Nat.min_eq_left (by omega)]
  have := hr (j * sz + q) u (by
    rw [List.getElem?_append_right (by omega), hla, Nat.add_sub_cancel_left, List.getElem?_append_left (List.getElem?_eq_some_iff.1 hu).1]
    exact hu)
  rwa [← Nat.add_assoc] at this

end Go.Proofs.Ytnloknhcdlannaa
