
/-
  Structs by value: their cells one after the other.
-/
import Derived.Test.YtnloknhcdlannaaDat
import Derived.Deep.RegionHeld3
namespace Go.Proofs.Ytnloknhcdlannaa
open Go.RowKit
set_option linter.unusedVariables false

theorem seq_cnt0 (sz n : Nat) (cs : List Cel) : (Cel.seq sz n cs).cnt0 = (Cel.seq sz n cs).cnt := rfl
theorem num_cnt0 (k : IntKind) (n : Int) : (Cel.num k n).cnt0 = 0 := rfl
theorem flag_cnt0 (b : Bool) : (Cel.flag b).cnt0 = 0 := rfl
theorem num_bulk (k : IntKind) (n : Int) : (Cel.num k n).bulk = 0 := rfl
theorem flag_bulk (b : Bool) : (Cel.flag b).bulk = 0 := rfl

theorem ret_i64 {x y : Int} (h : x = y) : Ending.returned (.int .i64 x) = .returned (.int .i64 y) := by rw [h]

theorem bulks_nums (k : IntKind) (l : List Int) : bulks (l.map (Cel.num k)) = 0 := by
  induction l with
  | nil => rfl
  | cons x l ih => rw [List.map_cons, bulks, ih]; rfl
theorem raw_bulk (l : List Int) : (raw l).bulk = l.length := by rw [raw, Cel.bulk, bulks_nums]; rfl

theorem belAl {a W : World} (d : Below a.heap.size a W) (o : Obj) : Below a.heap.size a (W.alloc o) := d.alloc d.size o
theorem belThen {a W W' : World} (b : Below W.heap.size W W') (d : Below a.heap.size a W) : Below a.heap.size a W' := d.trans (b.mono d.size)
theorem drewHeap (w : World) : w.drew.heap = w.heap := rfl
theorem belSet {a W : World} {g j : Nat} {v : Value} (d : Below a.heap.size a W) (hg : a.heap.size ≤ g) : Below a.heap.size a (W.setCell ⟨g, j, none⟩ v) := d.setCell hg v
theorem liesSet {W : World} {cs : List Cel} {us : List Value} {F : List Nat} {g j : Nat} {v : Value} (h : Lies W cs us F) (hg : g ∉ F) : Lies (W.setCell ⟨g, j, none⟩ v) cs us F :=
  h.but (but_set W g j v) fun x hx he => hg (List.mem_singleton.1 he ▸ hx)
theorem lieSet {W : World} {c : Cel} {u : Value} {F : List Nat} {g j : Nat} {v : Value} (h : Lie W c u F) (hg : g ∉ F) : Lie (W.setCell ⟨g, j, none⟩ v) c u F :=
  h.but (but_set W g j v) fun x hx he => hg (List.mem_singleton.1 he ▸ hx)
theorem Lies.al {W : World} {cs : List Cel} {us : List Value} {F : List Nat} (h : Lies W cs us F) (o : Obj) : Lies (W.alloc o) cs us F := h.step ((Below.refl _ _).alloc (Nat.le_refl _) o)
theorem Lie.al {W : World} {c : Cel} {v : Value} {F : List Nat} (h : Lie W c v F) (o : Obj) : Lie (W.alloc o) c v F := h.step ((Below.refl _ _).alloc (Nat.le_refl _) o)

/-! ### The values of a struct's cells -/
theorem Lies.nums1 {w : World} {k : IntKind} {n : Int} {ds : List Cel} {us : List Value} {F : List Nat} (h : Lies w (.num k n :: ds) us F) : ∃ r G, us = .int k n :: r ∧ Lies w ds r G := by
  rw [Lies] at h
  obtain ⟨u, r, F1, F2, rfl, rfl, h1, h2⟩ := h
  rw [Lie] at h1
  exact ⟨r, F2, by rw [h1.1], h2⟩
theorem Lies.flags1 {w : World} {b : Bool} {ds : List Cel} {us : List Value} {F : List Nat} (h : Lies w (.flag b :: ds) us F) : ∃ r G, us = .bool b :: r ∧ Lies w ds r G := by
  rw [Lies] at h
  obtain ⟨u, r, F1, F2, rfl, rfl, h1, h2⟩ := h
  rw [Lie] at h1
  exact ⟨r, F2, by rw [h1.1], h2⟩
theorem Lies.seqs1 {w : World} {sz n : Nat} {cs ds : List Cel} {us : List Value} {F : List Nat} (h : Lies w (.seq sz n cs :: ds) us F) : ∃ A m c r G, us = .slice A m c :: r ∧ Lies w ds r G := by
  rw [Lies] at h
  obtain ⟨u, r, F1, F2, rfl, rfl, h1, h2⟩ := h
  obtain ⟨A, c, rfl, _, _⟩ := h1.form
  exact ⟨A, n, c, r, F2, rfl, h2⟩
theorem Lies.nil1 {w : World} {us : List Value} {F : List Nat} (h : Lies w [] us F) : us = [] := by rw [Lies] at h; exact h.1

/-! ### Cells that are read -/
structure ReadV (w : World) (A B : List Cel) (us : List Value) (F : List Nat) : Prop where
  lies : Lies w (A ++ B) us F
theorem ReadV.start {w : World} {B : List Cel} {us : List Value} {F : List Nat} (h : Lies w B us F) : ReadV w [] B us F := ⟨h⟩
theorem ReadV.next {w : World} {A B : List Cel} {c : Cel} {us : List Value} {F : List Nat} (h : ReadV w A (c :: B) us F) : ReadV w (A ++ [c]) B us F := ⟨by rw [List.append_assoc]; exact h.lies⟩
theorem ReadV.skip {w : World} {A M B : List Cel} {us : List Value} {F : List Nat} (h : ReadV w A (M ++ B) us F) : ReadV w (A ++ M) B us F := ⟨by rw [List.append_assoc]; exact h.lies⟩
theorem ReadV.step {w w' : World} {A B : List Cel} {us : List Value} {F : List Nat} (h : ReadV w A B us F) (hb : Below w.heap.size w w') : ReadV w' A B us F := ⟨h.lies.step hb⟩
theorem ReadV.call {w : World} {A B : List Cel} {c : Cel} {us : List Value} {F : List Nat} (h : ReadV w A (c :: B) us F) {p : Nat} (hp : p = A.length) {v : Value} (hv : us[p]? = some v) : ∃ Fc, Lie w c v Fc := by
  obtain ⟨v', Fc, h1, h2⟩ := h.lies.cell hp
  obtain rfl : v' = v := Option.some.inj (h1.symm.trans hv)
  exact ⟨Fc, h2⟩
theorem ReadV.mid {w : World} {A M B : List Cel} {us : List Value} {F : List Nat} (h : ReadV w A (M ++ B) us F) {p n : Nat} (hp : p = A.length) (hn : n = M.length) {ms : List Value} (hms : (us.drop p).take n = ms) : ∃ Fc, Lies w M ms Fc := by
  obtain ⟨Fc, h1⟩ := h.lies.mid hp hn
  exact ⟨Fc, hms ▸ h1⟩

/-! ### Cells that are marked -/
theorem mkc0_len (a : List Cel) (s : Int) : (mkc0 a s).length = a.length := by
  induction a generalizing s with
  | nil => simp [mkc0]
  | cons c a ih => simp [mkc0, ih]
theorem MarkV.start {w : World} {cs : List Cel} {us : List Value} {F : List Nat} {s : Int} (h : Lies w cs us F) (hnd : F.Nodup) (hlv : Live w F) : MarkV w s F [] cs us w :=
  ⟨by rw [mkc0]; exact h, hlv, hnd, But.refl _ _⟩
theorem MarkV.mid {w : World} {s : Int} {F : List Nat} {A M B : List Cel} {us : List Value} {wr : World} (h : MarkV w s F A (M ++ B) us wr) {p n : Nat} (hp : p = A.length) (hn : n = M.length) {ms : List Value} (hms : (us.drop p).take n = ms) {y : Int} (hy : y = s + cnts0 A) :
    ∃ Fc, (∀ g ∈ Fc, g ∈ F) ∧ Lies wr M ms Fc ∧ Fc.Nodup ∧ Live wr Fc ∧
      ∀ W, Lies W (mkc0 M y) ms Fc → Live W Fc → But Fc wr W → MarkV w s F (A ++ M) B us W := by
  subst hp hy hn
  obtain ⟨ua, ub, Fa, Fb, e2, e1, h1, h2⟩ := h.lies.parts
  obtain ⟨uc, ud, Fc, Fd, rfl, rfl, h2, h3⟩ := h2.parts
  have hl : ua.length = A.length := by rw [h1.len, mkc0_len]
  have hv2 : uc = ms := by
    rw [← hms, e2, ← hl, ← h2.len]
    simp
  subst hv2
  have hnd2 := h.nodup
  rw [e1] at hnd2
  obtain ⟨n1, n2, n3⟩ := List.nodup_append.1 hnd2
  obtain ⟨n4, n5, n6⟩ := List.nodup_append.1 n2
  have hcF : ∀ g ∈ Fc, g ∈ F := fun g hg => by rw [e1]; simp [hg]
  refine ⟨Fc, hcF, h2, n4, fun g hg => h.live g (hcF g hg), fun W hlw hvw hb => ⟨?_, ?_, h.nodup, h.but.trans (hb.mono hcF)⟩⟩
  · rw [mkc0_app, List.append_assoc, e1, e2]
    refine (h1.but hb fun g hg hc => n3 g hg g (List.mem_append.2 (.inl hc)) rfl).append ?_
    exact hlw.append (h3.but hb fun g hg hc => n6 g hc g hg rfl)
  · intro g hg
    by_cases hc : g ∈ Fc
    · exact hvw g hc
    · obtain ⟨cur, e, he⟩ := h.live g hg
      exact ⟨cur, e, (hb.block g ((Array.getElem?_eq_some_iff.1 he).1) hc).trans he⟩
theorem MarkV.stop {w wr : World} {s : Int} {F : List Nat} {cs : List Cel} {us : List Value} (h : MarkV w s F cs [] us wr) {w0 : World} (hb : Below w0.heap.size w0 w) :
    Lies wr (mkc0 cs s) us F ∧ Live wr F ∧ But F w0 wr :=
  ⟨by have := h.lies; rwa [List.append_nil] at this, h.live, (Below.but hb F).trans h.but⟩
theorem MarkV.box {w wr : World} {s : Int} {F : List Nat} {A B : List Cel} {us : List Value} (h : MarkV w s F A B us wr) {g : Nat} {t : TypeId} {xs : List Value} (hb : Box w g t xs) (hg : g ∉ F) : Box wr g t xs :=
  hb.keep (h.but.block g hb.lt hg)

/-! ### Marks that are found again -/
structure HeldV (w : World) (s : Int) (A B : List Cel) (us : List Value) (F : List Nat) : Prop where
  lies : Lies w (mkc0 (A ++ B) s) us F
theorem HeldV.start {w : World} {s : Int} {B : List Cel} {us : List Value} {F : List Nat} (h : Lies w (mkc0 B s) us F) : HeldV w s [] B us F := ⟨h⟩
theorem HeldV.next {w : World} {s : Int} {A B : List Cel} {c : Cel} {us : List Value} {F : List Nat} (h : HeldV w s A (c :: B) us F) : HeldV w s (A ++ [c]) B us F := ⟨by rw [List.append_assoc]; exact h.lies⟩
theorem HeldV.skip {w : World} {s : Int} {A M B : List Cel} {us : List Value} {F : List Nat} (h : HeldV w s A (M ++ B) us F) : HeldV w s (A ++ M) B us F := ⟨by rw [List.append_assoc]; exact h.lies⟩
theorem HeldV.step {w w' : World} {s : Int} {A B : List Cel} {us : List Value} {F : List Nat} (h : HeldV w s A B us F) (hb : Below w.heap.size w w') : HeldV w' s A B us F := ⟨h.lies.step hb⟩
theorem HeldV.call {w : World} {s : Int} {A B : List Cel} {sz n : Nat} {cs : List Cel} {us : List Value} {F : List Nat} (h : HeldV w s A (.seq sz n cs :: B) us F) {p : Nat} (hp : p = A.length) {v : Value} (hv : us[p]? = some v) {y : Int} (hy : y = s + cnts0 A) : ∃ Fc, Lie w ((Cel.seq sz n cs).mk y) v Fc := by
  have h1 := h.lies
  rw [mkc0_app, mkc0] at h1
  obtain ⟨v', Fc, h2, h3⟩ := h1.cell (p := p) (by rw [mkc0_len]; exact hp)
  obtain rfl : v' = v := Option.some.inj (h2.symm.trans hv)
  exact ⟨Fc, by rw [hy]; exact h3⟩
theorem HeldV.mid {w : World} {s : Int} {A M B : List Cel} {us : List Value} {F : List Nat} (h : HeldV w s A (M ++ B) us F) {p n : Nat} (hp : p = A.length) (hn : n = M.length) {ms : List Value} (hms : (us.drop p).take n = ms) {y : Int} (hy : y = s + cnts0 A) : ∃ Fc, Lies w (mkc0 M y) ms Fc := by
  have h1 := h.lies
  rw [mkc0_app, mkc0_app] at h1
  obtain ⟨Fc, h2⟩ := h1.mid (p := p) (n := n) (by rw [mkc0_len]; exact hp) (by rw [mkc0_len]; exact hn)
  exact ⟨Fc, by rw [hy]; exact hms ▸ h2⟩

/-! ### A struct that is filled -/
theorem filled {w wr w2 : World} {g : Nat} {A M : List Cel} {vs ms : List Value} {F G : List Nat} (L : Lies wr A vs F) (fr : Fresh (g + 1) wr F) (be : Below w.heap.size w wr) (hg : w.heap.size ≤ g) (hgl : g < wr.heap.size) (hb : Below wr.heap.size wr w2)
    (l2 : Lies w2 M ms G) (f2 : Fresh wr.heap.size w2 G) (p : Nat) {W : World} (hW : w2.setCells g p ms = W) :
    Lies W (A ++ M) (vs ++ ms) (F ++ G) ∧ Fresh (g + 1) W (F ++ G) ∧ Below w.heap.size w W ∧ W.heap.size = w2.heap.size ∧ But [g] w2 W := by
  subst hW
  have bs := but_sets w2 g ms p
  have h4' : Fresh (g + 1) w2 (F ++ G) := (fr.step hb).app (hi := wr.heap.size) (fun x hx => fr.live.lt x hx) f2 (by omega)
  have hd : ∀ x ∈ F ++ G, x ∉ [g] := fun x hx he => by
    have := h4'.low x hx
    have := List.mem_singleton.1 he
    omega
  refine ⟨((L.step hb).append l2).but bs hd, ⟨h4'.nodup, h4'.low, h4'.live.but bs hd⟩, ?_, size_sets _ _ _ _, bs⟩
  exact bs.below (be.trans (hb.mono (by have := be.size; omega))) (fun x hx => by rw [List.mem_singleton.1 hx]; exact hg) (by have := be.size; have := hb.size; omega)
theorem Box.sets_other {w : World} {g b o : Nat} {t : TypeId} {us vs : List Value} (h : Box w g t us) (hne : g ≠ b) : Box (w.setCells b o vs) g t us :=
  h.keep ((but_sets w b vs o).block g h.lt fun hg => hne (List.mem_singleton.1 hg))
theorem box_of_own {w : World} {base sz n g : Nat} {e : TypeId} {xs : List Value} (h : w.ownsRow base e sz (.slice (some ⟨g, 0, none⟩) n n) n xs) : Box w g e xs ∧ xs.length = n * sz := by
  obtain ⟨h1, h2⟩ := h
  refine ⟨?_, h1⟩
  rcases h2 with ⟨hv, _⟩ | ⟨g', cap, cur, hv, hb, hg, hnc, hcm, hcs, ht⟩
  · cases hv
  · injection hv with e1 e2 e3
    injection e1 with e1
    injection e1 with e1
    subst e1 e3
    have : cur.toList = xs := by rw [← ht, List.take_of_length_le]; simpa using Nat.le_of_eq hcs
    rw [Box, hg, ← this]
/-- A whole struct is stored into its box, in a region that draws. -/
theorem step_store_box {P : Program} {ops : Array Oper} {o : Oper} {a : Act} {w : World} {K : Act → World → Prop} {Q : Exit → Act → World → Prop} {E : Prop} (hgd : o.guard = none) (ty : TypeId) (x y : Operand) (ho : o.op = .store ty x y)
    (g : Nat) (cells : Array Value) (hx : a.eval x = .pointer (some ⟨g, 0, none⟩)) (hy : a.eval y = .agg cells) {t : TypeId} {zs : List Value} (hb : Box w g t zs) (hz : zs.length = cells.size)
    (hi : (P.info? ty).map (·.size) = some cells.size) (h1 : cells.all (·.oneCell') = true)
    (h : ∀ w', Hid (Box w' g t cells.toList) → Hid (But [g] w w') → K (a.put o.dst undef) w') : if Region.wanted o (yielded ops a.tmps) = true then Oper.wp P o a w K Q else E := by
  have hw : Region.wanted o (yielded ops a.tmps) = true := by simp [Region.wanted, hgd]
  rw [if_pos hw]
  refine wp_store_mid ty x y ho g 0 cells hx hy (hb.there (by omega)) hi h1 ?_
  refine h _ (hide ?_) (hide (but_sets _ _ _ _))
  have := hb.sets (vs := cells.toList) (o := 0)
  have e := setList_at [] zs cells.toList 0 rfl (by simp; omega)
  rw [List.nil_append, List.nil_append] at e
  rw [e, List.drop_eq_nil_of_le (by simp; omega), List.append_nil] at this
  exact this
theorem Lies.lens {w : World} {cs : List Cel} {us : List Value} {F : List Nat} (h : Lies w cs us F) {n : Nat} (hn : cs.length = n) : us.length = n := h.len.trans hn

end Go.Proofs.Ytnloknhcdlannaa
