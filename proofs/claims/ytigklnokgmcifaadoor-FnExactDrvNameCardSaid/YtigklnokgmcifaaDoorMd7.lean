/-
  Parts of the proof: BytEq, DatT, DatV, Less, NameOk, PutI, Row, ShaP.
-/
import Derived.Test.YtigklnokgmcifaaDoorMd6
import Derived.Test.YtigklnokgmcifaaDoorMd1
import Derived.Deep.RegionHeld3
import Derived.Lib.BytesEntry
import Derived.Test.YtigklnokgmcifaaDoorMd4
import Derived.Test.YtigklnokgmcifaaDoorMd3
import Derived.Laws.BytesArg
import Derived.Maps.AppendAt
import Derived.Test.YtigklnokgmcifaaDoorMd5

/-
  bytes.Equal.
-/
namespace Go.Proofs.YtigklnokgmcifaaDoor
open Go.RowKit
set_option linter.unusedVariables false

theorem bytesEq (a n : List Int) (hA : Byt a) (hN : Byt n) (va vn : Value) (w : World) (ha : Rd w va (bs a)) (hn : Rd w vn (bs n)) :
    Calls Tryd.prog 39 #[va, vn] w fun e w' => e = .returned (.bool (decide (a = n))) ∧ w' = w := by
  have cv1 := conv_rd (P := Tryd.prog) Tryd.underlying22 Tryd.underlying5 Tryd.underlying9 ha
  have cv2 := conv_rd (P := Tryd.prog) Tryd.underlying22 Tryd.underlying5 Tryd.underlying9 hn
  have hp : ((strOfNums a).toList == (strOfNums n).toList) = decide (a = n) := by
    by_cases h : a = n
    · rw [h, decide_eq_true rfl]; simp
    · rw [decide_eq_false h]
      simp only [beq_eq_false_iff_ne]
      exact fun e => h (str_inj hA hN e)
  generalize strOfNums a = s1 at *
  generalize strOfNums n = s2 at *
  rw [← hp]
  clear hp ha hn
  go_enter Tryd.func39, Tryd.ntmps39
  go_wp2
  go_ret
  exact ⟨rfl, rfl⟩

end Go.Proofs.YtigklnokgmcifaaDoor


/-
  Trees as data.
-/
namespace Go.Proofs.YtigklnokgmcifaaDoor
open Go.RowKit
set_option linter.unusedVariables false

mutual
/-- A tree's four cells. -/
def T.cells : T → List Cel
  | .node k d ns ks => [.num .i64 k, raw d, Go.Proofs.YtigklnokgmcifaaDoor.names ns, .seq 4 ks.length (T.cellss ks)]
def T.cellss : List T → List Cel
  | [] => []
  | t :: ts => t.cells ++ T.cellss ts
end
theorem T.cellss_eq : ∀ ks : List T, T.cellss ks = Go.Proofs.YtigklnokgmcifaaDoor.cells T.cells ks
  | [] => by rw [T.cellss, Go.Proofs.YtigklnokgmcifaaDoor.cells]
  | t :: ks => by rw [T.cellss, Go.Proofs.YtigklnokgmcifaaDoor.cells, T.cellss_eq ks]
theorem T.cells_eq (t : T) : t.cells = [.num .i64 t.kind, raw t.data, Go.Proofs.YtigklnokgmcifaaDoor.names t.names, seqOf 4 T.cells t.kids] := by
  obtain ⟨k, d, ns, ks⟩ := t
  rw [T.cells, T.cellss_eq]
  rfl

end Go.Proofs.YtigklnokgmcifaaDoor


/-
  Structs by value: their cells one after the other.
-/
namespace Go.Proofs.YtigklnokgmcifaaDoor
open Go.RowKit
set_option linter.unusedVariables false

theorem seq_cnt0 (sz n : Nat) (cs : List Cel) : (Cel.seq sz n cs).cnt0 = (Cel.seq sz n cs).cnt := rfl
theorem num_cnt0 (k : IntKind) (n : Int) : (Cel.num k n).cnt0 = 0 := rfl
theorem flag_cnt0 (b : Bool) : (Cel.flag b).cnt0 = 0 := rfl
theorem num_bulk (k : IntKind) (n : Int) : (Cel.num k n).bulk = 0 := rfl
theorem flag_bulk (b : Bool) : (Cel.flag b).bulk = 0 := rfl

theorem ret_i64 {x y : Int} (h : x = y) : Ending.returned (.int .i64 x) = .returned (.int .i64 y) := by rw [h]

theorem bulks_nums (k : IntKind) (l : List Int) : bulks (l.map (Cel.num k)) = 0 := by
  induction l with
  | nil => rfl
  | cons x l ih => rw [List.map_cons, bulks, ih]; rfl
theorem raw_bulk (l : List Int) : (raw l).bulk = l.length := by rw [raw, Cel.bulk, bulks_nums]; rfl

theorem belAl {a W : World} (d : Below a.heap.size a W) (o : Obj) : Below a.heap.size a (W.alloc o) := d.alloc d.size o
theorem belThen {a W W' : World} (b : Below W.heap.size W W') (d : Below a.heap.size a W) : Below a.heap.size a W' := d.trans (b.mono d.size)
theorem drewHeap (w : World) : w.drew.heap = w.heap := rfl
theorem belSet {a W : World} {g j : Nat} {v : Value} (d : Below a.heap.size a W) (hg : a.heap.size ≤ g) : Below a.heap.size a (W.setCell ⟨g, j, none⟩ v) := d.setCell hg v
theorem liesSet {W : World} {cs : List Cel} {us : List Value} {F : List Nat} {g j : Nat} {v : Value} (h : Lies W cs us F) (hg : g ∉ F) : Lies (W.setCell ⟨g, j, none⟩ v) cs us F :=
  h.but (but_set W g j v) fun x hx he => hg (List.mem_singleton.1 he ▸ hx)
theorem lieSet {W : World} {c : Cel} {u : Value} {F : List Nat} {g j : Nat} {v : Value} (h : Lie W c u F) (hg : g ∉ F) : Lie (W.setCell ⟨g, j, none⟩ v) c u F :=
  h.but (but_set W g j v) fun x hx he => hg (List.mem_singleton.1 he ▸ hx)
theorem Lies.al {W : World} {cs : List Cel} {us : List Value} {F : List Nat} (h : Lies W cs us F) (o : Obj) : Lies (W.alloc o) cs us F := h.step ((Below.refl _ _).alloc (Nat.le_refl _) o)
theorem Lie.al {W : World} {c : Cel} {v : Value} {F : List Nat} (h : Lie W c v F) (o : Obj) : Lie (W.alloc o) c v F := h.step ((Below.refl _ _).alloc (Nat.le_refl _) o)

/-! ### The values of a struct's cells -/
theorem Lies.nums1 {w : World} {k : IntKind} {n : Int} {ds : List Cel} {us : List Value} {F : List Nat} (h : Lies w (.num k n :: ds) us F) : ∃ r G, us = .int k n :: r ∧ Lies w ds r G := by
  rw [Lies] at h
  obtain ⟨u, r, F1, F2, rfl, rfl, h1, h2⟩ := h
  rw [Lie] at h1
  exact ⟨r, F2, by rw [h1.1], h2⟩
theorem Lies.flags1 {w : World} {b : Bool} {ds : List Cel} {us : List Value} {F : List Nat} (h : Lies w (.flag b :: ds) us F) : ∃ r G, us = .bool b :: r ∧ Lies w ds r G := by
  rw [Lies] at h
  obtain ⟨u, r, F1, F2, rfl, rfl, h1, h2⟩ := h
  rw [Lie] at h1
  exact ⟨r, F2, by rw [h1.1], h2⟩
theorem Lies.seqs1 {w : World} {sz n : Nat} {cs ds : List Cel} {us : List Value} {F : List Nat} (h : Lies w (.seq sz n cs :: ds) us F) : ∃ A m c r G, us = .slice A m c :: r ∧ Lies w ds r G := by
  rw [Lies] at h
  obtain ⟨u, r, F1, F2, rfl, rfl, h1, h2⟩ := h
  obtain ⟨A, c, rfl, _, _⟩ := h1.form
  exact ⟨A, n, c, r, F2, rfl, h2⟩
theorem Lies.nil1 {w : World} {us : List Value} {F : List Nat} (h : Lies w [] us F) : us = [] := by rw [Lies] at h; exact h.1

/-! ### Cells that are read -/
structure ReadV (w : World) (A B : List Cel) (us : List Value) (F : List Nat) : Prop where
  lies : Lies w (A ++ B) us F
theorem ReadV.start {w : World} {B : List Cel} {us : List Value} {F : List Nat} (h : Lies w B us F) : ReadV w [] B us F := ⟨h⟩
theorem ReadV.next {w : World} {A B : List Cel} {c : Cel} {us : List Value} {F : List Nat} (h : ReadV w A (c :: B) us F) : ReadV w (A ++ [c]) B us F := ⟨by rw [List.append_assoc]; exact h.lies⟩
theorem ReadV.skip {w : World} {A M B : List Cel} {us : List Value} {F : List Nat} (h : ReadV w A (M ++ B) us F) : ReadV w (A ++ M) B us F := ⟨by rw [List.append_assoc]; exact h.lies⟩
theorem ReadV.step {w w' : World} {A B : List Cel} {us : List Value} {F : List Nat} (h : ReadV w A B us F) (hb : Below w.heap.size w w') : ReadV w' A B us F := ⟨h.lies.step hb⟩
theorem ReadV.call {w : World} {A B : List Cel} {c : Cel} {us : List Value} {F : List Nat} (h : ReadV w A (c :: B) us F) {p : Nat} (hp : p = A.length) {v : Value} (hv : us[p]? = some v) : ∃ Fc, Lie w c v Fc := by
  obtain ⟨v', Fc, h1, h2⟩ := h.lies.cell hp
  obtain rfl : v' = v := Option.some.inj (h1.symm.trans hv)
  exact ⟨Fc, h2⟩
theorem ReadV.mid {w : World} {A M B : List Cel} {us : List Value} {F : List Nat} (h : ReadV w A (M ++ B) us F) {p n : Nat} (hp : p = A.length) (hn : n = M.length) {ms : List Value} (hms : (us.drop p).take n = ms) : ∃ Fc, Lies w M ms Fc := by
  obtain ⟨Fc, h1⟩ := h.lies.mid hp hn
  exact ⟨Fc, hms ▸ h1⟩

/-! ### Cells that are marked -/
theorem mkc0_len (a : List Cel) (s : Int) : (mkc0 a s).length = a.length := by
  induction a generalizing s with
  | nil => simp [mkc0]
  | cons c a ih => simp [mkc0, ih]
theorem MarkV.start {w : World} {cs : List Cel} {us : List Value} {F : List Nat} {s : Int} (h : Lies w cs us F) (hnd : F.Nodup) (hlv : Live w F) : MarkV w s F [] cs us w :=
  ⟨by rw [mkc0]; exact h, hlv, hnd, But.refl _ _⟩
theorem MarkV.mid {w : World} {s : Int} {F : List Nat} {A M B : List Cel} {us : List Value} {wr : World} (h : MarkV w s F A (M ++ B) us wr) {p n : Nat} (hp : p = A.length) (hn : n = M.length) {ms : List Value} (hms : (us.drop p).take n = ms) {y : Int} (hy : y = s + cnts0 A) :
    ∃ Fc, (∀ g ∈ Fc, g ∈ F) ∧ Lies wr M ms Fc ∧ Fc.Nodup ∧ Live wr Fc ∧
      ∀ W, Lies W (mkc0 M y) ms Fc → Live W Fc → But Fc wr W → MarkV w s F (A ++ M) B us W := by
  subst hp hy hn
  obtain ⟨ua, ub, Fa, Fb, e2, e1, h1, h2⟩ := h.lies.parts
  obtain ⟨uc, ud, Fc, Fd, rfl, rfl, h2, h3⟩ := h2.parts
  have hl : ua.length = A.length := by rw [h1.len, mkc0_len]
  have hv2 : uc = ms := by
    rw [← hms, e2, ← hl, ← h2.len]
    simp
  subst hv2
  have hnd2 := h.nodup
  rw [e1] at hnd2
  obtain ⟨n1, n2, n3⟩ := List.nodup_append.1 hnd2
  obtain ⟨n4, n5, n6⟩ := List.nodup_append.1 n2
  have hcF : ∀ g ∈ Fc, g ∈ F := fun g hg => by rw [e1]; simp [hg]
  refine ⟨Fc, hcF, h2, n4, fun g hg => h.live g (hcF g hg), fun W hlw hvw hb => ⟨?_, ?_, h.nodup, h.but.trans (hb.mono hcF)⟩⟩
  · rw [mkc0_app, List.append_assoc, e1, e2]
    refine (h1.but hb fun g hg hc => n3 g hg g (List.mem_append.2 (.inl hc)) rfl).append ?_
    exact hlw.append (h3.but hb fun g hg hc => n6 g hc g hg rfl)
  · intro g hg
    by_cases hc : g ∈ Fc
    · exact hvw g hc
    · obtain ⟨cur, e, he⟩ := h.live g hg
      exact ⟨cur, e, (hb.block g ((Array.getElem?_eq_some_iff.1 he).1) hc).trans he⟩
theorem MarkV.stop {w wr : World} {s : Int} {F : List Nat} {cs : List Cel} {us : List Value} (h : MarkV w s F cs [] us wr) {w0 : World} (hb : Below w0.heap.size w0 w) :
    Lies wr (mkc0 cs s) us F ∧ Live wr F ∧ But F w0 wr :=
  ⟨by have := h.lies; rwa [List.append_nil] at this, h.live, (Below.but hb F).trans h.but⟩
theorem MarkV.box {w wr : World} {s : Int} {F : List Nat} {A B : List Cel} {us : List Value} (h : MarkV w s F A B us wr) {g : Nat} {t : TypeId} {xs : List Value} (hb : Box w g t xs) (hg : g ∉ F) : Box wr g t xs :=
  hb.keep (h.but.block g hb.lt hg)

/-! ### Marks that are found again -/
structure HeldV (w : World) (s : Int) (A B : List Cel) (us : List Value) (F : List Nat) : Prop where
  lies : Lies w (mkc0 (A ++ B) s) us F
theorem HeldV.start {w : World} {s : Int} {B : List Cel} {us : List Value} {F : List Nat} (h : Lies w (mkc0 B s) us F) : HeldV w s [] B us F := ⟨h⟩
theorem HeldV.next {w : World} {s : Int} {A B : List Cel} {c : Cel} {us : List Value} {F : List Nat} (h : HeldV w s A (c :: B) us F) : HeldV w s (A ++ [c]) B us F := ⟨by rw [List.append_assoc]; exact h.lies⟩
theorem HeldV.skip {w : World} {s : Int} {A M B : List Cel} {us : List Value} {F : List Nat} (h : HeldV w s A (M ++ B) us F) : HeldV w s (A ++ M) B us F := ⟨by rw [List.append_assoc]; exact h.lies⟩
theorem HeldV.step {w w' : World} {s : Int} {A B : List Cel} {us : List Value} {F : List Nat} (h : HeldV w s A B us F) (hb : Below w.heap.size w w') : HeldV w' s A B us F := ⟨h.lies.step hb⟩
theorem HeldV.call {w : World} {s : Int} {A B : List Cel} {sz n : Nat} {cs : List Cel} {us : List Value} {F : List Nat} (h : HeldV w s A (.seq sz n cs :: B) us F) {p : Nat} (hp : p = A.length) {v : Value} (hv : us[p]? = some v) {y : Int} (hy : y = s + cnts0 A) : ∃ Fc, Lie w ((Cel.seq sz n cs).mk y) v Fc := by
  have h1 := h.lies
  rw [mkc0_app, mkc0] at h1
  obtain ⟨v', Fc, h2, h3⟩ := h1.cell (p := p) (by rw [mkc0_len]; exact hp)
  obtain rfl : v' = v := Option.some.inj (h2.symm.trans hv)
  exact ⟨Fc, by rw [hy]; exact h3⟩
theorem HeldV.mid {w : World} {s : Int} {A M B : List Cel} {us : List Value} {F : List Nat} (h : HeldV w s A (M ++ B) us F) {p n : Nat} (hp : p = A.length) (hn : n = M.length) {ms : List Value} (hms : (us.drop p).take n = ms) {y : Int} (hy : y = s + cnts0 A) : ∃ Fc, Lies w (mkc0 M y) ms Fc := by
  have h1 := h.lies
  rw [mkc0_app, mkc0_app] at h1
  obtain ⟨Fc, h2⟩ := h1.mid (p := p) (n := n) (by rw [mkc0_len]; exact hp) (by rw [mkc0_len]; exact hn)
  exact ⟨Fc, by rw [hy]; exact hms ▸ h2⟩

/-! ### A struct that is filled -/
theorem filled {w wr w2 : World} {g : Nat} {A M : List Cel} {vs ms : List Value} {F G : List Nat} (L : Lies wr A vs F) (fr : Fresh (g + 1) wr F) (be : Below w.heap.size w wr) (hg : w.heap.size ≤ g) (hgl : g < wr.heap.size) (hb : Below wr.heap.size wr w2)
    (l2 : Lies w2 M ms G) (f2 : Fresh wr.heap.size w2 G) (p : Nat) {W : World} (hW : w2.setCells g p ms = W) :
    Lies W (A ++ M) (vs ++ ms) (F ++ G) ∧ Fresh (g + 1) W (F ++ G) ∧ Below w.heap.size w W ∧ W.heap.size = w2.heap.size ∧ But [g] w2 W := by
  subst hW
  have bs := but_sets w2 g ms p
  have h4' : Fresh (g + 1) w2 (F ++ G) := (fr.step hb).app (hi := wr.heap.size) (fun x hx => fr.live.lt x hx) f2 (by omega)
  have hd : ∀ x ∈ F ++ G, x ∉ [g] := fun x hx he => by
    have := h4'.low x hx
    have := List.mem_singleton.1 he
    omega
  refine ⟨((L.step hb).append l2).but bs hd, ⟨h4'.nodup, h4'.low, h4'.live.but bs hd⟩, ?_, size_sets _ _ _ _, bs⟩
  exact bs.below (be.trans (hb.mono (by have := be.size; omega))) (fun x hx => by rw [List.mem_singleton.1 hx]; exact hg) (by have := be.size; have := hb.size; omega)
theorem Box.sets_other {w : World} {g b o : Nat} {t : TypeId} {us vs : List Value} (h : Box w g t us) (hne : g ≠ b) : Box (w.setCells b o vs) g t us :=
  h.keep ((but_sets w b vs o).block g h.lt fun hg => hne (List.mem_singleton.1 hg))
theorem box_of_own {w : World} {base sz n g : Nat} {e : TypeId} {xs : List Value} (h : w.ownsRow base e sz (.slice (some ⟨g, 0, none⟩) n n) n xs) : Box w g e xs ∧ xs.length = n * sz := by
  obtain ⟨h1, h2⟩ := h
  refine ⟨?_, h1⟩
  rcases h2 with ⟨hv, _⟩ | ⟨g', cap, cur, hv, hb, hg, hnc, hcm, hcs, ht⟩
  · cases hv
  · injection hv with e1 e2 e3
    injection e1 with e1
    injection e1 with e1
    subst e1 e3
    have : cur.toList = xs := by rw [← ht, List.take_of_length_le]; simpa using Nat.le_of_eq hcs
    rw [Box, hg, ← this]
/-- A whole struct is stored into its box, in a region that draws. -/
theorem step_store_box {P : Program} {ops : Array Oper} {o : Oper} {a : Act} {w : World} {K : Act → World → Prop} {Q : Exit → Act → World → Prop} {E : Prop} (hgd : o.guard = none) (ty : TypeId) (x y : Operand) (ho : o.op = .store ty x y)
    (g : Nat) (cells : Array Value) (hx : a.eval x = .pointer (some ⟨g, 0, none⟩)) (hy : a.eval y = .agg cells) {t : TypeId} {zs : List Value} (hb : Box w g t zs) (hz : zs.length = cells.size)
    (hi : (P.info? ty).map (·.size) = some cells.size) (h1 : cells.all (·.oneCell') = true)
    (h : ∀ w', Hid (Box w' g t cells.toList) → Hid (But [g] w w') → K (a.put o.dst undef) w') : if Region.wanted o (yielded ops a.tmps) = true then Oper.wp P o a w K Q else E := by
  have hw : Region.wanted o (yielded ops a.tmps) = true := by simp [Region.wanted, hgd]
  rw [if_pos hw]
  refine wp_store_mid ty x y ho g 0 cells hx hy (hb.there (by omega)) hi h1 ?_
  refine h _ (hide ?_) (hide (but_sets _ _ _ _))
  have := hb.sets (vs := cells.toList) (o := 0)
  have e := setList_at [] zs cells.toList 0 rfl (by simp; omega)
  rw [List.nil_append, List.nil_append] at e
  rw [e, List.drop_eq_nil_of_le (by simp; omega), List.append_nil] at this
  exact this
theorem Lies.lens {w : World} {cs : List Cel} {us : List Value} {F : List Nat} (h : Lies w cs us F) {n : Nat} (hn : cs.length = n) : us.length = n := h.len.trans hn

end Go.Proofs.YtigklnokgmcifaaDoor


/-
  The order of byte strings: the model's strings and the program's bytes.Compare.
-/
namespace Go.Proofs.YtigklnokgmcifaaDoor
open Go.RowKit
set_option linter.unusedVariables false

def lessL : List Int → List Int → Bool
  | _, [] => false
  | [], _ :: _ => true
  | x :: a, y :: b => decide (x < y) || (x == y && lessL a b)

theorem u8_lt {x y : Int} (hx : 0 ≤ x ∧ x ≤ 255) (hy : 0 ≤ y ∧ y ≤ 255) : decide (UInt8.ofNat x.toNat < UInt8.ofNat y.toNat) = decide (x < y) := by
  have e : (UInt8.ofNat x.toNat < UInt8.ofNat y.toNat) ↔ x < y := by
    rw [UInt8.lt_iff_toNat_lt, UInt8.toNat_ofNat', UInt8.toNat_ofNat']
    omega
  exact decide_eq_decide.2 e
theorem u8_eq {x y : Int} (hx : 0 ≤ x ∧ x ≤ 255) (hy : 0 ≤ y ∧ y ≤ 255) : (UInt8.ofNat x.toNat == UInt8.ofNat y.toNat) = (x == y) := by
  have e : (UInt8.ofNat x.toNat = UInt8.ofNat y.toNat) ↔ x = y := by
    rw [← UInt8.toNat_inj, UInt8.toNat_ofNat', UInt8.toNat_ofNat']
    omega
  by_cases h : x = y
  · subst h; simp
  · have h2 : ¬ UInt8.ofNat x.toNat = UInt8.ofNat y.toNat := fun h3 => h (e.1 h3)
    have e1 : (UInt8.ofNat x.toNat == UInt8.ofNat y.toNat) = false := by simpa using h2
    have e2 : (x == y) = false := by simpa using h
    rw [e1, e2]
theorem less_str {a b : List Int} (ha : Byt a) (hb : Byt b) : Op.bytesLess (strOfNums a).toList (strOfNums b).toList = lessL a b := by
  rw [ByteArray.toList_eq, ByteArray.toList_eq, strOfNums_data, strOfNums_data]
  induction a generalizing b with
  | nil =>
    cases b with
    | nil => rfl
    | cons y b => rfl
  | cons x a ih =>
    cases b with
    | nil => rfl
    | cons y b =>
      have hx := ha x (List.mem_cons_self ..)
      have hy := hb y (List.mem_cons_self ..)
      simp only [List.map_cons, Op.bytesLess, lessL]
      rw [u8_lt hx hy, u8_eq hx hy, ih (fun z hz => ha z (List.mem_cons_of_mem _ hz)) (fun z hz => hb z (List.mem_cons_of_mem _ hz))]
theorem cmp_less : ∀ (a b : List UInt8), 0 ≤ Lib.compareBytes a b ↔ Op.bytesLess a b = false
  | [], [] => by simp [Lib.compareBytes, Op.bytesLess]
  | [], _ :: _ => by simp [Lib.compareBytes, Op.bytesLess]
  | _ :: _, [] => by simp [Lib.compareBytes, Op.bytesLess]
  | x :: a, y :: b => by
    have ih := cmp_less a b
    unfold Lib.compareBytes Op.bytesLess
    by_cases h1 : x < y
    · simp [h1]
    · by_cases h2 : y < x
      · have h3 : (x == y) = false := by
          have : x ≠ y := fun e => by subst e; exact UInt8.lt_irrefl _ h2
          simpa using this
        simp [h1, h2, h3]
      · have h3 : x = y := UInt8.le_antisymm (UInt8.not_lt.1 h2) (UInt8.not_lt.1 h1)
        subst h3
        rw [if_neg h1, if_neg h1, ih]
        simp [h1]

/-- What the comparison of two slices gives. -/
def cmpI (a b : List Int) : Int := Lib.compareBytes (strOfNums a).data.toList (strOfNums b).data.toList
theorem cmpI_less {a b : List Int} (ha : Byt a) (hb : Byt b) : decide (0 ≤ cmpI a b) = !lessL a b := by
  have h := cmp_less (strOfNums a).data.toList (strOfNums b).data.toList
  have e := less_str ha hb
  rw [ByteArray.toList_eq, ByteArray.toList_eq] at e
  rw [e] at h
  unfold cmpI
  cases hl : lessL a b with
  | false => rw [hl] at h; exact decide_eq_true (h.2 rfl)
  | true => rw [hl] at h; exact decide_eq_false fun h2 => by cases h.1 h2

theorem bytesOf_rd {P : Program} {w : World} {v : Value} {l : List Int} (h : Rd w v (bs l)) : (Extern.Bytes.bytesOf v).run P w = .ok (strOfNums l) w := by
  obtain ⟨A, c, rfl, hc, hm, hcell⟩ := h
  rw [bs_length] at *
  cases A with
  | none =>
    have h0 : l = [] := by
      rcases Nat.eq_zero_or_pos l.length with h | h
      · exact List.eq_nil_of_length_eq_zero h
      · obtain ⟨b, off, hA, _⟩ := hcell h
        cases hA
    subst h0
    rfl
  | some ad =>
    have := Lib.run_loadBytesX (P := P) w l ad .empty (fun j x hj => by
      have hjl : j < l.length := (List.getElem?_eq_some_iff.1 hj).1
      obtain ⟨b, off, hA, _, hc⟩ := hcell (by omega)
      injection hA with hA
      subst hA
      rw [Addr.add_lit]
      refine hc j _ ?_
      rw [bs, List.getElem?_map, hj]
      rfl)
    simp only [Extern.Bytes.bytesOf]
    rw [this]
    simp [strOfNums, Lib.bytesOf, ByteArray.empty, ByteArray.emptyWithCapacity]
    rfl

theorem ext_compare (a b : List Int) (v1 v2 : Value) (w : World) (h1 : Rd w v1 (bs a)) (h2 : Rd w v2 (bs b)) : (callFunc 120 #[v1, v2]).run Tryd.prog w = .ok (.value (.int .i64 (cmpI a b))) w := by
  have hr : (Extern.BytealgCompare.compare #[v1, v2]).run Tryd.prog w = .ok (.int .i64 (cmpI a b)) w := by
    change Sem.run Tryd.prog (do pure (goInt (Extern.BytealgCompare.cmp (← Extern.Bytes.bytesOf v1) (← Extern.Bytes.bytesOf v2)))) w = _
    simp only [Sem.run_bind, bytesOf_rd h1, bytesOf_rd h2, Sem.run_pure, Result.andThen]
    rw [Lib.cmp_eq]
    rfl
  rw [run_callFunc_extern Tryd.func120 (by kernel_rfl) (by kernel_rfl) (by kernel_rfl) (e := Extern.BytealgCompare.compare) (by kernel_rfl), hr]
  rfl

set_option maxHeartbeats 400000 in
theorem compare (a b : List Int) (v1 v2 : Value) (w : World) (h1 : Rd w v1 (bs a)) (h2 : Rd w v2 (bs b)) :
    Calls Tryd.prog 100 #[v1, v2] w fun e w' => e = .returned (.int .i64 (cmpI a b)) ∧ w = w' := by
  have hx := ext_compare a b v1 v2 w h1 h2
  clear h1 h2
  go_enter Tryd.func100, Tryd.ntmps100
  go_wp2
  go_ret
  exact ⟨rfl, rfl⟩

end Go.Proofs.YtigklnokgmcifaaDoor


/-
  NameOk: the model and the program agree on what a name is.
-/
namespace Go.Proofs.YtigklnokgmcifaaDoor
open Go.RowKit

set_option maxHeartbeats 400000 in
theorem containsLow (r : Int) (h0 : 0 ≤ r) (h1 : r < 128) (w : World) :
    Calls Tryd.prog 70 #[.string abcS, .int .i32 r] w fun e w' => e = .returned (.bool (decide (0 ≤ lidx r))) ∧ Below w.heap.size w w' := by
  obtain ⟨R, hR⟩ : ∃ R, lidx r = R := ⟨_, rfl⟩
  rw [hR]
  have HR := hide hR
  clear hR
  go_enter Tryd.func70, Tryd.ntmps70
  go_wp2_with fail
  refine (indexRuneLow r h0 h1 w).mono ?_
  rintro e w1 ⟨rfl, b1⟩
  rw [HR.out]
  go_wp2_with fail
  go_ret
  exact ⟨rfl, b1⟩

set_option maxHeartbeats 400000 in
theorem containsHigh (r : Int) (h0 : 128 ≤ r) (h1 : r ≤ 2147483647) (w : World) :
    Calls Tryd.prog 70 #[.string abcS, .int .i32 r] w fun e w' => e = .returned (.bool false) ∧ Below w.heap.size w w' := by
  have hc := indexRune r (by omega) h1 w
  rw [if_neg (by omega)] at hc
  have HC := hide hc
  clear hc
  go_enter Tryd.func70, Tryd.ntmps70
  go_wp2_with fail
  refine Calls.mono HC.out ?_
  rintro e w1 ⟨rfl, b1⟩
  go_wp2_with fail
  go_ret
  exact ⟨rfl, b1⟩

/-- All from the k-th on are characters. -/
def okFrom (l : List Int) (k : Nat) : Bool := (l.drop k).all fun x => decide (0 ≤ lidx x)
def nameOk (l : List Int) : Bool := decide (l.length = 16) && okFrom l 0
theorem okFrom_more {l : List Int} {k : Nat} (h : k < l.length) : okFrom l k = (decide (0 ≤ lidx (l.getD k 0)) && okFrom l (k + 1)) := by
  unfold okFrom
  rw [List.drop_eq_getElem_cons h, List.all_cons]
  simp [List.getD, List.getElem?_eq_getElem h]
theorem okFrom_end {l : List Int} {k : Nat} (h : l.length ≤ k) : okFrom l k = true := by
  unfold okFrom
  rw [List.drop_eq_nil_of_le h]
  rfl

end Go.Proofs.YtigklnokgmcifaaDoor


/-
  bytes.Clone, appendNum and the program's PutNum.
-/
namespace Go.Proofs.YtigklnokgmcifaaDoor
open Go.RowKit

set_option maxHeartbeats 400000 in
theorem appendNumOut (l : List Int) (v : Value) (n : Int) (lo : Nat) (w : World) (hv : w.ownsRow lo 5 1 v l.length (bs l)) (hn : n < 0 ∨ 2147483647 < n) :
    Calls Tryd.prog 116 #[v, .int .i64 n] w fun e w' => ∃ v', e = .returned v' ∧ w'.ownsRow lo 5 1 v' l.length (bs l) ∧ Below lo w w' := by
  have HV := hide hv
  clear hv
  by_cases h0 : n < 0
  all_goals
    go_enter Tryd.func116, Tryd.ntmps116
    go_wp2
    go_ret
    exact ⟨_, rfl, HV.out, Below.refl _ _⟩

set_option maxRecDepth 20000 in
set_option maxHeartbeats 800000 in
theorem appendNumIn (l : List Int) (v : Value) (n : Nat) (lo : Nat) (w : World) (hv : w.ownsRow lo 5 1 v l.length (bs l)) (hlo : lo ≤ w.heap.size) (hl : l.length ≤ 1099511627776) (hn : n ≤ 2147483647) :
    Calls Tryd.prog 116 #[v, .int .i64 n] w fun e w' => ∃ v', e = .returned v' ∧ w'.ownsRow lo 5 1 v' (l ++ vint n).length (bs (l ++ vint n)) ∧ Below lo w w' := by
  obtain ⟨i0, hi0, hz0, hz1, hz2⟩ := info_parts u8info
  have HV := hide hv
  clear hv
  go_enter Tryd.func116, Tryd.ntmps116
  go_wp2
  go_loopw [0, 1] (fun v t wr => ∃ (m : Nat) (xs : List Int), m ≤ 2147483647 ∧ t = .int .i64 m ∧ wr.ownsRow lo 5 1 v xs.length (bs xs) ∧ Hid (xs ++ vint m = l ++ vint n) ∧ Below lo w wr)
    (fun _ t _ => (intOf t).toNat)
  case atStart => exact ⟨n, l, hn, rfl, HV.out, hide rfl, Below.refl _ _⟩
  case round =>
    obtain ⟨m, xs, hm, rfl, hown, hx, hbel⟩ := hrel
    have hroom := vint_room hn hx.out
    have hlo2 : lo ≤ wr.heap.size := Nat.le_trans hlo hbel.size
    have hor : bits .or .u8 ((m : Int) % 256) 128 = (m : Int) % 128 + 128 := by rw [or128 (by omega) (by omega)]; omega
    have HO := hide hor
    clear hor

    by_cases h128 : m < 128
    · go_wp2_with (at_builtin; refine wpList_app _ rfl (.tmp 22) (.tmp 25) _ rfl lo 5 i0 _ 1 Tryd.underlying22 hi0 hz0 hz1 hz2 rfl _ _ _ rfl (hown.alloc _) _ _ rfl (rd_one _ _ _) (bs_one _) (by rw [bs_length]; simp only [maxLen, List.length_singleton]; omega) (by rw [bs_length]; simp only [List.length_singleton]; omega) (by simp; omega) ?_; intro v3 w3 own3 gr3)
      go_ret
      refine ⟨_, rfl, own_len (own_cells own3 ?_) (by rw [bs_length, ← hx.out, vint_last h128]; simp), ?_⟩
      · rw [← bs_append, ← hx.out, vint_last h128]
      · exact Below.row (hbel.alloc hlo2 _) (by simp; omega) (hown.alloc _) gr3
    · go_wp2_with (at_builtin; refine wpList_app _ rfl (.tmp 16) (.tmp 20) _ rfl lo 5 i0 _ 1 Tryd.underlying22 hi0 hz0 hz1 hz2 rfl _ _ _ rfl (hown.alloc _) _ _ rfl (rd_one _ _ _) (bs_one _) (by rw [bs_length]; simp only [maxLen, List.length_singleton]; omega) (by rw [bs_length]; simp only [List.length_singleton]; omega) (by simp; omega) ?_; intro v3 w3 own3 gr3)
      go_roundw
      case rel => exact ⟨m / 128, xs ++ [(m : Int) % 128 + 128], by omega, by go_num, own_len (own_cells own3 (by rw [HO.out, bs_append])) (by simp [bs]), hide (vint_step h128 hx.out), Below.row (hbel.alloc hlo2 _) (by simp; omega) (hown.alloc _) gr3⟩
      case measure => simp [intOf]; omega

theorem appendNum (l : List Int) (v : Value) (n : Int) (lo : Nat) (w : World) (hv : w.ownsRow lo 5 1 v l.length (bs l)) (hlo : lo ≤ w.heap.size) (hl : l.length ≤ 1099511627776) :
    Calls Tryd.prog 116 #[v, .int .i64 n] w fun e w' => ∃ v', e = .returned v' ∧ w'.ownsRow lo 5 1 v' (putNum l n).length (bs (putNum l n)) ∧ Below lo w w' := by
  by_cases h : n < 0 ∨ 2147483647 < n
  · rw [putNum, if_pos h]
    exact appendNumOut l v n lo w hv h
  · rw [putNum, if_neg h]
    obtain ⟨k, rfl⟩ := Int.eq_ofNat_of_zero_le (by omega : 0 ≤ n)
    exact appendNumIn l v k lo w hv hlo hl (by omega)

theorem specPutNum (l : List Int) (v : Value) (n : Int) (w : World) (hv : Rd w v (bs l)) (hl : l.length ≤ 1099511627776) :
    Calls Tryd.prog 95 #[v, .int .i64 n] w fun e w' => ∃ v', e = .returned v' ∧ Own 5 w.heap.size w'.heap.size w' v' (bs (putNum l n)) ∧ Below w.heap.size w w' := by
  by_cases h : n < 0 ∨ 2147483647 < n
  · rw [putNum, if_pos h]
    exact specPutNumOut l v n w hv hl h
  · rw [putNum, if_neg h]
    obtain ⟨k, rfl⟩ := Int.eq_ofNat_of_zero_le (by omega : 0 ≤ n)
    exact specPutNumIn l v k w hv hl (by omega)

end Go.Proofs.YtigklnokgmcifaaDoor


/-
  Rows that a call makes by append, and what their cells read as; elements that are read.
-/
namespace Go.Proofs.YtigklnokgmcifaaDoor
open Go.RowKit
set_option linter.unusedVariables false

/-- The datum lies in the cells, wherever. -/
def Ins (w : World) (cs : List Cel) (us : List Value) : Prop := ∃ F, Lies w cs us F
def In1 (w : World) (c : Cel) (v : Value) : Prop := ∃ F, Lie w c v F
theorem Ins.step {w w' : World} {cs : List Cel} {us : List Value} (h : Ins w cs us) (hb : Below w.heap.size w w') : Ins w' cs us := h.elim fun F h => ⟨F, h.step hb⟩
theorem In1.step {w w' : World} {c : Cel} {v : Value} (h : In1 w c v) (hb : Below w.heap.size w w') : In1 w' c v := h.elim fun F h => ⟨F, h.step hb⟩

/-- A row of the call's own, and what its cells read as. -/
def Row (lo : Nat) (w : World) (e : TypeId) (sz n : Nat) (cs : List Cel) (v : Value) (F : List Nat) : Prop :=
  sz ≤ 64 ∧ ∃ us, w.ownsRow lo e sz v n us ∧ Lies w cs us F ∧ ∀ g ∈ F, v.ownBlock ≠ some g
theorem Row.nil (lo : Nat) (w : World) (e : TypeId) (sz : Nat) (h : sz ≤ 64) : Row lo w e sz 0 [] (.slice none 0 0) [] :=
  ⟨h, [], World.ownsRow_nil _ _ _ _, lies_nil w, fun _ h => by cases h⟩
theorem Row.lit0 (w : World) (e : TypeId) (sz : Nat) (h : sz ≤ 64) : Row w.heap.size (w.alloc (.cells #[] e)) e sz 0 [] (.slice (some ⟨w.heap.size, 0, none⟩) 0 0) [] :=
  ⟨h, [], World.ownsRow_lit w #[] 0 (Nat.le_refl _) (Nat.zero_le _) (by simp), lies_nil _, fun _ h => by cases h⟩
theorem Row.step {lo : Nat} {w w' : World} {e : TypeId} {sz n : Nat} {cs : List Cel} {v : Value} {F : List Nat} (h : Row lo w e sz n cs v F) (hb : Below w.heap.size w w') : Row lo w' e sz n cs v F := by
  obtain ⟨h0, us, h1, h2, h3⟩ := h
  refine ⟨h0, us, ⟨h1.1, ?_⟩, h2.step hb, h3⟩
  rcases h1.2 with hn | ⟨g, cap, cur, rfl, hbg, hg, rest⟩
  · exact .inl hn
  · exact .inr ⟨g, cap, cur, rfl, hbg, by rw [hb.block g (Array.getElem?_eq_some_iff.1 hg).1]; exact hg, rest⟩
theorem Row.base {lo lo' : Nat} {w : World} {e : TypeId} {sz n : Nat} {cs : List Cel} {v : Value} {F : List Nat} (h : Row lo w e sz n cs v F) (hl : lo' ≤ lo) : Row lo' w e sz n cs v F := by
  obtain ⟨h0, us, h1, h2, h3⟩ := h
  refine ⟨h0, us, ⟨h1.1, ?_⟩, h2, h3⟩
  rcases h1.2 with hn | ⟨g, cap, cur, rfl, hbg, hg, rest⟩
  · exact .inl hn
  · exact .inr ⟨g, cap, cur, rfl, Nat.le_trans hl hbg, hg, rest⟩
theorem Row.form {lo : Nat} {w : World} {e : TypeId} {sz n : Nat} {cs : List Cel} {v : Value} {F : List Nat} (h : Row lo w e sz n cs v F) : ∃ A c, v = .slice A n c ∧ n ≤ c ∧ c ≤ maxLen := by
  obtain ⟨h0, us, h1, h2, h3⟩ := h
  rcases h1.2 with ⟨rfl, rfl⟩ | ⟨g, cap, cur, rfl, hbg, hg, hn, hc, _⟩
  · exact ⟨none, 0, rfl, Nat.le_refl _, Nat.zero_le _⟩
  · exact ⟨_, cap, rfl, hn, hc⟩
theorem Row.low {lo : Nat} {w : World} {e : TypeId} {sz n : Nat} {cs : List Cel} {v : Value} {F : List Nat} (h : Row lo w e sz n cs v F) : ∀ g, v.ownBlock = some g → lo ≤ g ∧ g < w.heap.size := by
  obtain ⟨h0, us, h1, h2, h3⟩ := h
  exact h1.lt
theorem Row.lie {lo : Nat} {w : World} {e : TypeId} {sz n : Nat} {cs : List Cel} {v : Value} {F : List Nat} (h : Row lo w e sz n cs v F) : Lie w (.seq sz n cs) v (blk v ++ F) := by
  obtain ⟨h0, us, h1, h2, h3⟩ := h
  rw [Lie]
  refine ⟨h0, us, F, ?_, h2, rfl⟩
  rcases h1.2 with ⟨rfl, rfl⟩ | ⟨g, cap, cur, rfl, hbg, hg, hn, hc, hs, ht⟩
  · exact ⟨none, 0, rfl, Nat.le_refl _, Nat.zero_le _, h1.1, fun h => by omega⟩
  · refine ⟨_, cap, rfl, hn, hc, h1.1, fun _ => ⟨g, 0, rfl, (Array.getElem?_eq_some_iff.1 hg).1, fun j u hu => ?_⟩⟩
    have hj : j < n * sz := by
      have := (List.getElem?_eq_some_iff.1 hu).1
      have := h1.1
      omega
    rw [Nat.zero_add, h1.cellAt j hj]
    exact hu
theorem Row.in1 {lo : Nat} {w : World} {e : TypeId} {sz n : Nat} {cs : List Cel} {v : Value} {F : List Nat} (h : Row lo w e sz n cs v F) : In1 w (.seq sz n cs) v := ⟨_, h.lie⟩
/-- Both the row's own block and its elements' are above a bound. -/
theorem Row.above {lo : Nat} {w : World} {e : TypeId} {sz n : Nat} {cs : List Cel} {v : Value} {F : List Nat} (h : Row lo w e sz n cs v F) (hF : ∀ g ∈ F, lo ≤ g) : ∀ g ∈ blk v ++ F, lo ≤ g := by
  intro g hg
  rcases List.mem_append.1 hg with hg | hg
  · obtain ⟨h0, us, h1, h2, h3⟩ := h
    rcases h1.2 with ⟨rfl, rfl⟩ | ⟨b, cap, cur, rfl, hbg, _⟩
    · simp [blk] at hg
    · rcases Nat.eq_zero_or_pos n with rfl | hn
      · rw [blk_none] at hg; cases hg
      · rw [blk_some hn] at hg
        rw [List.mem_singleton.1 hg]
        exact hbg
  · exact hF g hg

/-- Blocks that are older than a row, or younger than its world, are not its own. -/
theorem Row.far {lo : Nat} {w : World} {e : TypeId} {sz n : Nat} {cs : List Cel} {v : Value} {F : List Nat} (h : Row lo w e sz n cs v F) {G : List Nat} (hG : ∀ g ∈ G, g < lo ∨ w.heap.size ≤ g) : ∀ g ∈ G, v.ownBlock ≠ some g := fun g hg e => by
  have := h.low g e
  have := hG g hg
  omega
/-- One element, laid into a block of its own for append. -/
theorem one_rdc (w : World) {us : List Value} {sz : Nat} (t : TypeId) (hs : us.length = sz) : Rdc (w.alloc (.cells us.toArray t)) (.slice (some ⟨w.heap.size, 0, none⟩) 1 1) sz 1 us :=
  ⟨_, 1, rfl, Nat.le_refl _, by simp [maxLen], by omega, fun _ => ⟨w.heap.size, 0, rfl, by simp, fun j u hu => by
    rw [Nat.zero_add]
    exact (Box.new w us t).cell hu⟩⟩

theorem run_rowapp {P : Program} (w : World) (lo : Nat) (t ty e : TypeId) (z : Value) (sz bytes : Nat) (ht : P.underlying t = some (.slice e)) (hi : (P.info? e).map (fun i => (i.zero, i.size, i.bytes)) = some (some z, sz, bytes)) (hzs : z.cells.size = sz) (hsz : 0 < sz)
    (v : Value) (n : Nat) (cs : List Cel) (F : List Nat) (hR : Row lo w e sz n cs v F) (y : Value) (m : Nat) (ys : List Value) (ms : List Cel) (G : List Nat) (hr : Rdc w y sz m ys) (hly : Lies w ms ys G) (hd : ∀ g ∈ G, v.ownBlock ≠ some g)
    (h63 : n + m ≤ maxLen) (hbytes : (n + m) * bytes ≤ 140737488355328) (hbase : lo ≤ w.heap.size) :
    ∃ v' w', (Builtin.append_ #[t, t] ty #[v, y]).run P w = .ok v' w' ∧ Row lo w' e sz (n + m) (cs ++ ms) v' (F ++ G) ∧ w.grownBy w' v.ownBlock := by
  obtain ⟨i, hi', hz, hs, hb⟩ : ∃ i, P.info? e = some i ∧ i.zero = some z ∧ i.size = sz ∧ i.bytes = bytes := by
    cases h : P.info? e with
    | none => rw [h] at hi; cases hi
    | some i =>
      rw [h] at hi
      simp only [Option.map_some, Option.some.injEq, Prod.mk.injEq] at hi
      exact ⟨i, rfl, hi.1, hi.2.1, hi.2.2⟩
  obtain ⟨h0, us, h1, h2, h3⟩ := hR
  obtain ⟨A, c, rfl, hc1, hc2, hl, hcell⟩ := hr
  have fin : ∀ v' w', w'.ownsRow lo e sz v' (n + m) (us ++ ys) → w.grownBy w' v.ownBlock → (v'.ownBlock = v.ownBlock ∨ v'.ownBlock = some w.heap.size) → Row lo w' e sz (n + m) (cs ++ ms) v' (F ++ G) := by
    intro v' w' ho hg hv
    have hlt : ∀ g ∈ F ++ G, g < w.heap.size ∧ v.ownBlock ≠ some g := fun g hgm => by
      rcases List.mem_append.1 hgm with hgm | hgm
      · exact ⟨h2.lt g hgm, h3 g hgm⟩
      · exact ⟨hly.lt g hgm, hd g hgm⟩
    refine ⟨h0, us ++ ys, ho, (h2.append hly).keep hg.size fun g hgm => hg.block g (hlt g hgm).1 fun e => (hlt g hgm).2 e.symm, fun g hgm e => ?_⟩
    rcases hv with hv | hv
    · exact (hlt g hgm).2 (hv ▸ e)
    · have := (hlt g hgm).1
      rw [hv] at e
      injection e with e
      omega
  cases A with
  | none =>
    have hm0 : m = 0 := by
      rcases Nat.eq_zero_or_pos m with h | h
      · exact h
      · obtain ⟨b, off, hA, _⟩ := hcell h
        cases hA
    subst hm0
    have hys : ys = [] := List.eq_nil_of_length_eq_zero (by omega)
    subst hys
    refine ⟨v, w, ?_, fin v w (by simpa using h1) (World.grownBy.refl w _) (.inl rfl), World.grownBy.refl w _⟩
    rcases h1.2 with ⟨rfl, rfl⟩ | ⟨g, cap, cur, rfl, _, _, hnc, _⟩
    · simp [Builtin.append_, run_underlying ht, sizeOf, typeInfo, hi', Builtin.lenOf, Builtin.firstCells]
    · simp [Builtin.append_, run_underlying ht, sizeOf, typeInfo, hi', Builtin.lenOf, Builtin.firstCells, hnc, storeCells]
  | some ad =>
    have hcells : ∀ j u, ys[j]? = some u → w.cell? (ad.add j) = some u := by
      intro j u hu
      have hj := (List.getElem?_eq_some_iff.1 hu).1
      have hm : 0 < m := by
        rcases Nat.eq_zero_or_pos m with rfl | h
        · omega
        · exact h
      obtain ⟨b, off, hA, _, hc⟩ := hcell hm
      injection hA with hA
      subst hA
      rw [Addr.add_lit]
      exact hc j u hu
    obtain ⟨v', w', hrun, k2, k3, _, k4⟩ := run_append_own_at (P := P) w lo t ty e i z sz bytes ht hi' hz hs hb hzs hsz v n us h1 ad m c ys hl hcells hly.one h63 hbytes hbase
    exact ⟨v', w', hrun, fin v' w' k2 k3 k4, k3⟩

/-- append of a slice, inside a walk. -/
theorem wpList_rowapp {P : Program} {w : World} {ops : Array Oper} {rest : List Oper} {o : Oper} {a : Act} {Q : Exit → Act → World → Prop} (hgd : o.guard = none) {s x : Operand} {t : TypeId}
    (ho : o.op = .call { callee := .builtin .append, args := #[s, x], argTypes := #[t, t] })
    {lo : Nat} {e : TypeId} {z : Value} {sz bytes : Nat} {v : Value} {n : Nat} {cs : List Cel} {F : List Nat} {y : Value} {m : Nat} {ys : List Value} {ms : List Cel} {G : List Nat}
    (hR : Row lo w e sz n cs v F) (hr : Rdc w y sz m ys) (hy : Lies w ms ys G) (hd : ∀ g ∈ G, v.ownBlock ≠ some g) (hs : a.eval s = v) (hx : a.eval x = y)
    (ht : P.underlying t = some (.slice e)) (hi : (P.info? e).map (fun i => (i.zero, i.size, i.bytes)) = some (some z, sz, bytes)) (hzs : z.cells.size = sz) (hsz : 0 < sz)
    (hb2 : bytes ≤ 512) (hn : n + m ≤ 274877906944) (hbase : lo ≤ w.heap.size)
    (h : ∀ v' w', Row lo w' e sz (n + m) (cs ++ ms) v' (F ++ G) → Below lo w w' → w.grownBy w' v.ownBlock → wpList P ops Q rest (a.put o.dst v') w') : wpList P ops Q (o :: rest) a w := by
  refine wpList_plain hgd fun K hK => ?_
  have hbytes : (n + m) * bytes ≤ 140737488355328 := Nat.le_trans (Nat.mul_le_mul hn hb2) (by decide)
  obtain ⟨v', w', hrun, h2, h4⟩ := run_rowapp (P := P) w lo t o.type e z sz bytes ht hi hzs hsz v n cs F hR y m ys ms G hr hy hd (by unfold maxLen; omega) hbytes hbase
  unfold Oper.wp execOp
  simp only [ho, resolve, invoke, builtin, Sem.run_bind, Sem.run_pure, Result.andThen_ok, List.map_toArray, List.map_cons, List.map_nil, hs, hx, hrun]
  exact hK _ _ (h v' w' h2 ((Below.refl lo w).grown h4 hbase fun g hgk => (hR.low g hgk).1) h4)
/-- append of one element, inside a walk: the element was laid into a block of its own. -/
theorem wpList_row1 {P : Program} {w0 : World} {ops : Array Oper} {rest : List Oper} {o : Oper} {a : Act} {Q : Exit → Act → World → Prop} (hgd : o.guard = none) {s x : Operand} {t : TypeId}
    (ho : o.op = .call { callee := .builtin .append, args := #[s, x], argTypes := #[t, t] })
    {lo : Nat} {e te : TypeId} {z : Value} {sz bytes : Nat} {v : Value} {n : Nat} {cs : List Cel} {F : List Nat} {us : List Value} {ms : List Cel} {G : List Nat}
    (hR : Row lo w0 e sz n cs v F) (hy : Lies w0 ms us G) (hd : ∀ g ∈ G, v.ownBlock ≠ some g) (hms : ms.length = sz) (hs : a.eval s = v) (hx : a.eval x = .slice (some ⟨w0.heap.size, 0, none⟩) 1 1)
    (ht : P.underlying t = some (.slice e)) (hi : (P.info? e).map (fun i => (i.zero, i.size, i.bytes)) = some (some z, sz, bytes)) (hzs : z.cells.size = sz) (hsz : 0 < sz)
    (hb2 : bytes ≤ 512) (hn : n + 1 ≤ 274877906944) (hbase : lo ≤ w0.heap.size)
    (h : ∀ v' w', Row lo w' e sz (n + 1) (cs ++ ms) v' (F ++ G) → Below lo w0 w' → (w0.alloc (.cells us.toArray te)).grownBy w' v.ownBlock → wpList P ops Q rest (a.put o.dst v') w') : wpList P ops Q (o :: rest) a (w0.alloc (.cells us.toArray te)) := by
  have ba : Below w0.heap.size w0 (w0.alloc (.cells us.toArray te)) := (Below.refl _ _).alloc (Nat.le_refl _) _
  refine wpList_rowapp hgd ho (hR.step ba) (one_rdc w0 te (by rw [hy.len]; exact hms)) (hy.step ba) hd hs hx ht hi hzs hsz hb2 hn (Nat.le_trans hbase ba.size) fun v' w' h1 h2 h3 => h v' w' h1 ((ba.mono hbase).trans h2) h3

/-- append of a slice, in a region that draws. -/
theorem step_rowapp {P : Program} {w : World} {ops : Array Oper} {o : Oper} {a : Act} {K : Act → World → Prop} {Q : Exit → Act → World → Prop} {E : Prop} (hgd : o.guard = none) {s x : Operand} {t : TypeId}
    (ho : o.op = .call { callee := .builtin .append, args := #[s, x], argTypes := #[t, t] })
    {lo : Nat} {e : TypeId} {z : Value} {sz bytes : Nat} {v : Value} {n : Nat} {cs : List Cel} {F : List Nat} {y : Value} {m : Nat} {ys : List Value} {ms : List Cel} {G : List Nat}
    (hR : Row lo w e sz n cs v F) (hr : Rdc w y sz m ys) (hy : Lies w ms ys G) (hd : ∀ g ∈ G, v.ownBlock ≠ some g) (hs : a.eval s = v) (hx : a.eval x = y)
    (ht : P.underlying t = some (.slice e)) (hi : (P.info? e).map (fun i => (i.zero, i.size, i.bytes)) = some (some z, sz, bytes)) (hzs : z.cells.size = sz) (hsz : 0 < sz)
    (hb2 : bytes ≤ 512) (hn : n + m ≤ 274877906944) (hbase : lo ≤ w.heap.size)
    (h : ∀ v' w', Row lo w' e sz (n + m) (cs ++ ms) v' (F ++ G) → Below lo w w' → w.grownBy w' v.ownBlock → K (a.put o.dst v') w') : if Region.wanted o (yielded ops a.tmps) = true then Oper.wp P o a w K Q else E := by
  have hw : Region.wanted o (yielded ops a.tmps) = true := by simp [Region.wanted, hgd]
  rw [if_pos hw]
  have hbytes : (n + m) * bytes ≤ 140737488355328 := Nat.le_trans (Nat.mul_le_mul hn hb2) (by decide)
  obtain ⟨v', w', hrun, h2, h4⟩ := run_rowapp (P := P) w lo t o.type e z sz bytes ht hi hzs hsz v n cs F hR y m ys ms G hr hy hd (by unfold maxLen; omega) hbytes hbase
  unfold Oper.wp execOp
  simp only [ho, resolve, invoke, builtin, Sem.run_bind, Sem.run_pure, Result.andThen_ok, List.map_toArray, List.map_cons, List.map_nil, hs, hx, hrun]
  exact h v' w' h2 ((Below.refl lo w).grown h4 hbase fun g hgk => (hR.low g hgk).1) h4
/-- append of one element, in a region that draws. -/
theorem step_row1 {P : Program} {w0 : World} {ops : Array Oper} {o : Oper} {a : Act} {K : Act → World → Prop} {Q : Exit → Act → World → Prop} {E : Prop} (hgd : o.guard = none) {s x : Operand} {t : TypeId}
    (ho : o.op = .call { callee := .builtin .append, args := #[s, x], argTypes := #[t, t] })
    {lo : Nat} {e te : TypeId} {z : Value} {sz bytes : Nat} {v : Value} {n : Nat} {cs : List Cel} {F : List Nat} {us : List Value} {ms : List Cel} {G : List Nat}
    (hR : Row lo w0 e sz n cs v F) (hy : Lies w0 ms us G) (hd : ∀ g ∈ G, v.ownBlock ≠ some g) (hms : ms.length = sz) (hs : a.eval s = v) (hx : a.eval x = .slice (some ⟨w0.heap.size, 0, none⟩) 1 1)
    (ht : P.underlying t = some (.slice e)) (hi : (P.info? e).map (fun i => (i.zero, i.size, i.bytes)) = some (some z, sz, bytes)) (hzs : z.cells.size = sz) (hsz : 0 < sz)
    (hb2 : bytes ≤ 512) (hn : n + 1 ≤ 274877906944) (hbase : lo ≤ w0.heap.size)
    (h : ∀ v' w', Row lo w' e sz (n + 1) (cs ++ ms) v' (F ++ G) → Below lo w0 w' → (w0.alloc (.cells us.toArray te)).grownBy w' v.ownBlock → K (a.put o.dst v') w') : if Region.wanted o (yielded ops a.tmps) = true then Oper.wp P o a (w0.alloc (.cells us.toArray te)) K Q else E := by
  have ba : Below w0.heap.size w0 (w0.alloc (.cells us.toArray te)) := (Below.refl _ _).alloc (Nat.le_refl _) _
  exact step_rowapp hgd ho (hR.step ba) (one_rdc w0 te (by rw [hy.len]; exact hms)) (hy.step ba) hd hs hx ht hi hzs hsz hb2 hn (Nat.le_trans hbase ba.size) fun v' w' h1 h2 h3 => h v' w' h1 ((ba.mono hbase).trans h2) h3
/-- The text that a row of bytes reads as. -/
theorem Row.raw {lo : Nat} {w : World} {e : TypeId} {l : List Int} {v : Value} {F : List Nat} (h : Row lo w e 1 l.length (l.map (Cel.num .u8)) v F) : Rd w v (bs l) := h.lie.rd.1
theorem Rd.rdcT {w : World} {v : Value} {l : List Int} (h : Rd w v (bs l)) : Rdc w v 1 l.length (bs l) := h.rdc (bs_length l).symm

theorem Row.lit0D (w : World) (e : TypeId) (sz : Nat) (h : sz ≤ 64) : Row w.heap.size (w.alloc (.cells #[] e)).drew e sz 0 [] (.slice (some ⟨w.heap.size, 0, none⟩) 0 0) [] := (Row.lit0 w e sz h).step (Below.refl _ _).drew
theorem Row.clone {lo : Nat} {w : World} {e : TypeId} {l : List Int} {v : Value} (h : Row lo w e 1 (0 + l.length) ([] ++ l.map (Cel.num .u8)) v ([] ++ [])) : Row lo w e 1 l.length (l.map (Cel.num .u8)) v [] := by
  rw [Nat.zero_add, List.nil_append, List.nil_append] at h
  exact h
theorem far0 (v : Value) : ∀ g ∈ ([] : List Nat), v.ownBlock ≠ some g := fun _ h => by cases h
theorem alloc2 {w : World} {lo : Nat} (o : Obj) (h : lo ≤ w.heap.size) : lo ≤ (w.alloc o).heap.size := by simp; omega
theorem belNew (w : World) (o : Obj) : Below w.heap.size w (w.alloc o) := (Below.refl _ _).alloc (Nat.le_refl _) o
theorem belNewD (w : World) (o : Obj) : Below w.heap.size w (w.alloc o).drew := ((Below.refl _ _).alloc (Nat.le_refl _) o).drew
theorem lowNewD (w : World) (o : Obj) : w.heap.size ≤ (w.alloc o).drew.heap.size := (belNewD w o).size

/-! ### Elements that are read -/
/-- The j-th element's cells. -/
theorem Lie.elem {α : Type} {f : α → List Cel} {sz : Nat} (hf : ∀ x, (f x).length = sz) {w : World} {l : List α} {v : Value} {F : List Nat} (h : Lie w (seqOf sz f l) v F) {j : Nat} (hj : j < l.length) :
    ∃ b off c us Fj, v = .slice (some ⟨b, off, none⟩) l.length c ∧ b < w.heap.size ∧ w.rangeAt b (off + j * sz) us ∧ Lies w (f l[j]) us Fj ∧ ∀ g ∈ Fj, g ∈ F := by
  rw [Lie] at h
  obtain ⟨_, us, F2, ⟨A, c, rfl, _, _, hl, hc⟩, h2, rfl⟩ := h
  obtain ⟨b, off, rfl, hb, hr⟩ := hc (by omega)
  rw [cells_split f l j, cells_drop f hj] at h2
  obtain ⟨ua, ub, Fa, Fb, rfl, rfl, k1, k2⟩ := h2.parts
  obtain ⟨uc, ud, Fc, Fd, rfl, rfl, k3, k4⟩ := k2.parts
  refine ⟨b, off, c, uc, Fc, rfl, hb, fun q u hu => ?_, k3, fun g hg => by simp [hg]⟩
  have hla : ua.length = j * sz := by rw [k1.len, cells_len hf, List.length_take, Nat.min_eq_left (by omega)]
  have := hr (j * sz + q) u (by
    rw [List.getElem?_append_right (by omega), hla, Nat.add_sub_cancel_left, List.getElem?_append_left (List.getElem?_eq_some_iff.1 hu).1]
    exact hu)
  rwa [← Nat.add_assoc] at this

end Go.Proofs.YtigklnokgmcifaaDoor


/-
  A hash in plain numbers: the schedule, the rounds, a block.
-/
namespace Go.Proofs.YtigklnokgmcifaaDoor
open Go.RowKit

def U32 (l : List Int) : Prop := ∀ x ∈ l, 0 ≤ x ∧ x ≤ 4294967295
theorem U32.at_ {l : List Int} (h : U32 l) (i : Nat) : 0 ≤ l.getD i 0 ∧ l.getD i 0 ≤ 4294967295 := by
  rw [List.getD]
  rcases Nat.lt_or_ge i l.length with hi | hi
  · rw [List.getElem?_eq_getElem hi]
    exact h _ (List.getElem_mem hi)
  · rw [List.getElem?_eq_none hi]
    simp
theorem U32.app {a b : List Int} (ha : U32 a) (hb : U32 b) : U32 (a ++ b) := fun x hx => (List.mem_append.1 hx).elim (ha x) (hb x)
theorem U32.take {l : List Int} (h : U32 l) (n : Nat) : U32 (l.take n) := fun x hx => h x (List.mem_of_mem_take hx)
theorem U32.one {x : Int} (h0 : 0 ≤ x) (h1 : x ≤ 4294967295) : U32 [x] := fun y hy => by
  obtain rfl := List.mem_singleton.1 hy
  exact ⟨h0, h1⟩
theorem U32.zeros (n : Nat) : U32 (List.replicate n 0) := fun x hx => by
  have := (List.mem_replicate.1 hx).2
  omega

def xo (a b : Int) : Int := bits .xor .u32 a b
def sg0 (x : Int) : Int := bits .xor .u32 (bits .xor .u32 (rot 7 x) (rot 18 x)) (x / 8)
def sg1 (x : Int) : Int := bits .xor .u32 (bits .xor .u32 (rot 17 x) (rot 19 x)) (x / 1024)
theorem sg0_32 (x : Int) : 0 ≤ sg0 x ∧ sg0 x ≤ 4294967295 := bits32 _ _ _
theorem sg1_32 (x : Int) : 0 ≤ sg1 x ∧ sg1 x ≤ 4294967295 := bits32 _ _ _

/-- The j-th word of a block. -/
def word (b : List Int) (j : Nat) : Int := b.getD (4 * j) 0 * 16777216 + b.getD (4 * j + 1) 0 * 65536 + b.getD (4 * j + 2) 0 * 256 + b.getD (4 * j + 3) 0
theorem word_32 {b : List Int} (hB : Byt b) (j : Nat) : 0 ≤ word b j ∧ word b j ≤ 4294967295 := by
  have h0 := hB.at_ (4 * j)
  have h1 := hB.at_ (4 * j + 1)
  have h2 := hB.at_ (4 * j + 2)
  have h3 := hB.at_ (4 * j + 3)
  unfold word
  omega
def first16 (b : List Int) : List Int := (List.range 16).map (word b)
/-- The word that is put behind ws. -/
def nextw (ws : List Int) : Int :=
  (ws.getD (ws.length - 16) 0 + sg0 (ws.getD (ws.length - 15) 0) + ws.getD (ws.length - 7) 0 + sg1 (ws.getD (ws.length - 2) 0)) % 4294967296
def wseq (b : List Int) : Nat → List Int
  | 0 => first16 b
  | n + 1 => wseq b n ++ [nextw (wseq b n)]
theorem wseq_len (b : List Int) (n : Nat) : (wseq b n).length = 16 + n := by
  induction n with
  | zero => simp [wseq, first16]
  | succ n ih => rw [wseq, List.length_append, ih]; rfl
theorem nextw_32 (ws : List Int) : 0 ≤ nextw ws ∧ nextw ws ≤ 4294967295 := by unfold nextw; omega
theorem wseq_32 {b : List Int} (hB : Byt b) (n : Nat) : U32 (wseq b n) := by
  induction n with
  | zero =>
    intro x hx
    obtain ⟨j, _, rfl⟩ := List.mem_map.1 hx
    exact word_32 hB j
  | succ n ih => exact ih.app (U32.one (nextw_32 _).1 (nextw_32 _).2)

/-- An array of 64 words, the first of which are ws. -/
def pad64 (ws : List Int) : List Int := ws ++ List.replicate (64 - ws.length) 0
theorem pad64_len {ws : List Int} (h : ws.length ≤ 64) : (pad64 ws).length = 64 := by simp [pad64]; omega
theorem pad64_get {ws : List Int} {i : Nat} (h : i < ws.length) : (pad64 ws).getD i 0 = ws.getD i 0 := by
  simp [pad64, List.getD, List.getElem?_append_left h]
theorem pad64_set {ws : List Int} (h : ws.length < 64) (x : Int) : (pad64 ws).set ws.length x = pad64 (ws ++ [x]) := by
  have e : 64 - ws.length = (64 - (ws ++ [x]).length) + 1 := by simp; omega
  rw [pad64, e, List.replicate_succ, List.set_append, if_neg (by omega), Nat.sub_self, List.set_cons_zero, pad64]
  simp
theorem pad64_32 {ws : List Int} (h : U32 ws) : U32 (pad64 ws) := h.app (U32.zeros _)
theorem pad64_full {ws : List Int} (h : ws.length = 64) : pad64 ws = ws := by simp [pad64, h]

/-- The words on which the rounds work. -/
structure S8 where
  a : Int
  b : Int
  c : Int
  d : Int
  e : Int
  f : Int
  g : Int
  h : Int
def S8.Ok (s : S8) : Prop := (0 ≤ s.a ∧ s.a ≤ 4294967295) ∧ (0 ≤ s.b ∧ s.b ≤ 4294967295) ∧ (0 ≤ s.c ∧ s.c ≤ 4294967295) ∧ (0 ≤ s.d ∧ s.d ≤ 4294967295) ∧ (0 ≤ s.e ∧ s.e ≤ 4294967295) ∧ (0 ≤ s.f ∧ s.f ≤ 4294967295) ∧ (0 ≤ s.g ∧ s.g ≤ 4294967295) ∧ (0 ≤ s.h ∧ s.h ≤ 4294967295)
def S8.list (s : S8) : List Int := [s.a, s.b, s.c, s.d, s.e, s.f, s.g, s.h]

/-- Bits that lie above all of x are added. -/
theorem ofInt32 {a : Nat} (ha : a < 4294967296) : (BitVec.ofInt 32 (a : Int)).toNat = a := by
  rw [BitVec.ofInt_natCast, BitVec.toNat_ofNat]
  exact Nat.mod_eq_of_lt (by omega)
theorem or32 {a b : Nat} (ha : a < 4294967296) (hb : b < 4294967296) : bits .or .u32 (a : Int) (b : Int) = ((a ||| b : Nat) : Int) := by
  have hx : a ||| b < 2 ^ 32 := Nat.or_lt_two_pow (by omega) (by omega)
  show IntKind.u32.wrap ((BitVec.ofInt 32 (a : Int) ||| BitVec.ofInt 32 (b : Int)).toNat : Int) = _
  rw [BitVec.toNat_or, ofInt32 ha, ofInt32 hb, IntKind.wrap_u32]
  omega
theorem or32_below {x c : Int} (j : Nat) (hx0 : 0 ≤ x) (hx1 : x < 2 ^ j) (hc0 : 0 ≤ c) (hs : x + c * 2 ^ j < 4294967296) : bits .or .u32 (c * 2 ^ j) x = c * 2 ^ j + x := by
  obtain ⟨a, rfl⟩ := Int.eq_ofNat_of_zero_le hx0
  obtain ⟨b, rfl⟩ := Int.eq_ofNat_of_zero_le hc0
  have e : ((b : Int) * 2 ^ j) = ((b * 2 ^ j : Nat) : Int) := by simp
  rw [e] at hs ⊢
  have ha : a < 2 ^ j := by
    have e2 : ((2 : Int) ^ j) = ((2 ^ j : Nat) : Int) := by simp
    rw [e2] at hx1
    omega
  rw [or32 (by omega) (by omega), Nat.mul_comm, ← Nat.two_pow_add_eq_or_of_lt ha]
  omega
theorem first16_len (b : List Int) : (first16 b).length = 16 := by simp [first16]
theorem first16_32 {b : List Int} (hB : Byt b) : U32 (first16 b) := wseq_32 hB 0
theorem first16_next {b : List Int} {k : Nat} (h : k < 16) : pad64 ((first16 b).take (k + 1)) = (pad64 ((first16 b).take k)).set k (word b k) := by
  have hl : ((first16 b).take k).length = k := by rw [List.length_take, first16_len]; omega
  have h2 := pad64_set (ws := (first16 b).take k) (by omega) (word b k)
  rw [hl] at h2
  rw [h2, List.take_succ_eq_append_getElem (by rw [first16_len]; exact h)]
  have e : (first16 b)[k]'(by rw [first16_len]; exact h) = word b k := by simp [first16]
  rw [e]

def bs1 (e : Int) : Int := bits .xor .u32 (bits .xor .u32 (rot 6 e) (rot 11 e)) (rot 25 e)
def bs0 (a : Int) : Int := bits .xor .u32 (bits .xor .u32 (rot 2 a) (rot 13 a)) (rot 22 a)
def chw (e f g : Int) : Int := bits .xor .u32 (bits .and .u32 e f) (bits .and .u32 (bits .xor .u32 4294967295 e) g)
def majw (a b c : Int) : Int := bits .xor .u32 (bits .xor .u32 (bits .and .u32 a b) (bits .and .u32 a c)) (bits .and .u32 b c)
/-- One round. -/
def stepS (s : S8) (k w : Int) : S8 :=
  ⟨(s.h + bs1 s.e + chw s.e s.f s.g + k + w + bs0 s.a + majw s.a s.b s.c) % 4294967296, s.a, s.b, s.c, (s.d + (s.h + bs1 s.e + chw s.e s.f s.g + k + w)) % 4294967296, s.e, s.f, s.g⟩
def rnds (ws : List Int) : Nat → S8 → S8
  | 0, s => s
  | n + 1, s => stepS (rnds ws n s) (KL.getD n 0) (ws.getD n 0)
theorem rnds_ok (ws : List Int) {s : S8} (hs : s.Ok) (n : Nat) : (rnds ws n s).Ok := by
  induction n with
  | zero => exact hs
  | succ n ih =>
    obtain ⟨ha, hb, hc, hd, he, hf, hg, hh⟩ := ih
    refine ⟨?_, ha, hb, hc, ?_, he, hf, hg⟩ <;> simp only [rnds, stepS] <;> omega

theorem wrap4 (a b c d e : Int) : IntKind.u32.wrap (IntKind.u32.wrap (IntKind.u32.wrap (IntKind.u32.wrap (a + b) + c) + d) + e) = (a + b + c + d + e) % 4294967296 := by
  simp only [IntKind.wrap_u32]
  omega

/-- Word by word. -/
def add8 (xs ys : List Int) : List Int := List.zipWith (fun x y => (x + y) % 4294967296) xs ys
def mixed (xs ys : List Int) (k : Nat) : List Int := (add8 xs ys).take k ++ xs.drop k
theorem mixed_len {xs ys : List Int} (h : xs.length = ys.length) (k : Nat) : (mixed xs ys k).length = xs.length := by
  simp [mixed, add8, h]
  omega
theorem mixed_get {xs ys : List Int} (h : xs.length = ys.length) {k : Nat} (hk : k < xs.length) : (mixed xs ys k).getD k 0 = xs.getD k 0 := by
  have e : ((add8 xs ys).take k).length = k := by simp [add8, h]; omega
  rw [mixed, List.getD_eq_getElem?_getD, List.getElem?_append_right (by omega), e, Nat.sub_self, List.getElem?_drop, Nat.add_zero, List.getD_eq_getElem?_getD]
theorem mixed_set {xs ys : List Int} (h : xs.length = ys.length) {k : Nat} (hk : k < xs.length) : (mixed xs ys k).set k ((xs.getD k 0 + ys.getD k 0) % 4294967296) = mixed xs ys (k + 1) := by
  have e : ((add8 xs ys).take k).length = k := by simp [add8, h]; omega
  have hk2 : k < (add8 xs ys).length := by simp [add8, h]; omega
  rw [mixed, List.set_append, if_neg (by omega), e, Nat.sub_self, List.drop_eq_getElem_cons hk, List.set_cons_zero, mixed, List.take_succ_eq_append_getElem hk2, List.append_assoc]
  congr 1
  have hk3 : k < ys.length := by omega
  simp [add8, List.getD, hk, hk3]
theorem mixed_end {xs ys : List Int} (h : xs.length = ys.length) : mixed xs ys xs.length = add8 xs ys := by
  rw [mixed, List.drop_length, List.append_nil, List.take_of_length_le (by simp [add8, h])]
theorem S8.list_32 {s : S8} (h : s.Ok) : U32 s.list := by
  obtain ⟨ha, hb, hc, hd, he, hf, hg, hh⟩ := h
  intro x hx
  simp only [S8.list, List.mem_cons, List.not_mem_nil, or_false] at hx
  rcases hx with rfl | rfl | rfl | rfl | rfl | rfl | rfl | rfl <;> assumption

end Go.Proofs.YtigklnokgmcifaaDoor
