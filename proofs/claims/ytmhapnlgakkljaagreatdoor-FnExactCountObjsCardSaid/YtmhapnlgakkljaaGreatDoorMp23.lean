/-
  Parts of the proof: Made4, TreeOkI, LoopN, AppIn, DatC, AppG, DataI, BytQ, ObjI2.
-/
import Derived.Test.YtmhapnlgakkljaaGreatDoorMp19
import Derived.Test.YtmhapnlgakkljaaGreatDoorMp0
import Derived.Test.YtmhapnlgakkljaaGreatDoorMp20
import Derived.Laws.BytesArg
import Derived.IntWalk
import Derived.Deep.QuietTactic
import Derived.BigQuiet
import Derived.Deep.Cut
import Derived.Deep.DeepCutAuto
import Derived.Deep.CutBlock
import Derived.Deep.RegionWith
import Derived.Test.YtmhapnlgakkljaaGreatDoorMp22
import Derived.OwnWalkIn
import Derived.RangeFuncBox
import Derived.Test.YtmhapnlgakkljaaGreatDoorMp9
import Derived.Test.YtmhapnlgakkljaaGreatDoorMp1
import Derived.Deep.RegionHeld3

/-
  The model's l4made: the name that an object's contents give it.
-/
namespace Go.Proofs.YtmhapnlgakkljaaGreatDoor
open Go.RowKit
set_option linter.unusedVariables false
set_option linter.unusedSimpArgs false

theorem obj_tree {w : World} {o : DObj} {v1 v2 v3 : Value} (h1 : In1 w (raw o.tree.data) v1) (h2 : In1 w (names o.tree.names) v2) (h3 : In1 w (seqOf 4 T.cells o.tree.kids) v3) : TIn w o.tree ⟨o.tree.kind, v1, v2, v3⟩ := T.tin_of (T.lay h1 h2 h3)
set_option maxRecDepth 20000 in
set_option maxHeartbeats 1600000 in
theorem specMade (o : DObj) (hok : oks o.cells) (ht : treeOk o.tree = true) (hf : o.frm.length ≤ 1000) (ho : o.out.length ≤ 1000) (us : List Value) (w : World) (hs : Ins w o.cells us) :
    Calls Tryz.prog 85 #[.agg us.toArray] w fun e w' => ∃ v', e = .returned v' ∧ Own 5 w.heap.size w'.heap.size w' v' (bs (made o)) ∧ Below w.heap.size w w' := by
  obtain ⟨A0, c0, A3, c3, A4, c4, A5, c5, A6, c6, A7, c7, A8, c8, rfl, h0, h3, h4, h5, h6, h7, h8⟩ := DObj.view hs
  obtain ⟨wa, hwa⟩ : ∃ wa, w.alloc (.cells #[.slice A0 o.name.length c0, .int .i64 o.kind, .int .i64 o.tree.kind, .slice A3 o.tree.data.length c3, .slice A4 o.tree.names.length c4, .slice A5 o.tree.kids.length c5, .slice A6 o.refs.length c6, .slice A7 o.frm.length c7, .slice A8 o.out.length c8] 54) = wa := ⟨_, rfl⟩
  have ba : Below w.heap.size w wa := by rw [← hwa]; exact (Below.refl _ _).alloc (Nat.le_refl _) _
  have bx : Box wa w.heap.size 54 [.slice A0 o.name.length c0, .int .i64 o.kind, .int .i64 o.tree.kind, .slice A3 o.tree.data.length c3, .slice A4 o.tree.names.length c4, .slice A5 o.tree.kids.length c5, .slice A6 o.refs.length c6, .slice A7 o.frm.length c7, .slice A8 o.out.length c8] := by rw [← hwa]; exact Box.new w _ _
  have hz : w.heap.size < wa.heap.size := bx.lt
  obtain ⟨hb0, hkr, htr, hb6, hb7, hb8⟩ := (DObj.oks_iff o).1 hok
  have hT := (obj_tree h3 h4 h5).below ba
  have hby := T.byts_of _ htr
  have hD := (h3.step ba).rd
  have hF := (h7.step ba).rd
  have hO := (h8.step ba).rd
  have x1 := bx.cell (j := 1) rfl
  have x3 := bx.cell (j := 3) rfl
  have hel := treeOk_enc ht
  have hdl := treeOk_data ht
  have heb := T.enc_byt o.tree (treeOk_at ht).1 hby
  have HBX := hide bx
  have HBA := hide ba
  by_cases hk0 : o.kind = 0
  · have hm : made o = nameOf 116 o.tree.data := by rw [made, if_pos hk0]
    have hd2 : made o = b32 ((shaL (116 :: o.tree.data)).take 10) := by rw [hm, nameOf, if_neg (by omega)]
    have hc := specName 116 (by omega) o.tree.data ((T.oks_iff _).1 htr).2.1 (.slice A3 o.tree.data.length c3) wa hD (by omega)
    rw [← hd2] at hc
    have HC := hide hc
    have e0 : (o.kind == 0) = true := by simp [hk0]
    clear bx ba hs h0 h3 h4 h5 h6 h7 h8 hT hD hF hO hm hd2 hc hok hby heb
    rw [hk0] at x1 hwa
    go_enter Tryz.func85, Tryz.ntmps85
    go_wp2_with fail
    refine HC.out.mono ?_
    rintro e w1 ⟨v1, rfl, o1, b1⟩
    have HB1 := hide (HBA.out.trans (b1.mono HBA.out.size))
    have HO1 := hide (o1.wide (Nat.le_of_lt hz) (Nat.le_refl _) (Nat.le_refl _))
    clear o1 b1
    go_wp2_with fail
    go_ret
    exact ⟨_, rfl, HO1.out, HB1.out⟩
  · by_cases hk1 : o.kind = 1
    · have hm : made o = nameOf 102 o.tree.enc := by rw [made, if_neg hk0, if_pos hk1]
      have hd2 : made o = b32 ((shaL (102 :: o.tree.enc)).take 10) := by rw [hm, nameOf, if_neg (by omega)]
      have hc1 := specEnc o.tree 1 (treeOk_at ht).1 [] (.slice none 0 0) _ wa.heap.size wa wa (World.ownsRow_nil _ _ _ _) rfl (Below.refl _ _) hT (by simp; omega)
      have x2 := bx.cell (j := 2) rfl
      have x4 := bx.cell (j := 4) rfl
      have x5 := bx.cell (j := 5) rfl
      have hc := fun v W (h : Rd W v (bs o.tree.enc)) => specName 102 (by omega) o.tree.enc heb v W h (by omega)
      rw [← hd2] at hc
      rw [List.nil_append] at hc1
      have HC := hide hc
      have HC1 := hide hc1
      clear bx ba hs h0 h3 h4 h5 h6 h7 h8 hT hD hF hO hm hd2 hc hok hby heb hc1
      rw [hk1] at x1 hwa
      go_enter Tryz.func85, Tryz.ntmps85
      go_wp2_with fail
      refine HC1.out.mono ?_
      rintro e w1 ⟨v1, rfl, o1, b1⟩
      have r1 := own_rd o1
      have b1' := b1.below
      go_wp2_with fail
      refine (HC.out v1 w1 r1).mono ?_
      rintro e w2 ⟨v2, rfl, o2, b2⟩
      have HB2 := hide (HBA.out.trans ((b1'.trans (b2.mono b1'.size)).mono HBA.out.size))
      have HO2 := hide (o2.wide (Nat.le_trans (Nat.le_of_lt hz) b1'.size) (Nat.le_refl _) (Nat.le_refl _))
      clear o1 b1 o2 b2 r1 b1'
      go_wp2_with fail
      go_ret
      exact ⟨_, rfl, HO2.out, HB2.out⟩
    · have hm : made o = nameOf 111 (putText o.frm o.out) := by rw [made, if_neg hk0, if_neg hk1]
      have hpl : (putText o.frm o.out).length ≤ 90000 := by
        have := putNum_len o.frm o.out.length
        rw [putText]
        split
        · omega
        · rw [List.length_append]; omega
      have hd2 : made o = b32 ((shaL (111 :: putText o.frm o.out)).take 10) := by rw [hm, nameOf, if_neg (by omega)]
      have hc := fun v W (h : Rd W v (bs (putText o.frm o.out))) => specName 111 (by omega) _ (putText_byt hb7 hb8) v W h hpl
      have hc1 := fun v W (h : Rd W v (bs o.frm)) (hb : Below wa.heap.size wa W) => specPutText o.frm v o.out _ W h (hO.below hb) (by omega)
      rw [← hd2] at hc
      have x7 := bx.cell (j := 7) rfl
      have x8 := bx.cell (j := 8) rfl
      have HX8 := hide (fun W (hb : Below wa.heap.size wa W) => (bx.step hb).cell (j := 8) rfl)
      have HC := hide hc
      have HC1 := hide hc1
      have HFB := hide (fun W (hb : Below wa.heap.size wa W) => (hF.below hb).rdcT)
      have e0 : (o.kind == 0) = false := by simp [hk0]
      have e1 : (o.kind == 1) = false := by simp [hk1]
      clear bx ba hs h0 h3 h4 h5 h6 h7 h8 hT hD hF hO hm hd2 hc hok hby heb hc1
      go_enter Tryz.func85, Tryz.ntmps85
      go_upto_region 6 with (fail)
      go_region_law (first
        | (refine step_rowapp rfl rfl (Row.lit0D _ _ _ (by decide)) (HFB.out _ (belNewD _ _)) (lies_nums _ _ _) (far0 _) rfl rfl Tryz.underlying36 inf_u8 rfl (by decide) (by decide) ?_ (lowNewD _ _) ?_; omega; intro v1 w1 R1 B1 g1; have r1 := R1.clone.raw; have b1 := (belNewD wa (.cells #[] 5)).trans B1; have x81 := HX8.out w1 b1; clear R1 g1 B1)
        | (go_simp; go_at_call 120; refine (HC1.out v1 w1 r1 b1).mono ?_; rintro e w2 ⟨v2, rfl, o2, b2⟩; have r2 := o2.rd)
        | (go_simp; go_at_call 118; refine (HC.out v2 w2 r2).mono ?_; rintro e w3 ⟨v3, rfl, o3, b3⟩))
      all_goals
        have HB3 := hide (HBA.out.trans ((b1.trans ((b2.trans (b3.mono b2.size)).mono b1.size)).mono HBA.out.size))
        have HO3 := hide (o3.wide (Nat.le_trans (Nat.le_of_lt hz) (Nat.le_trans b1.size b2.size)) (Nat.le_refl _) (Nat.le_refl _))
        clear b1 b2 b3 o2 o3 r1 r2
        go_wp2
        go_ret
        exact ⟨_, rfl, HO3.out, HB3.out⟩

end Go.Proofs.YtmhapnlgakkljaaGreatDoor


/-
  The program's TreeOk.
-/
namespace Go.Proofs.YtmhapnlgakkljaaGreatDoor
open Go.RowKit Go.Shelf
set_option linter.unusedVariables false
attribute [local go_sem] Oper.semAt_some

theorem T.pres_len (ks : List T) (h : ∀ t ∈ ks, ∀ s nm, (t.pre s nm).length = t.size) (ns : List (List Int)) (s : Nat) : (T.pres ks ns s).length = T.sizes ks := by
  induction ks generalizing ns with
  | nil => rfl
  | cons t r ih => rw [T.pres, T.sizes, List.length_append, h t (List.mem_cons_self ..), ih (fun t ht => h t (List.mem_cons_of_mem _ ht))]
theorem T.pre_len : ∀ (t : T) (s : Nat) (nm : List Int), (t.pre s nm).length = t.size := by
  intro t
  induction t using T.ind with
  | h k d ns ks ih =>
    intro s nm
    rw [T.pre, T.size, List.length_cons, T.pres_len ks ih]
    omega
theorem T.pres_ok (ks : List T) (h : ∀ t ∈ ks, ∀ s nm, t.okAt (s + 1) = true ↔ ∀ k ∈ t.pre s nm, k.1 < 4 ∧ k.2.2.nodeOk = true) (ns : List (List Int)) (s : Nat) :
    T.okAts ks (s + 1) = true ↔ ∀ k ∈ T.pres ks ns s, k.1 < 4 ∧ k.2.2.nodeOk = true := by
  induction ks generalizing ns with
  | nil => simp [T.okAts, T.pres]
  | cons t r ih =>
    rw [T.okAts, T.pres, Bool.and_eq_true, h t (List.mem_cons_self ..) s (ns.headD []), ih (fun t ht => h t (List.mem_cons_of_mem _ ht)) ns.tail]
    simp only [List.mem_append]
    exact ⟨fun ⟨h1, h2⟩ k hk => hk.elim (h1 k) (h2 k), fun h => ⟨fun k hk => h k (.inl hk), fun k hk => h k (.inr hk)⟩⟩
theorem T.pre_ok : ∀ (t : T) (s : Nat) (nm : List Int), t.okAt (s + 1) = true ↔ ∀ k ∈ t.pre s nm, k.1 < 4 ∧ k.2.2.nodeOk = true := by
  intro t
  induction t using T.ind with
  | h k d ns ks ih =>
    intro s nm
    rw [T.pre, T.okAt, Bool.and_eq_true, Bool.and_eq_true, T.pres_ok ks ih ns (s + 1)]
    simp only [List.mem_cons, forall_eq_or_imp, decide_eq_true_eq]
    exact ⟨fun ⟨h1, h2, h3⟩ => ⟨⟨by omega, h2⟩, h3⟩, fun ⟨⟨h1, h2⟩, h3⟩ => ⟨by omega, h2, h3⟩⟩
theorem treeOk_yes {w0 : World} {t : T} {xs : List (Nd w0)} (h : xs.map Nd.key = t.pre 0 []) (hg : ∀ y ∈ xs, y.good) (hl : xs.length ≤ 40) : treeOk t = true := by
  have e : t.size = xs.length := by rw [← T.pre_len t 0 [], ← h, List.length_map]
  have o : t.okAt (0 + 1) = true := (T.pre_ok t 0 []).2 fun k hk => by
    rw [← h] at hk
    obtain ⟨y, hy, rfl⟩ := List.mem_map.1 hk
    exact hg y hy
  rw [treeOk, show t.okAt 1 = true from o, decide_eq_true (by omega)]
  rfl
theorem treeOk_no {w0 : World} {t : T} {xs : List (Nd w0)} (h : xs.map Nd.key <+: t.pre 0 []) (hb : (∃ y ∈ xs, ¬ y.good) ∨ 40 < xs.length) : treeOk t = false := by
  cases e : treeOk t with
  | false => rfl
  | true =>
    exfalso
    rw [treeOk, Bool.and_eq_true, decide_eq_true_eq] at e
    rcases hb with ⟨y, hy, hn⟩ | hb
    · exact hn ((T.pre_ok t 0 []).1 e.1 y.key (h.subset (List.mem_map.2 ⟨y, hy, rfl⟩)))
    · have := h.length_le
      rw [List.length_map, T.pre_len] at this
      omega

theorem Holds.box {n₀ : Nat} {W : World} {B : Nat} {t : TypeId} {v : Value} (hb : Boxed W B t v) (h1 : t ≠ 154) (h2 : t ≠ 52) (hn : n₀ ≤ B) (u : Value) : Holds n₀ W (W.setCell ⟨B, 0, none⟩ u) := by
  refine ⟨(Below.refl _ _).setCell (p := ⟨B, 0, none⟩) hn u, fun k cs t' r hk ht => ?_⟩
  refine (Below.heap_setCell W ⟨B, 0, none⟩ u k (fun e => ?_)).trans hk
  dsimp only at e
  subst e
  rw [show W.heap[k]? = _ from hb] at hk
  injection hk with hk
  injection hk with _ hk _
  rcases ht with ht | ht
  · exact h1 (hk.trans ht)
  · exact h2 (hk.trans ht)
theorem Holds.put {n₀ : Nat} {W : World} {l : Nat} {r : Loop} (h : W.heap[l]? = some (.loop r)) (hn : n₀ ≤ l) (o : Obj) : Holds n₀ W (W.putObj l o) := by
  refine ⟨(Below.refl n₀ W).grown (grownBy_putObj' W l o) (by have := (Array.getElem?_eq_some_iff.1 h).1; omega) (fun k e => by cases e; omega), fun k cs t' r' hk ht => ?_⟩
  refine (World.putObj_heap_other (fun e => ?_)).trans hk
  subst e
  rw [h] at hk
  cases hk

/-- Between two rounds of TreeOk. -/
def TokI (w : World) (xs : List (Nd w)) (W : World) : Prop := Boxed W (w.heap.size + 1 + 1) 3 (.int .i64 xs.length) ∧ Boxed W (w.heap.size + 1) 4 (.bool false) ∧ (∀ y ∈ xs, y.good) ∧ xs.length ≤ 40 ∧ Below w.heap.size w W
def TokX (w : World) (xs : List (Nd w)) (W : World) : Prop := Boxed W (w.heap.size + 1) 4 (.bool false) ∧ ((∃ y ∈ xs, ¬ y.good) ∨ 40 < xs.length) ∧ Below w.heap.size w W
theorem TokI.step {w : World} {xs : List (Nd w)} {W W' : World} (h : TokI w xs W) (hb : Below W.heap.size W W') : TokI w xs W' :=
  ⟨(hb.block _ h.1.lt).trans h.1, (hb.block _ h.2.1.lt).trans h.2.1, h.2.2.1, h.2.2.2.1, h.2.2.2.2.trans (hb.mono h.2.2.2.2.size)⟩
theorem TokX.step {w : World} {xs : List (Nd w)} {W W' : World} (h : TokX w xs W) (hb : Below W.heap.size W W') : TokX w xs W' :=
  ⟨(hb.block _ h.1.lt).trans h.1, h.2.1, h.2.2.trans (hb.mono h.2.2.size)⟩
theorem boxed_put {W : World} {B l : Nat} {t : TypeId} {v : Value} {r : Loop} (hb : Boxed W B t v) (h : W.heap[l]? = some (.loop r)) (o : Obj) : Boxed (W.putObj l o) B t v :=
  (World.putObj_heap_other (fun e => by
    subst e
    have hb2 : W.heap[B]? = _ := hb
    rw [h] at hb2
    cases hb2)).trans hb
theorem C6.put {W : World} {B l : Nat} {a b c d e f : Value} {r : Loop} (hb : C6 W B a b c d e f) (h : W.heap[l]? = some (.loop r)) (o : Obj) : C6 (W.putObj l o) B a b c d e f :=
  (World.putObj_heap_other (fun e' => by
    subst e'
    have hb2 : W.heap[B]? = _ := hb
    rw [h] at hb2
    cases hb2)).trans hb
theorem TokI.put {w : World} {xs : List (Nd w)} {W : World} {l : Nat} {r : Loop} (h : TokI w xs W) (hl : W.heap[l]? = some (.loop r)) (hn : w.heap.size ≤ l) (o : Obj) : TokI w xs (W.putObj l o) :=
  ⟨boxed_put h.1 hl o, boxed_put h.2.1 hl o, h.2.2.1, h.2.2.2.1, h.2.2.2.2.trans (Holds.put hl hn o).below⟩
theorem TokX.put {w : World} {xs : List (Nd w)} {W : World} {l : Nat} {r : Loop} (h : TokX w xs W) (hl : W.heap[l]? = some (.loop r)) (hn : w.heap.size ≤ l) (o : Obj) : TokX w xs (W.putObj l o) :=
  ⟨boxed_put h.1 hl o, h.2.1, h.2.2.trans (Holds.put hl hn o).below⟩

set_option maxRecDepth 20000 in
set_option maxHeartbeats 1600000 in
theorem implTreeOk (t : T) (hB : t.Byts) (q : Q) (w : World) (hq : TIn w t q) :
    Calls Tryz.prog 122 #[q.val] w fun e w' => e = .returned (.bool (treeOk t)) ∧ Below w.heap.size w w' := by
  refine (callsIn_wide (n := 6)).1 ?_
  obtain ⟨A, n, c, A', n', c', A'', n'', c'', e, e', e''⟩ := hq.form
  obtain ⟨x, hx⟩ : ∃ x : Nd w, x = ⟨0, [], t, .slice none 0 0, q, ⟨none, 0, rfl, Nat.zero_le _, Nat.zero_le _, fun h => absurd h (by simp [bs])⟩, (fun _ h => by cases h), hq, hB⟩ := ⟨_, rfl⟩
  have hnodes := fun W (hb : Below w.heap.size w W) => nodes t q W (hq.below hb)
  have hqv : q.val = .agg #[.int .i64 q.k, .slice A n c, .slice A' n' c', .slice A'' n'' c''] := by rw [← e, ← e', ← e'']
  obtain ⟨w1, hw1, box, b1, z1⟩ := boxed w q 52
  rw [e, e', e''] at hw1 box
  rw [hqv] at hnodes ⊢
  have HN := hide hnodes
  have y0 := box.c0
  have y1 := box.c1
  have y2 := box.c2
  have y3 := box.c3
  clear hnodes
  refine callsIn_of_wp_marks Tryz.func122 rfl trivial ?_ rfl
  simp only [Tryz.ntmps122, List.size_toArray, List.length_cons, List.length_nil, Nat.reduceAdd, Nat.reduceSub, Array.replicate_succ, Array.replicate_zero, List.push_toArray, List.append_toArray, List.nil_append, List.cons_append]
  gi_wp2
  refine ⟨trivial, ?_⟩
  refine (callsIn_wide.2 (HN.out _ ((b1.alloc (by omega) _).alloc (by simp; omega) _))).mono ?_
  rintro e w3 ⟨rfl, rfl⟩
  have bC := (Boxed.new (w1.alloc (.cells #[.bool false] 4)) 3 (.int .i64 0))
  have bR := (Boxed.new w1 4 (.bool false)).alloc (.cells #[.int .i64 0] 3)
  have bT := (box.step ((Below.refl w1.heap.size w1).alloc (Nat.le_refl _) (Obj.cells #[.bool false] 4))).step ((Below.refl _ _).alloc (Nat.le_refl _) (Obj.cells #[.int .i64 0] 3))
  rw [World.size_alloc] at bC
  obtain ⟨w2, hw2⟩ : ∃ w2, (w1.alloc (.cells #[.bool false] 4)).alloc (.cells #[.int .i64 0] 3) = w2 := ⟨_, rfl⟩
  have z2 : w2.heap.size = w.heap.size + 3 := by rw [← hw2]; simp; omega
  have b2 : Below w.heap.size w w2 := by rw [← hw2]; exact (b1.alloc (by omega) _).alloc (by simp; omega) _
  rw [hw2] at bC bR bT ⊢
  clear hw2 y0 y1 y2 y3 hw1 box
  gi_wp2
  obtain ⟨W0, hW0, box0, b0, z0⟩ := boxed w2 ⟨q.k, .slice A n c, .slice A' n' c', .slice A'' n'' c''⟩ 52
  rw [hW0]
  rw [z1] at bC bR
  have bC0 : Boxed W0 (w.heap.size + 1 + 1) 3 (.int .i64 0) := (b0.block _ bC.lt).trans bC
  have bR0 : Boxed W0 (w.heap.size + 1) 4 (.bool false) := (b0.block _ bR.lt).trans bR
  have hw0 : Below w.heap.size w W0 := b2.trans (b0.mono b2.size)
  have hbox : C4 W0 (w.heap.size + 3) 52 (.int .i64 x.q.k) x.q.d x.q.n x.q.c := by
    rw [hx]
    dsimp only
    rw [e, e', e'', ← z2]
    exact box0
  have zz : W0.heap.size = w.heap.size + 4 := by omega
  have hI0 : TokI w [] W0 := ⟨bC0, bR0, (fun y hy => by cases hy), Nat.zero_le _, hw0⟩
  clear hW0 bC bR bT box0 b0 z0 b2 z2 b1 z1 bC0 bR0
  refine rangeF (F := Fence.wide) (T := fun W => ∃ xs : List (Nd w), xs.map Nd.key = t.pre 0 [] ∧ TokI w xs W) (X := fun c W => c = .ret ∧ ∃ xs : List (Nd w), xs.map Nd.key <+: t.pre 0 [] ∧ TokX w xs W)
    rfl (by omega) (gf := 156) (lb := #[.pointer (some ⟨w.heap.size + 3, 0, none⟩)]) rfl trivial (enters_of Tryz.func156 (by kernel_rfl) rfl) ?hit ?done ?stop
  case hit =>
    intro r W1 hfn htm hps has hbd hrec hb1 hz1
    have hxt : x.t = t := by rw [hx]
    refine callsIn_wide.2 ((nodes1 w x (by rw [hx]) (by rw [hx]) (by rw [hx]) (W0.heap.size + 1) (fun pre W => TokI w pre W ∧ RecAt W W0.heap.size r .ready none) (fun xs W => TokX w xs W ∧ RecAt W W0.heap.size r .done (some .ret))
      (fun pre W W' h hb => ⟨h.1.step hb, h.2.keep (KeepsFrom.below hb)⟩) (fun pre W h => h.1.2.2.1) ?round W1 (w.heap.size + 3) (hbox.step hb1) (hw0.trans (hb1.mono hw0.size)) ⟨hI0.step hb1, hrec⟩).mono ?after)
    case after =>
      rintro e W2 ⟨hv, ⟨xs, h1, h2, h3⟩ | ⟨xs, h1, h2, h3⟩⟩
      · exact ⟨hv, .inl ⟨⟨xs, by rw [h1, hxt], h2⟩, h3⟩⟩
      · exact ⟨hv, .inr ⟨.ret, ⟨rfl, xs, by rw [← hxt]; exact h1, h2⟩, h3⟩⟩
    case round =>
      rintro pre y W ⟨hI, hr⟩ hpre hbw
      obtain ⟨B1, m1, g1, B2, m2, g2, B3, m3, g3, e1, e2, e3⟩ := y.hq.form
      obtain ⟨B4, g4, e4, _⟩ := id y.hv
      have hyv : y.val = .agg #[.int .i64 y.s, .slice B4 (bs y.nm).length g4, .int .i64 y.q.k, .slice B1 m1 g1, .slice B2 m2 g2, .slice B3 m3 g3] := by rw [Nd.val, e1, e2, e3, e4]
      rw [hyv]
      refine YieldAt.mono (oneRound (F := Fence.wide) (m := 0) (M := fun a' Wa => ∃ Bx, w.heap.size + 3 < Bx ∧ C6 Wa Bx (.int .i64 y.s) (.slice B4 (bs y.nm).length g4) (.int .i64 y.q.k) (.slice B1 m1 g1) (.slice B2 m2 g2) (.slice B3 m3 g3) ∧ TokI w pre Wa ∧ Holds w.heap.size W Wa ∧ a' = { tmps := #[.agg #[.int .i64 q.k, .slice A n c, .slice A' n' c', .slice A'' n'' c''], .pointer (some ⟨w.heap.size, 0, none⟩), .pointer (some ⟨w.heap.size + 1, 0, none⟩), .pointer (some ⟨w.heap.size + 1 + 1, 0, none⟩), .pointer (some ⟨Bx, 0, none⟩), .agg #[.int .i64 q.k, .slice A n c, .slice A' n' c', .slice A'' n'' c''], .func (.func 156) #[] #[.pointer (some ⟨w.heap.size + 3, 0, none⟩)], .agg #[.int .i64 y.s, .slice B4 (bs y.nm).length g4, .int .i64 y.q.k, .slice B1 m1 g1, .slice B2 m2 g2, .slice B3 m3 g3], undef, undef, undef, undef, undef, undef, undef, undef, undef, undef, undef, undef, undef, undef, undef], defers := [] })
        (T := fun W' => TokI w (pre ++ [y]) W' ∧ Holds w.heap.size W W') (X := fun c W' => c = .ret ∧ TokX w (pre ++ [y]) W') hfn hr (by rw [hps]; rfl) ?assign ?body) ?post
      case post =>
        rintro e W' (⟨rfl, ⟨h1, h2⟩, h3⟩ | ⟨rfl, c, ⟨rfl, h1⟩, h3⟩)
        · exact .inl ⟨rfl, ⟨h1, h3⟩, h2⟩
        · exact .inr ⟨rfl, h1, h3⟩
      case assign =>
        have bal := boxed6 W (.int .i64 y.s) (.slice B4 (bs y.nm).length g4) (.int .i64 y.q.k) (.slice B1 m1 g1) (.slice B2 m2 g2) (.slice B3 m3 g3)
        have HIr := hide hI
        have hWz : w.heap.size + 3 < W.heap.size := by have := hr.lt; omega
        have HBal := hide bal
        rw [has, htm, hps]
        clear hbd has htm hps hxt hr hpre hbw hI bal hrec hb1 hz1 hI0
        gi_wp2
        obtain ⟨wa', hwa', hc6, hba, hza⟩ := HBal.out
        rw [hwa']
        exact ⟨KeepsFrom.below hba, _, hWz, hc6, HIr.out.step hba, Holds.of_below hba HIr.out.2.2.2.2.size, rfl⟩
      case body =>
        rintro a' Wa ⟨Bx, hBx, hbx, hIa, hHa, rfl⟩ hra Wb hWb
        have hrb : RecAt Wb W0.heap.size r .busy none := by rw [hWb]; exact hra.put .busy none
        have hIb : TokI w pre Wb := by rw [hWb]; exact hIa.put hra.rcd (by omega) _
        have hbxb : C6 Wb Bx (.int .i64 y.s) (.slice B4 (bs y.nm).length g4) (.int .i64 y.q.k) (.slice B1 m1 g1) (.slice B2 m2 g2) (.slice B3 m3 g3) := by rw [hWb]; exact hbx.put hra.rcd _
        have hHb : Holds w.heap.size W Wb := by rw [hWb]; exact hHa.trans (Holds.put hra.rcd (by omega) _)
        have hcall := fun W' (hb : Below w.heap.size w W') => implNodeOk y.t y.ht y.q W' (y.hq.below hb)
        rw [show y.q.val = .agg #[.int .i64 y.q.k, .slice B1 m1 g1, .slice B2 m2 g2, .slice B3 m3 g3] by rw [← e1, ← e2, ← e3]] at hcall
        obtain ⟨L, hL⟩ : ∃ L, pre.length = L := ⟨_, rfl⟩
        obtain ⟨hC, hR, hgood, hL40, hbw2⟩ := hIb
        rw [hL] at hC hL40
        -- the counter is one more
        obtain ⟨Wc, hWc⟩ : ∃ Wc, Wb.setCell ⟨w.heap.size + 1 + 1, 0, none⟩ (.int .i64 ((L : Int) + 1)) = Wc := ⟨_, rfl⟩
        have hC1 : Boxed Wc (w.heap.size + 1 + 1) 3 (.int .i64 ((L : Int) + 1)) := by rw [← hWc]; exact hC.set _
        have hR1 : Boxed Wc (w.heap.size + 1) 4 (.bool false) := by rw [← hWc]; exact hR.other (by omega) _
        have hH1 : Holds w.heap.size Wb Wc := by rw [← hWc]; exact Holds.box hC (by decide) (by decide) (by omega) _
        have hK1 : KeepsFrom W0.heap.size Wb Wc := by rw [← hWc]; exact (KeepsOthers.setCell _ _ _).from _
        have hX1 := hbxb.holds hH1
        have hb1' := hbw2.trans hH1.below
        have hcell := hC.cell
        have hfz := hC.frozen
        have rcell := hR.cell
        have hne1 : Bx ≠ w.heap.size + 1 + 1 := by omega
        have hne2 : Bx ≠ w.heap.size + 1 := by omega
        have rfz := hR.frozen
        have x0 := hbxb.c0
        have x2 := hbxb.c2
        have x3 := hbxb.c3
        have x4 := hbxb.c4
        have x5 := hbxb.c5
        have hRB := hrb.keep hK1
        have hHW := hHb.trans hH1
        have hlen : (pre ++ [y]).length = L + 1 := by rw [List.length_append, hL]; rfl
        have HCALL := hide (hcall Wc hb1')
        obtain ⟨RR, hRR⟩ : ∃ RR : World → Prop, RR = fun W' => KeepsFrom W0.heap.size Wb W' ∧ TokX w (pre ++ [y]) (W'.putObj (W0.heap.size + 1) (.loop { r with state := .done, pending := some .ret })) := ⟨_, rfl⟩
        obtain ⟨NN, hNN⟩ : ∃ NN : World → Prop, NN = fun W' => KeepsFrom W0.heap.size Wb W' ∧ TokI w (pre ++ [y]) (W'.putObj (W0.heap.size + 1) (.loop { r with state := .ready, pending := none })) ∧ Holds w.heap.size W (W'.putObj (W0.heap.size + 1) (.loop { r with state := .ready, pending := none })) := ⟨_, rfl⟩
        have fin : ∀ W', Below Wc.heap.size Wc W' → (¬ y.good ∨ 40 < L + 1) → RR (W'.setCell ⟨w.heap.size + 1, 0, none⟩ (.bool false)) := fun W' hb hbad => by
          have hR2 : Boxed W' (w.heap.size + 1) 4 (.bool false) := (hb.block _ hR1.lt).trans hR1
          have hk2 : KeepsFrom W0.heap.size Wc (W'.setCell ⟨w.heap.size + 1, 0, none⟩ (.bool false)) := (KeepsFrom.below hb).trans ((KeepsOthers.setCell _ _ _).from _)
          have hx : TokX w (pre ++ [y]) (W'.setCell ⟨w.heap.size + 1, 0, none⟩ (.bool false)) := ⟨hR2.set _, hbad.elim (fun h => .inl ⟨y, by simp, h⟩) (fun h => .inr (by omega)), (hb1'.trans (hb.mono hb1'.size)).setCell (p := ⟨w.heap.size + 1, 0, none⟩) (by dsimp only; omega) _⟩
          rw [hRR]
          exact ⟨hK1.trans hk2, hx.put (hRB.keep hk2).rcd (by omega) _⟩
        have norm : ∀ W', Below Wc.heap.size Wc W' → y.good → L + 1 ≤ 40 → NN W' := fun W' hb hg hl => by
          have hk2 : KeepsFrom W0.heap.size Wc W' := KeepsFrom.below hb
          have hi : TokI w (pre ++ [y]) W' := by
            refine ⟨?_, (hb.block _ hR1.lt).trans hR1, fun z hz => ?_, by omega, hb1'.trans (hb.mono hb1'.size)⟩
            · rw [hlen]
              exact (hb.block _ hC1.lt).trans hC1
            · rcases List.mem_append.1 hz with hz | hz
              · exact hgood z hz
              · obtain rfl := List.mem_singleton.1 hz
                exact hg
          have hr2 := (hRB.keep hk2).rcd
          rw [hNN]
          exact ⟨hK1.trans hk2, hi.put hr2 (by omega) _, (hHW.trans (Holds.of_below hb hb1'.size)).trans (Holds.put hr2 (by omega) _)⟩
        refine wpIn_mono (Q := fun e _ W' => (e = .ret ∧ RR W') ∨ (e = .normal ∧ NN W')) ?walk ?weak
        case weak =>
          rintro e a W' (⟨rfl, h⟩ | ⟨rfl, h⟩)
          · rw [hRR] at h
            exact ⟨h.1, rfl, h.2⟩
          · rw [hNN] at h
            exact h
        case walk =>
          have HWC := hide hWc
          have hrc : ∀ W', Below Wc.heap.size Wc W' → Boxed W' (w.heap.size + 1) 4 (.bool false) := fun W' hb => (hb.block _ hR1.lt).trans hR1
          have HRC := hide hrc
          clear hrc
          have FIN := hide fin
          have NORM := hide norm
          have HGD : Hid (y.good ↔ (y.s < 4 ∧ y.t.nodeOk = true)) := hide Iff.rfl
          rw [hbd]
          clear hbd has htm hps hxt hr hpre hbw hI hrec hb1 hz1 hI0 hWb hrb hbxb hHb hbx hIa hHa hra hgood hbw2 hL hC hR hC1 hR1 hH1 hK1 hX1 hb1' hcall hyv e1 e2 e3 e4 hWc fin norm hRR hNN hRB hHW hlen zz hx hqv hbox hw0 HN
          by_cases h40 : (40 : Int) < (L : Int) + 1
          · gi_wp2
            refine ⟨trivial, ?_⟩
            gi_wp2
            rw [HWC.out]
            exact FIN.out Wc (Below.refl _ _) (.inr (by omega))
          · have hL39 : L + 1 ≤ 40 := by omega
            by_cases h4 : (4 : Int) ≤ (y.s : Int)
            · gi_wp2
              refine ⟨trivial, ?_⟩
              gi_wp2
              rw [HWC.out]
              exact FIN.out Wc (Below.refl _ _) (.inl (fun h => by have := (HGD.out.1 h).1; omega))
            · gi_wp2
              refine ⟨trivial, rfl, ?_⟩
              rw [HWC.out]
              refine (CallsIn.inRound _ (callsIn_wide.2 HCALL.out)).mono ?_
              rintro e w5 ⟨rfl, b5⟩
              have r5 := HRC.out w5 b5
              have rc5 := r5.cell
              have rf5 := r5.frozen
              cases hok : y.t.nodeOk with
              | false =>
                have f5 := FIN.out w5 b5 (.inl (fun h => by have := (HGD.out.1 h).2; rw [hok] at this; cases this))
                have F5 := hide f5
                clear f5
                gi_wp2
                exact F5.out
              | true =>
                have f5 := NORM.out w5 b5 (HGD.out.2 ⟨by omega, hok⟩) hL39
                have F5 := hide f5
                clear f5
                gi_wp2
                exact F5.out
  case done =>
    rintro W2 r st pe ⟨xs, h1, hI⟩ hrec W3 hW3 hK
    have hI3 : TokI w xs W3 := by rw [hW3]; exact hI.put hrec.rcd (by omega) _
    obtain ⟨_, hR3, hg3, hl3, hb3⟩ := hI3
    have hok := treeOk_yes h1 hg3 hl3
    have rc := hR3.cell
    have rf := hR3.frozen
    have HK := hide hK
    have HR3 := hide hR3
    have HB3 := hide hb3
    have HOK := hide hok
    clear hW3 hrec hI hK hb3 hg3 hl3 hR3 hok hI0 hx hqv HN hbox hw0
    gi_wp2
    have hk4 : (W3.setCell ⟨w.heap.size + 1, 0, none⟩ (.bool true)).heap[W0.heap.size]? = some (.deferred (some [])) := ((KeepsOthers.setCell W3 ⟨w.heap.size + 1, 0, none⟩ (.bool true)).from 0).same _ _ (Nat.zero_le _) HK.out rfl
    refine ⟨by simp, .inl ⟨_, _, rfl, run_takeDeferred hk4, ?_⟩⟩
    have hs4 := HR3.out.set (.bool true)
    have hc5 := Boxed.cell ((World.putObj_heap_other (o := .deferred none) (by omega : w.heap.size + 1 ≠ W0.heap.size)).trans hs4)
    refine ⟨.bool true, ?_, by rw [HOK.out], (HB3.out.setCell (p := ⟨w.heap.size + 1, 0, none⟩) (by dsimp only; omega) _).trans (belowK_b (w := w) (Nat.le_refl _) _ W0.heap.size _ _ (by omega) hk4 rfl rfl)⟩
    simp [results, Tryz.f122, go_sem, hc5]
  case stop =>
    rintro W2 r st pe c ⟨rfl, xs, h1, hX⟩ hrec W3 hW3 hK
    have hX3 : TokX w xs W3 := by rw [hW3]; exact hX.put hrec.rcd (by omega) _
    obtain ⟨hR3, hbad, hb3⟩ := hX3
    have hok := treeOk_no h1 (by simpa using hbad)
    have HK := hide hK
    have HR3 := hide hR3
    have HB3 := hide hb3
    have HOK := hide hok
    clear hW3 hrec hX hK hb3 hbad hR3 hok hI0 hx hqv HN hbox hw0
    gi_wp2
    refine ⟨by simp, .inl ⟨_, _, rfl, run_takeDeferred HK.out, ?_⟩⟩
    have hc5 := Boxed.cell ((World.putObj_heap_other (o := .deferred none) (by omega : w.heap.size + 1 ≠ W0.heap.size)).trans HR3.out)
    refine ⟨.bool false, ?_, by rw [HOK.out], HB3.out.trans (belowK_b (w := w) (Nat.le_refl _) _ W0.heap.size _ _ (by omega) HK.out rfl rfl)⟩
    simp [results, Tryz.f122, go_sem, hc5]

end Go.Proofs.YtmhapnlgakkljaaGreatDoor


/-
  A loop over a valid tree's nodes whose body never leaves it.
-/
namespace Go.Proofs.YtmhapnlgakkljaaGreatDoor
open Go.RowKit Go.Shelf
set_option linter.unusedVariables false
attribute [local go_sem] Oper.semAt_some

theorem good_of {w0 : World} {t : T} (hv : treeOk t = true) {xs : List (Nd w0)} (h : xs.map Nd.key <+: t.pre 0 []) : (∀ y ∈ xs, y.good) ∧ xs.length ≤ 40 := by
  rw [treeOk, Bool.and_eq_true, decide_eq_true_eq] at hv
  refine ⟨fun y hy => (T.pre_ok t 0 []).1 hv.1 y.key (h.subset (List.mem_map.2 ⟨y, hy, rfl⟩)), ?_⟩
  have := h.length_le
  rw [List.length_map, T.pre_len] at this
  omega
theorem nodesLoop {g : Operand} {ps : Array Tmp} {assign body : Code} {Q : Exit → Act → World → Prop} {a : Act} {W0 : World} {gb : Nat} (w0 : World) (x : Nd w0) (hs : x.s = 0) (hn : x.nm = []) (hv : x.v = .slice none 0 0)
    (hg : a.eval g = .func (.func 156) #[] #[.pointer (some ⟨gb, 0, none⟩)]) (hbox : C4 W0 gb 52 (.int .i64 x.q.k) x.q.d x.q.n x.q.c) (hw0 : Below w0.heap.size w0 W0) (hps : ps.size = 1)
    (I : List (Nd w0) → World → Prop) (hIs : ∀ pre W W', I pre W → Below W.heap.size W W' → I pre W') (hIp : ∀ pre W l r o, I pre W → W.heap[l]? = some (Obj.loop r) → w0.heap.size ≤ l → I pre (W.putObj l o))
    (hIg : ∀ pre W, I pre W → ∀ y ∈ pre, y.good) (h0 : I [] W0)
    (M : Nd w0 → Act → World → Prop) (hMp : ∀ y a' W l r o, M y a' W → W.heap[l]? = some (Obj.loop r) → M y a' (W.putObj l o))
    (hassign : ∀ l pre y W, I pre W → W0.heap.size + 1 < W.heap.size → Below w0.heap.size w0 W → assign.wpIn (Fence.wide.inRound l) 0 Tryz.prog (Exit.then (fun a' Wa => Below W.heap.size W Wa ∧ M y a' Wa) (fun _ _ _ => False)) { tmps := (ps.zip #[y.val]).foldl (fun t (p, v) => t.setIfInBounds p v) a.tmps, defers := [] } W)
    (hbody : ∀ l pre y a' W, W0.heap.size ≤ l → I pre W → M y a' W → Below w0.heap.size w0 W → pre.map Nd.key ++ [y.key] <+: x.t.pre 0 [] → body.wpIn (Fence.wide.inRound l) 0 Tryz.prog (fun e _ W' => e = .normal ∧ KeepsFrom W0.heap.size W W' ∧ Holds w0.heap.size W W' ∧ I (pre ++ [y]) W') a' W)
    (hdone : ∀ xs W, xs.map Nd.key = x.t.pre 0 [] → I xs W → W.heap[W0.heap.size]? = some (.deferred (some [])) → Q .normal { a with defers := { target := .collected W0.heap.size, args := #[] } :: a.defers } W) :
    (Code.rangeFunc g ps assign body).wpIn Fence.wide 6 Tryz.prog Q a W0 := by
  refine rangeF (F := Fence.wide) (T := fun W => ∃ xs : List (Nd w0), xs.map Nd.key = x.t.pre 0 [] ∧ I xs W) (X := fun _ _ => False)
    rfl (by omega) hg trivial (enters_of Tryz.func156 (by kernel_rfl) rfl) ?hit ?done ?stop
  case hit =>
    intro r W1 hfn htm hpr has hbd hrec hb1 hz1
    refine callsIn_wide.2 ((nodes1 w0 x hs hn hv (W0.heap.size + 1) (fun pre W => I pre W ∧ RecAt W W0.heap.size r .ready none) (fun _ _ => False)
      (fun pre W W' h hb => ⟨hIs pre W W' h.1 hb, h.2.keep (KeepsFrom.below hb)⟩) (fun pre W h => hIg pre W h.1) ?round W1 gb (hbox.step hb1) (hw0.trans (hb1.mono hw0.size)) ⟨hIs [] W0 W1 h0 hb1, hrec⟩).mono ?after)
    case after =>
      rintro e W2 ⟨hv, ⟨xs, h1, h2, h3⟩ | ⟨xs, h1, h2⟩⟩
      · exact ⟨hv, .inl ⟨⟨xs, h1, h2⟩, h3⟩⟩
      · exact h2.elim
    case round =>
      rintro pre y W ⟨hI, hr⟩ hpre hbw
      have hln := hw0.size
      refine YieldAt.mono (oneRound (F := Fence.wide) (m := 0) (M := fun a' Wa => M y a' Wa ∧ I pre Wa ∧ Below W.heap.size W Wa)
        (T := fun W' => I (pre ++ [y]) W' ∧ Holds w0.heap.size W W') (X := fun _ _ => False) hfn hr (by rw [hpr, hps]; rfl) ?assign ?body) ?post
      case post =>
        rintro e W' (⟨rfl, ⟨h1, h2⟩, h3⟩ | ⟨rfl, c, h1, h3⟩)
        · exact .inl ⟨rfl, ⟨h1, h3⟩, h2⟩
        · exact h1.elim
      case assign =>
        rw [has, htm, hpr]
        refine wpIn_mono (hassign (W0.heap.size + 1) pre y W hI hr.lt hbw) ?_
        intro e a' Wa h
        cases e with
        | normal => exact ⟨KeepsFrom.below h.1, h.2, hIs pre W Wa hI h.1, h.1⟩
        | _ => exact h
      case body =>
        rintro a' Wa ⟨hM, hIa, hba⟩ hra Wb hWb
        have hrb : RecAt Wb W0.heap.size r .busy none := by rw [hWb]; exact hra.put .busy none
        have hIb : I pre Wb := by rw [hWb]; exact hIp pre Wa _ _ _ hIa hra.rcd (by omega)
        have hMb : M y a' Wb := by rw [hWb]; exact hMp y a' Wa _ _ _ hM hra.rcd
        have hHb : Holds w0.heap.size W Wb := by rw [hWb]; exact (Holds.of_below hba hbw.size).trans (Holds.put hra.rcd (by omega) _)
        rw [hbd]
        refine wpIn_mono (hbody (W0.heap.size + 1) pre y a' Wb (by omega) hIb hMb (hbw.trans hHb.below) hpre) ?_
        rintro e a2 W2 ⟨rfl, hk, hh, hi⟩
        have hr2 := hrb.keep hk
        refine ⟨hk, ?_⟩
        rw [← hbd]
        exact ⟨hIp _ _ _ _ _ hi hr2.rcd (by omega), (hHb.trans hh).trans (Holds.put hr2.rcd (by omega) _)⟩
  case done =>
    rintro W2 r st pe ⟨xs, h1, hI⟩ hrec W3 hW3 hK
    have hln := hw0.size
    exact hdone xs W3 h1 (by rw [hW3]; exact hIp _ _ _ _ _ hI hrec.rcd (by omega)) hK
  case stop =>
    intro W2 r st pe c h
    exact h.elim

end Go.Proofs.YtmhapnlgakkljaaGreatDoor


/-
  Append of whatever reads as a list, inside a round.
-/
namespace Go.Proofs.YtmhapnlgakkljaaGreatDoor
open Go.RowKit
set_option linter.unusedVariables false

theorem wpListIn_app {F : Fence} {nF : Nat} {P : Program} (w : World) {ops : Array Oper} {rest : List Oper} {o : Oper} {a : Act} {Q : Exit → Act → World → Prop} (hgd : o.guard = none) (s x : Operand) (t : TypeId)
    (ho : o.op = .call { callee := .builtin .append, args := #[s, x], argTypes := #[t, t] })
    (base : Nat) (e : TypeId) (i : TypeInfo) (z : Value) (bytes : Nat) (ht : P.underlying t = some (.slice e)) (hi : P.info? e = some i) (hz : i.zero = some z)
    (hsize : i.size = 1) (hby : i.bytes = bytes) (hzs : z.cells.size = 1)
    (v : Value) (n : Nat) (xs : List Value) (hs : a.eval s = v) (hown : w.ownsRow base e 1 v n xs) (y : Value) (ys : List Value) (hx : a.eval x = y) (hr : Rd w y ys) (h1 : ∀ u ∈ ys, u.oneCell' = true)
    (h63 : n + ys.length ≤ maxLen) (hbytes : (n + ys.length) * bytes ≤ 140737488355328) (hbase : base ≤ w.heap.size)
    (h : ∀ v' w', w'.ownsRow base e 1 v' (n + ys.length) (xs ++ ys) → w.grownBy w' v.ownBlock → wpListIn F nF P ops Q rest (a.put o.dst v') w') : wpListIn F nF P ops Q (o :: rest) a w := by
  refine wpListIn_plain hgd fun K hK => ?_
  obtain ⟨v', w', hrun, h2, h3⟩ := run_app (P := P) w base t o.type e i z bytes ht hi hz hsize hby hzs v n xs hown y ys hr h1 h63 hbytes hbase
  unfold Oper.wpIn
  refine ⟨?_, ?_⟩
  · simp [Oper.about, ho, resolve, Target.leads, Sem.run_pure]
  · rw [Oper.semAt_plain F _ _ (by rw [ho]; intro c hc'; cases hc')]
    unfold execOp
    simp only [ho, resolve, invoke, builtin, Sem.run_bind, Sem.run_pure, Result.andThen_ok, List.map_toArray, List.map_cons, List.map_nil, hs, hx, hrun]
    exact hK _ _ (h v' w' h2 h3)

end Go.Proofs.YtmhapnlgakkljaaGreatDoor


/-
  What a loop that gathers bytes in a box keeps between two rounds.
-/
namespace Go.Proofs.YtmhapnlgakkljaaGreatDoor
open Go.RowKit Go.Shelf
set_option linter.unusedVariables false

/-- The box c holds a slice of the call's own that reads as l. -/
def Held (lo c : Nat) (l : List Int) (W : World) : Prop := ∃ v, Boxed W c 36 v ∧ W.ownsRow lo 5 1 v l.length (bs l)
theorem Held.step {lo c : Nat} {l : List Int} {W W' : World} (h : Held lo c l W) (hb : Below W.heap.size W W') : Held lo c l W' := by
  obtain ⟨v, h1, h2⟩ := h
  exact ⟨v, (hb.block _ h1.lt).trans h1, own_step h2 hb⟩
theorem Held.put {lo c : Nat} {l : List Int} {W : World} {k : Nat} {r : Loop} (h : Held lo c l W) (hl : W.heap[k]? = some (.loop r)) (o : Obj) : Held lo c l (W.putObj k o) := by
  obtain ⟨v, h1, h2⟩ := h
  exact ⟨v, boxed_put h1 hl o, ownsRow_putObj h2 o hl rfl⟩
/-- Behind a call that gave a longer row, and the store of it into the box. -/
theorem held_stored {lo c n m : Nat} {W w1 : World} {v v' : Value} {xs ys : List Value} (hv : Boxed W c 36 v) (hr : W.ownsRow lo 5 1 v n xs) (hlo : lo ≤ W.heap.size) (hc : lo ≤ c)
    (hr' : w1.ownsRow lo 5 1 v' m ys) (hg : W.grownBy w1 v.ownBlock) :
    Boxed w1 c 36 v ∧ Boxed (w1.setCell ⟨c, 0, none⟩ v') c 36 v' ∧ (w1.setCell ⟨c, 0, none⟩ v').ownsRow lo 5 1 v' m ys ∧ KeepsOthers W (w1.setCell ⟨c, 0, none⟩ v') ∧ Holds lo W (w1.setCell ⟨c, 0, none⟩ v') := by
  have hne : 36 ≠ 5 := by decide
  have hv1 : Boxed w1 c 36 v := hv.kept hg (hv.not_row hne hr)
  refine ⟨hv1, hv1.set v', hr'.kept (grownBy_setCell' w1 c v') (.inr (hv1.not_row hne hr').symm), ?_, (holds_row hr hg hlo).trans (Holds.box hv1 (by decide) (by decide) hc v')⟩
  refine (KeepsOthers.of_grownBy hg fun j o ej hj => ?_).trans (KeepsOthers.setCell _ _ _)
  rcases hr.2 with ⟨rfl, _⟩ | ⟨g, cap, cur, rfl, _, hgb, _⟩
  · simp [Value.ownBlock] at ej
  · obtain rfl : g = j := by simpa [Value.ownBlock] using ej
    rw [hgb] at hj; cases hj; rfl

/-- Between two rounds of a loop that gathers bytes in the box c. -/
def DatI (w : World) (c : Nat) (f : List (Nd w) → List Int) (xs : List (Nd w)) (W : World) : Prop := Held w.heap.size c (f xs) W ∧ (∀ y ∈ xs, y.good) ∧ Below w.heap.size w W
theorem DatI.step {w : World} {c : Nat} {f : List (Nd w) → List Int} {xs : List (Nd w)} {W W' : World} (h : DatI w c f xs W) (hb : Below W.heap.size W W') : DatI w c f xs W' :=
  ⟨h.1.step hb, h.2.1, h.2.2.trans (hb.mono h.2.2.size)⟩
theorem DatI.put {w : World} {c : Nat} {f : List (Nd w) → List Int} {xs : List (Nd w)} {W : World} {l : Nat} {r : Loop} (h : DatI w c f xs W) (hl : W.heap[l]? = some (.loop r)) (hn : w.heap.size ≤ l) (o : Obj) : DatI w c f xs (W.putObj l o) :=
  ⟨h.1.put hl o, h.2.1, h.2.2.trans (Holds.put hl hn o).below⟩

/-- The data of nodes, in order. -/
def dkx : List (Nat × List Int × T) → List Int
  | [] => []
  | k :: r => k.2.2.data ++ dkx r
theorem dkx_append (a b : List (Nat × List Int × T)) : dkx (a ++ b) = dkx a ++ dkx b := by
  induction a with
  | nil => rfl
  | cons k a ih => rw [List.cons_append, dkx, dkx, ih, List.append_assoc]
theorem T.pres_dk (ks : List T) (h : ∀ t ∈ ks, ∀ s nm, dkx (t.pre s nm) = t.dat) (ns : List (List Int)) (s : Nat) : dkx (T.pres ks ns s) = T.dats ks := by
  induction ks generalizing ns with
  | nil => rfl
  | cons t r ih => rw [T.pres, dkx_append, T.dats, h t (List.mem_cons_self ..), ih (fun t ht => h t (List.mem_cons_of_mem _ ht))]
theorem T.pre_dk : ∀ (t : T) (s : Nat) (nm : List Int), dkx (t.pre s nm) = t.dat := by
  intro t
  induction t using T.ind with
  | h k d ns ks ih =>
    intro s nm
    rw [T.pre, T.dat, dkx, T.pres_dk ks ih]
    rfl
theorem dkx_prefix {a b : List (Nat × List Int × T)} (h : a <+: b) : (dkx a).length ≤ (dkx b).length := by
  obtain ⟨c, rfl⟩ := h
  rw [dkx_append, List.length_append]
  omega
theorem TIn.dt {w : World} {t : T} {q : Q} (h : TIn w t q) : Rd w q.d (bs t.data) := by
  obtain ⟨k, d, ns, ks⟩ := t
  rw [TIn] at h
  exact h.2.1

end Go.Proofs.YtmhapnlgakkljaaGreatDoor


/-
  appendNum and appendText turn nothing but rows of bytes.
-/
namespace Go.Proofs.YtmhapnlgakkljaaGreatDoor
open Go.RowKit Go.Shelf
set_option linter.unusedVariables false

/-- Nothing below lo turns, no row of another type than bytes, nothing that is no row. -/
structure Grows (lo : Nat) (w w' : World) : Prop where
  below : Below lo w w'
  rows : ∀ (k : Nat) (cs : Array Value) (t : TypeId) (r : Nat × Nat), w.heap[k]? = some (Obj.cells cs t r) → t ≠ 5 → w'.heap[k]? = some (Obj.cells cs t r)
  others : KeepsOthers w w'
theorem Grows.refl (lo : Nat) (w : World) : Grows lo w w := ⟨Below.refl _ _, fun _ _ _ _ h _ => h, KeepsOthers.refl _⟩
theorem Grows.trans {lo : Nat} {a b c : World} (h : Grows lo a b) (k : Grows lo b c) : Grows lo a c :=
  ⟨h.below.trans k.below, fun i cs t r hi ht => k.rows i cs t r (h.rows i cs t r hi ht) ht, h.others.trans k.others⟩
theorem Grows.of_below {lo : Nat} {w w' : World} (h : Below w.heap.size w w') (hl : lo ≤ w.heap.size) : Grows lo w w' :=
  ⟨h.mono hl, fun k cs t r hk _ => (h.block k (Array.getElem?_eq_some_iff.1 hk).1).trans hk, ⟨h.size, fun k o hk _ => (h.block k (Array.getElem?_eq_some_iff.1 hk).1).trans hk⟩⟩
theorem Grows.alloc {lo : Nat} {a w : World} (h : Grows lo a w) (hl : lo ≤ w.heap.size) (o : Obj) : Grows lo a (w.alloc o) := h.trans (Grows.of_below ((Below.refl _ _).alloc (Nat.le_refl _) o) hl)
theorem Grows.row {lo n : Nat} {a w w' : World} {v : Value} {xs : List Value} (h : Grows lo a w) (hl : lo ≤ w.heap.size) (hr : w.ownsRow lo 5 1 v n xs) (hg : w.grownBy w' v.ownBlock) : Grows lo a w' := by
  refine h.trans ⟨(Below.refl lo w).grown hg hl fun g hgk => (hr.lt g hgk).1, fun k cs t r hk ht => ?_, KeepsOthers.of_grownBy hg fun j o ej hj => ?_⟩
  · refine (hg.block k (Array.getElem?_eq_some_iff.1 hk).1 (fun e => ?_)).trans hk
    rcases hr.2 with ⟨rfl, _⟩ | ⟨g, cap, cur, rfl, _, hgb, _⟩
    · simp [Value.ownBlock] at e
    · obtain rfl : k = g := by simpa [Value.ownBlock] using e
      rw [hgb] at hk
      injection hk with hk
      injection hk with _ hk _
      exact ht hk.symm
  · rcases hr.2 with ⟨rfl, _⟩ | ⟨g, cap, cur, rfl, _, hgb, _⟩
    · simp [Value.ownBlock] at ej
    · obtain rfl : g = j := by simpa [Value.ownBlock] using ej
      rw [hgb] at hj; cases hj; rfl
/-- The same, and rows of slices of bytes may turn, too. -/
structure Steps (lo : Nat) (w w' : World) : Prop where
  below : Below lo w w'
  rows : ∀ (k : Nat) (cs : Array Value) (t : TypeId) (r : Nat × Nat), w.heap[k]? = some (Obj.cells cs t r) → t ≠ 5 → t ≠ 36 → w'.heap[k]? = some (Obj.cells cs t r)
  others : KeepsOthers w w'
theorem Steps.refl (lo : Nat) (w : World) : Steps lo w w := ⟨Below.refl _ _, fun _ _ _ _ h _ _ => h, KeepsOthers.refl _⟩
theorem Steps.trans {lo : Nat} {a b c : World} (h : Steps lo a b) (k : Steps lo b c) : Steps lo a c :=
  ⟨h.below.trans k.below, fun i cs t r hi ht hu => k.rows i cs t r (h.rows i cs t r hi ht hu) ht hu, h.others.trans k.others⟩
theorem Steps.holds {lo : Nat} {w w' : World} (h : Steps lo w w') : Holds lo w w' := ⟨h.below, fun k cs t r hk ht => h.rows k cs t r hk (by rcases ht with rfl | rfl <;> decide) (by rcases ht with rfl | rfl <;> decide)⟩
/-- A longer row is stored into the box. -/
theorem stored_step {lo c : Nat} {W w1 : World} {v v' : Value} {l' : List Int} (hv : Boxed W c 36 v) (hc : lo ≤ c) (hr' : w1.ownsRow lo 5 1 v' l'.length (bs l')) (hg : Grows lo W w1) :
    ∃ W2, w1.setCell ⟨c, 0, none⟩ v' = W2 ∧ w1.cell? ⟨c, 0, none⟩ = some v ∧ w1.frozen? ⟨c, 0, none⟩ = false ∧ Boxed W2 c 36 v' ∧ W2.ownsRow lo 5 1 v' l'.length (bs l') ∧ Steps lo W W2 := by
  have hv1 : Boxed w1 c 36 v := hg.rows _ _ _ _ hv (by decide)
  refine ⟨_, rfl, hv1.cell, hv1.frozen, hv1.set v', hr'.kept (grownBy_setCell' w1 c v') (.inr (hv1.not_row (by decide) hr').symm), hg.below.setCell (p := ⟨c, 0, none⟩) hc v', fun k cs t r hk ht hu => ?_, hg.others.trans (KeepsOthers.setCell _ _ _)⟩
  refine (Below.heap_setCell w1 ⟨c, 0, none⟩ v' k (fun e => ?_)).trans (hg.rows k cs t r hk ht)
  dsimp only at e
  subst e
  have hb2 : W.heap[k]? = _ := hv
  rw [hk] at hb2
  injection hb2 with hb2
  injection hb2 with _ hb2 _
  exact hu hb2

set_option maxHeartbeats 400000 in
theorem appendNumOutG (l : List Int) (v : Value) (n : Int) (lo : Nat) (w : World) (hv : w.ownsRow lo 5 1 v l.length (bs l)) (hn : n < 0 ∨ 2147483647 < n) :
    Calls Tryz.prog 185 #[v, .int .i64 n] w fun e w' => ∃ v', e = .returned v' ∧ w'.ownsRow lo 5 1 v' l.length (bs l) ∧ Grows lo w w' := by
  have HV := hide hv
  clear hv
  by_cases h0 : n < 0
  all_goals
    go_enter Tryz.func185, Tryz.ntmps185
    go_wp2
    go_ret
    exact ⟨_, rfl, HV.out, Grows.refl _ _⟩

set_option maxRecDepth 20000 in
set_option maxHeartbeats 800000 in
theorem appendNumInG (l : List Int) (v : Value) (n : Nat) (lo : Nat) (w : World) (hv : w.ownsRow lo 5 1 v l.length (bs l)) (hlo : lo ≤ w.heap.size) (hl : l.length ≤ 1099511627776) (hn : n ≤ 2147483647) :
    Calls Tryz.prog 185 #[v, .int .i64 n] w fun e w' => ∃ v', e = .returned v' ∧ w'.ownsRow lo 5 1 v' (l ++ vint n).length (bs (l ++ vint n)) ∧ Grows lo w w' := by
  obtain ⟨i0, hi0, hz0, hz1, hz2⟩ := info_parts u8info
  have HV := hide hv
  clear hv
  go_enter Tryz.func185, Tryz.ntmps185
  go_wp2
  go_loopw [0, 1] (fun v t wr => ∃ (m : Nat) (xs : List Int), m ≤ 2147483647 ∧ t = .int .i64 m ∧ wr.ownsRow lo 5 1 v xs.length (bs xs) ∧ Hid (xs ++ vint m = l ++ vint n) ∧ Grows lo w wr)
    (fun _ t _ => (intOf t).toNat)
  case atStart => exact ⟨n, l, hn, rfl, HV.out, hide rfl, Grows.refl _ _⟩
  case round =>
    obtain ⟨m, xs, hm, rfl, hown, hx, hbel⟩ := hrel
    have hroom := vint_room hn hx.out
    have hlo2 : lo ≤ wr.heap.size := Nat.le_trans hlo hbel.below.size
    have hor : bits .or .u8 ((m : Int) % 256) 128 = (m : Int) % 128 + 128 := by rw [or128 (by omega) (by omega)]; omega
    have HO := hide hor
    clear hor

    by_cases h128 : m < 128
    · go_wp2_with (at_builtin; refine wpList_app _ rfl (.tmp 22) (.tmp 25) _ rfl lo 5 i0 _ 1 Tryz.underlying36 hi0 hz0 hz1 hz2 rfl _ _ _ rfl (hown.alloc _) _ _ rfl (rd_one _ _ _) (bs_one _) (by rw [bs_length]; simp only [maxLen, List.length_singleton]; omega) (by rw [bs_length]; simp only [List.length_singleton]; omega) (by simp; omega) ?_; intro v3 w3 own3 gr3)
      go_ret
      refine ⟨_, rfl, own_len (own_cells own3 ?_) (by rw [bs_length, ← hx.out, vint_last h128]; simp), ?_⟩
      · rw [← bs_append, ← hx.out, vint_last h128]
      · exact Grows.row (hbel.alloc hlo2 _) (by simp; omega) (hown.alloc _) gr3
    · go_wp2_with (at_builtin; refine wpList_app _ rfl (.tmp 16) (.tmp 20) _ rfl lo 5 i0 _ 1 Tryz.underlying36 hi0 hz0 hz1 hz2 rfl _ _ _ rfl (hown.alloc _) _ _ rfl (rd_one _ _ _) (bs_one _) (by rw [bs_length]; simp only [maxLen, List.length_singleton]; omega) (by rw [bs_length]; simp only [List.length_singleton]; omega) (by simp; omega) ?_; intro v3 w3 own3 gr3)
      go_roundw
      case rel => exact ⟨m / 128, xs ++ [(m : Int) % 128 + 128], by omega, by go_num, own_len (own_cells own3 (by rw [HO.out, bs_append])) (by simp [bs]), hide (vint_step h128 hx.out), Grows.row (hbel.alloc hlo2 _) (by simp; omega) (hown.alloc _) gr3⟩
      case measure => simp [intOf]; omega

theorem appendNumG (l : List Int) (v : Value) (n : Int) (lo : Nat) (w : World) (hv : w.ownsRow lo 5 1 v l.length (bs l)) (hlo : lo ≤ w.heap.size) (hl : l.length ≤ 1099511627776) :
    Calls Tryz.prog 185 #[v, .int .i64 n] w fun e w' => ∃ v', e = .returned v' ∧ w'.ownsRow lo 5 1 v' (putNum l n).length (bs (putNum l n)) ∧ Grows lo w w' := by
  by_cases h : n < 0 ∨ 2147483647 < n
  · rw [putNum, if_pos h]
    exact appendNumOutG l v n lo w hv h
  · rw [putNum, if_neg h]
    obtain ⟨k, rfl⟩ := Int.eq_ofNat_of_zero_le (by omega : 0 ≤ n)
    exact appendNumInG l v k lo w hv hlo hl (by omega)

set_option maxRecDepth 20000 in
set_option maxHeartbeats 800000 in
theorem appendTextG (l : List Int) (v : Value) (t : List Int) (u : Value) (lo : Nat) (w w0 : World) (hv : w.ownsRow lo 5 1 v l.length (bs l)) (hu : Rd w0 u (bs t)) (h0 : w0.heap.size = lo) (hb : Below lo w0 w) (hl : l.length ≤ 1099511627776) :
    Calls Tryz.prog 164 #[v, u] w fun e w' => ∃ v', e = .returned v' ∧ w'.ownsRow lo 5 1 v' (putText l t).length (bs (putText l t)) ∧ Grows lo w w' := by
  obtain ⟨i0, hi0, hz0, hz1, hz2⟩ := info_parts u8info
  obtain ⟨A', c', hU, hc1', hc2', _⟩ := id hu
  rw [bs_length] at *
  unfold maxLen at hc2'
  subst hU
  have HV := hide hv
  have HU := hide hu
  clear hv hu
  have hlo : lo ≤ w.heap.size := by rw [← h0]; exact hb.size
  have HB := hide hb
  have H0 := hide h0
  clear hb h0
  by_cases h4 : 400 < t.length
  · rw [putText, if_pos h4]
    go_enter Tryz.func164, Tryz.ntmps164
    go_wp2
    go_ret
    exact ⟨_, rfl, HV.out, Grows.refl _ _⟩
  · rw [putText, if_neg h4]
    obtain ⟨P, hP⟩ : ∃ P, putNum l t.length = P := ⟨_, rfl⟩
    have hroom : P.length ≤ l.length + 5 := by rw [← hP]; exact putNum_len l t.length
    rw [hP]
    have HP := hide hP
    clear hP
    go_enter Tryz.func164, Tryz.ntmps164
    go_wp2_with fail
    refine (appendNumG l _ t.length lo w HV.out hlo (by omega)).mono ?_
    rintro e w1 ⟨v1, rfl, o1, b1⟩
    rw [HP.out] at o1
    have hu1 : Rd w1 (.slice A' t.length c') (bs t) := HU.out.below (by rw [H0.out]; exact HB.out.trans b1.below)
    have hlo1 : lo ≤ w1.heap.size := Nat.le_trans hlo b1.below.size
    go_wp2_with (at_builtin; refine wpList_app _ rfl (.tmp 12) (.tmp 13) _ rfl lo 5 i0 _ 1 Tryz.underlying36 hi0 hz0 hz1 hz2 rfl _ _ _ rfl o1 _ (bs t) rfl hu1 (bs_one t) (by rw [bs_length]; simp only [maxLen]; omega) (by rw [bs_length]; omega) hlo1 ?_; intro v2 w2 own2 gr2)
    go_ret
    exact ⟨_, rfl, own_len (own_cells own2 (bs_append _ _).symm) (by simp [bs]), Grows.row b1 hlo1 o1 gr2⟩

end Go.Proofs.YtmhapnlgakkljaaGreatDoor


/-
  The program's TreeData.
-/
namespace Go.Proofs.YtmhapnlgakkljaaGreatDoor
open Go.RowKit Go.Shelf
set_option linter.unusedVariables false
attribute [local go_sem] Oper.semAt_some

set_option maxRecDepth 20000 in
set_option maxHeartbeats 1600000 in
theorem implTreeData (t : T) (hB : t.Byts) (hbk : t.bulk ≤ 1048576) (q : Q) (w : World) (hq : TIn w t q) :
    Calls Tryz.prog 145 #[q.val] w fun e w' => ∃ v, e = .returned v ∧ Own 5 w.heap.size w'.heap.size w' v (bs (datOf t)) ∧ Below w.heap.size w w' := by
  refine (callsIn_wide (n := 6)).1 ?_
  obtain ⟨i0, hi0, hz0', hz1', hz2'⟩ := info_parts u8info
  obtain ⟨A, n, c, A', n', c', A'', n'', c'', e, e', e''⟩ := hq.form
  obtain ⟨x, hx⟩ : ∃ x : Nd w, x = ⟨0, [], t, .slice none 0 0, q, ⟨none, 0, rfl, Nat.zero_le _, Nat.zero_le _, fun h => absurd h (by simp [bs])⟩, (fun _ h => by cases h), hq, hB⟩ := ⟨_, rfl⟩
  have hnodes := fun W (hb : Below w.heap.size w W) => nodes t q W (hq.below hb)
  have hok := fun W (hb : Below w.heap.size w W) => implTreeOk t hB q W (hq.below hb)
  have hqv : q.val = .agg #[.int .i64 q.k, .slice A n c, .slice A' n' c', .slice A'' n'' c''] := by rw [← e, ← e', ← e'']
  obtain ⟨w1, hw1, box, b1, z1⟩ := boxed w q 52
  rw [e, e', e''] at hw1 box
  rw [hqv] at hnodes hok ⊢
  have HN := hide hnodes
  have HOK := hide (hok w1 b1)
  have y0 := box.c0
  have y1 := box.c1
  have y2 := box.c2
  have y3 := box.c3
  clear hnodes hok
  refine callsIn_of_wp_marks Tryz.func145 rfl trivial ?_ rfl
  simp only [Tryz.ntmps145, List.size_toArray, List.length_cons, List.length_nil, Nat.reduceAdd, Nat.reduceSub, Array.replicate_succ, Array.replicate_zero, List.push_toArray, List.append_toArray, List.nil_append, List.cons_append]
  gi_wp2
  refine ⟨trivial, ?_⟩
  refine (callsIn_wide.2 HOK.out).mono ?_
  rintro e w2 ⟨rfl, b2⟩
  have box2 := box.step b2
  have d2 := b1.trans (b2.mono b1.size)
  clear y0 y1 y2 y3
  cases hv : treeOk t with
  | false =>
    have hS : datOf t = [] := by rw [datOf, hv]; rfl
    have HS := hide hS
    clear hS hx box2 HN HOK box hw1 hqv
    gi_wp2
    refine ⟨_, results_tmp rfl _ _ _, _, rfl, ?_, d2⟩
    rw [HS.out]
    exact ⟨World.ownsRow_nil _ _ _ _, Nat.le_refl _, fun g hg => by simp [Value.ownBlock] at hg⟩
  | true =>
    have hS : datOf t = t.dat := by rw [datOf, hv]; rfl
    have hdb := t.dat_bulk
    have HS := hide hS
    have HV := hide hv
    have hlt : w.heap.size < w2.heap.size := by have := b2.size; omega
    have bal : Below w2.heap.size w2 (w2.alloc (.cells #[.slice none 0 0] 36)) := (Below.refl _ _).alloc (Nat.le_refl _) _
    have box3 := box2.step bal
    have bC := Boxed.new w2 36 (.slice none 0 0)
    have hz3 : (w2.alloc (.cells #[.slice none 0 0] 36)).heap.size = w2.heap.size + 1 := by simp
    have d3 := d2.trans (bal.mono d2.size)
    have y0 := box3.c0
    have y1 := box3.c1
    have y2 := box3.c2
    have y3 := box3.c3
    have D3 := hide d3
    have BC := hide bC
    have HZ3 := hide hz3
    clear hS hv hw1 HOK box hqv box2 box3 bal d3 bC hz3
    gi_wp2
    refine ⟨trivial, ?_⟩
    refine (callsIn_wide.2 (HN.out _ D3.out)).mono ?_
    rintro e w4 ⟨rfl, rfl⟩
    clear y0 y1 y2 y3
    have bC := BC.out
    have d3 := D3.out
    have z3 := HZ3.out
    obtain ⟨w3, hw3⟩ : ∃ w3, w2.alloc (.cells #[.slice none 0 0] 36) = w3 := ⟨_, rfl⟩
    rw [hw3] at bC d3 z3 ⊢
    clear D3 BC HZ3 HN hw3
    gi_wp2
    obtain ⟨W0, hW0, box0, b0, z0⟩ := boxed w3 ⟨q.k, .slice A n c, .slice A' n' c', .slice A'' n'' c''⟩ 52
    rw [hW0]
    have bC0 : Boxed W0 w2.heap.size 36 (.slice none 0 0) := (b0.block _ bC.lt).trans bC
    have hw0 : Below w.heap.size w W0 := d3.trans (b0.mono d3.size)
    have hbox : C4 W0 (w2.heap.size + 1) 52 (.int .i64 x.q.k) x.q.d x.q.n x.q.c := by
      rw [hx]
      dsimp only
      rw [e, e', e'', ← z3]
      exact box0
    have zz : W0.heap.size = w2.heap.size + 2 := by omega
    have hI0 : DatI w w2.heap.size (fun xs => dkx (xs.map Nd.key)) [] W0 := ⟨⟨_, bC0, World.ownsRow_nil _ _ _ _⟩, (fun y hy => by cases hy), hw0⟩
    clear hW0 bC bC0 box0 b0 z0 z3 d3
    have hxt : x.t = t := by rw [hx]
    refine nodesLoop w x (by rw [hx]) (by rw [hx]) (by rw [hx]) (gb := w2.heap.size + 1) rfl hbox hw0 rfl (DatI w w2.heap.size (fun xs => dkx (xs.map Nd.key)))
      (fun pre W W' h hb => h.step hb) (fun pre W l r o h hl hn => h.put hl hn o) (fun pre W h => h.2.1) hI0
      (fun y a' W => ∃ Bx, w2.heap.size + 1 < Bx ∧ C6 W Bx (.int .i64 y.s) y.v (.int .i64 y.q.k) y.q.d y.q.n y.q.c ∧ a' = { tmps := #[.agg #[.int .i64 q.k, .slice A n c, .slice A' n' c', .slice A'' n'' c''], .pointer (some ⟨w.heap.size, 0, none⟩), .slice none 0 0, .pointer (some ⟨w2.heap.size, 0, none⟩), .pointer (some ⟨Bx, 0, none⟩), .agg #[.int .i64 q.k, .slice A n c, .slice A' n' c', .slice A'' n'' c''], .bool true, .bool false, .agg #[.int .i64 q.k, .slice A n c, .slice A' n' c', .slice A'' n'' c''], .func (.func 156) #[] #[.pointer (some ⟨w2.heap.size + 1, 0, none⟩)], y.val, undef, undef, undef, undef, undef, undef], defers := [] }) (fun y a' W l r o ⟨Bx, h1, h2, h3⟩ hl => ⟨Bx, h1, h2.put hl o, h3⟩) ?assign ?body ?done
    case assign =>
      intro l pre y W hI hW _
      obtain ⟨B1, m1, g1, B2, m2, g2, B3, m3, g3, e1, e2, e3⟩ := y.hq.form
      obtain ⟨B4, g4, e4, _⟩ := id y.hv
      have hyv : y.val = .agg #[.int .i64 y.s, .slice B4 (bs y.nm).length g4, .int .i64 y.q.k, .slice B1 m1 g1, .slice B2 m2 g2, .slice B3 m3 g3] := by rw [Nd.val, e1, e2, e3, e4]
      have bal := boxed6 W (.int .i64 y.s) (.slice B4 (bs y.nm).length g4) (.int .i64 y.q.k) (.slice B1 m1 g1) (.slice B2 m2 g2) (.slice B3 m3 g3)
      have HBal := hide bal
      have hWz : w2.heap.size + 1 < W.heap.size := by omega
      rw [e1, e2, e3, e4, hyv]
      clear hI hI0 hbox hw0 hx hxt zz bal hW e1 e2 e3 e4 hyv
      gi_wp2
      obtain ⟨wa', hwa', hc6, hba, hza⟩ := HBal.out
      rw [hwa']
      exact ⟨hba, _, hWz, hc6, rfl⟩
    case body =>
      rintro l pre y a' W hl ⟨⟨v, hC, hR⟩, hg, hb⟩ ⟨Bx, hBx, hbx, rfl⟩ hbw hpre
      obtain ⟨hg2, hl2⟩ := good_of (xs := pre ++ [y]) HV.out (by rw [List.map_append]; exact hxt ▸ hpre)
      have hnext : dkx ((pre ++ [y]).map Nd.key) = dkx (pre.map Nd.key) ++ y.t.data := by rw [List.map_append, dkx_append]; simp [dkx, Nd.key]
      have hroom : (dkx (pre.map Nd.key)).length + y.t.data.length ≤ 1048576 := by
        have h1 := dkx_prefix (hxt ▸ hpre)
        rw [dkx_append, T.pre_dk, List.length_append] at h1
        simp only [dkx, Nd.key, List.append_nil] at h1
        omega
      dsimp only at hR
      have hdt := (TIn.dt y.hq).below hb
      have hlo : w.heap.size ≤ W.heap.size := hb.size
      have hcell := hC.cell
      have x3 := hbx.c3
      have fin := fun (v' : Value) (w1 : World) (own' : w1.ownsRow w.heap.size 5 1 v' ((dkx (pre.map Nd.key)).length + (bs y.t.data).length) (bs (dkx (pre.map Nd.key)) ++ bs y.t.data)) (hgr : W.grownBy w1 v.ownBlock) => by
        obtain ⟨h1, h2, h3, h4, h5⟩ := held_stored hC hR hlo (Nat.le_of_lt hlt) own' hgr
        have hr2 : (w1.setCell ⟨w2.heap.size, 0, none⟩ v').ownsRow w.heap.size 5 1 v' (dkx ((pre ++ [y]).map Nd.key)).length (bs (dkx ((pre ++ [y]).map Nd.key))) := by
          rw [hnext, bs_append, List.length_append]
          exact own_len h3 (by rw [bs_length])
        exact (⟨h1, h4.from W0.heap.size, h5, ⟨⟨v', h2, hr2⟩, hg2, hb.trans h5.below⟩⟩ : Boxed w1 w2.heap.size 36 v ∧ KeepsFrom W0.heap.size W (w1.setCell ⟨w2.heap.size, 0, none⟩ v') ∧ Holds w.heap.size W (w1.setCell ⟨w2.heap.size, 0, none⟩ v') ∧ DatI w w2.heap.size (fun xs => dkx (xs.map Nd.key)) (pre ++ [y]) (w1.setCell ⟨w2.heap.size, 0, none⟩ v'))
      have HR := hide hR
      have HD := hide hdt
      have HLO := hide hlo
      have FIN := hide fin
      clear fin hC hg hb hbw hpre hg2 hnext hI0 hbox hw0 hx hxt zz hl2 hR hdt hlo
      generalize (dkx (pre.map Nd.key)) = D at *
      generalize y.t.data = E at *
      gi_wp2_with (gi_at_builtin; refine wpListIn_app _ rfl (.tmp 11) (.tmp 14) _ rfl w.heap.size 5 i0 _ 1 Tryz.underlying36 hi0 hz0' hz1' hz2' rfl _ _ _ rfl HR.out _ (bs E) rfl HD.out (bs_one E) (by rw [bs_length]; simp only [maxLen]; omega) (by rw [bs_length]; omega) HLO.out ?_; intro v1 w1' own1 gr1; obtain ⟨A9, c9, hv9, -, -⟩ := own_slice own1; subst hv9; have FF := hide (FIN.out _ _ own1 gr1); have hcell9 := FF.out.1.cell; have hfz9 := FF.out.1.frozen)
      exact FF.out.2
    case done =>
      rintro xs W hxs ⟨⟨v, hC, hR⟩, hg, hb⟩ hK
      have hlen : dkx (xs.map Nd.key) = t.dat := by
        have h1 := hxt ▸ hxs
        rw [h1, T.pre_dk]
      dsimp only at hR
      rw [hlen] at hR
      have hcell := hC.cell
      have HB := hide hb
      have HK := hide hK
      have HZ := hide zz
      have HR := hide hR
      clear hlen hb hK hg hC hI0 hbox hw0 hx hxt zz hR
      gi_wp2
      have zz := HZ.out
      refine ⟨by simp, .inl ⟨_, _, rfl, run_takeDeferred HK.out, ?_⟩⟩
      refine ⟨_, results_tmp rfl _ _ _, v, rfl, ?_, HB.out.trans (belowK_b (w := w) (Nat.le_refl _) W W0.heap.size _ _ (by omega) HK.out rfl rfl)⟩
      rw [HS.out]
      exact Own.of (ownsRow_putObj HR.out _ HK.out rfl) (by rw [bs_length])

end Go.Proofs.YtmhapnlgakkljaaGreatDoor


/-
  What TreeBytes gathers, node by node.
-/
namespace Go.Proofs.YtmhapnlgakkljaaGreatDoor
open Go.RowKit Go.Shelf
set_option linter.unusedVariables false

theorem own_any {w : World} {lo n size : Nat} {e : TypeId} {v : Value} {xs : List Value} (h : w.ownsRow lo e size v n xs) : ∃ m, Hid (m = n) ∧ w.ownsRow lo e size v m xs := ⟨n, hide rfl, h⟩
/-- What a node adds. -/
def tx (t : List Int) : List Int := if 400 < t.length then [] else txt t
theorem putText_tx (l t : List Int) : putText l t = l ++ tx t := by
  unfold tx
  split
  · rw [putText, if_pos (by assumption), List.append_nil]
  · exact putText_txt (by omega)
def nodeEnc : Nat × List Int × T → List Int
  | (s, nm, .node k d ns ks) => (if 0 < s then tx nm else []) ++ ([k] ++ (if k = 2 then [(ks.length : Int)] else tx d))
def ekx : List (Nat × List Int × T) → List Int
  | [] => []
  | k :: r => nodeEnc k ++ ekx r
theorem ekx_append (a b : List (Nat × List Int × T)) : ekx (a ++ b) = ekx a ++ ekx b := by
  induction a with
  | nil => rfl
  | cons k a ih => rw [List.cons_append, ekx, ekx, ih, List.append_assoc]
theorem ekx_prefix {a b : List (Nat × List Int × T)} (h : a <+: b) : (ekx a).length ≤ (ekx b).length := by
  obtain ⟨c, rfl⟩ := h
  rw [ekx_append, List.length_append]
  omega
theorem T.pres_ek (ks : List T) (s : Nat) (h : ∀ t ∈ ks, ∀ nm, nm.length ≤ 400 → ekx (t.pre (s + 1) nm) = txt nm ++ t.enc) (ns : List (List Int)) (hn : ∀ m, m < ks.length → (ns.getD m []).length ≤ 400) : ekx (T.pres ks ns (s + 1)) = T.encs ks ns := by
  induction ks generalizing ns with
  | nil => rfl
  | cons t r ih =>
    have h0 : (ns.headD []).length ≤ 400 := by
      have := hn 0 (by simp)
      cases ns <;> first | exact this | simp
    rw [T.pres, ekx_append, T.encs, h t (List.mem_cons_self ..) _ h0, ih (fun t ht => h t (List.mem_cons_of_mem _ ht)) ns.tail (fun m hm => by
      have := hn (m + 1) (by simpa using hm)
      cases ns <;> first | exact this | simp)]
theorem T.pre_ek : ∀ (t : T) (deep : Nat), t.okAt deep = true → ∀ (s : Nat) (nm : List Int), nm.length ≤ 400 → ekx (t.pre s nm) = (if 0 < s then txt nm else []) ++ t.enc := by
  intro t
  induction t using T.ind with
  | h k d ns ks ih =>
    intro deep hok s nm hnm
    obtain ⟨hnd, hoks⟩ := okAt_parts hok
    have htx : ∀ l : List Int, l.length ≤ 400 → tx l = txt l := fun l hl => by rw [tx, if_neg (by omega)]
    rw [T.pre, ekx, nodeEnc, T.enc, htx nm hnm, List.append_assoc, List.append_assoc, List.singleton_append]
    congr 2
    by_cases h2 : k = 2
    · subst h2
      obtain ⟨_, _, hl, hn⟩ := nodeOk_dir hnd
      rw [if_pos rfl, if_pos rfl, List.singleton_append, T.pres_ek ks s (fun t ht nm hnm => by
        have := ih t ht (deep + 1) (hoks t ht) (s + 1) nm hnm
        rwa [if_pos (by omega)] at this) ns (fun m hm => by have := hn m (by omega); omega)]
    · obtain ⟨_, _, hd, _, hk⟩ := nodeOk_file h2 hnd
      obtain rfl := List.eq_nil_of_length_eq_zero hk
      rw [if_neg h2, if_neg h2, htx d hd, T.pres, ekx, List.append_nil]
theorem treeOk_deep {t : T} (h : treeOk t = true) : t.okAt 1 = true := by
  rw [treeOk, Bool.and_eq_true] at h
  exact h.1
theorem T.ek_room {t : T} (hv : treeOk t = true) (hb : t.bulk ≤ 1048576) : ekx (t.pre 0 []) = t.enc ∧ t.enc.length ≤ 1049100 := by
  refine ⟨by rw [t.pre_ek 1 (treeOk_deep hv) 0 [] (by simp)]; rfl, ?_⟩
  have := encOf_room t hb
  rwa [encOf, if_pos hv] at this
theorem C6.step2 {lo : Nat} {w w' : World} {g : Nat} {a b c d e f : Value} (h : C6 w g a b c d e f) (hh : Steps lo w w') : C6 w' g a b c d e f := hh.rows _ _ _ _ h (by decide) (by decide)
theorem TIn.at4 {w : World} {t : T} {q : Q} (h : TIn w t q) : ∃ k d ns ks, t = .node k d ns ks ∧ q.k = k ∧ Rd w q.d (bs d) ∧ ∃ A c, q.c = .slice A ks.length c := by
  obtain ⟨k, d, ns, ks⟩ := t
  obtain ⟨A, c, A', c', A'', c'', ed, hc1, hc2, en, hc1', hc2', ec, hc1'', hc2''⟩ := h.lens
  rw [TIn] at h
  exact ⟨k, d, ns, ks, rfl, h.1, h.2.1, A'', c'', ec⟩

end Go.Proofs.YtmhapnlgakkljaaGreatDoor


/-
  The program's objRefsOk.
-/
namespace Go.Proofs.YtmhapnlgakkljaaGreatDoor
open Go.RowKit
set_option linter.unusedVariables false
set_option linter.unusedSimpArgs false

set_option maxRecDepth 20000 in
set_option maxHeartbeats 1600000 in
theorem implRefsFit (o : DObj) (hok : oks o.cells) (hbk : bulks o.cells ≤ 1048576) (ht : treeOk o.tree = true) (us : List Value) (w : World) (hs : Ins w o.cells us) :
    Calls Tryz.prog 123 #[.agg us.toArray] w fun e w' => e = .returned (.bool (refsFit o)) ∧ Below w.heap.size w w' := by
  obtain ⟨A0, c0, A3, c3, A4, c4, A5, c5, A6, c6, A7, c7, A8, c8, rfl, h0, h3, h4, h5, h6, h7, h8⟩ := DObj.view hs
  obtain ⟨wa, hwa⟩ : ∃ wa, w.alloc (.cells #[.slice A0 o.name.length c0, .int .i64 o.kind, .int .i64 o.tree.kind, .slice A3 o.tree.data.length c3, .slice A4 o.tree.names.length c4, .slice A5 o.tree.kids.length c5, .slice A6 o.refs.length c6, .slice A7 o.frm.length c7, .slice A8 o.out.length c8] 54) = wa := ⟨_, rfl⟩
  have ba : Below w.heap.size w wa := by rw [← hwa]; exact (Below.refl _ _).alloc (Nat.le_refl _) _
  have bx : Box wa w.heap.size 54 [.slice A0 o.name.length c0, .int .i64 o.kind, .int .i64 o.tree.kind, .slice A3 o.tree.data.length c3, .slice A4 o.tree.names.length c4, .slice A5 o.tree.kids.length c5, .slice A6 o.refs.length c6, .slice A7 o.frm.length c7, .slice A8 o.out.length c8] := by rw [← hwa]; exact Box.new w _ _
  have hz : w.heap.size < wa.heap.size := bx.lt
  obtain ⟨hb0, hkr, htr, hb6, hb7, hb8⟩ := (DObj.oks_iff o).1 hok
  have hbk2 := bulk_Obj o
  have hby := T.byts_of _ htr
  have hT := (obj_tree h3 h4 h5).below ba
  have hD := (h3.step ba).rd
  have hF := (h7.step ba).rd
  have hO := (h8.step ba).rd
  have x0 := bx.cell (j := 0) rfl
  have x1 := bx.cell (j := 1) rfl
  have x2 := bx.cell (j := 2) rfl
  have x3 := bx.cell (j := 3) rfl
  have x4 := bx.cell (j := 4) rfl
  have x5 := bx.cell (j := 5) rfl
  have x6 := bx.cell (j := 6) rfl
  have x7 := bx.cell (j := 7) rfl
  have x8 := bx.cell (j := 8) rfl
  have HBX := hide (fun W (hb : Below wa.heap.size wa W) => bx.step hb)
  have HBA := hide ba
  have htb := treeOk_bulk ht
  have hdt := treeOk_dat ht
  have hde : datOf o.tree = o.tree.dat := by rw [datOf, if_pos ht]
  have hc1 := fun W (hb : Below wa.heap.size wa W) => implTreeData o.tree hby (by omega) _ W (hT.below hb)
  rw [hde] at hc1
  have hdb := T.dat_byt o.tree hby
  have hN6 := (h6.step ba).rdN
  have hl6 : ∀ n ∈ o.refs, n.length ≤ 1048576 := fun n hn => by have := sumLen_mem2 hn; omega
  have hc2 := fun v W (h : Rd W v (bs o.tree.dat)) (hb : Below wa.heap.size wa W) => implScan o.tree.dat o.refs hdb hb6 v _ W h (hN6.below hb) (by omega) (by omega) hl6
  have HC1 := hide hc1
  have HC2 := hide hc2
  have HDF := hide (show refsFit o = (decide (o.refs.length ≤ 24) && decide ((scanOf o.tree.dat o.refs).length = o.refs.length)) from rfl)
  have hsl : (scanOf o.tree.dat o.refs).length ≤ o.refs.length := by
    unfold scanOf scanL
    split
    · exact List.length_filter_le _ _
    · exact Nat.zero_le _
  have HSL := hide hsl
  have HSS : Hid (∀ W, Below wa.heap.size wa W → (fun W : World => W.cell? ⟨w.heap.size, 0, none⟩ = some (.slice A0 o.name.length c0) ∧ W.cell? ⟨w.heap.size, 1, none⟩ = some (.int .i64 o.kind) ∧ W.cell? ⟨w.heap.size, 2, none⟩ = some (.int .i64 o.tree.kind) ∧ W.cell? ⟨w.heap.size, 3, none⟩ = some (.slice A3 o.tree.data.length c3) ∧ W.cell? ⟨w.heap.size, 4, none⟩ = some (.slice A4 o.tree.names.length c4) ∧ W.cell? ⟨w.heap.size, 5, none⟩ = some (.slice A5 o.tree.kids.length c5) ∧ W.cell? ⟨w.heap.size, 6, none⟩ = some (.slice A6 o.refs.length c6) ∧ W.cell? ⟨w.heap.size, 7, none⟩ = some (.slice A7 o.frm.length c7) ∧ W.cell? ⟨w.heap.size, 8, none⟩ = some (.slice A8 o.out.length c8)) W) := hide (fun W hb => ⟨(HBX.out W hb).cell (j := 0) rfl, (HBX.out W hb).cell (j := 1) rfl, (HBX.out W hb).cell (j := 2) rfl, (HBX.out W hb).cell (j := 3) rfl, (HBX.out W hb).cell (j := 4) rfl, (HBX.out W hb).cell (j := 5) rfl, (HBX.out W hb).cell (j := 6) rfl, (HBX.out W hb).cell (j := 7) rfl, (HBX.out W hb).cell (j := 8) rfl⟩)
  clear bx ba hs h0 h3 h4 h5 h6 h7 h8 hT hD hF hO hok hby hbk hbk2 hkr htr hb0 hb6 hb7 hb8 hc1 hc2 hdb hN6 hl6 hde hdt htb hsl
  by_cases hl : o.refs.length ≤ 24
  · have hl2 : (o.refs.length : Int) ≤ 24 := by omega
    have HR := hide (show refsFit o = decide ((scanOf o.tree.dat o.refs).length = o.refs.length) by rw [HDF.out, decide_eq_true hl]; rfl)
    have HBD := hide (show Below wa.heap.size wa wa.drew from (Below.refl _ _).drew)
    generalize scanOf o.tree.dat o.refs = Z at *
    generalize hNN : o.refs.length = NN at *
    have hund : undef = Value.tuple #[] := rfl
    go_enter Tryz.func123, Tryz.ntmps123
    go_upto_region 1 with (fail)
    first
      | go_region_held3 (fun W : World => W.cell? ⟨w.heap.size, 0, none⟩ = some (.slice A0 o.name.length c0) ∧ W.cell? ⟨w.heap.size, 1, none⟩ = some (.int .i64 o.kind) ∧ W.cell? ⟨w.heap.size, 2, none⟩ = some (.int .i64 o.tree.kind) ∧ W.cell? ⟨w.heap.size, 3, none⟩ = some (.slice A3 o.tree.data.length c3) ∧ W.cell? ⟨w.heap.size, 4, none⟩ = some (.slice A4 o.tree.names.length c4) ∧ W.cell? ⟨w.heap.size, 5, none⟩ = some (.slice A5 o.tree.kids.length c5) ∧ W.cell? ⟨w.heap.size, 6, none⟩ = some (.slice A6 NN c6) ∧ W.cell? ⟨w.heap.size, 7, none⟩ = some (.slice A7 o.frm.length c7) ∧ W.cell? ⟨w.heap.size, 8, none⟩ = some (.slice A8 o.out.length c8))
        (first
          | exact HSS.out _ HB2.out
          | exact HSS.out _ HB1.out
          | exact HSS.out _ HBD.out
          | go_keep)
        (first
          | (go_simp; go_at_call 145; refine (HC1.out _ HBD.out).mono ?_; rintro e w1 ⟨v1, rfl, o1, b1⟩; have HB1 := hide (HBD.out.trans (b1.mono HBD.out.size)); have r1 := o1.rd; clear o1 b1)
          | (go_simp; go_at_call 144; refine (HC2.out _ _ r1 HB1.out).mono ?_; rintro e w2 ⟨v2, rfl, o2, b2⟩; have HB2 := hide (HB1.out.trans (b2.mono HB1.out.size)); obtain ⟨A2, c2, hu2, hx2, hy2⟩ := names_len o2.rd; subst hu2; clear b2 o2))
      | fail "region"
    all_goals
      have hzz : (((Z.length : Nat) : Int) == ((NN : Nat) : Int)) = decide (Z.length = NN) := by
        by_cases h : Z.length = NN
        · rw [decide_eq_true h, h]; simp
        · rw [decide_eq_false h]; simp; omega
      go_wp2
      go_ret
      exact ⟨ret_bool (HR.out.trans (by rw [← hzz])).symm, HBA.out.trans (HB2.out.mono HBA.out.size)⟩
  · have hl2 : ¬ (o.refs.length : Int) ≤ 24 := by omega
    have HR := hide (show refsFit o = false by rw [HDF.out, decide_eq_false hl]; rfl)
    go_enter Tryz.func123, Tryz.ntmps123
    go_upto_region 1 with (fail)
    have hund : undef = Value.tuple #[] := rfl
    refine wp_region_any (by kernel_rfl) ?_
    try (change wpAny _ _ _ _ _ _ _ (World.drew _))
    refine wpAny_take (i := 0) (v := .pointer (some ⟨w.heap.size, 6, none⟩)) rfl (by kernel_rfl) (by kernel_rfl) (by kernel_rfl) (fun _ _ _ h => h) (Or.inl ⟨by kernel_rfl, by intro w; go_simp⟩) ?_
    go_simp
    refine wpAny_ready (rs := [1]) (by kernel_rfl) (by simp) ?_
    refine AllReady.cons rfl (fun K hK => ?_) AllReady.nil
    go_simp
    refine hK _ _ ?_
    clear hK K
    refine wpAny_take (i := 2) (v := .int .i64 (o.refs.length : Int)) rfl (by kernel_rfl) (by kernel_rfl) (by kernel_rfl) (fun _ _ _ h => h) (Or.inl ⟨by kernel_rfl, by intro w; go_simp⟩) ?_
    go_simp
    refine wpAny_take (i := 3) (v := .bool false) rfl (by kernel_rfl) (by kernel_rfl) (by kernel_rfl) (fun _ _ _ h => h) (Or.inl ⟨by kernel_rfl, by intro w; go_simp⟩) ?_
    go_simp
    refine wpAny_take (i := 4) (v := .bool false) rfl (by kernel_rfl) (by kernel_rfl) (by kernel_rfl) (fun _ _ _ h => h) (Or.inl ⟨by kernel_rfl, by intro w; go_simp⟩) ?_
    go_simp
    refine wpAny_take (i := 5) (v := undef) rfl (by kernel_rfl) (by kernel_rfl) (by kernel_rfl) (fun _ _ _ h => h) (Or.inr ⟨by kernel_rfl, rfl⟩) ?_
    go_simp
    refine wpAny_take (i := 6) (v := undef) rfl (by kernel_rfl) (by kernel_rfl) (by kernel_rfl) (fun _ _ _ h => h) (Or.inr ⟨by kernel_rfl, rfl⟩) ?_
    go_simp
    refine wpAny_take (i := 7) (v := undef) rfl (by kernel_rfl) (by kernel_rfl) (by kernel_rfl) (fun _ _ _ h => h) (Or.inr ⟨by kernel_rfl, rfl⟩) ?_
    go_simp
    refine wpAny_take (i := 8) (v := undef) rfl (by kernel_rfl) (by kernel_rfl) (by kernel_rfl) (fun _ _ _ h => h) (Or.inr ⟨by kernel_rfl, rfl⟩) ?_
    go_simp
    refine wpAny_take (i := 9) (v := undef) rfl (by kernel_rfl) (by kernel_rfl) (by kernel_rfl) (fun _ _ _ h => h) (Or.inr ⟨by kernel_rfl, rfl⟩) ?_
    go_simp
    refine wpAny_take (i := 10) (v := undef) rfl (by kernel_rfl) (by kernel_rfl) (by kernel_rfl) (fun _ _ _ h => h) (Or.inr ⟨by kernel_rfl, rfl⟩) ?_
    go_simp
    refine wpAny_take (i := 11) (v := undef) rfl (by kernel_rfl) (by kernel_rfl) (by kernel_rfl) (fun _ _ _ h => h) (Or.inr ⟨by kernel_rfl, rfl⟩) ?_
    go_simp
    refine wpAny_take (i := 12) (v := undef) rfl (by kernel_rfl) (by kernel_rfl) (by kernel_rfl) (fun _ _ _ h => h) (Or.inr ⟨by kernel_rfl, rfl⟩) ?_
    go_simp
    refine wpAny_take (i := 13) (v := undef) rfl (by kernel_rfl) (by kernel_rfl) (by kernel_rfl) (fun _ _ _ h => h) (Or.inr ⟨by kernel_rfl, rfl⟩) ?_
    go_simp
    refine wpAny_take (i := 14) (v := undef) rfl (by kernel_rfl) (by kernel_rfl) (by kernel_rfl) (fun _ _ _ h => h) (Or.inr ⟨by kernel_rfl, rfl⟩) ?_
    go_simp
    refine wpAny_take (i := 15) (v := undef) rfl (by kernel_rfl) (by kernel_rfl) (by kernel_rfl) (fun _ _ _ h => h) (Or.inr ⟨by kernel_rfl, rfl⟩) ?_
    go_simp
    refine wpAny_take (i := 16) (v := .bool false) rfl (by kernel_rfl) (by kernel_rfl) (by kernel_rfl) (fun _ _ _ h => h) (Or.inl ⟨by kernel_rfl, by intro w; go_simp⟩) ?_
    go_simp
    refine wpAny_take (i := 17) (v := .bool false) rfl (by kernel_rfl) (by kernel_rfl) (by kernel_rfl) (fun _ _ _ h => h) (Or.inl ⟨by kernel_rfl, by intro w; go_simp⟩) ?_
    go_simp
    refine wpAny_done (by kernel_rfl) ?_ _
    go_wp2
    go_ret
    exact ⟨ret_bool HR.out.symm, HBA.out.drew⟩


end Go.Proofs.YtmhapnlgakkljaaGreatDoor
