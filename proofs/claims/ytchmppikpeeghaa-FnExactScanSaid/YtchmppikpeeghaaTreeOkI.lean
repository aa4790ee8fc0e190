/-
  The program's TreeOk.
-/
import Derived.Test.YtchmppikpeeghaaIterN
namespace Go.Proofs.Ytchmppikpeeghaa
open Go.RowKit Go.Shelf
set_option linter.unusedVariables false
attribute [local go_sem] Oper.semAt_some

theorem T.pres_len (ks : List T) (h : ∀ t ∈ ks, ∀ s nm, (t.pre s nm).length = t.size) (ns : List (List Int)) (s : Nat) : (T.pres ks ns s).length = T.sizes ks := by
  induction ks generalizing ns with
  | nil => rfl
  | cons t r ih => rw [T.pres, T.sizes, List.length_append, h t (List.mem_cons_self ..), ih (fun t ht => h t (List.mem_cons_of_mem _ ht))]
theorem T.pre_len : ∀ (t : T) (s : Nat) (nm : List Int), (t.pre s nm).length = t.size := by
  intro t
  induction t using T.ind with
  | h k d ns ks ih =>
    intro s nm
    rw [T.pre, T.size, List.length_cons, T.pres_len ks ih]
    omega
theorem T.pres_ok (ks : List T) (h : ∀ t ∈ ks, ∀ s nm, t.okAt (s + 1) = true ↔ ∀ k ∈ t.pre s nm, k.1 < 4 ∧ k.2.2.nodeOk = true) (ns : List (List Int)) (s : Nat) :
    T.okAts ks (s + 1) = true ↔ ∀ k ∈ T.pres ks ns s, k.1 < 4 ∧ k.2.2.nodeOk = true := by
  induction ks generalizing ns with
  | nil => simp [T.okAts, T.pres]
  | cons t r ih =>
    rw [T.okAts, T.pres, Bool.and_eq_true, h t (List.mem_cons_self ..) s (ns.headD []), ih (fun t ht => h t (List.mem_cons_of_mem _ ht)) ns.tail]
    simp only [List.mem_append]
    exact ⟨fun ⟨h1, h2⟩ k hk => hk.elim (h1 k) (h2 k), fun h => ⟨fun k hk => h k (.inl hk), fun k hk => h k (.inr hk)⟩⟩
theorem T.pre_ok : ∀ (t : T) (s : Nat) (nm : List Int), t.okAt (s + 1) = true ↔ ∀ k ∈ t.pre s nm, k.1 < 4 ∧ k.2.2.nodeOk = true := by
  intro t
  induction t using T.ind with
  | h k d ns ks ih =>
    intro s nm
    rw [T.pre, T.okAt, Bool.and_eq_true, Bool.and_eq_true, T.pres_ok ks ih ns (s + 1)]
    simp only [List.mem_cons, forall_eq_or_imp, decide_eq_true_eq]
    exact ⟨fun ⟨h1, h2, h3⟩ => ⟨⟨by omega, h2⟩, h3⟩, fun ⟨⟨h1, h2⟩, h3⟩ => ⟨by omega, h2, h3⟩⟩
theorem treeOk_yes {w0 : World} {t : T} {xs : List (Nd w0)} (h : xs.map Nd.key = t.pre 0 []) (hg : ∀ y ∈ xs, y.good) (hl : xs.length ≤ 40) : treeOk t = true := by
  have e : t.size = xs.length := by rw [← T.pre_len t 0 [], ← h, List.length_map]
  have o : t.okAt (0 + 1) = true := (T.pre_ok t 0 []).2 fun k hk => by
    rw [← h] at hk
    obtain ⟨y, hy, rfl⟩ := List.mem_map.1 hk
    exact hg y hy
  rw [treeOk, show t.okAt 1 = true from o, decide_eq_true (by omega)]
  rfl
theorem treeOk_no {w0 : World} {t : T} {xs : List (Nd w0)} (h : xs.map Nd.key <+: t.pre 0 []) (hb : (∃ y ∈ xs, ¬ y.good) ∨ 40 < xs.length) : treeOk t = false := by
  cases e : treeOk t with
  | false => rfl
  | true =>
    exfalso
    rw [treeOk, Bool.and_eq_true, decide_eq_true_eq] at e
    rcases hb with ⟨y, hy, hn⟩ | hb
    · exact hn ((T.pre_ok t 0 []).1 e.1 y.key (h.subset (List.mem_map.2 ⟨y, hy, rfl⟩)))
    · have := h.length_le
      rw [List.length_map, T.pre_len] at this
      omega

theorem Holds.box {n₀ : Nat} {W : World} {B : Nat} {t : TypeId} {v : Value} (hb : Boxed W B t v) (h1 : t ≠ 59) (h2 : t ≠ 31) (hn : n₀ ≤ B) (u : Value) : Holds n₀ W (W.setCell ⟨B, 0, none⟩ u) := by
  refine ⟨(Below.refl _ _).setCell (p := ⟨B, 0, none⟩) hn u, fun k cs t' r hk ht => ?_⟩
  refine (Below.heap_setCell W ⟨B, 0, none⟩ u k (fun e => ?_)).trans hk
  dsimp only at e
  subst e
  rw [show W.heap[k]? = _ from hb] at hk
  injection hk with hk
  injection hk with _ hk _
  rcases ht with ht | ht
  · exact h1 (hk.trans ht)
  · exact h2 (hk.trans ht)
theorem Holds.put {n₀ : Nat} {W : World} {l : Nat} {r : Loop} (h : W.heap[l]? = some (.loop r)) (hn : n₀ ≤ l) (o : Obj) : Holds n₀ W (W.putObj l o) := by
  refine ⟨(Below.refl n₀ W).grown (grownBy_putObj' W l o) (by have := (Array.getElem?_eq_some_iff.1 h).1; omega) (fun k e => by cases e; omega), fun k cs t' r' hk ht => ?_⟩
  refine (World.putObj_heap_other (fun e => ?_)).trans hk
  subst e
  rw [h] at hk
  cases hk

/-- Between two rounds of TreeOk. -/
def TokI (w : World) (xs : List (Nd w)) (W : World) : Prop := Boxed W (w.heap.size + 1 + 1) 3 (.int .i64 xs.length) ∧ Boxed W (w.heap.size + 1) 4 (.bool false) ∧ (∀ y ∈ xs, y.good) ∧ xs.length ≤ 40 ∧ Below w.heap.size w W
def TokX (w : World) (xs : List (Nd w)) (W : World) : Prop := Boxed W (w.heap.size + 1) 4 (.bool false) ∧ ((∃ y ∈ xs, ¬ y.good) ∨ 40 < xs.length) ∧ Below w.heap.size w W
theorem TokI.step {w : World} {xs : List (Nd w)} {W W' : World} (h : TokI w xs W) (hb : Below W.heap.size W W') : TokI w xs W' :=
  ⟨(hb.block _ h.1.lt).trans h.1, (hb.block _ h.2.1.lt).trans h.2.1, h.2.2.1, h.2.2.2.1, h.2.2.2.2.trans (hb.mono h.2.2.2.2.size)⟩
theorem TokX.step {w : World} {xs : List (Nd w)} {W W' : World} (h : TokX w xs W) (hb : Below W.heap.size W W') : TokX w xs W' :=
  ⟨(hb.block _ h.1.lt).trans h.1, h.2.1, h.2.2.trans (hb.mono h.2.2.size)⟩
theorem boxed_put {W : World} {B l : Nat} {t : TypeId} {v : Value} {r : Loop} (hb : Boxed W B t v) (h : W.heap[l]? = some (.loop r)) (o : Obj) : Boxed (W.putObj l o) B t v :=
  (World.putObj_heap_other (fun e => by
    subst e
    have hb2 : W.heap[B]? = _ := hb
    rw [h] at hb2
    cases hb2)).trans hb
theorem C6.put {W : World} {B l : Nat} {a b c d e f : Value} {r : Loop} (hb : C6 W B a b c d e f) (h : W.heap[l]? = some (.loop r)) (o : Obj) : C6 (W.putObj l o) B a b c d e f :=
  (World.putObj_heap_other (fun e' => by
    subst e'
    have hb2 : W.heap[B]? = _ := hb
    rw [h] at hb2
    cases hb2)).trans hb
theorem TokI.put {w : World} {xs : List (Nd w)} {W : World} {l : Nat} {r : Loop} (h : TokI w xs W) (hl : W.heap[l]? = some (.loop r)) (hn : w.heap.size ≤ l) (o : Obj) : TokI w xs (W.putObj l o) :=
  ⟨boxed_put h.1 hl o, boxed_put h.2.1 hl o, h.2.2.1, h.2.2.2.1, h.2.2.2.2.trans (Holds.put hl hn o).below⟩
theorem TokX.put {w : World} {xs : List (Nd w)} {W : World} {l : Nat} {r : Loop} (h : TokX w xs W) (hl : W.heap[l]? = some (.loop r)) (hn : w.heap.size ≤ l) (o : Obj) : TokX w xs (W.putObj l o) :=
  ⟨boxed_put h.1 hl o, h.2.1, h.2.2.trans (Holds.put hl hn o).below⟩

set_option maxRecDepth 20000 in
set_option maxHeartbeats 1600000 in
theorem implTreeOk (t : T) (hB : t.Byts) (q : Q) (w : World) (hq : TIn w t q) :
    Calls Try.prog 17 #[q.val] w fun e w' => e = .returned (.bool (treeOk t)) ∧ Below w.heap.size w w' := by
  refine (callsIn_wide (n := 6)).1 ?_
  obtain ⟨A, n, c, A', n', c', A'', n'', c'', e, e', e''⟩ := hq.form
  obtain ⟨x, hx⟩ : ∃ x : Nd w, x = ⟨0, [], t, .slice none 0 0, q, ⟨none, 0, rfl, Nat.zero_le _, Nat.zero_le _, fun h => absurd h (by simp [bs])⟩, (fun _ h => by cases h), hq, hB⟩ := ⟨_, rfl⟩
  have hnodes := fun W (hb : Below w.heap.size w W) => nodes t q W (hq.below hb)
  have hqv : q.val = .agg #[.int .i64 q.k, .slice A n c, .slice A' n' c', .slice A'' n'' c''] := by rw [← e, ← e', ← e'']
  obtain ⟨w1, hw1, box, b1, z1⟩ := boxed w q 31
  rw [e, e', e''] at hw1 box
  rw [hqv] at hnodes ⊢
  have HN := hide hnodes
  have y0 := box.c0
  have y1 := box.c1
  have y2 := box.c2
  have y3 := box.c3
  clear hnodes
  refine callsIn_of_wp_marks Try.func17 rfl trivial ?_ rfl
  simp only [Try.ntmps17, List.size_toArray, List.length_cons, List.length_nil, Nat.reduceAdd, Nat.reduceSub, Array.replicate_succ, Array.replicate_zero, List.push_toArray, List.append_toArray, List.nil_append, List.cons_append]
  gi_wp2
  refine ⟨trivial, ?_⟩
  refine (callsIn_wide.2 (HN.out _ ((b1.alloc (by omega) _).alloc (by simp; omega) _))).mono ?_
  rintro e w3 ⟨rfl, rfl⟩
  have bC := (Boxed.new (w1.alloc (.cells #[.bool false] 4)) 3 (.int .i64 0))
  have bR := (Boxed.new w1 4 (.bool false)).alloc (.cells #[.int .i64 0] 3)
  have bT := (box.step ((Below.refl w1.heap.size w1).alloc (Nat.le_refl _) (Obj.cells #[.bool false] 4))).step ((Below.refl _ _).alloc (Nat.le_refl _) (Obj.cells #[.int .i64 0] 3))
  rw [World.size_alloc] at bC
  obtain ⟨w2, hw2⟩ : ∃ w2, (w1.alloc (.cells #[.bool false] 4)).alloc (.cells #[.int .i64 0] 3) = w2 := ⟨_, rfl⟩
  have z2 : w2.heap.size = w.heap.size + 3 := by rw [← hw2]; simp; omega
  have b2 : Below w.heap.size w w2 := by rw [← hw2]; exact (b1.alloc (by omega) _).alloc (by simp; omega) _
  rw [hw2] at bC bR bT ⊢
  clear hw2 y0 y1 y2 y3 hw1 box
  gi_wp2
  obtain ⟨W0, hW0, box0, b0, z0⟩ := boxed w2 ⟨q.k, .slice A n c, .slice A' n' c', .slice A'' n'' c''⟩ 31
  rw [hW0]
  rw [z1] at bC bR
  have bC0 : Boxed W0 (w.heap.size + 1 + 1) 3 (.int .i64 0) := (b0.block _ bC.lt).trans bC
  have bR0 : Boxed W0 (w.heap.size + 1) 4 (.bool false) := (b0.block _ bR.lt).trans bR
  have hw0 : Below w.heap.size w W0 := b2.trans (b0.mono b2.size)
  have hbox : C4 W0 (w.heap.size + 3) 31 (.int .i64 x.q.k) x.q.d x.q.n x.q.c := by
    rw [hx]
    dsimp only
    rw [e, e', e'', ← z2]
    exact box0
  have zz : W0.heap.size = w.heap.size + 4 := by omega
  have hI0 : TokI w [] W0 := ⟨bC0, bR0, (fun y hy => by cases hy), Nat.zero_le _, hw0⟩
  clear hW0 bC bR bT box0 b0 z0 b2 z2 b1 z1 bC0 bR0
  refine rangeF (F := Fence.wide) (T := fun W => ∃ xs : List (Nd w), xs.map Nd.key = t.pre 0 [] ∧ TokI w xs W) (X := fun c W => c = .ret ∧ ∃ xs : List (Nd w), xs.map Nd.key <+: t.pre 0 [] ∧ TokX w xs W)
    rfl (by omega) (gf := 79) (lb := #[.pointer (some ⟨w.heap.size + 3, 0, none⟩)]) rfl trivial (enters_of Try.func79 (by kernel_rfl) rfl) ?hit ?done ?stop
  case hit =>
    intro r W1 hfn htm hps has hbd hrec hb1 hz1
    have hxt : x.t = t := by rw [hx]
    refine callsIn_wide.2 ((nodes1 w x (by rw [hx]) (by rw [hx]) (by rw [hx]) (W0.heap.size + 1) (fun pre W => TokI w pre W ∧ RecAt W W0.heap.size r .ready none) (fun xs W => TokX w xs W ∧ RecAt W W0.heap.size r .done (some .ret))
      (fun pre W W' h hb => ⟨h.1.step hb, h.2.keep (KeepsFrom.below hb)⟩) (fun pre W h => h.1.2.2.1) ?round W1 (w.heap.size + 3) (hbox.step hb1) (hw0.trans (hb1.mono hw0.size)) ⟨hI0.step hb1, hrec⟩).mono ?after)
    case after =>
      rintro e W2 ⟨hv, ⟨xs, h1, h2, h3⟩ | ⟨xs, h1, h2, h3⟩⟩
      · exact ⟨hv, .inl ⟨⟨xs, by rw [h1, hxt], h2⟩, h3⟩⟩
      · exact ⟨hv, .inr ⟨.ret, ⟨rfl, xs, by rw [← hxt]; exact h1, h2⟩, h3⟩⟩
    case round =>
      rintro pre y W ⟨hI, hr⟩ hpre hbw
      obtain ⟨B1, m1, g1, B2, m2, g2, B3, m3, g3, e1, e2, e3⟩ := y.hq.form
      obtain ⟨B4, g4, e4, _⟩ := id y.hv
      have hyv : y.val = .agg #[.int .i64 y.s, .slice B4 (bs y.nm).length g4, .int .i64 y.q.k, .slice B1 m1 g1, .slice B2 m2 g2, .slice B3 m3 g3] := by rw [Nd.val, e1, e2, e3, e4]
      rw [hyv]
      refine YieldAt.mono (oneRound (F := Fence.wide) (m := 0) (M := fun a' Wa => ∃ Bx, w.heap.size + 3 < Bx ∧ C6 Wa Bx (.int .i64 y.s) (.slice B4 (bs y.nm).length g4) (.int .i64 y.q.k) (.slice B1 m1 g1) (.slice B2 m2 g2) (.slice B3 m3 g3) ∧ TokI w pre Wa ∧ Holds w.heap.size W Wa ∧ a' = { tmps := #[.agg #[.int .i64 q.k, .slice A n c, .slice A' n' c', .slice A'' n'' c''], .pointer (some ⟨w.heap.size, 0, none⟩), .pointer (some ⟨w.heap.size + 1, 0, none⟩), .pointer (some ⟨w.heap.size + 1 + 1, 0, none⟩), .pointer (some ⟨Bx, 0, none⟩), .agg #[.int .i64 q.k, .slice A n c, .slice A' n' c', .slice A'' n'' c''], .func (.func 79) #[] #[.pointer (some ⟨w.heap.size + 3, 0, none⟩)], .agg #[.int .i64 y.s, .slice B4 (bs y.nm).length g4, .int .i64 y.q.k, .slice B1 m1 g1, .slice B2 m2 g2, .slice B3 m3 g3], undef, undef, undef, undef, undef, undef, undef, undef, undef, undef, undef, undef, undef, undef, undef], defers := [] })
        (T := fun W' => TokI w (pre ++ [y]) W' ∧ Holds w.heap.size W W') (X := fun c W' => c = .ret ∧ TokX w (pre ++ [y]) W') hfn hr (by rw [hps]; rfl) ?assign ?body) ?post
      case post =>
        rintro e W' (⟨rfl, ⟨h1, h2⟩, h3⟩ | ⟨rfl, c, ⟨rfl, h1⟩, h3⟩)
        · exact .inl ⟨rfl, ⟨h1, h3⟩, h2⟩
        · exact .inr ⟨rfl, h1, h3⟩
      case assign =>
        have bal := boxed6 W (.int .i64 y.s) (.slice B4 (bs y.nm).length g4) (.int .i64 y.q.k) (.slice B1 m1 g1) (.slice B2 m2 g2) (.slice B3 m3 g3)
        have HIr := hide hI
        have hWz : w.heap.size + 3 < W.heap.size := by have := hr.lt; omega
        have HBal := hide bal
        rw [has, htm, hps]
        clear hbd has htm hps hxt hr hpre hbw hI bal hrec hb1 hz1 hI0
        gi_wp2
        obtain ⟨wa', hwa', hc6, hba, hza⟩ := HBal.out
        rw [hwa']
        exact ⟨KeepsFrom.below hba, _, hWz, hc6, HIr.out.step hba, Holds.of_below hba HIr.out.2.2.2.2.size, rfl⟩
      case body =>
        rintro a' Wa ⟨Bx, hBx, hbx, hIa, hHa, rfl⟩ hra Wb hWb
        have hrb : RecAt Wb W0.heap.size r .busy none := by rw [hWb]; exact hra.put .busy none
        have hIb : TokI w pre Wb := by rw [hWb]; exact hIa.put hra.rcd (by omega) _
        have hbxb : C6 Wb Bx (.int .i64 y.s) (.slice B4 (bs y.nm).length g4) (.int .i64 y.q.k) (.slice B1 m1 g1) (.slice B2 m2 g2) (.slice B3 m3 g3) := by rw [hWb]; exact hbx.put hra.rcd _
        have hHb : Holds w.heap.size W Wb := by rw [hWb]; exact hHa.trans (Holds.put hra.rcd (by omega) _)
        have hcall := fun W' (hb : Below w.heap.size w W') => implNodeOk y.t y.ht y.q W' (y.hq.below hb)
        rw [show y.q.val = .agg #[.int .i64 y.q.k, .slice B1 m1 g1, .slice B2 m2 g2, .slice B3 m3 g3] by rw [← e1, ← e2, ← e3]] at hcall
        obtain ⟨L, hL⟩ : ∃ L, pre.length = L := ⟨_, rfl⟩
        obtain ⟨hC, hR, hgood, hL40, hbw2⟩ := hIb
        rw [hL] at hC hL40
        -- the counter is one more
        obtain ⟨Wc, hWc⟩ : ∃ Wc, Wb.setCell ⟨w.heap.size + 1 + 1, 0, none⟩ (.int .i64 ((L : Int) + 1)) = Wc := ⟨_, rfl⟩
        have hC1 : Boxed Wc (w.heap.size + 1 + 1) 3 (.int .i64 ((L : Int) + 1)) := by rw [← hWc]; exact hC.set _
        have hR1 : Boxed Wc (w.heap.size + 1) 4 (.bool false) := by rw [← hWc]; exact hR.other (by omega) _
        have hH1 : Holds w.heap.size Wb Wc := by rw [← hWc]; exact Holds.box hC (by decide) (by decide) (by omega) _
        have hK1 : KeepsFrom W0.heap.size Wb Wc := by rw [← hWc]; exact (KeepsOthers.setCell _ _ _).from _
        have hX1 := hbxb.holds hH1
        have hb1' := hbw2.trans hH1.below
        have hcell := hC.cell
        have hfz := hC.frozen
        have rcell := hR.cell
        have hne1 : Bx ≠ w.heap.size + 1 + 1 := by omega
        have hne2 : Bx ≠ w.heap.size + 1 := by omega
        have rfz := hR.frozen
        have x0 := hbxb.c0
        have x2 := hbxb.c2
        have x3 := hbxb.c3
        have x4 := hbxb.c4
        have x5 := hbxb.c5
        have hRB := hrb.keep hK1
        have hHW := hHb.trans hH1
        have hlen : (pre ++ [y]).length = L + 1 := by rw [List.length_append, hL]; rfl
        have HCALL := hide (hcall Wc hb1')
        obtain ⟨RR, hRR⟩ : ∃ RR : World → Prop, RR = fun W' => KeepsFrom W0.heap.size Wb W' ∧ TokX w (pre ++ [y]) (W'.putObj (W0.heap.size + 1) (.loop { r with state := .done, pending := some .ret })) := ⟨_, rfl⟩
        obtain ⟨NN, hNN⟩ : ∃ NN : World → Prop, NN = fun W' => KeepsFrom W0.heap.size Wb W' ∧ TokI w (pre ++ [y]) (W'.putObj (W0.heap.size + 1) (.loop { r with state := .ready, pending := none })) ∧ Holds w.heap.size W (W'.putObj (W0.heap.size + 1) (.loop { r with state := .ready, pending := none })) := ⟨_, rfl⟩
        have fin : ∀ W', Below Wc.heap.size Wc W' → (¬ y.good ∨ 40 < L + 1) → RR (W'.setCell ⟨w.heap.size + 1, 0, none⟩ (.bool false)) := fun W' hb hbad => by
          have hR2 : Boxed W' (w.heap.size + 1) 4 (.bool false) := (hb.block _ hR1.lt).trans hR1
          have hk2 : KeepsFrom W0.heap.size Wc (W'.setCell ⟨w.heap.size + 1, 0, none⟩ (.bool false)) := (KeepsFrom.below hb).trans ((KeepsOthers.setCell _ _ _).from _)
          have hx : TokX w (pre ++ [y]) (W'.setCell ⟨w.heap.size + 1, 0, none⟩ (.bool false)) := ⟨hR2.set _, hbad.elim (fun h => .inl ⟨y, by simp, h⟩) (fun h => .inr (by omega)), (hb1'.trans (hb.mono hb1'.size)).setCell (p := ⟨w.heap.size + 1, 0, none⟩) (by dsimp only; omega) _⟩
          rw [hRR]
          exact ⟨hK1.trans hk2, hx.put (hRB.keep hk2).rcd (by omega) _⟩
        have norm : ∀ W', Below Wc.heap.size Wc W' → y.good → L + 1 ≤ 40 → NN W' := fun W' hb hg hl => by
          have hk2 : KeepsFrom W0.heap.size Wc W' := KeepsFrom.below hb
          have hi : TokI w (pre ++ [y]) W' := by
            refine ⟨?_, (hb.block _ hR1.lt).trans hR1, fun z hz => ?_, by omega, hb1'.trans (hb.mono hb1'.size)⟩
            · rw [hlen]
              exact (hb.block _ hC1.lt).trans hC1
            · rcases List.mem_append.1 hz with hz | hz
              · exact hgood z hz
              · obtain rfl := List.mem_singleton.1 hz
                exact hg
          have hr2 := (hRB.keep hk2).rcd
          rw [hNN]
          exact ⟨hK1.trans hk2, hi.put hr2 (by omega) _, (hHW.trans (Holds.of_below hb hb1'.size)).trans (Holds.put hr2 (by omega) _)⟩
        refine wpIn_mono (Q := fun e _ W' => (e = .ret ∧ RR W') ∨ (e = .normal ∧ NN W')) ?walk ?weak
        case weak =>
          rintro e a W' (⟨rfl, h⟩ | ⟨rfl, h⟩)
          · rw [hRR] at h
            exact ⟨h.1, rfl, h.2⟩
          · rw [hNN] at h
            exact h
        case walk =>
          have HWC := hide hWc
          have hrc : ∀ W', Below Wc.heap.size Wc W' → Boxed W' (w.heap.size + 1) 4 (.bool false) := fun W' hb => (hb.block _ hR1.lt).trans hR1
          have HRC := hide hrc
          clear hrc
          have FIN := hide fin
          have NORM := hide norm
          have HGD : Hid (y.good ↔ (y.s < 4 ∧ y.t.nodeOk = true)) := hide Iff.rfl
          rw [hbd]
          clear hbd has htm hps hxt hr hpre hbw hI hrec hb1 hz1 hI0 hWb hrb hbxb hHb hbx hIa hHa hra hgood hbw2 hL hC hR hC1 hR1 hH1 hK1 hX1 hb1' hcall hyv e1 e2 e3 e4 hWc fin norm hRR hNN hRB hHW hlen zz hx hqv hbox hw0 HN
          by_cases h40 : (40 : Int) < (L : Int) + 1
          · gi_wp2
            refine ⟨trivial, ?_⟩
            gi_wp2
            rw [HWC.out]
            exact FIN.out Wc (Below.refl _ _) (.inr (by omega))
          · have hL39 : L + 1 ≤ 40 := by omega
            by_cases h4 : (4 : Int) ≤ (y.s : Int)
            · gi_wp2
              refine ⟨trivial, ?_⟩
              gi_wp2
              rw [HWC.out]
              exact FIN.out Wc (Below.refl _ _) (.inl (fun h => by have := (HGD.out.1 h).1; omega))
            · gi_wp2
              refine ⟨trivial, rfl, ?_⟩
              rw [HWC.out]
              refine (CallsIn.inRound _ (callsIn_wide.2 HCALL.out)).mono ?_
              rintro e w5 ⟨rfl, b5⟩
              have r5 := HRC.out w5 b5
              have rc5 := r5.cell
              have rf5 := r5.frozen
              cases hok : y.t.nodeOk with
              | false =>
                have f5 := FIN.out w5 b5 (.inl (fun h => by have := (HGD.out.1 h).2; rw [hok] at this; cases this))
                have F5 := hide f5
                clear f5
                gi_wp2
                exact F5.out
              | true =>
                have f5 := NORM.out w5 b5 (HGD.out.2 ⟨by omega, hok⟩) hL39
                have F5 := hide f5
                clear f5
                gi_wp2
                exact F5.out
  case done =>
    rintro W2 r st pe ⟨xs, h1, hI⟩ hrec W3 hW3 hK
    have hI3 : TokI w xs W3 := by rw [hW3]; exact hI.put hrec.rcd (by omega) _
    obtain ⟨_, hR3, hg3, hl3, hb3⟩ := hI3
    have hok := treeOk_yes h1 hg3 hl3
    have rc := hR3.cell
    have rf := hR3.frozen
    have HK := hide hK
    have HR3 := hide hR3
    have HB3 := hide hb3
    have HOK := hide hok
    clear hW3 hrec hI hK hb3 hg3 hl3 hR3 hok hI0 hx hqv HN hbox hw0
    gi_wp2
    have hk4 : (W3.setCell ⟨w.heap.size + 1, 0, none⟩ (.bool true)).heap[W0.heap.size]? = some (.deferred (some [])) := ((KeepsOthers.setCell W3 ⟨w.heap.size + 1, 0, none⟩ (.bool true)).from 0).same _ _ (Nat.zero_le _) HK.out rfl
    refine ⟨by simp, .inl ⟨_, _, rfl, run_takeDeferred hk4, ?_⟩⟩
    have hs4 := HR3.out.set (.bool true)
    have hc5 := Boxed.cell ((World.putObj_heap_other (o := .deferred none) (by omega : w.heap.size + 1 ≠ W0.heap.size)).trans hs4)
    refine ⟨.bool true, ?_, by rw [HOK.out], (HB3.out.setCell (p := ⟨w.heap.size + 1, 0, none⟩) (by dsimp only; omega) _).trans (belowK_b (w := w) (Nat.le_refl _) _ W0.heap.size _ _ (by omega) hk4 rfl rfl)⟩
    simp [results, Try.f17, go_sem, hc5]
  case stop =>
    rintro W2 r st pe c ⟨rfl, xs, h1, hX⟩ hrec W3 hW3 hK
    have hX3 : TokX w xs W3 := by rw [hW3]; exact hX.put hrec.rcd (by omega) _
    obtain ⟨hR3, hbad, hb3⟩ := hX3
    have hok := treeOk_no h1 (by simpa using hbad)
    have HK := hide hK
    have HR3 := hide hR3
    have HB3 := hide hb3
    have HOK := hide hok
    clear hW3 hrec hX hK hb3 hbad hR3 hok hI0 hx hqv HN hbox hw0
    gi_wp2
    refine ⟨by simp, .inl ⟨_, _, rfl, run_takeDeferred HK.out, ?_⟩⟩
    have hc5 := Boxed.cell ((World.putObj_heap_other (o := .deferred none) (by omega : w.heap.size + 1 ≠ W0.heap.size)).trans HR3.out)
    refine ⟨.bool false, ?_, by rw [HOK.out], HB3.out.trans (belowK_b (w := w) (Nat.le_refl _) _ W0.heap.size _ _ (by omega) HK.out rfl rfl)⟩
    simp [results, Try.f17, go_sem, hc5]

end Go.Proofs.Ytchmppikpeeghaa
