/-
  The program's CountKind.
-/
import Derived.Test.YtchmppikpeeghaaCnt
import Derived.Test.YtchmppikpeeghaaKindS
namespace Go.Proofs.Ytchmppikpeeghaa
open Go.RowKit Go.Shelf
set_option linter.unusedVariables false
attribute [local go_sem] Oper.semAt_some

def T.kd : T → Int
  | .node k _ _ _ => k
theorem TIn.kd {w : World} {t : T} {q : Q} (h : TIn w t q) : q.k = t.kd := by
  obtain ⟨k, d, ns, ks⟩ := t
  rw [TIn] at h
  exact h.1
/-- How many are of the kind kk. -/
def ckx (kk : Int) : List (Nat × List Int × T) → Nat
  | [] => 0
  | k :: r => (if k.2.2.kd = kk then 1 else 0) + ckx kk r
theorem ckx_append (kk : Int) (a b : List (Nat × List Int × T)) : ckx kk (a ++ b) = ckx kk a + ckx kk b := by
  induction a with
  | nil => simp [ckx]
  | cons k a ih => rw [List.cons_append, ckx, ckx, ih]; omega
theorem ckx_le (kk : Int) (a : List (Nat × List Int × T)) : ckx kk a ≤ a.length := by
  induction a with
  | nil => simp [ckx]
  | cons k a ih => rw [ckx, List.length_cons]; split <;> omega
theorem T.pres_ck (kk : Int) (ks : List T) (h : ∀ t ∈ ks, ∀ s nm, ckx kk (t.pre s nm) = t.cnt kk) (ns : List (List Int)) (s : Nat) : ckx kk (T.pres ks ns s) = T.cnts kk ks := by
  induction ks generalizing ns with
  | nil => simp [T.pres, ckx, T.cnts]
  | cons t r ih => rw [T.pres, ckx_append, T.cnts, h t (List.mem_cons_self ..), ih (fun t ht => h t (List.mem_cons_of_mem _ ht))]
theorem T.pre_ck (kk : Int) : ∀ (t : T) (s : Nat) (nm : List Int), ckx kk (t.pre s nm) = t.cnt kk := by
  intro t
  induction t using T.ind with
  | h k d ns ks ih =>
    intro s nm
    rw [T.pre, T.cnt, ckx, T.pres_ck kk ks ih]
    rfl

set_option maxRecDepth 20000 in
set_option maxHeartbeats 1600000 in
theorem implCountKind (t : T) (hB : t.Byts) (kk : Int) (q : Q) (w : World) (hq : TIn w t q) :
    Calls Try.prog 32 #[q.val, .int .i64 kk] w fun e w' => e = .returned (.int .i64 (kindOf t kk)) ∧ Below w.heap.size w w' := by
  refine (callsIn_wide (n := 6)).1 ?_
  obtain ⟨A, n, c, A', n', c', A'', n'', c'', e, e', e''⟩ := hq.form
  obtain ⟨x, hx⟩ : ∃ x : Nd w, x = ⟨0, [], t, .slice none 0 0, q, ⟨none, 0, rfl, Nat.zero_le _, Nat.zero_le _, fun h => absurd h (by simp [bs])⟩, (fun _ h => by cases h), hq, hB⟩ := ⟨_, rfl⟩
  have hnodes := fun W (hb : Below w.heap.size w W) => nodes t q W (hq.below hb)
  have hok := fun W (hb : Below w.heap.size w W) => implTreeOk t hB q W (hq.below hb)
  have hqv : q.val = .agg #[.int .i64 q.k, .slice A n c, .slice A' n' c', .slice A'' n'' c''] := by rw [← e, ← e', ← e'']
  obtain ⟨w1, hw1, box, b1, z1⟩ := boxed w q 31
  rw [e, e', e''] at hw1 box
  rw [hqv] at hnodes hok ⊢
  have HN := hide hnodes
  have bK := Boxed.new w1 3 (.int .i64 kk)
  have ak : Below w1.heap.size w1 (w1.alloc (.cells #[.int .i64 kk] 3)) := (Below.refl _ _).alloc (Nat.le_refl _) _
  have b1k := b1.trans (ak.mono b1.size)
  have box1 := box.step ak
  rw [z1] at bK
  have HOK := hide (hok _ b1k)
  have y0 := box.c0
  have y1 := box.c1
  have y2 := box.c2
  have y3 := box.c3
  have BK := hide bK
  have B1K := hide b1k
  have BX1 := hide box1
  have hzk : (w1.alloc (.cells #[.int .i64 kk] 3)).heap.size = w.heap.size + 2 := by simp; omega
  have HZK := hide hzk
  clear hnodes hok bK ak b1k box1 hzk
  refine callsIn_of_wp_marks Try.func32 rfl trivial ?_ rfl
  simp only [Try.ntmps32, List.size_toArray, List.length_cons, List.length_nil, Nat.reduceAdd, Nat.reduceSub, Array.replicate_succ, Array.replicate_zero, List.push_toArray, List.append_toArray, List.nil_append, List.cons_append]
  gi_wp2
  refine ⟨trivial, ?_⟩
  refine (callsIn_wide.2 HOK.out).mono ?_
  rintro e w2 ⟨rfl, b2⟩
  have box2 := BX1.out.step b2
  have bK2 : Boxed w2 (w.heap.size + 1) 3 (.int .i64 kk) := (b2.block _ BK.out.lt).trans BK.out
  have d2 := B1K.out.trans (b2.mono B1K.out.size)
  have hz2 : w.heap.size + 2 ≤ w2.heap.size := by have := b2.size; rw [HZK.out] at this; exact this
  clear y0 y1 y2 y3
  cases hv : treeOk t with
  | false =>
    have hS : kindOf t kk = -1 := by rw [kindOf, hv]; rfl
    have HS := hide hS
    clear hS hx box2 HN HOK box hw1 hqv
    gi_wp2
    refine ⟨_, results_tmp rfl _ _ _, ?_, d2⟩
    rw [HS.out]
    rfl
  | true =>
    have hS : kindOf t kk = t.cnt kk := by rw [kindOf, hv]; rfl
    have HS := hide hS
    have HV := hide hv
    have hlt : w.heap.size < w2.heap.size := by omega
    have bal : Below w2.heap.size w2 (w2.alloc (.cells #[.int .i64 0] 3)) := (Below.refl _ _).alloc (Nat.le_refl _) _
    have box3 := box2.step bal
    have bK3 : Boxed (w2.alloc (.cells #[.int .i64 0] 3)) (w.heap.size + 1) 3 (.int .i64 kk) := (bal.block _ bK2.lt).trans bK2
    have bC := Boxed.new w2 3 (.int .i64 0)
    have hz3 : (w2.alloc (.cells #[.int .i64 0] 3)).heap.size = w2.heap.size + 1 := by simp
    have d3 := d2.trans (bal.mono d2.size)
    have y0 := box3.c0
    have y1 := box3.c1
    have y2 := box3.c2
    have y3 := box3.c3
    have D3 := hide d3
    have BC := hide bC
    have HZ3 := hide hz3
    have BK3 := hide bK3
    clear hS hv hw1 HOK box hqv box2 box3 bal d3 bC hz3 bK3 bK2
    gi_wp2
    refine ⟨trivial, ?_⟩
    refine (callsIn_wide.2 (HN.out _ D3.out)).mono ?_
    rintro e w4 ⟨rfl, rfl⟩
    clear y0 y1 y2 y3
    have bC := BC.out
    have d3 := D3.out
    have z3 := HZ3.out
    have bK3 := BK3.out
    obtain ⟨w3, hw3⟩ : ∃ w3, w2.alloc (.cells #[.int .i64 0] 3) = w3 := ⟨_, rfl⟩
    rw [hw3] at bC d3 z3 bK3 ⊢
    clear D3 BC HZ3 HN hw3 BK3
    gi_wp2
    obtain ⟨W0, hW0, box0, b0, z0⟩ := boxed w3 ⟨q.k, .slice A n c, .slice A' n' c', .slice A'' n'' c''⟩ 31
    rw [hW0]
    have bC0 : Boxed W0 w2.heap.size 3 (.int .i64 0) := (b0.block _ bC.lt).trans bC
    have bK0 : Boxed W0 (w.heap.size + 1) 3 (.int .i64 kk) := (b0.block _ bK3.lt).trans bK3
    have hw0 : Below w.heap.size w W0 := d3.trans (b0.mono d3.size)
    have hbox : C4 W0 (w2.heap.size + 1) 31 (.int .i64 x.q.k) x.q.d x.q.n x.q.c := by
      rw [hx]
      dsimp only
      rw [e, e', e'', ← z3]
      exact box0
    have zz : W0.heap.size = w2.heap.size + 2 := by omega
    have hI0 : CntI w w2.heap.size (fun xs => (ckx kk (xs.map Nd.key) : Nat)) [] W0 ∧ Boxed W0 (w.heap.size + 1) 3 (.int .i64 kk) := ⟨⟨bC0, (fun y hy => by cases hy), hw0⟩, bK0⟩
    clear hW0 bC bC0 box0 b0 z0 z3 d3 bK3 bK0 BK BX1 B1K HZK
    have hxt : x.t = t := by rw [hx]
    refine nodesLoop w x (by rw [hx]) (by rw [hx]) (by rw [hx]) (gb := w2.heap.size + 1) rfl hbox hw0 rfl (fun pre W => CntI w w2.heap.size (fun xs => (ckx kk (xs.map Nd.key) : Nat)) pre W ∧ Boxed W (w.heap.size + 1) 3 (.int .i64 kk))
      (fun pre W W' h hb => ⟨h.1.step hb, (hb.block _ h.2.lt).trans h.2⟩) (fun pre W l r o h hl hn => ⟨h.1.put hl hn o, boxed_put h.2 hl o⟩) (fun pre W h => h.1.2.1) hI0
      (fun y a' W => ∃ Bx, w2.heap.size + 1 < Bx ∧ C6 W Bx (.int .i64 y.s) y.v (.int .i64 y.q.k) y.q.d y.q.n y.q.c ∧ a' = { tmps := #[.agg #[.int .i64 q.k, .slice A n c, .slice A' n' c', .slice A'' n'' c''], .int .i64 kk, .pointer (some ⟨w.heap.size, 0, none⟩), .pointer (some ⟨w.heap.size + 1, 0, none⟩), .int .i64 0, .pointer (some ⟨w2.heap.size, 0, none⟩), .pointer (some ⟨Bx, 0, none⟩), .agg #[.int .i64 q.k, .slice A n c, .slice A' n' c', .slice A'' n'' c''], .bool true, .bool false, .agg #[.int .i64 q.k, .slice A n c, .slice A' n' c', .slice A'' n'' c''], .func (.func 79) #[] #[.pointer (some ⟨w2.heap.size + 1, 0, none⟩)], y.val, undef, undef, undef, undef, undef, undef, undef, undef], defers := [] }) (fun y a' W l r o ⟨Bx, h1, h2, h3⟩ hl => ⟨Bx, h1, h2.put hl o, h3⟩) ?assign ?body ?done
    case assign =>
      intro l pre y W hI hW _
      obtain ⟨B1, m1, g1, B2, m2, g2, B3, m3, g3, e1, e2, e3⟩ := y.hq.form
      obtain ⟨B4, g4, e4, _⟩ := id y.hv
      have hyv : y.val = .agg #[.int .i64 y.s, .slice B4 (bs y.nm).length g4, .int .i64 y.q.k, .slice B1 m1 g1, .slice B2 m2 g2, .slice B3 m3 g3] := by rw [Nd.val, e1, e2, e3, e4]
      have bal := boxed6 W (.int .i64 y.s) (.slice B4 (bs y.nm).length g4) (.int .i64 y.q.k) (.slice B1 m1 g1) (.slice B2 m2 g2) (.slice B3 m3 g3)
      have HBal := hide bal
      have hWz : w2.heap.size + 1 < W.heap.size := by omega
      rw [e1, e2, e3, e4, hyv]
      clear hI hI0 hbox hw0 hx hxt zz bal hW e1 e2 e3 e4 hyv
      gi_wp2
      obtain ⟨wa', hwa', hc6, hba, hza⟩ := HBal.out
      rw [hwa']
      exact ⟨hba, _, hWz, hc6, rfl⟩
    case body =>
      rintro l pre y a' W hl ⟨⟨hC, hg, hb⟩, hK⟩ ⟨Bx, hBx, hbx, rfl⟩ hbw hpre
      obtain ⟨L, hL⟩ : ∃ L, ckx kk (pre.map Nd.key) = L := ⟨_, rfl⟩
      dsimp only at hC
      obtain ⟨hg2, hl2⟩ := good_of (xs := pre ++ [y]) HV.out (by rw [List.map_append]; exact hxt ▸ hpre)
      have hlen : ckx kk ((pre ++ [y]).map Nd.key) = L + (if y.q.k = kk then 1 else 0) := by rw [List.map_append, ckx_append, hL, TIn.kd y.hq]; simp [ckx, Nd.key]
      have hL41 : L ≤ 40 := by
        have := ckx_le kk (pre.map Nd.key)
        rw [List.length_map] at this
        rw [List.length_append] at hl2
        omega
      rw [hL] at hC
      have hcell := hC.cell
      have hfz := hC.frozen
      have x2 := hbx.c2
      have kc := hK.cell
      have hne : Bx ≠ w2.heap.size := by omega
      have finY : y.q.k = kk → KeepsFrom W0.heap.size W (W.setCell ⟨w2.heap.size, 0, none⟩ (.int .i64 ((L : Int) + 1))) ∧ Holds w.heap.size W (W.setCell ⟨w2.heap.size, 0, none⟩ (.int .i64 ((L : Int) + 1))) ∧ CntI w w2.heap.size (fun xs => (ckx kk (xs.map Nd.key) : Nat)) (pre ++ [y]) (W.setCell ⟨w2.heap.size, 0, none⟩ (.int .i64 ((L : Int) + 1))) ∧ Boxed (W.setCell ⟨w2.heap.size, 0, none⟩ (.int .i64 ((L : Int) + 1))) (w.heap.size + 1) 3 (.int .i64 kk) := fun hkk => by
        rw [if_pos hkk] at hlen
        have hh := Holds.box hC (by decide) (by decide) (Nat.le_of_lt hlt) (.int .i64 ((L : Int) + 1))
        refine ⟨(KeepsOthers.setCell _ _ _).from _, hh, ⟨?_, hg2, hb.trans hh.below⟩, hK.other (by omega) _⟩
        have h3 := hC.set (.int .i64 ((L : Int) + 1))
        show Boxed _ _ _ (.int .i64 (ckx kk ((pre ++ [y]).map Nd.key) : Nat))
        rw [hlen]
        exact h3
      have finN : ¬ y.q.k = kk → KeepsFrom W0.heap.size W W ∧ Holds w.heap.size W W ∧ CntI w w2.heap.size (fun xs => (ckx kk (xs.map Nd.key) : Nat)) (pre ++ [y]) W ∧ Boxed W (w.heap.size + 1) 3 (.int .i64 kk) := fun hkk => by
        rw [if_neg hkk] at hlen
        refine ⟨KeepsFrom.refl _ _, Holds.refl _ _, ⟨?_, hg2, hb⟩, hK⟩
        show Boxed _ _ _ (.int .i64 (ckx kk ((pre ++ [y]).map Nd.key) : Nat))
        rw [hlen]
        exact hC
      have FINY := hide finY
      have FINN := hide finN
      clear finY finN hC hg hb hbw hpre hg2 hlen hL hI0 hbox hw0 hx hxt zz hl2 hK
      by_cases hkk : y.q.k = kk
      · have fy := FINY.out hkk
        have FY := hide fy
        have hbq : (y.q.k == kk) = true := by simpa using hkk
        clear fy FINY FINN hkk
        gi_wp2
        exact FY.out
      · have fy := FINN.out hkk
        have FY := hide fy
        have hbq : (y.q.k == kk) = false := by simpa using hkk
        clear fy FINY FINN hkk
        gi_wp2
        exact FY.out
    case done =>
      rintro xs W hxs ⟨⟨hC, hg, hb⟩, hKb⟩ hK
      have hlen : ckx kk (xs.map Nd.key) = t.cnt kk := by
        have h1 := hxt ▸ hxs
        rw [h1, T.pre_ck]
      dsimp only at hC
      rw [hlen] at hC
      have hcell := hC.cell
      have HB := hide hb
      have HK := hide hK
      have HZ := hide zz
      generalize t.cnt kk = z at *
      clear hlen hb hK hg hC hI0 hbox hw0 hx hxt zz hKb
      gi_wp2
      have zz := HZ.out
      refine ⟨by simp, .inl ⟨_, _, rfl, run_takeDeferred HK.out, ?_⟩⟩
      refine ⟨_, results_tmp rfl _ _ _, ?_, HB.out.trans (belowK_b (w := w) (Nat.le_refl _) W W0.heap.size _ _ (by omega) HK.out rfl rfl)⟩
      rw [HS.out]
      rfl

end Go.Proofs.Ytchmppikpeeghaa
