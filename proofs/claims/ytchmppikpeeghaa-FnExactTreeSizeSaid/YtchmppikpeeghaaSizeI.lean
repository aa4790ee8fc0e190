/-
  The program's TreeSize.
-/
import Derived.Test.YtchmppikpeeghaaCnt
import Derived.Test.YtchmppikpeeghaaSizeT
namespace Go.Proofs.Ytchmppikpeeghaa
open Go.RowKit Go.Shelf
set_option linter.unusedVariables false
attribute [local go_sem] Oper.semAt_some

set_option maxRecDepth 20000 in
set_option maxHeartbeats 1600000 in
theorem implTreeSize (t : T) (hB : t.Byts) (q : Q) (w : World) (hq : TIn w t q) :
    Calls Try.prog 28 #[q.val] w fun e w' => e = .returned (.int .i64 (sizeOf t)) ∧ Below w.heap.size w w' := by
  refine (callsIn_wide (n := 6)).1 ?_
  obtain ⟨A, n, c, A', n', c', A'', n'', c'', e, e', e''⟩ := hq.form
  obtain ⟨x, hx⟩ : ∃ x : Nd w, x = ⟨0, [], t, .slice none 0 0, q, ⟨none, 0, rfl, Nat.zero_le _, Nat.zero_le _, fun h => absurd h (by simp [bs])⟩, (fun _ h => by cases h), hq, hB⟩ := ⟨_, rfl⟩
  have hnodes := fun W (hb : Below w.heap.size w W) => nodes t q W (hq.below hb)
  have hok := fun W (hb : Below w.heap.size w W) => implTreeOk t hB q W (hq.below hb)
  have hqv : q.val = .agg #[.int .i64 q.k, .slice A n c, .slice A' n' c', .slice A'' n'' c''] := by rw [← e, ← e', ← e'']
  obtain ⟨w1, hw1, box, b1, z1⟩ := boxed w q 31
  rw [e, e', e''] at hw1 box
  rw [hqv] at hnodes hok ⊢
  have HN := hide hnodes
  have HOK := hide (hok w1 b1)
  have y0 := box.c0
  have y1 := box.c1
  have y2 := box.c2
  have y3 := box.c3
  clear hnodes hok
  refine callsIn_of_wp_marks Try.func28 rfl trivial ?_ rfl
  simp only [Try.ntmps28, List.size_toArray, List.length_cons, List.length_nil, Nat.reduceAdd, Nat.reduceSub, Array.replicate_succ, Array.replicate_zero, List.push_toArray, List.append_toArray, List.nil_append, List.cons_append]
  gi_wp2
  refine ⟨trivial, ?_⟩
  refine (callsIn_wide.2 HOK.out).mono ?_
  rintro e w2 ⟨rfl, b2⟩
  have box2 := box.step b2
  have d2 := b1.trans (b2.mono b1.size)
  clear y0 y1 y2 y3
  cases hv : treeOk t with
  | false =>
    have hS : sizeOf t = -1 := by rw [sizeOf, hv]; rfl
    have HS := hide hS
    clear hS hx box2 HN HOK box hw1 hqv
    gi_wp2
    refine ⟨_, results_tmp rfl _ _ _, ?_, d2⟩
    rw [HS.out]
    rfl
  | true =>
    have hl : t.size ≤ 40 := by
      have hv2 := hv
      rw [treeOk, Bool.and_eq_true, decide_eq_true_eq] at hv2
      exact hv2.2
    have hS : sizeOf t = t.size := by rw [sizeOf, hv]; rfl
    have HS := hide hS
    have HV := hide hv
    have hlt : w.heap.size < w2.heap.size := by have := b2.size; omega
    have bal : Below w2.heap.size w2 (w2.alloc (.cells #[.int .i64 0] 3)) := (Below.refl _ _).alloc (Nat.le_refl _) _
    have box3 := box2.step bal
    have bC := Boxed.new w2 3 (.int .i64 0)
    have hz3 : (w2.alloc (.cells #[.int .i64 0] 3)).heap.size = w2.heap.size + 1 := by simp
    have d3 := d2.trans (bal.mono d2.size)
    have y0 := box3.c0
    have y1 := box3.c1
    have y2 := box3.c2
    have y3 := box3.c3
    have D3 := hide d3
    have BC := hide bC
    have HZ3 := hide hz3
    clear hS hv hw1 HOK box hqv box2 box3 bal d3 bC hz3
    gi_wp2
    refine ⟨trivial, ?_⟩
    refine (callsIn_wide.2 (HN.out _ D3.out)).mono ?_
    rintro e w4 ⟨rfl, rfl⟩
    clear y0 y1 y2 y3
    have bC := BC.out
    have d3 := D3.out
    have z3 := HZ3.out
    obtain ⟨w3, hw3⟩ : ∃ w3, w2.alloc (.cells #[.int .i64 0] 3) = w3 := ⟨_, rfl⟩
    rw [hw3] at bC d3 z3 ⊢
    clear D3 BC HZ3 HN hw3
    gi_wp2
    obtain ⟨W0, hW0, box0, b0, z0⟩ := boxed w3 ⟨q.k, .slice A n c, .slice A' n' c', .slice A'' n'' c''⟩ 31
    rw [hW0]
    have bC0 : Boxed W0 w2.heap.size 3 (.int .i64 0) := (b0.block _ bC.lt).trans bC
    have hw0 : Below w.heap.size w W0 := d3.trans (b0.mono d3.size)
    have hbox : C4 W0 (w2.heap.size + 1) 31 (.int .i64 x.q.k) x.q.d x.q.n x.q.c := by
      rw [hx]
      dsimp only
      rw [e, e', e'', ← z3]
      exact box0
    have zz : W0.heap.size = w2.heap.size + 2 := by omega
    have hI0 : CntI w w2.heap.size (fun xs => xs.length) [] W0 := ⟨bC0, (fun y hy => by cases hy), hw0⟩
    clear hW0 bC bC0 box0 b0 z0 z3 d3
    have hxt : x.t = t := by rw [hx]
    refine nodesLoop w x (by rw [hx]) (by rw [hx]) (by rw [hx]) (gb := w2.heap.size + 1) rfl hbox hw0 rfl (CntI w w2.heap.size (fun xs => xs.length)) (fun pre W W' h hb => h.step hb) (fun pre W l r o h hl hn => h.put hl hn o) (fun pre W h => h.2.1) hI0
      (fun y a' _ => a' = { tmps := #[.agg #[.int .i64 q.k, .slice A n c, .slice A' n' c', .slice A'' n'' c''], .pointer (some ⟨w.heap.size, 0, none⟩), .int .i64 0, .pointer (some ⟨w2.heap.size, 0, none⟩), .agg #[.int .i64 q.k, .slice A n c, .slice A' n' c', .slice A'' n'' c''], .bool true, .bool false, .agg #[.int .i64 q.k, .slice A n c, .slice A' n' c', .slice A'' n'' c''], .func (.func 79) #[] #[.pointer (some ⟨w2.heap.size + 1, 0, none⟩)], y.val, undef, undef, undef], defers := [] }) (fun y a' W l r o h _ => h) ?assign ?body ?done
    case assign =>
      intro l pre y W _ _ _
      generalize y.val = yv
      gi_wp2
      refine ⟨Below.refl _ _, ?_⟩
      simp
    case body =>
      rintro l pre y a' W hl ⟨hC, hg, hb⟩ rfl hbw hpre
      obtain ⟨L, hL⟩ : ∃ L, pre.length = L := ⟨_, rfl⟩
      dsimp only at hC
      obtain ⟨hg2, hl2⟩ := good_of (xs := pre ++ [y]) HV.out (by rw [List.map_append]; exact hxt ▸ hpre)
      have hlen : (pre ++ [y]).length = L + 1 := by rw [List.length_append, hL]; rfl
      rw [hL] at hC
      rw [hlen] at hl2
      have hcell := hC.cell
      have hfz := hC.frozen
      have fin : KeepsFrom W0.heap.size W (W.setCell ⟨w2.heap.size, 0, none⟩ (.int .i64 ((L : Int) + 1))) ∧ Holds w.heap.size W (W.setCell ⟨w2.heap.size, 0, none⟩ (.int .i64 ((L : Int) + 1))) ∧ CntI w w2.heap.size (fun xs => xs.length) (pre ++ [y]) (W.setCell ⟨w2.heap.size, 0, none⟩ (.int .i64 ((L : Int) + 1))) := by
        have hh := Holds.box hC (by decide) (by decide) (Nat.le_of_lt hlt) (.int .i64 ((L : Int) + 1))
        refine ⟨(KeepsOthers.setCell _ _ _).from _, hh, ?_, hg2, hb.trans hh.below⟩
        have h3 := hC.set (.int .i64 ((L : Int) + 1))
        show Boxed _ _ _ (.int .i64 ((pre ++ [y]).length : Nat))
        rw [hlen]
        exact h3
      have FIN := hide fin
      clear fin hC hg hb hbw hpre hg2 hlen hL hI0 hbox hw0 hx hxt zz
      gi_wp2
      exact FIN.out
    case done =>
      rintro xs W hxs ⟨hC, hg, hb⟩ hK
      have hlen := len_of (hxt ▸ hxs : xs.map Nd.key = t.pre 0 [])
      dsimp only at hC
      rw [hlen] at hC
      have hcell := hC.cell
      have HB := hide hb
      have HK := hide hK
      have HZ := hide zz
      generalize t.size = z at *
      clear hlen hb hK hg hC hI0 hbox hw0 hx hxt zz
      gi_wp2
      have zz := HZ.out
      refine ⟨by simp, .inl ⟨_, _, rfl, run_takeDeferred HK.out, ?_⟩⟩
      refine ⟨_, results_tmp rfl _ _ _, ?_, HB.out.trans (belowK_b (w := w) (Nat.le_refl _) W W0.heap.size _ _ (by omega) HK.out rfl rfl)⟩
      rw [HS.out]
      rfl

end Go.Proofs.Ytchmppikpeeghaa
