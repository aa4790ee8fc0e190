/-
  Parts of the proof: AppG, DataI.
-/
import Derived.Test.YtigklnokgmcifaaDoorMo8
import Derived.Test.YtigklnokgmcifaaDoorMo37

/-
  appendNum and appendText turn nothing but rows of bytes.
-/
namespace Go.Proofs.YtigklnokgmcifaaDoor
open Go.RowKit Go.Shelf
set_option linter.unusedVariables false

/-- Nothing below lo turns, no row of another type than bytes, nothing that is no row. -/
structure Grows (lo : Nat) (w w' : World) : Prop where
  below : Below lo w w'
  rows : ∀ (k : Nat) (cs : Array Value) (t : TypeId) (r : Nat × Nat), w.heap[k]? = some (Obj.cells cs t r) → t ≠ 5 → w'.heap[k]? = some (Obj.cells cs t r)
  others : KeepsOthers w w'
theorem Grows.refl (lo : Nat) (w : World) : Grows lo w w := ⟨Below.refl _ _, fun _ _ _ _ h _ => h, KeepsOthers.refl _⟩
theorem Grows.trans {lo : Nat} {a b c : World} (h : Grows lo a b) (k : Grows lo b c) : Grows lo a c :=
  ⟨h.below.trans k.below, fun i cs t r hi ht => k.rows i cs t r (h.rows i cs t r hi ht) ht, h.others.trans k.others⟩
theorem Grows.of_below {lo : Nat} {w w' : World} (h : Below w.heap.size w w') (hl : lo ≤ w.heap.size) : Grows lo w w' :=
  ⟨h.mono hl, fun k cs t r hk _ => (h.block k (Array.getElem?_eq_some_iff.1 hk).1).trans hk, ⟨h.size, fun k o hk _ => (h.block k (Array.getElem?_eq_some_iff.1 hk).1).trans hk⟩⟩
theorem Grows.alloc {lo : Nat} {a w : World} (h : Grows lo a w) (hl : lo ≤ w.heap.size) (o : Obj) : Grows lo a (w.alloc o) := h.trans (Grows.of_below ((Below.refl _ _).alloc (Nat.le_refl _) o) hl)
theorem Grows.row {lo n : Nat} {a w w' : World} {v : Value} {xs : List Value} (h : Grows lo a w) (hl : lo ≤ w.heap.size) (hr : w.ownsRow lo 5 1 v n xs) (hg : w.grownBy w' v.ownBlock) : Grows lo a w' := by
  refine h.trans ⟨(Below.refl lo w).grown hg hl fun g hgk => (hr.lt g hgk).1, fun k cs t r hk ht => ?_, KeepsOthers.of_grownBy hg fun j o ej hj => ?_⟩
  · refine (hg.block k (Array.getElem?_eq_some_iff.1 hk).1 (fun e => ?_)).trans hk
    rcases hr.2 with ⟨rfl, _⟩ | ⟨g, cap, cur, rfl, _, hgb, _⟩
    · simp [Value.ownBlock] at e
    · obtain rfl : k = g := by simpa [Value.ownBlock] using e
      rw [hgb] at hk
      injection hk with hk
      injection hk with _ hk _
      exact ht hk.symm
  · rcases hr.2 with ⟨rfl, _⟩ | ⟨g, cap, cur, rfl, _, hgb, _⟩
    · simp [Value.ownBlock] at ej
    · obtain rfl : g = j := by simpa [Value.ownBlock] using ej
      rw [hgb] at hj; cases hj; rfl
/-- The same, and rows of slices of bytes may turn, too. -/
structure Steps (lo : Nat) (w w' : World) : Prop where
  below : Below lo w w'
  rows : ∀ (k : Nat) (cs : Array Value) (t : TypeId) (r : Nat × Nat), w.heap[k]? = some (Obj.cells cs t r) → t ≠ 5 → t ≠ 22 → w'.heap[k]? = some (Obj.cells cs t r)
  others : KeepsOthers w w'
theorem Steps.refl (lo : Nat) (w : World) : Steps lo w w := ⟨Below.refl _ _, fun _ _ _ _ h _ _ => h, KeepsOthers.refl _⟩
theorem Steps.trans {lo : Nat} {a b c : World} (h : Steps lo a b) (k : Steps lo b c) : Steps lo a c :=
  ⟨h.below.trans k.below, fun i cs t r hi ht hu => k.rows i cs t r (h.rows i cs t r hi ht hu) ht hu, h.others.trans k.others⟩
theorem Steps.holds {lo : Nat} {w w' : World} (h : Steps lo w w') : Holds lo w w' := ⟨h.below, fun k cs t r hk ht => h.rows k cs t r hk (by rcases ht with rfl | rfl <;> decide) (by rcases ht with rfl | rfl <;> decide)⟩
/-- A longer row is stored into the box. -/
theorem stored_step {lo c : Nat} {W w1 : World} {v v' : Value} {l' : List Int} (hv : Boxed W c 22 v) (hc : lo ≤ c) (hr' : w1.ownsRow lo 5 1 v' l'.length (bs l')) (hg : Grows lo W w1) :
    ∃ W2, w1.setCell ⟨c, 0, none⟩ v' = W2 ∧ w1.cell? ⟨c, 0, none⟩ = some v ∧ w1.frozen? ⟨c, 0, none⟩ = false ∧ Boxed W2 c 22 v' ∧ W2.ownsRow lo 5 1 v' l'.length (bs l') ∧ Steps lo W W2 := by
  have hv1 : Boxed w1 c 22 v := hg.rows _ _ _ _ hv (by decide)
  refine ⟨_, rfl, hv1.cell, hv1.frozen, hv1.set v', hr'.kept (grownBy_setCell' w1 c v') (.inr (hv1.not_row (by decide) hr').symm), hg.below.setCell (p := ⟨c, 0, none⟩) hc v', fun k cs t r hk ht hu => ?_, hg.others.trans (KeepsOthers.setCell _ _ _)⟩
  refine (Below.heap_setCell w1 ⟨c, 0, none⟩ v' k (fun e => ?_)).trans (hg.rows k cs t r hk ht)
  dsimp only at e
  subst e
  have hb2 : W.heap[k]? = _ := hv
  rw [hk] at hb2
  injection hb2 with hb2
  injection hb2 with _ hb2 _
  exact hu hb2

set_option maxHeartbeats 400000 in
theorem appendNumOutG (l : List Int) (v : Value) (n : Int) (lo : Nat) (w : World) (hv : w.ownsRow lo 5 1 v l.length (bs l)) (hn : n < 0 ∨ 2147483647 < n) :
    Calls Tryd.prog 116 #[v, .int .i64 n] w fun e w' => ∃ v', e = .returned v' ∧ w'.ownsRow lo 5 1 v' l.length (bs l) ∧ Grows lo w w' := by
  have HV := hide hv
  clear hv
  by_cases h0 : n < 0
  all_goals
    go_enter Tryd.func116, Tryd.ntmps116
    go_wp2
    go_ret
    exact ⟨_, rfl, HV.out, Grows.refl _ _⟩

set_option maxRecDepth 20000 in
set_option maxHeartbeats 800000 in
theorem appendNumInG (l : List Int) (v : Value) (n : Nat) (lo : Nat) (w : World) (hv : w.ownsRow lo 5 1 v l.length (bs l)) (hlo : lo ≤ w.heap.size) (hl : l.length ≤ 1099511627776) (hn : n ≤ 2147483647) :
    Calls Tryd.prog 116 #[v, .int .i64 n] w fun e w' => ∃ v', e = .returned v' ∧ w'.ownsRow lo 5 1 v' (l ++ vint n).length (bs (l ++ vint n)) ∧ Grows lo w w' := by
  obtain ⟨i0, hi0, hz0, hz1, hz2⟩ := info_parts u8info
  have HV := hide hv
  clear hv
  go_enter Tryd.func116, Tryd.ntmps116
  go_wp2
  go_loopw [0, 1] (fun v t wr => ∃ (m : Nat) (xs : List Int), m ≤ 2147483647 ∧ t = .int .i64 m ∧ wr.ownsRow lo 5 1 v xs.length (bs xs) ∧ Hid (xs ++ vint m = l ++ vint n) ∧ Grows lo w wr)
    (fun _ t _ => (intOf t).toNat)
  case atStart => exact ⟨n, l, hn, rfl, HV.out, hide rfl, Grows.refl _ _⟩
  case round =>
    obtain ⟨m, xs, hm, rfl, hown, hx, hbel⟩ := hrel
    have hroom := vint_room hn hx.out
    have hlo2 : lo ≤ wr.heap.size := Nat.le_trans hlo hbel.below.size
    have hor : bits .or .u8 ((m : Int) % 256) 128 = (m : Int) % 128 + 128 := by rw [or128 (by omega) (by omega)]; omega
    have HO := hide hor
    clear hor

    by_cases h128 : m < 128
    · go_wp2_with (at_builtin; refine wpList_app _ rfl (.tmp 22) (.tmp 25) _ rfl lo 5 i0 _ 1 Tryd.underlying22 hi0 hz0 hz1 hz2 rfl _ _ _ rfl (hown.alloc _) _ _ rfl (rd_one _ _ _) (bs_one _) (by rw [bs_length]; simp only [maxLen, List.length_singleton]; omega) (by rw [bs_length]; simp only [List.length_singleton]; omega) (by simp; omega) ?_; intro v3 w3 own3 gr3)
      go_ret
      refine ⟨_, rfl, own_len (own_cells own3 ?_) (by rw [bs_length, ← hx.out, vint_last h128]; simp), ?_⟩
      · rw [← bs_append, ← hx.out, vint_last h128]
      · exact Grows.row (hbel.alloc hlo2 _) (by simp; omega) (hown.alloc _) gr3
    · go_wp2_with (at_builtin; refine wpList_app _ rfl (.tmp 16) (.tmp 20) _ rfl lo 5 i0 _ 1 Tryd.underlying22 hi0 hz0 hz1 hz2 rfl _ _ _ rfl (hown.alloc _) _ _ rfl (rd_one _ _ _) (bs_one _) (by rw [bs_length]; simp only [maxLen, List.length_singleton]; omega) (by rw [bs_length]; simp only [List.length_singleton]; omega) (by simp; omega) ?_; intro v3 w3 own3 gr3)
      go_roundw
      case rel => exact ⟨m / 128, xs ++ [(m : Int) % 128 + 128], by omega, by go_num, own_len (own_cells own3 (by rw [HO.out, bs_append])) (by simp [bs]), hide (vint_step h128 hx.out), Grows.row (hbel.alloc hlo2 _) (by simp; omega) (hown.alloc _) gr3⟩
      case measure => simp [intOf]; omega

theorem appendNumG (l : List Int) (v : Value) (n : Int) (lo : Nat) (w : World) (hv : w.ownsRow lo 5 1 v l.length (bs l)) (hlo : lo ≤ w.heap.size) (hl : l.length ≤ 1099511627776) :
    Calls Tryd.prog 116 #[v, .int .i64 n] w fun e w' => ∃ v', e = .returned v' ∧ w'.ownsRow lo 5 1 v' (putNum l n).length (bs (putNum l n)) ∧ Grows lo w w' := by
  by_cases h : n < 0 ∨ 2147483647 < n
  · rw [putNum, if_pos h]
    exact appendNumOutG l v n lo w hv h
  · rw [putNum, if_neg h]
    obtain ⟨k, rfl⟩ := Int.eq_ofNat_of_zero_le (by omega : 0 ≤ n)
    exact appendNumInG l v k lo w hv hlo hl (by omega)

set_option maxRecDepth 20000 in
set_option maxHeartbeats 800000 in
theorem appendTextG (l : List Int) (v : Value) (t : List Int) (u : Value) (lo : Nat) (w w0 : World) (hv : w.ownsRow lo 5 1 v l.length (bs l)) (hu : Rd w0 u (bs t)) (h0 : w0.heap.size = lo) (hb : Below lo w0 w) (hl : l.length ≤ 1099511627776) :
    Calls Tryd.prog 105 #[v, u] w fun e w' => ∃ v', e = .returned v' ∧ w'.ownsRow lo 5 1 v' (putText l t).length (bs (putText l t)) ∧ Grows lo w w' := by
  obtain ⟨i0, hi0, hz0, hz1, hz2⟩ := info_parts u8info
  obtain ⟨A', c', hU, hc1', hc2', _⟩ := id hu
  rw [bs_length] at *
  unfold maxLen at hc2'
  subst hU
  have HV := hide hv
  have HU := hide hu
  clear hv hu
  have hlo : lo ≤ w.heap.size := by rw [← h0]; exact hb.size
  have HB := hide hb
  have H0 := hide h0
  clear hb h0
  by_cases h4 : 400 < t.length
  · rw [putText, if_pos h4]
    go_enter Tryd.func105, Tryd.ntmps105
    go_wp2
    go_ret
    exact ⟨_, rfl, HV.out, Grows.refl _ _⟩
  · rw [putText, if_neg h4]
    obtain ⟨P, hP⟩ : ∃ P, putNum l t.length = P := ⟨_, rfl⟩
    have hroom : P.length ≤ l.length + 5 := by rw [← hP]; exact putNum_len l t.length
    rw [hP]
    have HP := hide hP
    clear hP
    go_enter Tryd.func105, Tryd.ntmps105
    go_wp2_with fail
    refine (appendNumG l _ t.length lo w HV.out hlo (by omega)).mono ?_
    rintro e w1 ⟨v1, rfl, o1, b1⟩
    rw [HP.out] at o1
    have hu1 : Rd w1 (.slice A' t.length c') (bs t) := HU.out.below (by rw [H0.out]; exact HB.out.trans b1.below)
    have hlo1 : lo ≤ w1.heap.size := Nat.le_trans hlo b1.below.size
    go_wp2_with (at_builtin; refine wpList_app _ rfl (.tmp 12) (.tmp 13) _ rfl lo 5 i0 _ 1 Tryd.underlying22 hi0 hz0 hz1 hz2 rfl _ _ _ rfl o1 _ (bs t) rfl hu1 (bs_one t) (by rw [bs_length]; simp only [maxLen]; omega) (by rw [bs_length]; omega) hlo1 ?_; intro v2 w2 own2 gr2)
    go_ret
    exact ⟨_, rfl, own_len (own_cells own2 (bs_append _ _).symm) (by simp [bs]), Grows.row b1 hlo1 o1 gr2⟩

end Go.Proofs.YtigklnokgmcifaaDoor


/-
  The program's TreeData.
-/
namespace Go.Proofs.YtigklnokgmcifaaDoor
open Go.RowKit Go.Shelf
set_option linter.unusedVariables false
attribute [local go_sem] Oper.semAt_some

set_option maxRecDepth 20000 in
set_option maxHeartbeats 1600000 in
theorem implTreeData (t : T) (hB : t.Byts) (hbk : t.bulk ≤ 1048576) (q : Q) (w : World) (hq : TIn w t q) :
    Calls Tryd.prog 69 #[q.val] w fun e w' => ∃ v, e = .returned v ∧ Own 5 w.heap.size w'.heap.size w' v (bs (datOf t)) ∧ Below w.heap.size w w' := by
  refine (callsIn_wide (n := 6)).1 ?_
  obtain ⟨i0, hi0, hz0', hz1', hz2'⟩ := info_parts u8info
  obtain ⟨A, n, c, A', n', c', A'', n'', c'', e, e', e''⟩ := hq.form
  obtain ⟨x, hx⟩ : ∃ x : Nd w, x = ⟨0, [], t, .slice none 0 0, q, ⟨none, 0, rfl, Nat.zero_le _, Nat.zero_le _, fun h => absurd h (by simp [bs])⟩, (fun _ h => by cases h), hq, hB⟩ := ⟨_, rfl⟩
  have hnodes := fun W (hb : Below w.heap.size w W) => nodes t q W (hq.below hb)
  have hok := fun W (hb : Below w.heap.size w W) => implTreeOk t hB q W (hq.below hb)
  have hqv : q.val = .agg #[.int .i64 q.k, .slice A n c, .slice A' n' c', .slice A'' n'' c''] := by rw [← e, ← e', ← e'']
  obtain ⟨w1, hw1, box, b1, z1⟩ := boxed w q 33
  rw [e, e', e''] at hw1 box
  rw [hqv] at hnodes hok ⊢
  have HN := hide hnodes
  have HOK := hide (hok w1 b1)
  have y0 := box.c0
  have y1 := box.c1
  have y2 := box.c2
  have y3 := box.c3
  clear hnodes hok
  refine callsIn_of_wp_marks Tryd.func69 rfl trivial ?_ rfl
  simp only [Tryd.ntmps69, List.size_toArray, List.length_cons, List.length_nil, Nat.reduceAdd, Nat.reduceSub, Array.replicate_succ, Array.replicate_zero, List.push_toArray, List.append_toArray, List.nil_append, List.cons_append]
  gi_wp2
  refine ⟨trivial, ?_⟩
  refine (callsIn_wide.2 HOK.out).mono ?_
  rintro e w2 ⟨rfl, b2⟩
  have box2 := box.step b2
  have d2 := b1.trans (b2.mono b1.size)
  clear y0 y1 y2 y3
  cases hv : treeOk t with
  | false =>
    have hS : datOf t = [] := by rw [datOf, hv]; rfl
    have HS := hide hS
    clear hS hx box2 HN HOK box hw1 hqv
    gi_wp2
    refine ⟨_, results_tmp rfl _ _ _, _, rfl, ?_, d2⟩
    rw [HS.out]
    exact ⟨World.ownsRow_nil _ _ _ _, Nat.le_refl _, fun g hg => by simp [Value.ownBlock] at hg⟩
  | true =>
    have hS : datOf t = t.dat := by rw [datOf, hv]; rfl
    have hdb := t.dat_bulk
    have HS := hide hS
    have HV := hide hv
    have hlt : w.heap.size < w2.heap.size := by have := b2.size; omega
    have bal : Below w2.heap.size w2 (w2.alloc (.cells #[.slice none 0 0] 22)) := (Below.refl _ _).alloc (Nat.le_refl _) _
    have box3 := box2.step bal
    have bC := Boxed.new w2 22 (.slice none 0 0)
    have hz3 : (w2.alloc (.cells #[.slice none 0 0] 22)).heap.size = w2.heap.size + 1 := by simp
    have d3 := d2.trans (bal.mono d2.size)
    have y0 := box3.c0
    have y1 := box3.c1
    have y2 := box3.c2
    have y3 := box3.c3
    have D3 := hide d3
    have BC := hide bC
    have HZ3 := hide hz3
    clear hS hv hw1 HOK box hqv box2 box3 bal d3 bC hz3
    gi_wp2
    refine ⟨trivial, ?_⟩
    refine (callsIn_wide.2 (HN.out _ D3.out)).mono ?_
    rintro e w4 ⟨rfl, rfl⟩
    clear y0 y1 y2 y3
    have bC := BC.out
    have d3 := D3.out
    have z3 := HZ3.out
    obtain ⟨w3, hw3⟩ : ∃ w3, w2.alloc (.cells #[.slice none 0 0] 22) = w3 := ⟨_, rfl⟩
    rw [hw3] at bC d3 z3 ⊢
    clear D3 BC HZ3 HN hw3
    gi_wp2
    obtain ⟨W0, hW0, box0, b0, z0⟩ := boxed w3 ⟨q.k, .slice A n c, .slice A' n' c', .slice A'' n'' c''⟩ 33
    rw [hW0]
    have bC0 : Boxed W0 w2.heap.size 22 (.slice none 0 0) := (b0.block _ bC.lt).trans bC
    have hw0 : Below w.heap.size w W0 := d3.trans (b0.mono d3.size)
    have hbox : C4 W0 (w2.heap.size + 1) 33 (.int .i64 x.q.k) x.q.d x.q.n x.q.c := by
      rw [hx]
      dsimp only
      rw [e, e', e'', ← z3]
      exact box0
    have zz : W0.heap.size = w2.heap.size + 2 := by omega
    have hI0 : DatI w w2.heap.size (fun xs => dkx (xs.map Nd.key)) [] W0 := ⟨⟨_, bC0, World.ownsRow_nil _ _ _ _⟩, (fun y hy => by cases hy), hw0⟩
    clear hW0 bC bC0 box0 b0 z0 z3 d3
    have hxt : x.t = t := by rw [hx]
    refine nodesLoop w x (by rw [hx]) (by rw [hx]) (by rw [hx]) (gb := w2.heap.size + 1) rfl hbox hw0 rfl (DatI w w2.heap.size (fun xs => dkx (xs.map Nd.key)))
      (fun pre W W' h hb => h.step hb) (fun pre W l r o h hl hn => h.put hl hn o) (fun pre W h => h.2.1) hI0
      (fun y a' W => ∃ Bx, w2.heap.size + 1 < Bx ∧ C6 W Bx (.int .i64 y.s) y.v (.int .i64 y.q.k) y.q.d y.q.n y.q.c ∧ a' = { tmps := #[.agg #[.int .i64 q.k, .slice A n c, .slice A' n' c', .slice A'' n'' c''], .pointer (some ⟨w.heap.size, 0, none⟩), .slice none 0 0, .pointer (some ⟨w2.heap.size, 0, none⟩), .pointer (some ⟨Bx, 0, none⟩), .agg #[.int .i64 q.k, .slice A n c, .slice A' n' c', .slice A'' n'' c''], .bool true, .bool false, .agg #[.int .i64 q.k, .slice A n c, .slice A' n' c', .slice A'' n'' c''], .func (.func 96) #[] #[.pointer (some ⟨w2.heap.size + 1, 0, none⟩)], y.val, undef, undef, undef, undef, undef, undef], defers := [] }) (fun y a' W l r o ⟨Bx, h1, h2, h3⟩ hl => ⟨Bx, h1, h2.put hl o, h3⟩) ?assign ?body ?done
    case assign =>
      intro l pre y W hI hW _
      obtain ⟨B1, m1, g1, B2, m2, g2, B3, m3, g3, e1, e2, e3⟩ := y.hq.form
      obtain ⟨B4, g4, e4, _⟩ := id y.hv
      have hyv : y.val = .agg #[.int .i64 y.s, .slice B4 (bs y.nm).length g4, .int .i64 y.q.k, .slice B1 m1 g1, .slice B2 m2 g2, .slice B3 m3 g3] := by rw [Nd.val, e1, e2, e3, e4]
      have bal := boxed6 W (.int .i64 y.s) (.slice B4 (bs y.nm).length g4) (.int .i64 y.q.k) (.slice B1 m1 g1) (.slice B2 m2 g2) (.slice B3 m3 g3)
      have HBal := hide bal
      have hWz : w2.heap.size + 1 < W.heap.size := by omega
      rw [e1, e2, e3, e4, hyv]
      clear hI hI0 hbox hw0 hx hxt zz bal hW e1 e2 e3 e4 hyv
      gi_wp2
      obtain ⟨wa', hwa', hc6, hba, hza⟩ := HBal.out
      rw [hwa']
      exact ⟨hba, _, hWz, hc6, rfl⟩
    case body =>
      rintro l pre y a' W hl ⟨⟨v, hC, hR⟩, hg, hb⟩ ⟨Bx, hBx, hbx, rfl⟩ hbw hpre
      obtain ⟨hg2, hl2⟩ := good_of (xs := pre ++ [y]) HV.out (by rw [List.map_append]; exact hxt ▸ hpre)
      have hnext : dkx ((pre ++ [y]).map Nd.key) = dkx (pre.map Nd.key) ++ y.t.data := by rw [List.map_append, dkx_append]; simp [dkx, Nd.key]
      have hroom : (dkx (pre.map Nd.key)).length + y.t.data.length ≤ 1048576 := by
        have h1 := dkx_prefix (hxt ▸ hpre)
        rw [dkx_append, T.pre_dk, List.length_append] at h1
        simp only [dkx, Nd.key, List.append_nil] at h1
        omega
      dsimp only at hR
      have hdt := (TIn.dt y.hq).below hb
      have hlo : w.heap.size ≤ W.heap.size := hb.size
      have hcell := hC.cell
      have x3 := hbx.c3
      have fin := fun (v' : Value) (w1 : World) (own' : w1.ownsRow w.heap.size 5 1 v' ((dkx (pre.map Nd.key)).length + (bs y.t.data).length) (bs (dkx (pre.map Nd.key)) ++ bs y.t.data)) (hgr : W.grownBy w1 v.ownBlock) => by
        obtain ⟨h1, h2, h3, h4, h5⟩ := held_stored hC hR hlo (Nat.le_of_lt hlt) own' hgr
        have hr2 : (w1.setCell ⟨w2.heap.size, 0, none⟩ v').ownsRow w.heap.size 5 1 v' (dkx ((pre ++ [y]).map Nd.key)).length (bs (dkx ((pre ++ [y]).map Nd.key))) := by
          rw [hnext, bs_append, List.length_append]
          exact own_len h3 (by rw [bs_length])
        exact (⟨h1, h4.from W0.heap.size, h5, ⟨⟨v', h2, hr2⟩, hg2, hb.trans h5.below⟩⟩ : Boxed w1 w2.heap.size 22 v ∧ KeepsFrom W0.heap.size W (w1.setCell ⟨w2.heap.size, 0, none⟩ v') ∧ Holds w.heap.size W (w1.setCell ⟨w2.heap.size, 0, none⟩ v') ∧ DatI w w2.heap.size (fun xs => dkx (xs.map Nd.key)) (pre ++ [y]) (w1.setCell ⟨w2.heap.size, 0, none⟩ v'))
      have HR := hide hR
      have HD := hide hdt
      have HLO := hide hlo
      have FIN := hide fin
      clear fin hC hg hb hbw hpre hg2 hnext hI0 hbox hw0 hx hxt zz hl2 hR hdt hlo
      generalize (dkx (pre.map Nd.key)) = D at *
      generalize y.t.data = E at *
      gi_wp2_with (gi_at_builtin; refine wpListIn_app _ rfl (.tmp 11) (.tmp 14) _ rfl w.heap.size 5 i0 _ 1 Tryd.underlying22 hi0 hz0' hz1' hz2' rfl _ _ _ rfl HR.out _ (bs E) rfl HD.out (bs_one E) (by rw [bs_length]; simp only [maxLen]; omega) (by rw [bs_length]; omega) HLO.out ?_; intro v1 w1' own1 gr1; obtain ⟨A9, c9, hv9, -, -⟩ := own_slice own1; subst hv9; have FF := hide (FIN.out _ _ own1 gr1); have hcell9 := FF.out.1.cell; have hfz9 := FF.out.1.frozen)
      exact FF.out.2
    case done =>
      rintro xs W hxs ⟨⟨v, hC, hR⟩, hg, hb⟩ hK
      have hlen : dkx (xs.map Nd.key) = t.dat := by
        have h1 := hxt ▸ hxs
        rw [h1, T.pre_dk]
      dsimp only at hR
      rw [hlen] at hR
      have hcell := hC.cell
      have HB := hide hb
      have HK := hide hK
      have HZ := hide zz
      have HR := hide hR
      clear hlen hb hK hg hC hI0 hbox hw0 hx hxt zz hR
      gi_wp2
      have zz := HZ.out
      refine ⟨by simp, .inl ⟨_, _, rfl, run_takeDeferred HK.out, ?_⟩⟩
      refine ⟨_, results_tmp rfl _ _ _, v, rfl, ?_, HB.out.trans (belowK_b (w := w) (Nat.le_refl _) W W0.heap.size _ _ (by omega) HK.out rfl rfl)⟩
      rw [HS.out]
      exact Own.of (ownsRow_putObj HR.out _ HK.out rfl) (by rw [bs_length])

end Go.Proofs.YtigklnokgmcifaaDoor
