/-
  Parts of the proof: Holds, NodeB, ScanS, SortI, TreeEq.
-/
import Derived.Test.YtigklnokgmcifaaDoorMo12
import Derived.Test.YtigklnokgmcifaaDoorMo11
import Derived.Test.YtigklnokgmcifaaDoorMo8
import Derived.Test.YtigklnokgmcifaaDoorMo15
import Derived.StillTailTactics
import Derived.IntWalk

/-
  What a round keeps.
-/
namespace Go.Proofs.YtigklnokgmcifaaDoor
open Go.RowKit
set_option linter.unusedVariables false

/-- What a round keeps: what lay below n₀, and every block of a node or a tree. -/
structure Holds (n₀ : Nat) (W W' : World) : Prop where
  below : Below n₀ W W'
  rows : ∀ (k : Nat) (cs : Array Value) (t : TypeId) (r : Nat × Nat), W.heap[k]? = some (Obj.cells cs t r) → (t = 91 ∨ t = 33) → W'.heap[k]? = some (Obj.cells cs t r)
theorem Holds.refl (n₀ : Nat) (W : World) : Holds n₀ W W := ⟨Below.refl _ _, fun _ _ _ _ h _ => h⟩
theorem Holds.trans {n₀ : Nat} {A B C : World} (h : Holds n₀ A B) (k : Holds n₀ B C) : Holds n₀ A C := ⟨h.below.trans k.below, fun i cs t r hi ht => k.rows i cs t r (h.rows i cs t r hi ht) ht⟩
theorem Holds.of_below {n₀ : Nat} {W W' : World} (h : Below W.heap.size W W') (hn : n₀ ≤ W.heap.size) : Holds n₀ W W' := ⟨h.mono hn, fun k cs t r hk _ => (h.block k (Array.getElem?_eq_some_iff.1 hk).1).trans hk⟩

theorem Holds.size {n₀ : Nat} {W W' : World} (h : Holds n₀ W W') : W.heap.size ≤ W'.heap.size := h.below.size
theorem C4.holds {n₀ : Nat} {w w' : World} {g : Nat} {a b c d : Value} (h : C4 w g 33 a b c d) (hh : Holds n₀ w w') : C4 w' g 33 a b c d := hh.rows g _ _ _ h (.inr rfl)

/-- An append to an owned row of bytes keeps every node and every tree. -/
theorem holds_row {w w' : World} {lo size n : Nat} {v : Value} {xs : List Value} (h : w.ownsRow lo 5 size v n xs) (hg : w.grownBy w' v.ownBlock) (hl : lo ≤ w.heap.size) : Holds lo w w' := by
  refine ⟨(Below.refl lo w).grown hg hl fun g hgk => (h.lt g hgk).1, fun k cs t r hk ht => ?_⟩
  refine (hg.block k (Array.getElem?_eq_some_iff.1 hk).1 (fun e => ?_)).trans hk
  rcases h.2 with ⟨rfl, _⟩ | ⟨g, cap, cur, rfl, _, hgb, _⟩
  · simp [Value.ownBlock] at e
  · obtain rfl : k = g := by simpa [Value.ownBlock] using e
    rw [hgb] at hk
    injection hk with hk
    injection hk with _ hk _
    rcases ht with ht | ht
    · exact absurd (hk.trans ht) (by decide)
    · exact absurd (hk.trans ht) (by decide)

end Go.Proofs.YtigklnokgmcifaaDoor


/-
  A tree's value in a block of its own; its rows' lengths.
-/
namespace Go.Proofs.YtigklnokgmcifaaDoor
open Go.RowKit
set_option linter.unusedVariables false

/-- A tree's value, put into a block of its own. -/
theorem boxed (w : World) (q : Q) (t : TypeId) : ∃ wa, w.alloc (.cells #[.int .i64 q.k, q.d, q.n, q.c] t) = wa ∧ C4 wa w.heap.size t (.int .i64 q.k) q.d q.n q.c ∧ Below w.heap.size w wa ∧ wa.heap.size = w.heap.size + 1 :=
  ⟨_, rfl, heap_alloc_new w _, (Below.refl _ _).alloc (Nat.le_refl _) _, by simp⟩
theorem TIn.lens {w : World} {k : Int} {d : List Int} {ns : List (List Int)} {ks : List T} {q : Q} (h : TIn w (.node k d ns ks) q) :
    ∃ A c A' c' A'' c'', q.d = .slice A d.length c ∧ d.length ≤ c ∧ c ≤ maxLen ∧ q.n = .slice A' ns.length c' ∧ ns.length ≤ c' ∧ c' ≤ maxLen ∧ q.c = .slice A'' ks.length c'' ∧ ks.length ≤ c'' ∧ c'' ≤ maxLen := by
  rw [TIn] at h
  obtain ⟨_, ⟨A, c, e, h1, h2, _⟩, ⟨vs, ⟨A', c', e', h1', h2', _⟩, hl, _⟩, qs, ⟨A'', c'', e'', h1'', h2'', _⟩, hq⟩ := h
  rw [bs_length] at e h1
  rw [hl] at e' h1'
  rw [hq.len] at e'' h1''
  exact ⟨A, c, A', c', A'', c'', e, h1, h2, e', h1', h2', e'', h1'', h2''⟩

end Go.Proofs.YtigklnokgmcifaaDoor


/-
  The model's Scan.
-/
namespace Go.Proofs.YtigklnokgmcifaaDoor
open Go.RowKit
set_option linter.unusedVariables false

/-- What Scan answers. -/
def scanL (b : List Int) (ns : List (List Int)) : List (List Int) := ns.filter fun n => contL b n
def scanOf (b : List Int) (ns : List (List Int)) : List (List Int) := if ascP nameOk ns then scanL b ns else []
theorem scanL_next {b : List Int} {ns : List (List Int)} {j : Nat} (h : j < ns.length) : scanL b (ns.take (j + 1)) = if contL b (ns.getD j []) then scanL b (ns.take j) ++ [ns.getD j []] else scanL b (ns.take j) := by
  have e : ns.getD j [] = ns[j] := by simp [List.getD, List.getElem?_eq_getElem h]
  rw [e, scanL, List.take_succ_eq_append_getElem h, List.filter_append]
  by_cases hc : contL b ns[j] = true
  · rw [if_pos hc]; simp [scanL, hc]
  · rw [if_neg hc]; simp [scanL, hc]
theorem scanL_le (b : List Int) (ns : List (List Int)) : (scanL b ns).length ≤ ns.length := List.length_filter_le _ _
theorem scanL_mem {b : List Int} {ns : List (List Int)} {n : List Int} (h : n ∈ scanL b ns) : n ∈ ns := (List.mem_filter.1 h).1
theorem scanL_sum (b : List Int) (ns : List (List Int)) : sumLen (scanL b ns) ≤ sumLen ns := by
  induction ns with
  | nil => simp [scanL, sumLen]
  | cons n r ih =>
    rw [scanL, List.filter_cons]
    split
    · rw [sumLen, sumLen]
      have : sumLen (List.filter (fun n => contL b n) r) ≤ sumLen r := ih
      omega
    · rw [sumLen]
      have : sumLen (List.filter (fun n => contL b n) r) ≤ sumLen r := ih
      omega

/-- A row of slices that were there before: each reads as a text. -/
structure AlU (lo : Nat) (w0 w : World) (v : Value) (ns : List (List Int)) (us : List Value) : Prop where
  len : us.length = ns.length
  row : w.ownsRow lo 22 1 v us.length us
  each : ∀ i u, us[i]? = some u → Rd w0 u (bs (ns.getD i []))
def AlS (lo : Nat) (w0 w : World) (v : Value) (ns : List (List Int)) : Prop := ∃ us, AlU lo w0 w v ns us
theorem AlS.rd {lo : Nat} {w0 w : World} {v : Value} {ns : List (List Int)} (h : AlS lo w0 w v ns) (hb : Below w0.heap.size w0 w) : RdN w v ns := h.elim fun us h =>
  ⟨us, own_rdV h.row rfl, h.len, fun i u hu => (h.each i u hu).below hb⟩
theorem AlS.nil (lo : Nat) (w0 w : World) : AlS lo w0 w (.slice none 0 0) [] := ⟨[], rfl, World.ownsRow_nil _ _ _ _, fun i u hu => by simp at hu⟩
theorem AlU.snoc {lo : Nat} {w0 W W3 : World} {v v' u : Value} {ns : List (List Int)} {n : List Int} {us : List Value} (h : AlU lo w0 W v ns us) (hu : Rd w0 u (bs n)) (own' : W3.ownsRow lo 22 1 v' (us.length + 1) (us ++ [u])) : AlU lo w0 W3 v' (ns ++ [n]) (us ++ [u]) := by
  refine ⟨by simp [h.len], own_len own' (by simp), fun i x hx => ?_⟩
  rcases Nat.lt_or_ge i us.length with hi | hi
  · rw [List.getElem?_append_left hi] at hx
    rw [getD_app (by rw [← h.len]; exact hi)]
    exact h.each i x hx
  · have hi2 : i = us.length := by
      have := (List.getElem?_eq_some_iff.1 hx).1
      simp at this
      omega
    subst hi2
    rw [List.getElem?_append_right (Nat.le_refl _), Nat.sub_self] at hx
    obtain rfl : u = x := by simpa using hx
    rw [h.len, getD_last]
    exact hu
theorem AlU.step {lo : Nat} {w0 w w' : World} {v : Value} {ns : List (List Int)} {us : List Value} (h : AlU lo w0 w v ns us) (hb : Below w.heap.size w w') : AlU lo w0 w' v ns us := ⟨h.len, own_step h.row hb, h.each⟩

theorem asc_names {ns : List (List Int)} (h : ascP nameOk ns = true) : ∀ n ∈ ns, n.length = 16 := by
  intro n hn
  obtain ⟨m, hm, rfl⟩ := List.getElem_of_mem hn
  have := ascP_at.1 h m hm
  rw [nameP, Bool.and_eq_true] at this
  have h1 := this.1
  simp [List.getD, List.getElem?_eq_getElem hm] at h1
  rw [nameOk, Bool.and_eq_true, decide_eq_true_eq] at h1
  exact h1.1

end Go.Proofs.YtigklnokgmcifaaDoor


/-
  The program's Sorted.
-/
namespace Go.Proofs.YtigklnokgmcifaaDoor
open Go.RowKit
set_option linter.unusedVariables false

set_option maxHeartbeats 400000 in
theorem implSorted (ns : List (List Int)) (hB : BytN ns) (v : Value) (w : World) (hv : RdN w v ns) (hl : ∀ n ∈ ns, n.length ≤ 1048576) :
    Calls Tryd.prog 101 #[v] w fun e w' => e = .returned (.bool (ascP nameOk ns)) ∧ Below w.heap.size w w' := by
  have h := ascendN ns hB v w hv hl
  go_enter Tryd.func101, Tryd.ntmps101
  go_wp2_with fail
  refine h.mono ?_
  rintro e w1 ⟨rfl, b1⟩
  go_wp2_with fail
  go_ret
  exact ⟨rfl, b1⟩

end Go.Proofs.YtigklnokgmcifaaDoor


/-
  The laws' comparison of trees.
-/
namespace Go.Proofs.YtigklnokgmcifaaDoor
open Go.RowKit
set_option linter.unusedVariables false

set_option maxRecDepth 20000 in
set_option maxHeartbeats 1600000 in
theorem eqNames (ns : List (List Int)) (v1 v2 : Value) (w : World) (h1 : RdN w v1 ns) (h2 : RdN w v2 ns) :
    Calls Tryd.prog 42 #[v1, v2] w fun e w' => e = .returned (.bool true) ∧ Below w.heap.size w w' := by
  obtain ⟨vs, hv, hvl, hvs⟩ := h1
  obtain ⟨us, hu, hul, hus⟩ := h2
  obtain ⟨A, c, rfl, hc1, hc2, hrd⟩ := hv
  obtain ⟨A', c', rfl, hc1', hc2', hrd'⟩ := hu
  obtain ⟨n, hn⟩ : ∃ n, ns.length = n := ⟨_, rfl⟩
  rw [hn] at hvl hul
  rw [hvl] at hc1 hrd ⊢
  rw [hul] at hc1' hrd' ⊢
  unfold maxLen at hc2 hc2'
  have hlen : ((n : Int) != (n : Int)) = false := by simp
  have HVL := hide hvl
  have HUL := hide hul
  have HRD := hide hrd
  have HRD' := hide hrd'
  have HVS := hide hvs
  have HUS := hide hus
  clear hn hvl hul hrd hrd' hvs hus
  go_enter Tryd.func42, Tryd.ntmps42
  go_wp2
  go_loopw [5] (fun i wr => ∃ k : Nat, k ≤ n ∧ i = .int .i64 k ∧ Below w.heap.size w wr) (fun i _ => n - (intOf i).toNat)
  case atStart => exact ⟨0, Nat.zero_le _, rfl, Below.refl _ _⟩
  case round =>
    obtain ⟨k, hk, rfl, hbel⟩ := hrel
    by_cases hlt : k < n
    · obtain ⟨b, off, rfl, hblt, hcell⟩ := HRD.out (by omega)
      obtain ⟨b', off', rfl, hblt', hcell'⟩ := HRD'.out (by omega)
      obtain ⟨x, hx⟩ : ∃ x, vs[k]? = some x := ⟨_, List.getElem?_eq_getElem (by rw [HVL.out]; exact hlt)⟩
      obtain ⟨y, hy⟩ : ∃ y, us[k]? = some y := ⟨_, List.getElem?_eq_getElem (by rw [HUL.out]; exact hlt)⟩
      have q1 := (hbel.cell (p := ⟨b, off + k, none⟩) hblt).trans (hcell k x hx)
      have q2 := (hbel.cell (p := ⟨b', off' + k, none⟩) hblt').trans (hcell' k y hy)
      have hcall := fun W (hb : Below wr.heap.size wr W) => eqBytes (ns.getD k []) x y W (((HVS.out k x hx).below hbel).below hb) (((HUS.out k y hy).below hbel).below hb)
      have HB := hide hbel
      have HCALL := hide hcall
      have k0 : (0 : Int) ≤ (k : Int) := by omega
      have k1 : (k : Int) < (n : Int) := by omega
      have k2 : (k : Int).toNat = k := by omega
      clear hbel hcell hcell' hx hy hcall
      go_wp2
      go_still_tail 8, (by kernel_rfl)
      change wpList _ _ _ _ _ wr.drew
      clear k2
      have hd : Below wr.heap.size wr wr.drew := (Below.refl _ _).drew
      have hc := HCALL.out _ hd
      have HB2 : Hid (Below w.heap.size w wr.drew) := hide HB.out.drew
      generalize wr.drew = wu at *
      clear HCALL hd q1 q2
      go_wp2_with fail
      refine hc.mono ?_
      rintro e w2 ⟨rfl, b2⟩
      go_wp2_with fail
      go_roundw
      case rel => exact ⟨k + 1, by omega, by go_num, HB2.out.trans (b2.mono HB2.out.size)⟩
      case measure => simp [intOf]; omega
    · obtain rfl : k = n := by omega
      have HB := hide hbel
      clear hbel
      go_wp2
      go_ret
      exact ⟨rfl, HB.out⟩

def EqAt (t : T) : Prop := ∀ (q1 q2 : Q) (w : World), TIn w t q1 → TIn w t q2 →
  Calls Tryd.prog 41 #[q1.val, q2.val] w fun e w' => e = .returned (.bool true) ∧ Below w.heap.size w w'

/-- A tree's cells read in a region of which only the tail writes. -/
theorem wpStill_load_mid {P : Program} {ops : Array Oper} {rest : List Oper} {o : Oper} {a : Act} {w : World} {K : Act → Prop} (hgd : o.guard = none) (ty : TypeId) (x : Operand) (ho : o.op = .load ty x)
    (b off : Nat) (hx : a.eval x = .pointer (some ⟨b, off, none⟩)) (cs : List Value) (d : TypeDesc) (hc : w.rangeAt b off cs)
    (hu : P.underlying ty = some d) (hd : d.isRow = true) (hi : (P.info? ty).map (·.size) = some cs.length)
    (h : wpStill P ops w K rest (a.put o.dst (.agg cs.toArray))) : wpStill P ops w K (o :: rest) a := by
  refine wpStill_step fun L hL => ?_
  have hw : Region.wanted o (yielded ops a.tmps) = true := by simp [Region.wanted, hgd]
  rw [if_pos hw]
  unfold Oper.still execOp
  simp only [ho, hx, Instr.loadAt, Instr.sureAddr, Sem.run_bind, Sem.run_pure, Result.andThen_ok, run_loadVar_mid w b off ty cs d hc hu hd hi, Oper.stillUpon]
  exact ⟨trivial, hL _ h⟩

set_option maxRecDepth 20000 in
set_option maxHeartbeats 1600000 in
theorem eqKids (ks : List T) (hks : ∀ t ∈ ks, EqAt t) (v1 v2 : Value) (q1 q2 : List Q) (w : World) (h1 : Rd4 w v1 q1) (h2 : Rd4 w v2 q2) (t1 : TIns w ks q1) (t2 : TIns w ks q2) :
    Calls Tryd.prog 73 #[v1, v2] w fun e w' => e = .returned (.bool true) ∧ Below w.heap.size w w' := by
  have hvl := t1.len
  have hul := t2.len
  obtain ⟨A, c, rfl, hc1, hc2, hrd⟩ := h1
  obtain ⟨A', c', rfl, hc1', hc2', hrd'⟩ := h2
  obtain ⟨n, hn⟩ : ∃ n, ks.length = n := ⟨_, rfl⟩
  rw [hn] at hvl hul
  rw [hvl] at hc1 hrd ⊢
  rw [hul] at hc1' hrd' ⊢
  unfold maxLen at hc2 hc2'
  have hlen : ((n : Int) != (n : Int)) = false := by simp
  have HN := hide hn
  have HRD := hide hrd
  have HRD' := hide hrd'
  have HT1 := hide t1
  have HT2 := hide t2
  have HKS := hide hks
  clear hn hvl hul hrd hrd' t1 t2 hks
  go_enter Tryd.func73, Tryd.ntmps73
  go_wp2
  go_loopw [5] (fun i wr => ∃ k : Nat, k ≤ n ∧ i = .int .i64 k ∧ Below w.heap.size w wr) (fun i _ => n - (intOf i).toNat)
  case atStart => exact ⟨0, Nat.zero_le _, rfl, Below.refl _ _⟩
  case round =>
    obtain ⟨k, hk, rfl, hbel⟩ := hrel
    by_cases hlt : k < n
    · obtain ⟨b, off, rfl, hblt, hcell⟩ := HRD.out (by omega)
      obtain ⟨b', off', rfl, hblt', hcell'⟩ := HRD'.out (by omega)
      have hkl : k < ks.length := by rw [HN.out]; exact hlt
      obtain ⟨x, hx, hxt⟩ := HT1.out.at_ k ks[k] (List.getElem?_eq_getElem hkl)
      obtain ⟨y, hy, hyt⟩ := HT2.out.at_ k ks[k] (List.getElem?_eq_getElem hkl)
      obtain ⟨e0, e1, e2, e3⟩ := hcell k x hx
      obtain ⟨g0, g1, g2, g3⟩ := hcell' k y hy
      have r1 := Rd4.range ((hbel.cell (p := ⟨b, off + 4 * k, none⟩) hblt).trans e0) ((hbel.cell (p := ⟨b, off + (4 * k + 1), none⟩) hblt).trans e1) ((hbel.cell (p := ⟨b, off + (4 * k + 2), none⟩) hblt).trans e2) ((hbel.cell (p := ⟨b, off + (4 * k + 3), none⟩) hblt).trans e3)
      have r2 := Rd4.range ((hbel.cell (p := ⟨b', off' + 4 * k, none⟩) hblt').trans g0) ((hbel.cell (p := ⟨b', off' + (4 * k + 1), none⟩) hblt').trans g1) ((hbel.cell (p := ⟨b', off' + (4 * k + 2), none⟩) hblt').trans g2) ((hbel.cell (p := ⟨b', off' + (4 * k + 3), none⟩) hblt').trans g3)
      have hcall := fun W (hb : Below wr.heap.size wr W) => HKS.out ks[k] (List.getElem_mem hkl) x y W ((hxt.below hbel).below hb) ((hyt.below hbel).below hb)
      have HB := hide hbel
      have HCALL := hide hcall
      have HR1 := hide r1
      have HR2 := hide r2
      have k0 : (0 : Int) ≤ (k : Int) := by omega
      have k1 : (k : Int) < (n : Int) := by omega
      have k2 : (k : Int).toNat = k := by omega
      clear hbel hcell hcell' hx hy hxt hyt hcall r1 r2 e0 e1 e2 e3 g0 g1 g2 g3
      go_wp2
      go_still_tail 8, (by kernel_rfl)
      refine wpStill_load_mid rfl _ _ rfl b (off + k * 4) rfl _ _ HR1.out Tryd.underlying33 rfl (by kernel_rfl) ?_
      repeat still_step
      refine wpStill_load_mid rfl _ _ rfl b' (off' + k * 4) rfl _ _ HR2.out Tryd.underlying33 rfl (by kernel_rfl) ?_
      refine wpStill_nil ?_
      change wpList _ _ _ _ _ wr.drew
      clear k2
      have hd : Below wr.heap.size wr wr.drew := (Below.refl _ _).drew
      have hc := HCALL.out _ hd
      have HB2 : Hid (Below w.heap.size w wr.drew) := hide HB.out.drew
      clear HR1 HR2
      generalize wr.drew = wu at *
      clear HCALL hd
      go_wp2_with fail
      refine hc.mono ?_
      rintro e w2 ⟨rfl, b2⟩
      go_wp2_with fail
      go_roundw
      case rel => exact ⟨k + 1, by omega, by go_num, HB2.out.trans (b2.mono HB2.out.size)⟩
      case measure => simp [intOf]; omega
    · obtain rfl : k = n := by omega
      have HB := hide hbel
      clear hbel
      go_wp2
      go_ret
      exact ⟨rfl, HB.out⟩

set_option maxRecDepth 20000 in
set_option maxHeartbeats 1600000 in
theorem eqTree : ∀ t : T, EqAt t := by
  intro t
  induction t using T.ind with
  | h k d ns ks ih =>
    intro q1 q2 w h1 h2
    rw [TIn] at h1 h2
    obtain ⟨e1, d1, n1, s1, k1, c1⟩ := h1
    obtain ⟨e2, d2, n2, s2, k2, c2⟩ := h2
    have hkk : (q1.k != q2.k) = false := by rw [e1, e2]; simp
    have below : ∀ W (hb : Below w.heap.size w W) (qs : List Q), TIns w ks qs → TIns W ks qs := fun W hb qs hq => TIns.mk hq.len fun i t q h6 h7 => by
      obtain ⟨q', h8, h9⟩ := hq.at_ i t h6
      obtain rfl : q' = q := Option.some.inj (h8.symm.trans h7)
      exact h9.below hb
    have a1 := fun W (hb : Below w.heap.size w W) => eqBytes d q1.d q2.d W (d1.below hb) (d2.below hb)
    have a2 := fun W (hb : Below w.heap.size w W) => eqNames ns q1.n q2.n W (n1.below hb) (n2.below hb)
    have a3 := fun W (hb : Below w.heap.size w W) => eqKids ks ih q1.c q2.c s1 s2 W (k1.below hb) (k2.below hb) (below W hb s1 c1) (below W hb s2 c2)
    have A1 := hide a1
    have A2 := hide a2
    have A3 := hide a3
    obtain ⟨wa, hwa⟩ : ∃ wa, (w.alloc (.cells #[.int .i64 q1.k, q1.d, q1.n, q1.c] 33)).alloc (.cells #[.int .i64 q2.k, q2.d, q2.n, q2.c] 33) = wa := ⟨_, rfl⟩
    have ba : Below w.heap.size w wa := by rw [← hwa]; exact ((Below.refl _ _).alloc (Nat.le_refl _) _).alloc (by simp) _
    have aA : C4 wa w.heap.size 33 (.int .i64 q1.k) q1.d q1.n q1.c := by
      rw [← hwa]
      have h : C4 (w.alloc (.cells #[.int .i64 q1.k, q1.d, q1.n, q1.c] 33)) w.heap.size 33 (.int .i64 q1.k) q1.d q1.n q1.c := heap_alloc_new w _
      exact h.step ((Below.refl _ _).alloc (Nat.le_refl _) _)
    have aB : C4 wa (w.heap.size + 1) 33 (.int .i64 q2.k) q2.d q2.n q2.c := by
      rw [← hwa]
      have h := heap_alloc_new (w.alloc (.cells #[.int .i64 q1.k, q1.d, q1.n, q1.c] 33)) (.cells #[.int .i64 q2.k, q2.d, q2.n, q2.c] 33)
      rw [World.size_alloc] at h
      exact h
    clear a1 a2 a3 below e1 e2 d1 d2 n1 n2 k1 k2 c1 c2 ih
    have x0 := aA.c0
    have y0 := aB.c0
    have x1 := aA.c1
    have y1 := aB.c1
    go_enter Tryd.func41, Tryd.ntmps41
    go_wp2_with fail
    refine (A1.out wa ba).mono ?_
    rintro e w1 ⟨rfl, b1⟩
    have aA1 := aA.step b1
    have aB1 := aB.step b1
    have d1 := ba.trans (b1.mono ba.size)
    clear x0 y0 x1 y1
    have x2 := aA1.c2
    have y2 := aB1.c2
    go_wp2_with fail
    refine (A2.out w1 d1).mono ?_
    rintro e w2 ⟨rfl, b2⟩
    have aA2 := aA1.step b2
    have aB2 := aB1.step b2
    have d2 := d1.trans (b2.mono d1.size)
    clear x2 y2
    have x3 := aA2.c3
    have y3 := aB2.c3
    go_wp2_with fail
    refine (A3.out w2 d2).mono ?_
    rintro e w3 ⟨rfl, b3⟩
    have d3 := d2.trans (b3.mono d2.size)
    go_wp2_with fail
    go_ret
    exact ⟨rfl, d3⟩

end Go.Proofs.YtigklnokgmcifaaDoor
