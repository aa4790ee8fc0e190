/-
  The laws' comparison of trees.
-/
import Derived.Test.YtchmppikpeeghaaTreeTo3
import Derived.StillTailTactics
import Derived.IntWalk
namespace Go.Proofs.Ytchmppikpeeghaa
open Go.RowKit
set_option linter.unusedVariables false

set_option maxRecDepth 20000 in
set_option maxHeartbeats 1600000 in
theorem eqNames (ns : List (List Int)) (v1 v2 : Value) (w : World) (h1 : RdN w v1 ns) (h2 : RdN w v2 ns) :
    Calls Try.prog 35 #[v1, v2] w fun e w' => e = .returned (.bool true) ∧ Below w.heap.size w w' := by
  obtain ⟨vs, hv, hvl, hvs⟩ := h1
  obtain ⟨us, hu, hul, hus⟩ := h2
  obtain ⟨A, c, rfl, hc1, hc2, hrd⟩ := hv
  obtain ⟨A', c', rfl, hc1', hc2', hrd'⟩ := hu
  obtain ⟨n, hn⟩ : ∃ n, ns.length = n := ⟨_, rfl⟩
  rw [hn] at hvl hul
  rw [hvl] at hc1 hrd ⊢
  rw [hul] at hc1' hrd' ⊢
  unfold maxLen at hc2 hc2'
  have hlen : ((n : Int) != (n : Int)) = false := by simp
  have HVL := hide hvl
  have HUL := hide hul
  have HRD := hide hrd
  have HRD' := hide hrd'
  have HVS := hide hvs
  have HUS := hide hus
  clear hn hvl hul hrd hrd' hvs hus
  go_enter Try.func35, Try.ntmps35
  go_wp2
  go_loopw [5] (fun i wr => ∃ k : Nat, k ≤ n ∧ i = .int .i64 k ∧ Below w.heap.size w wr) (fun i _ => n - (intOf i).toNat)
  case atStart => exact ⟨0, Nat.zero_le _, rfl, Below.refl _ _⟩
  case round =>
    obtain ⟨k, hk, rfl, hbel⟩ := hrel
    by_cases hlt : k < n
    · obtain ⟨b, off, rfl, hblt, hcell⟩ := HRD.out (by omega)
      obtain ⟨b', off', rfl, hblt', hcell'⟩ := HRD'.out (by omega)
      obtain ⟨x, hx⟩ : ∃ x, vs[k]? = some x := ⟨_, List.getElem?_eq_getElem (by rw [HVL.out]; exact hlt)⟩
      obtain ⟨y, hy⟩ : ∃ y, us[k]? = some y := ⟨_, List.getElem?_eq_getElem (by rw [HUL.out]; exact hlt)⟩
      have q1 := (hbel.cell (p := ⟨b, off + k, none⟩) hblt).trans (hcell k x hx)
      have q2 := (hbel.cell (p := ⟨b', off' + k, none⟩) hblt').trans (hcell' k y hy)
      have hcall := fun W (hb : Below wr.heap.size wr W) => eqBytes (ns.getD k []) x y W (((HVS.out k x hx).below hbel).below hb) (((HUS.out k y hy).below hbel).below hb)
      have HB := hide hbel
      have HCALL := hide hcall
      have k0 : (0 : Int) ≤ (k : Int) := by omega
      have k1 : (k : Int) < (n : Int) := by omega
      have k2 : (k : Int).toNat = k := by omega
      clear hbel hcell hcell' hx hy hcall
      go_wp2
      go_still_tail 8, (by kernel_rfl)
      change wpList _ _ _ _ _ wr.drew
      clear k2
      have hd : Below wr.heap.size wr wr.drew := (Below.refl _ _).drew
      have hc := HCALL.out _ hd
      have HB2 : Hid (Below w.heap.size w wr.drew) := hide HB.out.drew
      generalize wr.drew = wu at *
      clear HCALL hd q1 q2
      go_wp2_with fail
      refine hc.mono ?_
      rintro e w2 ⟨rfl, b2⟩
      go_wp2_with fail
      go_roundw
      case rel => exact ⟨k + 1, by omega, by go_num, HB2.out.trans (b2.mono HB2.out.size)⟩
      case measure => simp [intOf]; omega
    · obtain rfl : k = n := by omega
      have HB := hide hbel
      clear hbel
      go_wp2
      go_ret
      exact ⟨rfl, HB.out⟩

def EqAt (t : T) : Prop := ∀ (q1 q2 : Q) (w : World), TIn w t q1 → TIn w t q2 →
  Calls Try.prog 18 #[q1.val, q2.val] w fun e w' => e = .returned (.bool true) ∧ Below w.heap.size w w'

/-- A tree's cells read in a region of which only the tail writes. -/
theorem wpStill_load_mid {P : Program} {ops : Array Oper} {rest : List Oper} {o : Oper} {a : Act} {w : World} {K : Act → Prop} (hgd : o.guard = none) (ty : TypeId) (x : Operand) (ho : o.op = .load ty x)
    (b off : Nat) (hx : a.eval x = .pointer (some ⟨b, off, none⟩)) (cs : List Value) (d : TypeDesc) (hc : w.rangeAt b off cs)
    (hu : P.underlying ty = some d) (hd : d.isRow = true) (hi : (P.info? ty).map (·.size) = some cs.length)
    (h : wpStill P ops w K rest (a.put o.dst (.agg cs.toArray))) : wpStill P ops w K (o :: rest) a := by
  refine wpStill_step fun L hL => ?_
  have hw : Region.wanted o (yielded ops a.tmps) = true := by simp [Region.wanted, hgd]
  rw [if_pos hw]
  unfold Oper.still execOp
  simp only [ho, hx, Instr.loadAt, Instr.sureAddr, Sem.run_bind, Sem.run_pure, Result.andThen_ok, run_loadVar_mid w b off ty cs d hc hu hd hi, Oper.stillUpon]
  exact ⟨trivial, hL _ h⟩

theorem Rd4.range {w : World} {b off k : Nat} {q : Q} (h0 : w.cell? ⟨b, off + 4 * k, none⟩ = some (.int .i64 q.k)) (h1 : w.cell? ⟨b, off + (4 * k + 1), none⟩ = some q.d) (h2 : w.cell? ⟨b, off + (4 * k + 2), none⟩ = some q.n) (h3 : w.cell? ⟨b, off + (4 * k + 3), none⟩ = some q.c) : w.rangeAt b (off + k * 4) [.int .i64 q.k, q.d, q.n, q.c] := fun j v hv => by
  rw [Nat.mul_comm k 4]
  match j, hv with
  | 0, hv => simp at hv; subst hv; exact h0
  | 1, hv => simp at hv; subst hv; exact h1
  | 2, hv => simp at hv; subst hv; exact h2
  | 3, hv => simp at hv; subst hv; exact h3

set_option maxRecDepth 20000 in
set_option maxHeartbeats 1600000 in
theorem eqKids (ks : List T) (hks : ∀ t ∈ ks, EqAt t) (v1 v2 : Value) (q1 q2 : List Q) (w : World) (h1 : Rd4 w v1 q1) (h2 : Rd4 w v2 q2) (t1 : TIns w ks q1) (t2 : TIns w ks q2) :
    Calls Try.prog 55 #[v1, v2] w fun e w' => e = .returned (.bool true) ∧ Below w.heap.size w w' := by
  have hvl := t1.len
  have hul := t2.len
  obtain ⟨A, c, rfl, hc1, hc2, hrd⟩ := h1
  obtain ⟨A', c', rfl, hc1', hc2', hrd'⟩ := h2
  obtain ⟨n, hn⟩ : ∃ n, ks.length = n := ⟨_, rfl⟩
  rw [hn] at hvl hul
  rw [hvl] at hc1 hrd ⊢
  rw [hul] at hc1' hrd' ⊢
  unfold maxLen at hc2 hc2'
  have hlen : ((n : Int) != (n : Int)) = false := by simp
  have HN := hide hn
  have HRD := hide hrd
  have HRD' := hide hrd'
  have HT1 := hide t1
  have HT2 := hide t2
  have HKS := hide hks
  clear hn hvl hul hrd hrd' t1 t2 hks
  go_enter Try.func55, Try.ntmps55
  go_wp2
  go_loopw [5] (fun i wr => ∃ k : Nat, k ≤ n ∧ i = .int .i64 k ∧ Below w.heap.size w wr) (fun i _ => n - (intOf i).toNat)
  case atStart => exact ⟨0, Nat.zero_le _, rfl, Below.refl _ _⟩
  case round =>
    obtain ⟨k, hk, rfl, hbel⟩ := hrel
    by_cases hlt : k < n
    · obtain ⟨b, off, rfl, hblt, hcell⟩ := HRD.out (by omega)
      obtain ⟨b', off', rfl, hblt', hcell'⟩ := HRD'.out (by omega)
      have hkl : k < ks.length := by rw [HN.out]; exact hlt
      obtain ⟨x, hx, hxt⟩ := HT1.out.at_ k ks[k] (List.getElem?_eq_getElem hkl)
      obtain ⟨y, hy, hyt⟩ := HT2.out.at_ k ks[k] (List.getElem?_eq_getElem hkl)
      obtain ⟨e0, e1, e2, e3⟩ := hcell k x hx
      obtain ⟨g0, g1, g2, g3⟩ := hcell' k y hy
      have r1 := Rd4.range ((hbel.cell (p := ⟨b, off + 4 * k, none⟩) hblt).trans e0) ((hbel.cell (p := ⟨b, off + (4 * k + 1), none⟩) hblt).trans e1) ((hbel.cell (p := ⟨b, off + (4 * k + 2), none⟩) hblt).trans e2) ((hbel.cell (p := ⟨b, off + (4 * k + 3), none⟩) hblt).trans e3)
      have r2 := Rd4.range ((hbel.cell (p := ⟨b', off' + 4 * k, none⟩) hblt').trans g0) ((hbel.cell (p := ⟨b', off' + (4 * k + 1), none⟩) hblt').trans g1) ((hbel.cell (p := ⟨b', off' + (4 * k + 2), none⟩) hblt').trans g2) ((hbel.cell (p := ⟨b', off' + (4 * k + 3), none⟩) hblt').trans g3)
      have hcall := fun W (hb : Below wr.heap.size wr W) => HKS.out ks[k] (List.getElem_mem hkl) x y W ((hxt.below hbel).below hb) ((hyt.below hbel).below hb)
      have HB := hide hbel
      have HCALL := hide hcall
      have HR1 := hide r1
      have HR2 := hide r2
      have k0 : (0 : Int) ≤ (k : Int) := by omega
      have k1 : (k : Int) < (n : Int) := by omega
      have k2 : (k : Int).toNat = k := by omega
      clear hbel hcell hcell' hx hy hxt hyt hcall r1 r2 e0 e1 e2 e3 g0 g1 g2 g3
      go_wp2
      go_still_tail 8, (by kernel_rfl)
      refine wpStill_load_mid rfl _ _ rfl b (off + k * 4) rfl _ _ HR1.out Try.underlying31 rfl (by kernel_rfl) ?_
      repeat still_step
      refine wpStill_load_mid rfl _ _ rfl b' (off' + k * 4) rfl _ _ HR2.out Try.underlying31 rfl (by kernel_rfl) ?_
      refine wpStill_nil ?_
      change wpList _ _ _ _ _ wr.drew
      clear k2
      have hd : Below wr.heap.size wr wr.drew := (Below.refl _ _).drew
      have hc := HCALL.out _ hd
      have HB2 : Hid (Below w.heap.size w wr.drew) := hide HB.out.drew
      clear HR1 HR2
      generalize wr.drew = wu at *
      clear HCALL hd
      go_wp2_with fail
      refine hc.mono ?_
      rintro e w2 ⟨rfl, b2⟩
      go_wp2_with fail
      go_roundw
      case rel => exact ⟨k + 1, by omega, by go_num, HB2.out.trans (b2.mono HB2.out.size)⟩
      case measure => simp [intOf]; omega
    · obtain rfl : k = n := by omega
      have HB := hide hbel
      clear hbel
      go_wp2
      go_ret
      exact ⟨rfl, HB.out⟩

set_option maxRecDepth 20000 in
set_option maxHeartbeats 1600000 in
theorem eqTree : ∀ t : T, EqAt t := by
  intro t
  induction t using T.ind with
  | h k d ns ks ih =>
    intro q1 q2 w h1 h2
    rw [TIn] at h1 h2
    obtain ⟨e1, d1, n1, s1, k1, c1⟩ := h1
    obtain ⟨e2, d2, n2, s2, k2, c2⟩ := h2
    have hkk : (q1.k != q2.k) = false := by rw [e1, e2]; simp
    have below : ∀ W (hb : Below w.heap.size w W) (qs : List Q), TIns w ks qs → TIns W ks qs := fun W hb qs hq => TIns.mk hq.len fun i t q h6 h7 => by
      obtain ⟨q', h8, h9⟩ := hq.at_ i t h6
      obtain rfl : q' = q := Option.some.inj (h8.symm.trans h7)
      exact h9.below hb
    have a1 := fun W (hb : Below w.heap.size w W) => eqBytes d q1.d q2.d W (d1.below hb) (d2.below hb)
    have a2 := fun W (hb : Below w.heap.size w W) => eqNames ns q1.n q2.n W (n1.below hb) (n2.below hb)
    have a3 := fun W (hb : Below w.heap.size w W) => eqKids ks ih q1.c q2.c s1 s2 W (k1.below hb) (k2.below hb) (below W hb s1 c1) (below W hb s2 c2)
    have A1 := hide a1
    have A2 := hide a2
    have A3 := hide a3
    obtain ⟨wa, hwa⟩ : ∃ wa, (w.alloc (.cells #[.int .i64 q1.k, q1.d, q1.n, q1.c] 31)).alloc (.cells #[.int .i64 q2.k, q2.d, q2.n, q2.c] 31) = wa := ⟨_, rfl⟩
    have ba : Below w.heap.size w wa := by rw [← hwa]; exact ((Below.refl _ _).alloc (Nat.le_refl _) _).alloc (by simp) _
    have aA : C4 wa w.heap.size 31 (.int .i64 q1.k) q1.d q1.n q1.c := by
      rw [← hwa]
      have h : C4 (w.alloc (.cells #[.int .i64 q1.k, q1.d, q1.n, q1.c] 31)) w.heap.size 31 (.int .i64 q1.k) q1.d q1.n q1.c := heap_alloc_new w _
      exact h.step ((Below.refl _ _).alloc (Nat.le_refl _) _)
    have aB : C4 wa (w.heap.size + 1) 31 (.int .i64 q2.k) q2.d q2.n q2.c := by
      rw [← hwa]
      have h := heap_alloc_new (w.alloc (.cells #[.int .i64 q1.k, q1.d, q1.n, q1.c] 31)) (.cells #[.int .i64 q2.k, q2.d, q2.n, q2.c] 31)
      rw [World.size_alloc] at h
      exact h
    clear a1 a2 a3 below e1 e2 d1 d2 n1 n2 k1 k2 c1 c2 ih
    have x0 := aA.c0
    have y0 := aB.c0
    have x1 := aA.c1
    have y1 := aB.c1
    go_enter Try.func18, Try.ntmps18
    go_wp2_with fail
    refine (A1.out wa ba).mono ?_
    rintro e w1 ⟨rfl, b1⟩
    have aA1 := aA.step b1
    have aB1 := aB.step b1
    have d1 := ba.trans (b1.mono ba.size)
    clear x0 y0 x1 y1
    have x2 := aA1.c2
    have y2 := aB1.c2
    go_wp2_with fail
    refine (A2.out w1 d1).mono ?_
    rintro e w2 ⟨rfl, b2⟩
    have aA2 := aA1.step b2
    have aB2 := aB1.step b2
    have d2 := d1.trans (b2.mono d1.size)
    clear x2 y2
    have x3 := aA2.c3
    have y3 := aB2.c3
    go_wp2_with fail
    refine (A3.out w2 d2).mono ?_
    rintro e w3 ⟨rfl, b3⟩
    have d3 := d2.trans (b3.mono d2.size)
    go_wp2_with fail
    go_ret
    exact ⟨rfl, d3⟩

end Go.Proofs.Ytchmppikpeeghaa
