/-
  The draws: a cursor over bytes, and the small numbers and rows that are drawn with it.
-/
import Derived.Test.YtindjacbocfniaaDoorApp
import Derived.Test.YtindjacbocfniaaDoorOwn
import Derived.Laws.Pointers
import Derived.Laws.Rows
import Derived.IntWalk
import Derived.Deep.QuietTactic
import Derived.BigQuiet
import Derived.Deep.Cut
import Derived.Deep.DeepCutAuto
import Derived.Deep.CutBlock
namespace Go.Proofs.YtindjacbocfniaaDoor
open Go.RowKit
set_option linter.unusedVariables false

/-- The cursor's three cells. -/
def C3 (w : World) (g : Nat) (v : Value) (i h : Int) : Prop := w.heap[g]? = some (.cells #[v, .int .i64 i, .int .i64 h] 83 (0, 0))
def Cur (w : World) (g : Nat) (v : Value) (n : Nat) : Prop := ∃ (i : Nat) (h : Int), i ≤ n ∧ C3 w g v i h
section
variable {w w' : World} {g : Nat} {v : Value} {i h : Int}
theorem C3.lt (hc : C3 w g v i h) : g < w.heap.size := (Array.getElem?_eq_some_iff.1 hc).1
theorem C3.c0 (hc : C3 w g v i h) : w.cell? ⟨g, 0, none⟩ = some v := by rw [cell_of_row w g 0 _ _ (0, 0) hc]; rfl
theorem C3.c1 (hc : C3 w g v i h) : w.cell? ⟨g, 1, none⟩ = some (.int .i64 i) := by rw [cell_of_row w g 1 _ _ (0, 0) hc]; rfl
theorem C3.c2 (hc : C3 w g v i h) : w.cell? ⟨g, 2, none⟩ = some (.int .i64 h) := by rw [cell_of_row w g 2 _ _ (0, 0) hc]; rfl
theorem C3.fz (hc : C3 w g v i h) (j : Nat) : w.frozen? ⟨g, j, none⟩ = false := frozen_of_row w g j _ _ hc
theorem C3.set1 (hc : C3 w g v i h) (x : Int) : C3 (w.setCell ⟨g, 1, none⟩ (.int .i64 x)) g v x h := heap_setCell_same w g 1 _ _ _ hc
theorem C3.set2 (hc : C3 w g v i h) (x : Int) : C3 (w.setCell ⟨g, 2, none⟩ (.int .i64 x)) g v i x := heap_setCell_same w g 2 _ _ _ hc
theorem C3.out {lo hi : Nat} (hc : C3 w g v i h) (ho : Outside lo hi w w') (hd : g < lo ∨ hi ≤ g) : C3 w' g v i h := (ho.block g hc.lt hd).trans hc
end
theorem Cur.out {w w' : World} {g n lo hi : Nat} {v : Value} (hc : Cur w g v n) (ho : Outside lo hi w w') (hd : g < lo ∨ hi ≤ g) : Cur w' g v n := by
  obtain ⟨i, h, hi, hc⟩ := hc
  exact ⟨i, h, hi, hc.out ho hd⟩
theorem Cur.step {w w' : World} {g n : Nat} {v : Value} (hc : Cur w g v n) (hb : Below w.heap.size w w') : Cur w' g v n := by
  obtain ⟨i, h, hi, hc⟩ := hc
  exact ⟨i, h, hi, (hb.block g hc.lt).trans hc⟩
theorem Cur.lt {w : World} {g n : Nat} {v : Value} (hc : Cur w g v n) : g < w.heap.size := by
  obtain ⟨i, h, hi, hc⟩ := hc
  exact hc.lt
theorem and255 (a : Int) : 0 ≤ bits .and .i64 a 255 ∧ bits .and .i64 a 255 ≤ 255 := by
  have h : bits .and .i64 a 255 = IntKind.i64.wrap ((BitVec.ofInt 64 a &&& BitVec.ofInt 64 255).toNat : Int) := rfl
  have h2 : (BitVec.ofInt 64 a &&& BitVec.ofInt 64 255).toNat ≤ 255 := by
    rw [BitVec.toNat_and]
    exact Nat.le_trans Nat.and_le_right (by decide)
  rw [h, IntKind.wrap_i64]
  omega
theorem Outside.refl (lo hi : Nat) (w : World) : Outside lo hi w w := Outside.of_below (Below.refl _ _) lo hi
theorem Outside.setG {lo hi : Nat} {w w' : World} (h : Outside lo hi w w') {g j : Nat} (h0 : lo ≤ g) (h1 : g < hi) (u : Value) : Outside lo hi w (w'.setCell ⟨g, j, none⟩ u) :=
  h.trans ⟨rfl, rfl, rfl, by simp, fun k hk ho => Below.heap_setCell w' ⟨g, j, none⟩ u k (by dsimp only; omega)⟩
theorem Outside.drewN {lo hi : Nat} {w w' : World} (h : Outside lo hi w w') (n : Nat) : Outside lo hi w (w'.drewN n) := ⟨h.os, h.tape, h.output, h.size, h.block⟩

set_option maxRecDepth 20000 in
set_option maxHeartbeats 1600000 in
theorem drawByte (g : Nat) (v : Value) (l : List Int) (hB : Byt l) (w0 w : World) (hv : Rd w0 v (bs l)) (hb : Below w0.heap.size w0 w) (hg : w0.heap.size ≤ g) (hc : Cur w g v l.length) :
    Calls Tryd.prog 40 #[.pointer (some ⟨g, 0, none⟩)] w fun e w' => ∃ x : Int, e = .returned (.int .i64 x) ∧ 0 ≤ x ∧ x ≤ 255 ∧ Cur w' g v l.length ∧ Outside g (g + 1) w w' := by
  obtain ⟨i, h, hi, hc⟩ := hc
  obtain ⟨A, c, rfl, hc1, hc2, hrd⟩ := hv
  rw [bs_length] at *
  unfold maxLen at hc2
  have q2 := hc.c2
  have f2 := hc.fz 2
  have HC := hide hc
  have HB := hide hb
  have HRD := hide hrd
  clear hc hb hrd
  go_enter Tryd.func40, Tryd.ntmps40
  go_upto_region 1 with (fail)
  go_cut [] (fun wx => ∃ h', C3 wx g (.slice A l.length c) i h' ∧ Outside g (g + 1) w wx)
  case first =>
    go_wp2
    go_meet
    exact ⟨_, HC.out.set2 _, (Outside.refl _ _ _).setG (by omega) (by omega) _⟩
  case rest =>
    clear q2 f2
    obtain ⟨h', hc, ho⟩ := hcut
    have q2 := hc.c2
    have HC2 := hide hc
    have HO := hide ho
    clear hc ho HC
    go_upto_region 2 with (fail)
    go_cut [3] (fun x wx => ∃ y, x = .int .i64 y ∧ 0 ≤ y ∧ y ≤ 255 ∧ C3 wx g (.slice A l.length c) i h' ∧ Outside g (g + 1) w wx)
    case first =>
      go_quiet (fail)
      go_wp2
      go_meet
      exact ⟨_, rfl, (and255 _).1, (and255 _).2, HC2.out, HO.out.drewN _⟩
    case rest =>
      clear q2 HC2 HO
      obtain ⟨y, rfl, y0, y1, hc, ho⟩ := hcut
      have q0 := hc.c0
      have q1 := hc.c1
      by_cases hlt : i < l.length
      · obtain ⟨b, off, rfl, hblt, hcell⟩ := HRD.out (by omega)
        have hbel := ho.below HB.out hg HB.out.size
        have q3 := (hbel.cell (p := ⟨b, off + i, none⟩) hblt).trans (hcell i _ (bs_get hlt))
        obtain ⟨z0, z1⟩ := hB.at_ i
        generalize l.getD i 0 = z at *
        have HC2 := hide hc
        have HO := hide ho
        have k0 : (0 : Int) ≤ (i : Int) := by omega
        have k1 : (i : Int) < (l.length : Int) := by omega
        have k2 : IntKind.i64.wrap (y + z) = y + z := IntWalk.i64_in _ (by omega)
        have k3 : (i : Int).toNat = i := by omega
        clear hc ho hcell hbel
        go_upto_region 3 with (fail)
        go_quiet (fail)
        go_upto_region 4 with (fail)
        go_quiet (fail)
        have f1 : wc.frozen? ⟨g, 1, none⟩ = false := HC2.out.fz 1
        clear k2
        go_wp2
        go_ret
        refine ⟨_, rfl, (and255 _).1, (and255 _).2, ⟨i + 1, h', by omega, ?_⟩, (HO.out.drewN _).setG (by omega) (by omega) _⟩
        exact C3.set1 HC2.out _
      · have HC2 := hide hc
        have HO := hide ho
        have k1 : ¬ (i : Int) < (l.length : Int) := by omega
        clear hc ho
        go_upto_region 3 with (fail)
        go_quiet (fail)
        go_wp2
        go_ret
        exact ⟨_, rfl, y0, y1, ⟨i, h', hi, HC2.out⟩, HO.out.drewN _⟩

/-- A number below n. -/
def Under (x n : Int) : Prop := 0 ≤ x ∧ (x < n ∨ (n ≤ 0 ∧ x = 0))
theorem under_mod {x n : Int} (h : 0 < n) : Under (x % n) n := ⟨Int.emod_nonneg _ (by omega), .inl (Int.emod_lt_of_pos _ h)⟩

set_option maxRecDepth 20000 in
set_option maxHeartbeats 1600000 in
theorem drawBelow (n : Int) (hn : n ≤ 4294967296) (g : Nat) (v : Value) (l : List Int) (hB : Byt l) (w0 w : World) (hv : Rd w0 v (bs l)) (hb : Below w0.heap.size w0 w) (hg : w0.heap.size ≤ g) (hc : Cur w g v l.length) :
    Calls Tryd.prog 41 #[.pointer (some ⟨g, 0, none⟩), .int .i64 n] w fun e w' => ∃ x : Int, e = .returned (.int .i64 x) ∧ Under x n ∧ Cur w' g v l.length ∧ Outside g (g + 1) w w' := by
  have key : ∀ W, Outside g (g + 1) w W → Cur W g v l.length → Calls Tryd.prog 40 #[.pointer (some ⟨g, 0, none⟩)] W fun e w' => ∃ x : Int, e = .returned (.int .i64 x) ∧ 0 ≤ x ∧ x ≤ 255 ∧ Cur w' g v l.length ∧ Outside g (g + 1) w w' := fun W hO hC =>
    (drawByte g v l hB w0 W hv (hO.below hb hg hb.size) hg hC).mono fun e w' ⟨x, he, x0, x1, hc', ho'⟩ => ⟨x, he, x0, x1, hc', hO.trans ho'⟩
  have h0 := key w (Outside.refl _ _ _) hc
  have HC := hide hc
  have KEY := hide key
  clear hc hv hb key
  by_cases hn0 : n ≤ 0
  · go_enter Tryd.func41, Tryd.ntmps41
    go_wp2
    go_ret
    exact ⟨_, rfl, ⟨by omega, .inr ⟨hn0, rfl⟩⟩, HC.out, Outside.refl _ _ _⟩
  · by_cases hn1 : n ≤ 256
    · go_enter Tryd.func41, Tryd.ntmps41
      go_wp2_with (go_at_call 40; refine h0.mono ?_; rintro e w1 ⟨x, rfl, x0, x1, c1, o1⟩)
      go_ret
      exact ⟨_, rfl, under_mod (by omega), c1, o1⟩
    · go_enter Tryd.func41, Tryd.ntmps41
      go_wp2_with fail
      refine h0.mono ?_
      rintro e w1 ⟨x, rfl, x0, x1, c1, o1⟩
      go_wp2_with fail
      refine (KEY.out w1 o1 c1).mono ?_
      rintro e w2 ⟨y, rfl, y0, y1, c2, o2⟩
      go_wp2_with fail
      refine (KEY.out w2 o2 c2).mono ?_
      rintro e w3 ⟨z, rfl, z0, z1, c3, o3⟩
      go_wp2_with fail
      refine (KEY.out w3 o3 c3).mono ?_
      rintro e w4 ⟨u, rfl, u0, u1, c4, o4⟩
      go_wp2_with fail
      go_ret
      exact ⟨_, rfl, under_mod (by omega), c4, o4⟩

end Go.Proofs.YtindjacbocfniaaDoor
