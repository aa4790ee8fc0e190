/-
  Parts of the proof: IsRootW.
-/
import Derived.Test.YtmhapnlgakkljaaGreatDoorMp12
import Derived.Test.YtmhapnlgakkljaaGreatDoorMp10
import Derived.Test.YtmhapnlgakkljaaGreatDoorMp13
import Derived.Test.YtmhapnlgakkljaaGreatDoorMp11
import Derived.Test.YtmhapnlgakkljaaGreatDoorMp0
import Derived.Test.YtmhapnlgakkljaaGreatDoorMp8
import Derived.Deep.RegionWith
import Derived.Deep.DeepCutAuto
import Derived.Deep.RegionHeld3

/-
  The walk of the law FnExactIsRoot, over the contracts of the model's function and the program's.
-/
namespace Go.Proofs.YtmhapnlgakkljaaGreatDoor
open Go.RowKit
set_option linter.unusedVariables false
set_option linter.unusedSimpArgs false

set_option maxRecDepth 20000 in
set_option maxHeartbeats 3200000 in
theorem walkIsRoot (x0 : DStore) (x1 : List Int) (S0 : Bool)
    (hspec : bulks x0.cells ≤ 1048576 → (raw x1).bulk ≤ 1048576 → ∀ (u0 : List Value) (E0 : List Nat) (u1 : Value) (E1 : List Nat) (W : World), Lies W x0.cells u0 E0 → Lie W (raw x1) u1 E1 → Calls Tryz.prog 17 #[.agg u0.toArray, u1] W fun e w' => e = .returned (.bool S0) ∧ Below W.heap.size W w')
    (himpl : bulks x0.cells ≤ 1048576 → (raw x1).bulk ≤ 1048576 → ∀ (u0 : List Value) (E0 : List Nat) (u1 : Value) (E1 : List Nat) (W : World), Lies W x0.cells u0 E0 → Lie W (raw x1) u1 E1 → Tab W → Calls Tryz.prog 19 #[.agg u0.toArray, u1] W fun e w' => e = .returned (.bool S0) ∧ Below W.heap.size W w')
    (w : World) (u0 : List Value) (E0 : List Nat) (h0 : Lies w x0.cells u0 E0) (u1 : Value) (E1 : List Nat) (h1 : Lie w (raw x1) u1 E1) (hTb : Tab w) :
    Calls Tryz.prog 4 #[.agg u0.toArray, u1] w fun e w' => e = .returned (.bool true) ∧ Below w.heap.size w w' := by
  have kd := h0
  rw [x0.cells_eq] at kd
  obtain ⟨A0_0, m0_0, c0_0, r0, G0, rfl, q0⟩ := kd.seqs1
  obtain ⟨A0_1, m0_1, c0_1, r1, G1, rfl, q1⟩ := q0.seqs1
  obtain ⟨A0_2, m0_2, c0_2, r2, G2, rfl, q2⟩ := q1.seqs1
  obtain rfl := q2.nil1
  clear kd q0 q1 q2
  obtain ⟨A1, c1_, hV1, hc1a, hc1b⟩ := h1.form
  unfold maxLen at hc1b
  obtain ⟨n1, hn1⟩ : ∃ n, x1.length = n := ⟨_, rfl⟩
  rw [hn1] at hV1 hc1a
  subst hV1
  obtain ⟨wa, hwa⟩ : ∃ wa, w.alloc (.cells #[.slice A0_0 m0_0 c0_0, .slice A0_1 m0_1 c0_1, .slice A0_2 m0_2 c0_2] 26) = wa := ⟨_, rfl⟩
  have ba : Below w.heap.size w wa := by rw [← hwa]; exact ((Below.refl _ _).alloc (by exact Nat.le_refl _) _)
  have bA0 : Box wa (w.heap.size) 26 [.slice A0_0 m0_0 c0_0, .slice A0_1 m0_1 c0_1, .slice A0_2 m0_2 c0_2] := by
    rw [← hwa]
    have hb := Box.new (w) [.slice A0_0 m0_0 c0_0, .slice A0_1 m0_1 c0_1, .slice A0_2 m0_2 c0_2] 26
    try simp only [World.size_alloc] at hb
    exact hb
  have HBA0 : Hid (∀ W, Below wa.heap.size wa W → Box W (w.heap.size) 26 [.slice A0_0 m0_0 c0_0, .slice A0_1 m0_1 c0_1, .slice A0_2 m0_2 c0_2]) := hide (fun W hb => bA0.step hb)
  clear bA0
  have HA0 : Hid (∀ W, Below wa.heap.size wa W → Lies W x0.cells [.slice A0_0 m0_0 c0_0, .slice A0_1 m0_1 c0_1, .slice A0_2 m0_2 c0_2] E0) := hide (fun W hb => (h0.step ba).step hb)
  have HA1 : Hid (∀ W, Below wa.heap.size wa W → Lie W (raw x1) (.slice A1 n1 c1_) E1) := hide (fun W hb => (h1.step ba).step hb)
  have HB := hide ba
  have HTB := hide hTb
  clear hTb
  have HSPEC := hide hspec
  have HIMPL := hide himpl
  clear ba hspec himpl h0 h1
  have HN1 := hide hn1
  clear hn1
  by_cases hl1 : 1048576 < n1
  · go_enter Tryz.func4, Tryz.ntmps4
    go_wp2
    go_ret
    exact ⟨rfl, HB.out⟩
  have HK1 : Hid ((raw x1).bulk ≤ 1048576) := hide (by rw [raw_bulk, HN1.out]; omega)
  obtain ⟨Z0, hZ0⟩ : ∃ Z, bulks x0.cells = Z := ⟨_, rfl⟩
  have hsz0 := fun W (hb : Below wa.heap.size wa W) (h0 : (0 : Int) ≤ 1048576) => dszStore x0 [.slice A0_0 m0_0 c0_0, .slice A0_1 m0_1 c0_1, .slice A0_2 m0_2 c0_2] E0 (1048576) W (HA0.out W hb) h0 (by omega)
  rw [hZ0] at hsz0
  have HZ0 := hide hZ0
  have HSZ0 := hide hsz0
  clear hsz0 hZ0
  by_cases hle0 : (Z0 : Int) ≤ 1048576
  rotate_left
  · have hfail := hle0
    go_enter Tryz.func4, Tryz.ntmps4
    have y0_0 := (HBA0.out wa (Below.refl _ _)).cell (j := 0) rfl
    have y0_1 := (HBA0.out wa (Below.refl _ _)).cell (j := 1) rfl
    have y0_2 := (HBA0.out wa (Below.refl _ _)).cell (j := 2) rfl
    have ac0 := HSZ0.out wa (Below.refl _ _) (by omega)
    rw [lft, if_neg (by omega)] at ac0
    go_wp2_with fail
    refine (ac0).mono ?_
    rintro e w1 ⟨rfl, b1⟩
    clear y0_0 y0_1 y0_2
    have dA1 := hide b1
    have z1 := hide b1.size
    clear b1
    clear ac0
    go_wp2_with fail
    go_ret
    exact ⟨rfl, HB.out.trans (dA1.out.mono HB.out.size)⟩
  have HK0 : Hid (bulks x0.cells ≤ 1048576) := hide (by rw [HZ0.out]; omega)
  have HSPEC2 := hide (HSPEC.out HK0.out HK1.out)
  have HIMPL2 := hide (HIMPL.out HK0.out HK1.out)
  clear HSPEC HIMPL
  have ne0 : (S0 != S0) = false := by simp
  go_enter Tryz.func4, Tryz.ntmps4
  have y0_0 := (HBA0.out wa (Below.refl _ _)).cell (j := 0) rfl
  have y0_1 := (HBA0.out wa (Below.refl _ _)).cell (j := 1) rfl
  have y0_2 := (HBA0.out wa (Below.refl _ _)).cell (j := 2) rfl
  have ac0 := HSZ0.out wa (Below.refl _ _) (by omega)
  rw [lft, if_pos (by omega)] at ac0
  have gc0 : ¬ (1048576 - (Z0 : Int) < 0) := by omega
  go_wp2_with fail
  refine (ac0).mono ?_
  rintro e w1 ⟨rfl, b1⟩
  clear y0_0 y0_1 y0_2
  have dA1 := hide b1
  have z1 := hide b1.size
  clear b1
  clear ac0
  have y0_0 := (HBA0.out w1 dA1.out).cell (j := 0) rfl
  have y0_1 := (HBA0.out w1 dA1.out).cell (j := 1) rfl
  have y0_2 := (HBA0.out w1 dA1.out).cell (j := 2) rfl
  go_wp2_with fail
  refine (dtoStore x0 [.slice A0_0 m0_0 c0_0, .slice A0_1 m0_1 c0_1, .slice A0_2 m0_2 c0_2] E0 w1 (HA0.out w1 dA1.out) HK0.out).mono ?_
  rintro e w2 ⟨t2, J2, rfl, l2, f2, b2⟩
  clear y0_0 y0_1 y0_2
  have dA2 := hide (dA1.out.trans (b2.mono dA1.out.size))
  have z2 := hide b2.size
  clear b2
  have kd := l2
  rw [x0.cells_eq] at kd
  obtain ⟨As0_0, ms0_0, cs0_0, r0, G0, rfl, q0⟩ := kd.seqs1
  obtain ⟨As0_1, ms0_1, cs0_1, r1, G1, rfl, q1⟩ := q0.seqs1
  obtain ⟨As0_2, ms0_2, cs0_2, r2, G2, rfl, q2⟩ := q1.seqs1
  obtain rfl := q2.nil1
  clear kd q0 q1 q2
  have HLs0 : Hid (∀ W, Below w2.heap.size w2 W → Lies W x0.cells [.slice As0_0 ms0_0 cs0_0, .slice As0_1 ms0_1 cs0_1, .slice As0_2 ms0_2 cs0_2] J2 ∧ Live W J2) := hide (fun W hb => ⟨l2.step hb, f2.live.step hb⟩)
  have HFs0 : Hid (J2.Nodup ∧ (∀ g ∈ J2, w1.heap.size ≤ g) ∧ ∀ g ∈ J2, g < w2.heap.size) := hide ⟨f2.nodup, f2.low, fun g hg => f2.live.lt g hg⟩
  clear l2 f2
  go_wp2_with fail
  refine (dtoRaw x1 (.slice A1 n1 c1_) E1 w2 (HA1.out w2 dA2.out) HK1.out).mono ?_
  rintro e w3 ⟨t3, J3, rfl, l3, f3, b3⟩
  have dA3 := hide (dA2.out.trans (b3.mono dA2.out.size))
  have ds03 := hide b3
  have z3 := hide b3.size
  clear b3
  obtain ⟨Xs1, Ns1, zs1_, rfl⟩ : ∃ X y z, t3 = .slice X y z := by obtain ⟨X, z, e, _, _⟩ := l3.form; exact ⟨_, _, _, e⟩
  have HLs1 : Hid (∀ W, Below w3.heap.size w3 W → Lie W (raw x1) (.slice Xs1 Ns1 zs1_) J3 ∧ Live W J3) := hide (fun W hb => ⟨l3.step hb, f3.live.step hb⟩)
  have HFs1 : Hid (J3.Nodup ∧ (∀ g ∈ J3, w2.heap.size ≤ g) ∧ ∀ g ∈ J3, g < w3.heap.size) := hide ⟨f3.nodup, f3.low, fun g hg => f3.live.lt g hg⟩
  clear l3 f3
  go_wp2_with fail
  refine (HSPEC2.out [.slice As0_0 ms0_0 cs0_0, .slice As0_1 ms0_1 cs0_1, .slice As0_2 ms0_2 cs0_2] J2 (.slice Xs1 Ns1 zs1_) J3 w3 (HLs0.out w3 ds03.out).1 (HLs1.out w3 (Below.refl _ _)).1).mono ?_
  rintro e w4 ⟨rfl, b4⟩
  have dA4 := hide (dA3.out.trans (b4.mono dA3.out.size))
  have ds04 := hide (ds03.out.trans (b4.mono ds03.out.size))
  have ds14 := hide b4
  have z4 := hide b4.size
  clear b4
  have y0_0 := (HBA0.out w4 dA4.out).cell (j := 0) rfl
  have y0_1 := (HBA0.out w4 dA4.out).cell (j := 1) rfl
  have y0_2 := (HBA0.out w4 dA4.out).cell (j := 2) rfl
  go_wp2_with fail
  refine (dtoStore x0 [.slice A0_0 m0_0 c0_0, .slice A0_1 m0_1 c0_1, .slice A0_2 m0_2 c0_2] E0 w4 (HA0.out w4 dA4.out) HK0.out).mono ?_
  rintro e w5 ⟨t5, J5, rfl, l5, f5, b5⟩
  clear y0_0 y0_1 y0_2
  have dA5 := hide (dA4.out.trans (b5.mono dA4.out.size))
  have z5 := hide b5.size
  clear b5
  have kd := l5
  rw [x0.cells_eq] at kd
  obtain ⟨Ax0__0, mx0__0, cx0__0, r0, G0, rfl, q0⟩ := kd.seqs1
  obtain ⟨Ax0__1, mx0__1, cx0__1, r1, G1, rfl, q1⟩ := q0.seqs1
  obtain ⟨Ax0__2, mx0__2, cx0__2, r2, G2, rfl, q2⟩ := q1.seqs1
  obtain rfl := q2.nil1
  clear kd q0 q1 q2
  have HLx0_ : Hid (∀ W, Below w5.heap.size w5 W → Lies W x0.cells [.slice Ax0__0 mx0__0 cx0__0, .slice Ax0__1 mx0__1 cx0__1, .slice Ax0__2 mx0__2 cx0__2] J5 ∧ Live W J5) := hide (fun W hb => ⟨l5.step hb, f5.live.step hb⟩)
  have HFx0_ : Hid (J5.Nodup ∧ (∀ g ∈ J5, w4.heap.size ≤ g) ∧ ∀ g ∈ J5, g < w5.heap.size) := hide ⟨f5.nodup, f5.low, fun g hg => f5.live.lt g hg⟩
  clear l5 f5
  obtain ⟨wz6, hwz6⟩ : ∃ W, w5.alloc (.cells #[.slice none 0 0, .slice none 0 0, .slice none 0 0] 32) = W := ⟨_, rfl⟩
  have bz6 : Below w5.heap.size w5 wz6 := by rw [← hwz6]; exact ((Below.refl _ _).alloc (by exact Nat.le_refl _) _)
  have bq6_0 : Box wz6 (w5.heap.size) 32 [.slice none 0 0, .slice none 0 0, .slice none 0 0] := by
    rw [← hwz6]
    have hb := Box.new (w5) [.slice none 0 0, .slice none 0 0, .slice none 0 0] 32
    try simp only [World.size_alloc] at hb
    exact hb
  obtain ⟨w6, hws6_0⟩ : ∃ W, wz6.setCells (w5.heap.size) 0 [.slice Ax0__0 mx0__0 cx0__0, .slice Ax0__1 mx0__1 cx0__1, .slice Ax0__2 mx0__2 cx0__2] = W := ⟨_, rfl⟩
  have TH6_0 := hide (bq6_0.there (o := 0) (n := 3) (by simp))
  have bu6 := but_sets wz6 (w5.heap.size) [.slice Ax0__0 mx0__0 cx0__0, .slice Ax0__1 mx0__1 cx0__1, .slice Ax0__2 mx0__2 cx0__2] 0
  rw [hws6_0] at bu6
  have bq6_0 : Box w6 (w5.heap.size) 32 [.slice Ax0__0 mx0__0 cx0__0, .slice Ax0__1 mx0__1 cx0__1, .slice Ax0__2 mx0__2 cx0__2] := by have := bq6_0.sets (vs := [.slice Ax0__0 mx0__0 cx0__0, .slice Ax0__1 mx0__1 cx0__1, .slice Ax0__2 mx0__2 cx0__2]) (o := 0); rw [hws6_0] at this; exact this
  have bz6 : Below w5.heap.size w5 w6 := bu6.below bz6 (fun g hg => by have := List.mem_singleton.1 hg; omega) bz6.size
  clear bu6
  have HWS6_0 := hide hws6_0
  have ON6_0 : Hid ((#[.slice Ax0__0 mx0__0 cx0__0, .slice Ax0__1 mx0__1 cx0__1, .slice Ax0__2 mx0__2 cx0__2] : Array Value).all (·.oneCell') = true) := hide (by simp [Value.oneCell'])
  clear hws6_0
  have HWZ6 := hide hwz6
  clear hwz6
  have b6 := bz6
  clear bz6
  have HXx0_ : Hid (∀ W, Below w6.heap.size w6 W → Box W (w5.heap.size) 32 [.slice Ax0__0 mx0__0 cx0__0, .slice Ax0__1 mx0__1 cx0__1, .slice Ax0__2 mx0__2 cx0__2]) := hide (fun W hb => bq6_0.step hb)
  clear bq6_0
  have dA6 := hide (dA5.out.trans (b6.mono dA5.out.size))
  have dx0_6 := hide b6
  have z6 := hide b6.size
  go_wp2_with (first
      | ((with_reducible refine at_store 32 ?_); rw [HWZ6.out]; refine wpList_store_mid rfl _ _ _ rfl (w5.heap.size) 0 #[.slice Ax0__0 mx0__0 cx0__0, .slice Ax0__1 mx0__1 cx0__1, .slice Ax0__2 mx0__2 cx0__2] rfl rfl TH6_0.out (by kernel_rfl) ON6_0.out ?_; change wpList _ _ _ _ _ (wz6.setCells (w5.heap.size) 0 [.slice Ax0__0 mx0__0 cx0__0, .slice Ax0__1 mx0__1 cx0__1, .slice Ax0__2 mx0__2 cx0__2]); rw [HWS6_0.out]))
  refine (dtoRaw x1 (.slice A1 n1 c1_) E1 w6 (HA1.out w6 dA6.out) HK1.out).mono ?_
  rintro e w7 ⟨t7, J7, rfl, l7, f7, b7⟩
  have dA7 := hide (dA6.out.trans (b7.mono dA6.out.size))
  have dx0_7 := hide (dx0_6.out.trans (b7.mono dx0_6.out.size))
  have dx0_b7 := hide b7
  have z7 := hide b7.size
  clear b7
  obtain ⟨Xx1_, Nx1_, zx1__, rfl⟩ : ∃ X y z, t7 = .slice X y z := by obtain ⟨X, z, e, _, _⟩ := l7.form; exact ⟨_, _, _, e⟩
  have HLx1_ : Hid (∀ W, Below w7.heap.size w7 W → Lie W (raw x1) (.slice Xx1_ Nx1_ zx1__) J7 ∧ Live W J7) := hide (fun W hb => ⟨l7.step hb, f7.live.step hb⟩)
  have HFx1_ : Hid (J7.Nodup ∧ (∀ g ∈ J7, w6.heap.size ≤ g) ∧ ∀ g ∈ J7, g < w7.heap.size) := hide ⟨f7.nodup, f7.low, fun g hg => f7.live.lt g hg⟩
  clear l7 f7
  have yox0__0 := (HXx0_.out w7 dx0_b7.out).cell (j := 0) rfl
  have yox0__1 := (HXx0_.out w7 dx0_b7.out).cell (j := 1) rfl
  have yox0__2 := (HXx0_.out w7 dx0_b7.out).cell (j := 2) rfl
  go_wp2_with fail
  refine (HIMPL2.out [.slice Ax0__0 mx0__0 cx0__0, .slice Ax0__1 mx0__1 cx0__1, .slice Ax0__2 mx0__2 cx0__2] J5 (.slice Xx1_ Nx1_ zx1__) J7 w7 (HLx0_.out w7 dx0_7.out).1 (HLx1_.out w7 (Below.refl _ _)).1 (HTB.out.step (HB.out.trans (dA7.out.mono HB.out.size)))).mono ?_
  rintro e w8 ⟨rfl, b8⟩
  clear yox0__0 yox0__1 yox0__2
  have dA8 := hide (dA7.out.trans (b8.mono dA7.out.size))
  have dx0_8 := hide (dx0_7.out.trans (b8.mono dx0_7.out.size))
  have dx0_b8 := hide (dx0_b7.out.trans (b8.mono dx0_b7.out.size))
  have dx1_8 := hide b8
  have z8 := hide b8.size
  clear b8
  go_upto_region 13 with (fail)
  have yox0__0 := (HXx0_.out w8 dx0_b8.out).cell (j := 0) rfl
  have yox0__1 := (HXx0_.out w8 dx0_b8.out).cell (j := 1) rfl
  have yox0__2 := (HXx0_.out w8 dx0_b8.out).cell (j := 2) rfl
  have y0_0 := (HBA0.out w8 dA8.out).cell (j := 0) rfl
  have y0_1 := (HBA0.out w8 dA8.out).cell (j := 1) rfl
  have y0_2 := (HBA0.out w8 dA8.out).cell (j := 2) rfl
  have HDR := hide (show Below w8.heap.size w8 w8.drew from (Below.refl _ _).drew)
  go_cut [37] (fun v wx => v = .bool false ∧ Below w8.heap.size w8 wx)
  case first =>
    go_region_with (first
      | (go_at_call 14; refine (dtoStore x0 [.slice A0_0 m0_0 c0_0, .slice A0_1 m0_1 c0_1, .slice A0_2 m0_2 c0_2] E0 w8.drew (HA0.out _ (dA8.out.trans (HDR.out.mono dA8.out.size))) HK0.out).mono ?_; rintro e w7 ⟨t7, J7, rfl, l7, f7, b7⟩; have yox0__0 := (HXx0_.out _ ((dx0_b8.out.trans (HDR.out.mono dx0_b8.out.size)).trans (b7.mono (dx0_b8.out.trans (HDR.out.mono dx0_b8.out.size)).size))).cell (j := 0) rfl; have yox0__1 := (HXx0_.out _ ((dx0_b8.out.trans (HDR.out.mono dx0_b8.out.size)).trans (b7.mono (dx0_b8.out.trans (HDR.out.mono dx0_b8.out.size)).size))).cell (j := 1) rfl; have yox0__2 := (HXx0_.out _ ((dx0_b8.out.trans (HDR.out.mono dx0_b8.out.size)).trans (b7.mono (dx0_b8.out.trans (HDR.out.mono dx0_b8.out.size)).size))).cell (j := 2) rfl; have y0_0 := (HBA0.out _ ((dA8.out.trans (HDR.out.mono dA8.out.size)).trans (b7.mono (dA8.out.trans (HDR.out.mono dA8.out.size)).size))).cell (j := 0) rfl; have y0_1 := (HBA0.out _ ((dA8.out.trans (HDR.out.mono dA8.out.size)).trans (b7.mono (dA8.out.trans (HDR.out.mono dA8.out.size)).size))).cell (j := 1) rfl; have y0_2 := (HBA0.out _ ((dA8.out.trans (HDR.out.mono dA8.out.size)).trans (b7.mono (dA8.out.trans (HDR.out.mono dA8.out.size)).size))).cell (j := 2) rfl)
      | (go_at_call 16; refine (deqStore x0 [.slice Ax0__0 mx0__0 cx0__0, .slice Ax0__1 mx0__1 cx0__1, .slice Ax0__2 mx0__2 cx0__2] _ _ J7 w7 (HLx0_.out _ ((dx0_8.out.trans (HDR.out.mono dx0_8.out.size)).trans (b7.mono (dx0_8.out.trans (HDR.out.mono dx0_8.out.size)).size))).1 l7).mono ?_; rintro e w8 ⟨rfl, b8⟩))
    all_goals
      have hfin := HDR.out.trans (b7.trans (b8.mono b7.size) |>.mono HDR.out.size)
      have HF := hide hfin
      clear hfin
      go_wp2
      go_meet
      exact ⟨rfl, HF.out⟩
  case rest =>
    clear HDR yox0__0 yox0__1 yox0__2 y0_0 y0_1 y0_2
    obtain ⟨rfl, b9⟩ := hcut
    obtain ⟨w9, hwc⟩ : ∃ W, W = wc := ⟨_, rfl⟩
    subst hwc
    have dA9 := hide (dA8.out.trans (b9.mono dA8.out.size))
    have dx0_9 := hide (dx0_8.out.trans (b9.mono dx0_8.out.size))
    have dx0_b9 := hide (dx0_b8.out.trans (b9.mono dx0_b8.out.size))
    have dx1_9 := hide (dx1_8.out.trans (b9.mono dx1_8.out.size))
    have z9 := hide b9.size
    clear b9
    go_wp2_with fail
    refine (dtoRaw x1 (.slice A1 n1 c1_) E1 w9 (HA1.out w9 dA9.out) HK1.out).mono ?_
    rintro e w10 ⟨t10, J10, rfl, l10, f10, b10⟩
    have dA10 := hide (dA9.out.trans (b10.mono dA9.out.size))
    have dx0_10 := hide (dx0_9.out.trans (b10.mono dx0_9.out.size))
    have dx0_b10 := hide (dx0_b9.out.trans (b10.mono dx0_b9.out.size))
    have dx1_10 := hide (dx1_9.out.trans (b10.mono dx1_9.out.size))
    have z10 := hide b10.size
    clear b10
    obtain ⟨Xt1, Nt1, zt1_, rfl⟩ : ∃ X y z, t10 = .slice X y z := by obtain ⟨X, z, e, _, _⟩ := l10.form; exact ⟨_, _, _, e⟩
    have HLt1 : Hid (∀ W, Below w10.heap.size w10 W → Lie W (raw x1) (.slice Xt1 Nt1 zt1_) J10 ∧ Live W J10) := hide (fun W hb => ⟨l10.step hb, f10.live.step hb⟩)
    have HFt1 : Hid (J10.Nodup ∧ (∀ g ∈ J10, w9.heap.size ≤ g) ∧ ∀ g ∈ J10, g < w10.heap.size) := hide ⟨f10.nodup, f10.low, fun g hg => f10.live.lt g hg⟩
    clear l10 f10
    go_wp2_with fail
    refine (deqRaw x1 (.slice Xx1_ Nx1_ zx1__) (.slice Xt1 Nt1 zt1_) _ _ w10 (HLx1_.out w10 dx1_10.out).1 (HLt1.out w10 (Below.refl _ _)).1).mono ?_
    rintro e w11 ⟨rfl, b11⟩
    have dA11 := hide (dA10.out.trans (b11.mono dA10.out.size))
    have dx0_11 := hide (dx0_10.out.trans (b11.mono dx0_10.out.size))
    have dx0_b11 := hide (dx0_b10.out.trans (b11.mono dx0_b10.out.size))
    have dx1_11 := hide (dx1_10.out.trans (b11.mono dx1_10.out.size))
    have dt111 := hide b11
    have z11 := hide b11.size
    clear b11
    go_wp2_with fail
    go_ret
    exact ⟨rfl, HB.out.trans (dA11.out.mono HB.out.size)⟩

end Go.Proofs.YtmhapnlgakkljaaGreatDoor
