/-
  Parts of the proof: RealOfW.
-/
import Derived.Test.YtmhapnlgakkljaaGreatDoorMp12
import Derived.Test.YtmhapnlgakkljaaGreatDoorMp10
import Derived.Test.YtmhapnlgakkljaaGreatDoorMp13
import Derived.Test.YtmhapnlgakkljaaGreatDoorMp11
import Derived.Test.YtmhapnlgakkljaaGreatDoorMp0
import Derived.Test.YtmhapnlgakkljaaGreatDoorMp8
import Derived.Deep.RegionWith
import Derived.Deep.DeepCutAuto
import Derived.Deep.RegionHeld3

/-
  The walk of the law FnExactRealOf, over the contracts of the model's function and the program's.
-/
namespace Go.Proofs.YtmhapnlgakkljaaGreatDoor
open Go.RowKit
set_option linter.unusedVariables false
set_option linter.unusedSimpArgs false

set_option maxRecDepth 20000 in
set_option maxHeartbeats 3200000 in
theorem walkRealOf (x0 : DStore) (x1 : List Int) (x2 : List Int) (R0 : List Int) (hR0 : (raw R0).cnt ≤ 274877906944) (S1 : Bool)
    (hspec : bulks x0.cells ≤ 1048576 → (raw x1).bulk ≤ 1048576 → (raw x2).bulk ≤ 1048576 → ∀ (u0 : List Value) (E0 : List Nat) (u1 : Value) (E1 : List Nat) (u2 : Value) (E2 : List Nat) (W : World), Lies W x0.cells u0 E0 → Lie W (raw x1) u1 E1 → Lie W (raw x2) u2 E2 → Calls Tryz.prog 29 #[.agg u0.toArray, u1, u2] W fun e w' => ∃ (r0 : Value) (J0 : List Nat), e = .returned (.tuple #[r0, .bool S1]) ∧ Lie w' (raw R0) r0 J0 ∧ (∀ g ∈ J0, g ∈ E0 ∨ g ∈ E1 ∨ g ∈ E2 ∨ W.heap.size ≤ g) ∧ Below W.heap.size W w')
    (himpl : bulks x0.cells ≤ 1048576 → (raw x1).bulk ≤ 1048576 → (raw x2).bulk ≤ 1048576 → ∀ (u0 : List Value) (E0 : List Nat) (u1 : Value) (E1 : List Nat) (u2 : Value) (E2 : List Nat) (W : World), Lies W x0.cells u0 E0 → Lie W (raw x1) u1 E1 → Lie W (raw x2) u2 E2 → Tab W → Calls Tryz.prog 30 #[.agg u0.toArray, u1, u2] W fun e w' => ∃ (r0 : Value) (J0 : List Nat), e = .returned (.tuple #[r0, .bool S1]) ∧ Lie w' (raw R0) r0 J0 ∧ Fresh W.heap.size w' (J0) ∧ Below W.heap.size W w')
    (w : World) (u0 : List Value) (E0 : List Nat) (h0 : Lies w x0.cells u0 E0) (u1 : Value) (E1 : List Nat) (h1 : Lie w (raw x1) u1 E1) (u2 : Value) (E2 : List Nat) (h2 : Lie w (raw x2) u2 E2) (hTb : Tab w) :
    Calls Tryz.prog 7 #[.agg u0.toArray, u1, u2] w fun e w' => e = .returned (.bool true) ∧ Below w.heap.size w w' := by
  have kd := h0
  rw [x0.cells_eq] at kd
  obtain ⟨A0_0, m0_0, c0_0, r0, G0, rfl, q0⟩ := kd.seqs1
  obtain ⟨A0_1, m0_1, c0_1, r1, G1, rfl, q1⟩ := q0.seqs1
  obtain ⟨A0_2, m0_2, c0_2, r2, G2, rfl, q2⟩ := q1.seqs1
  obtain rfl := q2.nil1
  clear kd q0 q1 q2
  obtain ⟨A1, c1_, hV1, hc1a, hc1b⟩ := h1.form
  unfold maxLen at hc1b
  obtain ⟨n1, hn1⟩ : ∃ n, x1.length = n := ⟨_, rfl⟩
  rw [hn1] at hV1 hc1a
  subst hV1
  obtain ⟨A2, c2_, hV2, hc2a, hc2b⟩ := h2.form
  unfold maxLen at hc2b
  obtain ⟨n2, hn2⟩ : ∃ n, x2.length = n := ⟨_, rfl⟩
  rw [hn2] at hV2 hc2a
  subst hV2
  obtain ⟨wa, hwa⟩ : ∃ wa, w.alloc (.cells #[.slice A0_0 m0_0 c0_0, .slice A0_1 m0_1 c0_1, .slice A0_2 m0_2 c0_2] 26) = wa := ⟨_, rfl⟩
  have ba : Below w.heap.size w wa := by rw [← hwa]; exact ((Below.refl _ _).alloc (by exact Nat.le_refl _) _)
  have bA0 : Box wa (w.heap.size) 26 [.slice A0_0 m0_0 c0_0, .slice A0_1 m0_1 c0_1, .slice A0_2 m0_2 c0_2] := by
    rw [← hwa]
    have hb := Box.new (w) [.slice A0_0 m0_0 c0_0, .slice A0_1 m0_1 c0_1, .slice A0_2 m0_2 c0_2] 26
    try simp only [World.size_alloc] at hb
    exact hb
  have HBA0 : Hid (∀ W, Below wa.heap.size wa W → Box W (w.heap.size) 26 [.slice A0_0 m0_0 c0_0, .slice A0_1 m0_1 c0_1, .slice A0_2 m0_2 c0_2]) := hide (fun W hb => bA0.step hb)
  clear bA0
  have HA0 : Hid (∀ W, Below wa.heap.size wa W → Lies W x0.cells [.slice A0_0 m0_0 c0_0, .slice A0_1 m0_1 c0_1, .slice A0_2 m0_2 c0_2] E0) := hide (fun W hb => (h0.step ba).step hb)
  have HA1 : Hid (∀ W, Below wa.heap.size wa W → Lie W (raw x1) (.slice A1 n1 c1_) E1) := hide (fun W hb => (h1.step ba).step hb)
  have HA2 : Hid (∀ W, Below wa.heap.size wa W → Lie W (raw x2) (.slice A2 n2 c2_) E2) := hide (fun W hb => (h2.step ba).step hb)
  have HB := hide ba
  have HTB := hide hTb
  clear hTb
  have HSPEC := hide hspec
  have HIMPL := hide himpl
  clear ba hspec himpl h0 h1 h2
  have HN1 := hide hn1
  clear hn1
  have HN2 := hide hn2
  clear hn2
  by_cases hl1 : 1048576 < n1
  · go_enter Tryz.func7, Tryz.ntmps7
    go_wp2
    go_ret
    exact ⟨rfl, HB.out⟩
  have HK1 : Hid ((raw x1).bulk ≤ 1048576) := hide (by rw [raw_bulk, HN1.out]; omega)
  by_cases hl2 : 1048576 < n2
  · go_enter Tryz.func7, Tryz.ntmps7
    go_wp2
    go_ret
    exact ⟨rfl, HB.out⟩
  have HK2 : Hid ((raw x2).bulk ≤ 1048576) := hide (by rw [raw_bulk, HN2.out]; omega)
  obtain ⟨Z0, hZ0⟩ : ∃ Z, bulks x0.cells = Z := ⟨_, rfl⟩
  have hsz0 := fun W (hb : Below wa.heap.size wa W) (h0 : (0 : Int) ≤ 1048576) => dszStore x0 [.slice A0_0 m0_0 c0_0, .slice A0_1 m0_1 c0_1, .slice A0_2 m0_2 c0_2] E0 (1048576) W (HA0.out W hb) h0 (by omega)
  rw [hZ0] at hsz0
  have HZ0 := hide hZ0
  have HSZ0 := hide hsz0
  clear hsz0 hZ0
  by_cases hle0 : (Z0 : Int) ≤ 1048576
  rotate_left
  · have hfail := hle0
    go_enter Tryz.func7, Tryz.ntmps7
    have y0_0 := (HBA0.out wa (Below.refl _ _)).cell (j := 0) rfl
    have y0_1 := (HBA0.out wa (Below.refl _ _)).cell (j := 1) rfl
    have y0_2 := (HBA0.out wa (Below.refl _ _)).cell (j := 2) rfl
    have ac0 := HSZ0.out wa (Below.refl _ _) (by omega)
    rw [lft, if_neg (by omega)] at ac0
    go_wp2_with fail
    refine (ac0).mono ?_
    rintro e w1 ⟨rfl, b1⟩
    clear y0_0 y0_1 y0_2
    have dA1 := hide b1
    have z1 := hide b1.size
    clear b1
    clear ac0
    go_wp2_with fail
    go_ret
    exact ⟨rfl, HB.out.trans (dA1.out.mono HB.out.size)⟩
  have HK0 : Hid (bulks x0.cells ≤ 1048576) := hide (by rw [HZ0.out]; omega)
  have HSPEC2 := hide (HSPEC.out HK0.out HK1.out HK2.out)
  have HIMPL2 := hide (HIMPL.out HK0.out HK1.out HK2.out)
  clear HSPEC HIMPL
  obtain ⟨C0, hC0⟩ : ∃ C, cnts0 x0.cells = C := ⟨_, rfl⟩
  have hcb0 : C0 ≤ 137438953472 := by rw [← hC0]; have h1 := (HA0.out wa (Below.refl _ _)).cntb; have h3 := HK0.out; have h2 := cnts0_le x0.cells; have h4 := x0.cells_len; omega
  have HC0 := hide hC0
  clear hC0
  obtain ⟨C1, hC1⟩ : ∃ C, (raw x1).cnt = C := ⟨_, rfl⟩
  have hcb1 : C1 ≤ 137438953472 := by rw [← hC1]; have h1 := (HA1.out wa (Below.refl _ _)).cntb; have h3 := HK1.out; omega
  have HC1 := hide hC1
  clear hC1
  obtain ⟨C2, hC2⟩ : ∃ C, (raw x2).cnt = C := ⟨_, rfl⟩
  have hcb2 : C2 ≤ 137438953472 := by rw [← hC2]; have h1 := (HA2.out wa (Below.refl _ _)).cntb; have h3 := HK2.out; omega
  have HC2 := hide hC2
  clear hC2
  obtain ⟨CR0, hCR0⟩ : ∃ C, (raw R0).cnt = C := ⟨_, rfl⟩
  rw [hCR0] at hR0
  have HCR0 := hide hCR0
  clear hCR0
  have ne1 : (S1 != S1) = false := by simp
  go_enter Tryz.func7, Tryz.ntmps7
  have y0_0 := (HBA0.out wa (Below.refl _ _)).cell (j := 0) rfl
  have y0_1 := (HBA0.out wa (Below.refl _ _)).cell (j := 1) rfl
  have y0_2 := (HBA0.out wa (Below.refl _ _)).cell (j := 2) rfl
  have ac0 := HSZ0.out wa (Below.refl _ _) (by omega)
  rw [lft, if_pos (by omega)] at ac0
  have gc0 : ¬ (1048576 - (Z0 : Int) < 0) := by omega
  go_wp2_with fail
  refine (ac0).mono ?_
  rintro e w1 ⟨rfl, b1⟩
  clear y0_0 y0_1 y0_2
  have dA1 := hide b1
  have z1 := hide b1.size
  clear b1
  clear ac0
  have y0_0 := (HBA0.out w1 dA1.out).cell (j := 0) rfl
  have y0_1 := (HBA0.out w1 dA1.out).cell (j := 1) rfl
  have y0_2 := (HBA0.out w1 dA1.out).cell (j := 2) rfl
  go_wp2_with fail
  refine (dtoStore x0 [.slice A0_0 m0_0 c0_0, .slice A0_1 m0_1 c0_1, .slice A0_2 m0_2 c0_2] E0 w1 (HA0.out w1 dA1.out) HK0.out).mono ?_
  rintro e w2 ⟨t2, J2, rfl, l2, f2, b2⟩
  clear y0_0 y0_1 y0_2
  have dA2 := hide (dA1.out.trans (b2.mono dA1.out.size))
  have z2 := hide b2.size
  clear b2
  have kd := l2
  rw [x0.cells_eq] at kd
  obtain ⟨As0_0, ms0_0, cs0_0, r0, G0, rfl, q0⟩ := kd.seqs1
  obtain ⟨As0_1, ms0_1, cs0_1, r1, G1, rfl, q1⟩ := q0.seqs1
  obtain ⟨As0_2, ms0_2, cs0_2, r2, G2, rfl, q2⟩ := q1.seqs1
  obtain rfl := q2.nil1
  clear kd q0 q1 q2
  have HLs0 : Hid (∀ W, Below w2.heap.size w2 W → Lies W x0.cells [.slice As0_0 ms0_0 cs0_0, .slice As0_1 ms0_1 cs0_1, .slice As0_2 ms0_2 cs0_2] J2 ∧ Live W J2) := hide (fun W hb => ⟨l2.step hb, f2.live.step hb⟩)
  have HFs0 : Hid (J2.Nodup ∧ (∀ g ∈ J2, w1.heap.size ≤ g) ∧ ∀ g ∈ J2, g < w2.heap.size) := hide ⟨f2.nodup, f2.low, fun g hg => f2.live.lt g hg⟩
  clear l2 f2
  go_wp2_with fail
  refine (dtoRaw x1 (.slice A1 n1 c1_) E1 w2 (HA1.out w2 dA2.out) HK1.out).mono ?_
  rintro e w3 ⟨t3, J3, rfl, l3, f3, b3⟩
  have dA3 := hide (dA2.out.trans (b3.mono dA2.out.size))
  have ds03 := hide b3
  have z3 := hide b3.size
  clear b3
  obtain ⟨Xs1, Ns1, zs1_, rfl⟩ : ∃ X y z, t3 = .slice X y z := by obtain ⟨X, z, e, _, _⟩ := l3.form; exact ⟨_, _, _, e⟩
  have HLs1 : Hid (∀ W, Below w3.heap.size w3 W → Lie W (raw x1) (.slice Xs1 Ns1 zs1_) J3 ∧ Live W J3) := hide (fun W hb => ⟨l3.step hb, f3.live.step hb⟩)
  have HFs1 : Hid (J3.Nodup ∧ (∀ g ∈ J3, w2.heap.size ≤ g) ∧ ∀ g ∈ J3, g < w3.heap.size) := hide ⟨f3.nodup, f3.low, fun g hg => f3.live.lt g hg⟩
  clear l3 f3
  go_wp2_with fail
  refine (dtoRaw x2 (.slice A2 n2 c2_) E2 w3 (HA2.out w3 dA3.out) HK2.out).mono ?_
  rintro e w4 ⟨t4, J4, rfl, l4, f4, b4⟩
  have dA4 := hide (dA3.out.trans (b4.mono dA3.out.size))
  have ds04 := hide (ds03.out.trans (b4.mono ds03.out.size))
  have ds14 := hide b4
  have z4 := hide b4.size
  clear b4
  obtain ⟨Xs2, Ns2, zs2_, rfl⟩ : ∃ X y z, t4 = .slice X y z := by obtain ⟨X, z, e, _, _⟩ := l4.form; exact ⟨_, _, _, e⟩
  have HLs2 : Hid (∀ W, Below w4.heap.size w4 W → Lie W (raw x2) (.slice Xs2 Ns2 zs2_) J4 ∧ Live W J4) := hide (fun W hb => ⟨l4.step hb, f4.live.step hb⟩)
  have HFs2 : Hid (J4.Nodup ∧ (∀ g ∈ J4, w3.heap.size ≤ g) ∧ ∀ g ∈ J4, g < w4.heap.size) := hide ⟨f4.nodup, f4.low, fun g hg => f4.live.lt g hg⟩
  clear l4 f4
  go_wp2_with fail
  refine (HSPEC2.out [.slice As0_0 ms0_0 cs0_0, .slice As0_1 ms0_1 cs0_1, .slice As0_2 ms0_2 cs0_2] J2 (.slice Xs1 Ns1 zs1_) J3 (.slice Xs2 Ns2 zs2_) J4 w4 (HLs0.out w4 ds04.out).1 (HLs1.out w4 ds14.out).1 (HLs2.out w4 (Below.refl _ _)).1).mono ?_
  rintro e w5 ⟨r0_5, J0_5, rfl, l0_5, f0_5, b5⟩
  have dA5 := hide (dA4.out.trans (b5.mono dA4.out.size))
  have ds05 := hide (ds04.out.trans (b5.mono ds04.out.size))
  have ds15 := hide (ds14.out.trans (b5.mono ds14.out.size))
  have ds25 := hide b5
  have z5 := hide b5.size
  clear b5
  clear f0_5
  obtain ⟨Xw0, Nw0, zw0_, rfl⟩ : ∃ X y z, r0_5 = .slice X y z := by obtain ⟨X, z, e, _, _⟩ := l0_5.form; exact ⟨_, _, _, e⟩
  have HLw0 : Hid (∀ W, Below w5.heap.size w5 W → Lie W (raw R0) (.slice Xw0 Nw0 zw0_) J0_5 ∧ True) := hide (fun W hb => ⟨l0_5.step hb, trivial⟩)
  clear l0_5
  have y0_0 := (HBA0.out w5 dA5.out).cell (j := 0) rfl
  have y0_1 := (HBA0.out w5 dA5.out).cell (j := 1) rfl
  have y0_2 := (HBA0.out w5 dA5.out).cell (j := 2) rfl
  go_wp2_with fail
  refine (dtoStore x0 [.slice A0_0 m0_0 c0_0, .slice A0_1 m0_1 c0_1, .slice A0_2 m0_2 c0_2] E0 w5 (HA0.out w5 dA5.out) HK0.out).mono ?_
  rintro e w6 ⟨t6, J6, rfl, l6, f6, b6⟩
  clear y0_0 y0_1 y0_2
  have dA6 := hide (dA5.out.trans (b6.mono dA5.out.size))
  have dw06 := hide b6
  have z6 := hide b6.size
  clear b6
  have kd := l6
  rw [x0.cells_eq] at kd
  obtain ⟨Ax0__0, mx0__0, cx0__0, r0, G0, rfl, q0⟩ := kd.seqs1
  obtain ⟨Ax0__1, mx0__1, cx0__1, r1, G1, rfl, q1⟩ := q0.seqs1
  obtain ⟨Ax0__2, mx0__2, cx0__2, r2, G2, rfl, q2⟩ := q1.seqs1
  obtain rfl := q2.nil1
  clear kd q0 q1 q2
  have HLx0_ : Hid (∀ W, Below w6.heap.size w6 W → Lies W x0.cells [.slice Ax0__0 mx0__0 cx0__0, .slice Ax0__1 mx0__1 cx0__1, .slice Ax0__2 mx0__2 cx0__2] J6 ∧ Live W J6) := hide (fun W hb => ⟨l6.step hb, f6.live.step hb⟩)
  have HFx0_ : Hid (J6.Nodup ∧ (∀ g ∈ J6, w5.heap.size ≤ g) ∧ ∀ g ∈ J6, g < w6.heap.size) := hide ⟨f6.nodup, f6.low, fun g hg => f6.live.lt g hg⟩
  clear l6 f6
  obtain ⟨wz7, hwz7⟩ : ∃ W, w6.alloc (.cells #[.slice none 0 0, .slice none 0 0, .slice none 0 0] 32) = W := ⟨_, rfl⟩
  have bz7 : Below w6.heap.size w6 wz7 := by rw [← hwz7]; exact ((Below.refl _ _).alloc (by exact Nat.le_refl _) _)
  have bq7_0 : Box wz7 (w6.heap.size) 32 [.slice none 0 0, .slice none 0 0, .slice none 0 0] := by
    rw [← hwz7]
    have hb := Box.new (w6) [.slice none 0 0, .slice none 0 0, .slice none 0 0] 32
    try simp only [World.size_alloc] at hb
    exact hb
  obtain ⟨w7, hws7_0⟩ : ∃ W, wz7.setCells (w6.heap.size) 0 [.slice Ax0__0 mx0__0 cx0__0, .slice Ax0__1 mx0__1 cx0__1, .slice Ax0__2 mx0__2 cx0__2] = W := ⟨_, rfl⟩
  have TH7_0 := hide (bq7_0.there (o := 0) (n := 3) (by simp))
  have bu7 := but_sets wz7 (w6.heap.size) [.slice Ax0__0 mx0__0 cx0__0, .slice Ax0__1 mx0__1 cx0__1, .slice Ax0__2 mx0__2 cx0__2] 0
  rw [hws7_0] at bu7
  have bq7_0 : Box w7 (w6.heap.size) 32 [.slice Ax0__0 mx0__0 cx0__0, .slice Ax0__1 mx0__1 cx0__1, .slice Ax0__2 mx0__2 cx0__2] := by have := bq7_0.sets (vs := [.slice Ax0__0 mx0__0 cx0__0, .slice Ax0__1 mx0__1 cx0__1, .slice Ax0__2 mx0__2 cx0__2]) (o := 0); rw [hws7_0] at this; exact this
  have bz7 : Below w6.heap.size w6 w7 := bu7.below bz7 (fun g hg => by have := List.mem_singleton.1 hg; omega) bz7.size
  clear bu7
  have HWS7_0 := hide hws7_0
  have ON7_0 : Hid ((#[.slice Ax0__0 mx0__0 cx0__0, .slice Ax0__1 mx0__1 cx0__1, .slice Ax0__2 mx0__2 cx0__2] : Array Value).all (·.oneCell') = true) := hide (by simp [Value.oneCell'])
  clear hws7_0
  have HWZ7 := hide hwz7
  clear hwz7
  have b7 := bz7
  clear bz7
  have HXx0_ : Hid (∀ W, Below w7.heap.size w7 W → Box W (w6.heap.size) 32 [.slice Ax0__0 mx0__0 cx0__0, .slice Ax0__1 mx0__1 cx0__1, .slice Ax0__2 mx0__2 cx0__2]) := hide (fun W hb => bq7_0.step hb)
  clear bq7_0
  have dA7 := hide (dA6.out.trans (b7.mono dA6.out.size))
  have dw07 := hide (dw06.out.trans (b7.mono dw06.out.size))
  have dx0_7 := hide b7
  have z7 := hide b7.size
  go_wp2_with (first
      | ((with_reducible refine at_store 32 ?_); rw [HWZ7.out]; refine wpList_store_mid rfl _ _ _ rfl (w6.heap.size) 0 #[.slice Ax0__0 mx0__0 cx0__0, .slice Ax0__1 mx0__1 cx0__1, .slice Ax0__2 mx0__2 cx0__2] rfl rfl TH7_0.out (by kernel_rfl) ON7_0.out ?_; change wpList _ _ _ _ _ (wz7.setCells (w6.heap.size) 0 [.slice Ax0__0 mx0__0 cx0__0, .slice Ax0__1 mx0__1 cx0__1, .slice Ax0__2 mx0__2 cx0__2]); rw [HWS7_0.out]))
  refine (dtoRaw x1 (.slice A1 n1 c1_) E1 w7 (HA1.out w7 dA7.out) HK1.out).mono ?_
  rintro e w8 ⟨t8, J8, rfl, l8, f8, b8⟩
  have dA8 := hide (dA7.out.trans (b8.mono dA7.out.size))
  have dw08 := hide (dw07.out.trans (b8.mono dw07.out.size))
  have dx0_8 := hide (dx0_7.out.trans (b8.mono dx0_7.out.size))
  have dx0_b8 := hide b8
  have z8 := hide b8.size
  clear b8
  obtain ⟨Xx1_, Nx1_, zx1__, rfl⟩ : ∃ X y z, t8 = .slice X y z := by obtain ⟨X, z, e, _, _⟩ := l8.form; exact ⟨_, _, _, e⟩
  have HLx1_ : Hid (∀ W, Below w8.heap.size w8 W → Lie W (raw x1) (.slice Xx1_ Nx1_ zx1__) J8 ∧ Live W J8) := hide (fun W hb => ⟨l8.step hb, f8.live.step hb⟩)
  have HFx1_ : Hid (J8.Nodup ∧ (∀ g ∈ J8, w7.heap.size ≤ g) ∧ ∀ g ∈ J8, g < w8.heap.size) := hide ⟨f8.nodup, f8.low, fun g hg => f8.live.lt g hg⟩
  clear l8 f8
  go_wp2_with fail
  refine (dtoRaw x2 (.slice A2 n2 c2_) E2 w8 (HA2.out w8 dA8.out) HK2.out).mono ?_
  rintro e w9 ⟨t9, J9, rfl, l9, f9, b9⟩
  have dA9 := hide (dA8.out.trans (b9.mono dA8.out.size))
  have dw09 := hide (dw08.out.trans (b9.mono dw08.out.size))
  have dx0_9 := hide (dx0_8.out.trans (b9.mono dx0_8.out.size))
  have dx0_b9 := hide (dx0_b8.out.trans (b9.mono dx0_b8.out.size))
  have dx1_9 := hide b9
  have z9 := hide b9.size
  clear b9
  obtain ⟨Xx2_, Nx2_, zx2__, rfl⟩ : ∃ X y z, t9 = .slice X y z := by obtain ⟨X, z, e, _, _⟩ := l9.form; exact ⟨_, _, _, e⟩
  have HLx2_ : Hid (∀ W, Below w9.heap.size w9 W → Lie W (raw x2) (.slice Xx2_ Nx2_ zx2__) J9 ∧ Live W J9) := hide (fun W hb => ⟨l9.step hb, f9.live.step hb⟩)
  have HFx2_ : Hid (J9.Nodup ∧ (∀ g ∈ J9, w8.heap.size ≤ g) ∧ ∀ g ∈ J9, g < w9.heap.size) := hide ⟨f9.nodup, f9.low, fun g hg => f9.live.lt g hg⟩
  clear l9 f9
  have yox0__0 := (HXx0_.out w9 dx0_b9.out).cell (j := 0) rfl
  have yox0__1 := (HXx0_.out w9 dx0_b9.out).cell (j := 1) rfl
  have yox0__2 := (HXx0_.out w9 dx0_b9.out).cell (j := 2) rfl
  go_wp2_with fail
  refine (HIMPL2.out [.slice Ax0__0 mx0__0 cx0__0, .slice Ax0__1 mx0__1 cx0__1, .slice Ax0__2 mx0__2 cx0__2] J6 (.slice Xx1_ Nx1_ zx1__) J8 (.slice Xx2_ Nx2_ zx2__) J9 w9 (HLx0_.out w9 dx0_9.out).1 (HLx1_.out w9 dx1_9.out).1 (HLx2_.out w9 (Below.refl _ _)).1 (HTB.out.step (HB.out.trans (dA9.out.mono HB.out.size)))).mono ?_
  rintro e w10 ⟨r0_10, J0_10, rfl, l0_10, f10, b10⟩
  clear yox0__0 yox0__1 yox0__2
  have dA10 := hide (dA9.out.trans (b10.mono dA9.out.size))
  have dw010 := hide (dw09.out.trans (b10.mono dw09.out.size))
  have dx0_10 := hide (dx0_9.out.trans (b10.mono dx0_9.out.size))
  have dx0_b10 := hide (dx0_b9.out.trans (b10.mono dx0_b9.out.size))
  have dx1_10 := hide (dx1_9.out.trans (b10.mono dx1_9.out.size))
  have dx2_10 := hide b10
  have z10 := hide b10.size
  clear b10
  have f0_10 := f10
  obtain ⟨Xg0, Ng0, zg0_, rfl⟩ : ∃ X y z, r0_10 = .slice X y z := by obtain ⟨X, z, e, _, _⟩ := l0_10.form; exact ⟨_, _, _, e⟩
  have HLg0 : Hid (∀ W, Below w10.heap.size w10 W → Lie W (raw R0) (.slice Xg0 Ng0 zg0_) J0_10 ∧ Live W J0_10) := hide (fun W hb => ⟨l0_10.step hb, f0_10.live.step hb⟩)
  have HFg0 : Hid (J0_10.Nodup ∧ (∀ g ∈ J0_10, w9.heap.size ≤ g) ∧ ∀ g ∈ J0_10, g < w10.heap.size) := hide ⟨f0_10.nodup, f0_10.low, fun g hg => f0_10.live.lt g hg⟩
  clear l0_10 f0_10
  go_wp2_with fail
  refine (deqRaw R0 (.slice Xg0 Ng0 zg0_) (.slice Xw0 Nw0 zw0_) _ _ w10 (HLg0.out w10 (Below.refl _ _)).1 (HLw0.out w10 dw010.out).1).mono ?_
  rintro e w11 ⟨rfl, b11⟩
  have dA11 := hide (dA10.out.trans (b11.mono dA10.out.size))
  have dw011 := hide (dw010.out.trans (b11.mono dw010.out.size))
  have dx0_11 := hide (dx0_10.out.trans (b11.mono dx0_10.out.size))
  have dx0_b11 := hide (dx0_b10.out.trans (b11.mono dx0_b10.out.size))
  have dx1_11 := hide (dx1_10.out.trans (b11.mono dx1_10.out.size))
  have dx2_11 := hide (dx2_10.out.trans (b11.mono dx2_10.out.size))
  have dg011 := hide b11
  have z11 := hide b11.size
  clear b11
  go_upto_region 16 with (fail)
  have yox0__0 := (HXx0_.out w11 dx0_b11.out).cell (j := 0) rfl
  have yox0__1 := (HXx0_.out w11 dx0_b11.out).cell (j := 1) rfl
  have yox0__2 := (HXx0_.out w11 dx0_b11.out).cell (j := 2) rfl
  have y0_0 := (HBA0.out w11 dA11.out).cell (j := 0) rfl
  have y0_1 := (HBA0.out w11 dA11.out).cell (j := 1) rfl
  have y0_2 := (HBA0.out w11 dA11.out).cell (j := 2) rfl
  have HDR := hide (show Below w11.heap.size w11 w11.drew from (Below.refl _ _).drew)
  go_cut [67] (fun v wx => v = .bool false ∧ Below w11.heap.size w11 wx)
  case first =>
    go_region_with (first
      | (go_at_call 14; refine (dtoStore x0 [.slice A0_0 m0_0 c0_0, .slice A0_1 m0_1 c0_1, .slice A0_2 m0_2 c0_2] E0 w11.drew (HA0.out _ (dA11.out.trans (HDR.out.mono dA11.out.size))) HK0.out).mono ?_; rintro e w7 ⟨t7, J7, rfl, l7, f7, b7⟩; have yox0__0 := (HXx0_.out _ ((dx0_b11.out.trans (HDR.out.mono dx0_b11.out.size)).trans (b7.mono (dx0_b11.out.trans (HDR.out.mono dx0_b11.out.size)).size))).cell (j := 0) rfl; have yox0__1 := (HXx0_.out _ ((dx0_b11.out.trans (HDR.out.mono dx0_b11.out.size)).trans (b7.mono (dx0_b11.out.trans (HDR.out.mono dx0_b11.out.size)).size))).cell (j := 1) rfl; have yox0__2 := (HXx0_.out _ ((dx0_b11.out.trans (HDR.out.mono dx0_b11.out.size)).trans (b7.mono (dx0_b11.out.trans (HDR.out.mono dx0_b11.out.size)).size))).cell (j := 2) rfl; have y0_0 := (HBA0.out _ ((dA11.out.trans (HDR.out.mono dA11.out.size)).trans (b7.mono (dA11.out.trans (HDR.out.mono dA11.out.size)).size))).cell (j := 0) rfl; have y0_1 := (HBA0.out _ ((dA11.out.trans (HDR.out.mono dA11.out.size)).trans (b7.mono (dA11.out.trans (HDR.out.mono dA11.out.size)).size))).cell (j := 1) rfl; have y0_2 := (HBA0.out _ ((dA11.out.trans (HDR.out.mono dA11.out.size)).trans (b7.mono (dA11.out.trans (HDR.out.mono dA11.out.size)).size))).cell (j := 2) rfl)
      | (go_at_call 16; refine (deqStore x0 [.slice Ax0__0 mx0__0 cx0__0, .slice Ax0__1 mx0__1 cx0__1, .slice Ax0__2 mx0__2 cx0__2] _ _ J7 w7 (HLx0_.out _ ((dx0_11.out.trans (HDR.out.mono dx0_11.out.size)).trans (b7.mono (dx0_11.out.trans (HDR.out.mono dx0_11.out.size)).size))).1 l7).mono ?_; rintro e w8 ⟨rfl, b8⟩))
    all_goals
      have hfin := HDR.out.trans (b7.trans (b8.mono b7.size) |>.mono HDR.out.size)
      have HF := hide hfin
      clear hfin
      go_wp2
      go_meet
      exact ⟨rfl, HF.out⟩
  case rest =>
    clear HDR yox0__0 yox0__1 yox0__2 y0_0 y0_1 y0_2
    obtain ⟨rfl, b12⟩ := hcut
    obtain ⟨w12, hwc⟩ : ∃ W, W = wc := ⟨_, rfl⟩
    subst hwc
    have dA12 := hide (dA11.out.trans (b12.mono dA11.out.size))
    have dw012 := hide (dw011.out.trans (b12.mono dw011.out.size))
    have dx0_12 := hide (dx0_11.out.trans (b12.mono dx0_11.out.size))
    have dx0_b12 := hide (dx0_b11.out.trans (b12.mono dx0_b11.out.size))
    have dx1_12 := hide (dx1_11.out.trans (b12.mono dx1_11.out.size))
    have dx2_12 := hide (dx2_11.out.trans (b12.mono dx2_11.out.size))
    have dg012 := hide (dg011.out.trans (b12.mono dg011.out.size))
    have z12 := hide b12.size
    clear b12
    go_wp2_with fail
    refine (dtoRaw x1 (.slice A1 n1 c1_) E1 w12 (HA1.out w12 dA12.out) HK1.out).mono ?_
    rintro e w13 ⟨t13, J13, rfl, l13, f13, b13⟩
    have dA13 := hide (dA12.out.trans (b13.mono dA12.out.size))
    have dw013 := hide (dw012.out.trans (b13.mono dw012.out.size))
    have dx0_13 := hide (dx0_12.out.trans (b13.mono dx0_12.out.size))
    have dx0_b13 := hide (dx0_b12.out.trans (b13.mono dx0_b12.out.size))
    have dx1_13 := hide (dx1_12.out.trans (b13.mono dx1_12.out.size))
    have dx2_13 := hide (dx2_12.out.trans (b13.mono dx2_12.out.size))
    have dg013 := hide (dg012.out.trans (b13.mono dg012.out.size))
    have z13 := hide b13.size
    clear b13
    obtain ⟨Xt1, Nt1, zt1_, rfl⟩ : ∃ X y z, t13 = .slice X y z := by obtain ⟨X, z, e, _, _⟩ := l13.form; exact ⟨_, _, _, e⟩
    have HLt1 : Hid (∀ W, Below w13.heap.size w13 W → Lie W (raw x1) (.slice Xt1 Nt1 zt1_) J13 ∧ Live W J13) := hide (fun W hb => ⟨l13.step hb, f13.live.step hb⟩)
    have HFt1 : Hid (J13.Nodup ∧ (∀ g ∈ J13, w12.heap.size ≤ g) ∧ ∀ g ∈ J13, g < w13.heap.size) := hide ⟨f13.nodup, f13.low, fun g hg => f13.live.lt g hg⟩
    clear l13 f13
    go_wp2_with fail
    refine (deqRaw x1 (.slice Xx1_ Nx1_ zx1__) (.slice Xt1 Nt1 zt1_) _ _ w13 (HLx1_.out w13 dx1_13.out).1 (HLt1.out w13 (Below.refl _ _)).1).mono ?_
    rintro e w14 ⟨rfl, b14⟩
    have dA14 := hide (dA13.out.trans (b14.mono dA13.out.size))
    have dw014 := hide (dw013.out.trans (b14.mono dw013.out.size))
    have dx0_14 := hide (dx0_13.out.trans (b14.mono dx0_13.out.size))
    have dx0_b14 := hide (dx0_b13.out.trans (b14.mono dx0_b13.out.size))
    have dx1_14 := hide (dx1_13.out.trans (b14.mono dx1_13.out.size))
    have dx2_14 := hide (dx2_13.out.trans (b14.mono dx2_13.out.size))
    have dg014 := hide (dg013.out.trans (b14.mono dg013.out.size))
    have dt114 := hide b14
    have z14 := hide b14.size
    clear b14
    go_wp2_with fail
    refine (dtoRaw x2 (.slice A2 n2 c2_) E2 w14 (HA2.out w14 dA14.out) HK2.out).mono ?_
    rintro e w15 ⟨t15, J15, rfl, l15, f15, b15⟩
    have dA15 := hide (dA14.out.trans (b15.mono dA14.out.size))
    have dw015 := hide (dw014.out.trans (b15.mono dw014.out.size))
    have dx0_15 := hide (dx0_14.out.trans (b15.mono dx0_14.out.size))
    have dx0_b15 := hide (dx0_b14.out.trans (b15.mono dx0_b14.out.size))
    have dx1_15 := hide (dx1_14.out.trans (b15.mono dx1_14.out.size))
    have dx2_15 := hide (dx2_14.out.trans (b15.mono dx2_14.out.size))
    have dg015 := hide (dg014.out.trans (b15.mono dg014.out.size))
    have z15 := hide b15.size
    clear b15
    obtain ⟨Xt2, Nt2, zt2_, rfl⟩ : ∃ X y z, t15 = .slice X y z := by obtain ⟨X, z, e, _, _⟩ := l15.form; exact ⟨_, _, _, e⟩
    have HLt2 : Hid (∀ W, Below w15.heap.size w15 W → Lie W (raw x2) (.slice Xt2 Nt2 zt2_) J15 ∧ Live W J15) := hide (fun W hb => ⟨l15.step hb, f15.live.step hb⟩)
    have HFt2 : Hid (J15.Nodup ∧ (∀ g ∈ J15, w14.heap.size ≤ g) ∧ ∀ g ∈ J15, g < w15.heap.size) := hide ⟨f15.nodup, f15.low, fun g hg => f15.live.lt g hg⟩
    clear l15 f15
    go_wp2_with fail
    refine (deqRaw x2 (.slice Xx2_ Nx2_ zx2__) (.slice Xt2 Nt2 zt2_) _ _ w15 (HLx2_.out w15 dx2_15.out).1 (HLt2.out w15 (Below.refl _ _)).1).mono ?_
    rintro e w16 ⟨rfl, b16⟩
    have dA16 := hide (dA15.out.trans (b16.mono dA15.out.size))
    have dw016 := hide (dw015.out.trans (b16.mono dw015.out.size))
    have dx0_16 := hide (dx0_15.out.trans (b16.mono dx0_15.out.size))
    have dx0_b16 := hide (dx0_b15.out.trans (b16.mono dx0_b15.out.size))
    have dx1_16 := hide (dx1_15.out.trans (b16.mono dx1_15.out.size))
    have dx2_16 := hide (dx2_15.out.trans (b16.mono dx2_15.out.size))
    have dg016 := hide (dg015.out.trans (b16.mono dg015.out.size))
    have dt216 := hide b16
    have z16 := hide b16.size
    clear b16
    have yox0__0 := (HXx0_.out w16 dx0_b16.out).cell (j := 0) rfl
    have yox0__1 := (HXx0_.out w16 dx0_b16.out).cell (j := 1) rfl
    have yox0__2 := (HXx0_.out w16 dx0_b16.out).cell (j := 2) rfl
    go_wp2_with fail
    refine (dmarkStore x0 [.slice Ax0__0 mx0__0 cx0__0, .slice Ax0__1 mx0__1 cx0__1, .slice Ax0__2 mx0__2 cx0__2] J6 (1) w16 (HLx0_.out w16 dx0_16.out).1 HFx0_.out.1 (HLx0_.out w16 dx0_16.out).2 (by omega) (by rw [HC0.out]; omega)).mono ?_
    rintro e w17 ⟨rfl, l17, v17, m17⟩
    rw [HC0.out]
    clear yox0__0 yox0__1 yox0__2
    have b17 := m17.size
    have lowF := HFx0_.out.2.1
    have highF := HFx0_.out.2.2
    have dA17 := hide (m17.below dA16.out (fun g hg => by have h1 := lowF g hg; have := z1.out; have := z2.out; have := z3.out; have := z4.out; have := z5.out; have := z6.out; have := z7.out; have := z8.out; have := z9.out; have := z10.out; have := z11.out; have := z12.out; have := z13.out; have := z14.out; have := z15.out; have := z16.out; omega) dA16.out.size)
    have dw017 := hide (m17.below dw016.out (fun g hg => by have h1 := lowF g hg; have := z1.out; have := z2.out; have := z3.out; have := z4.out; have := z5.out; have := z6.out; have := z7.out; have := z8.out; have := z9.out; have := z10.out; have := z11.out; have := z12.out; have := z13.out; have := z14.out; have := z15.out; have := z16.out; omega) dw016.out.size)
    have mv17x1_ := HLx1_.out w16 dx1_16.out
    have hi17x1_ := HFx1_.out
    have ml17 := mv17x1_.1.but m17 (fun g hg hc => by have h1 := highF g hc; have h2 := hi17x1_.2.1 g hg; have := z1.out; have := z2.out; have := z3.out; have := z4.out; have := z5.out; have := z6.out; have := z7.out; have := z8.out; have := z9.out; have := z10.out; have := z11.out; have := z12.out; have := z13.out; have := z14.out; have := z15.out; have := z16.out; omega)
    have mw17 := mv17x1_.2.but m17 (fun g hg hc => by have h1 := highF g hc; have h2 := hi17x1_.2.1 g hg; have := z1.out; have := z2.out; have := z3.out; have := z4.out; have := z5.out; have := z6.out; have := z7.out; have := z8.out; have := z9.out; have := z10.out; have := z11.out; have := z12.out; have := z13.out; have := z14.out; have := z15.out; have := z16.out; omega)
    have HLx1_ : Hid (∀ W, Below w17.heap.size w17 W → Lie W (raw x1) (.slice Xx1_ Nx1_ zx1__) J8 ∧ Live W J8) := hide (fun W hb => ⟨ml17.step hb, mw17.step hb⟩)
    clear mv17x1_ ml17 mw17 hi17x1_
    have mv17x2_ := HLx2_.out w16 dx2_16.out
    have hi17x2_ := HFx2_.out
    have ml17 := mv17x2_.1.but m17 (fun g hg hc => by have h1 := highF g hc; have h2 := hi17x2_.2.1 g hg; have := z1.out; have := z2.out; have := z3.out; have := z4.out; have := z5.out; have := z6.out; have := z7.out; have := z8.out; have := z9.out; have := z10.out; have := z11.out; have := z12.out; have := z13.out; have := z14.out; have := z15.out; have := z16.out; omega)
    have mw17 := mv17x2_.2.but m17 (fun g hg hc => by have h1 := highF g hc; have h2 := hi17x2_.2.1 g hg; have := z1.out; have := z2.out; have := z3.out; have := z4.out; have := z5.out; have := z6.out; have := z7.out; have := z8.out; have := z9.out; have := z10.out; have := z11.out; have := z12.out; have := z13.out; have := z14.out; have := z15.out; have := z16.out; omega)
    have HLx2_ : Hid (∀ W, Below w17.heap.size w17 W → Lie W (raw x2) (.slice Xx2_ Nx2_ zx2__) J9 ∧ Live W J9) := hide (fun W hb => ⟨ml17.step hb, mw17.step hb⟩)
    clear mv17x2_ ml17 mw17 hi17x2_
    have mv17g0 := HLg0.out w16 dg016.out
    have hi17g0 := HFg0.out
    have ml17 := mv17g0.1.but m17 (fun g hg hc => by have h1 := highF g hc; have h2 := hi17g0.2.1 g hg; have := z1.out; have := z2.out; have := z3.out; have := z4.out; have := z5.out; have := z6.out; have := z7.out; have := z8.out; have := z9.out; have := z10.out; have := z11.out; have := z12.out; have := z13.out; have := z14.out; have := z15.out; have := z16.out; omega)
    have mw17 := mv17g0.2.but m17 (fun g hg hc => by have h1 := highF g hc; have h2 := hi17g0.2.1 g hg; have := z1.out; have := z2.out; have := z3.out; have := z4.out; have := z5.out; have := z6.out; have := z7.out; have := z8.out; have := z9.out; have := z10.out; have := z11.out; have := z12.out; have := z13.out; have := z14.out; have := z15.out; have := z16.out; omega)
    have HLg0 : Hid (∀ W, Below w17.heap.size w17 W → Lie W (raw R0) (.slice Xg0 Ng0 zg0_) J0_10 ∧ Live W J0_10) := hide (fun W hb => ⟨ml17.step hb, mw17.step hb⟩)
    clear mv17g0 ml17 mw17 hi17g0
    have z17 := hide b17
    clear b17 lowF highF l17 v17 m17
    go_wp2_with fail
    refine (dmarkRaw x1 (.slice Xx1_ Nx1_ zx1__) J8 (1 + (C0 : Int)) w17 (HLx1_.out w17 (Below.refl _ _)).1 HFx1_.out.1 (HLx1_.out w17 (Below.refl _ _)).2 (by omega) (by rw [HC1.out]; omega)).mono ?_
    rintro e w18 ⟨rfl, l18, v18, m18⟩
    rw [HC1.out]
    have b18 := m18.size
    have lowF := HFx1_.out.2.1
    have highF := HFx1_.out.2.2
    have dA18 := hide (m18.below dA17.out (fun g hg => by have h1 := lowF g hg; have := z1.out; have := z2.out; have := z3.out; have := z4.out; have := z5.out; have := z6.out; have := z7.out; have := z8.out; have := z9.out; have := z10.out; have := z11.out; have := z12.out; have := z13.out; have := z14.out; have := z15.out; have := z16.out; have := z17.out; omega) dA17.out.size)
    have dw018 := hide (m18.below dw017.out (fun g hg => by have h1 := lowF g hg; have := z1.out; have := z2.out; have := z3.out; have := z4.out; have := z5.out; have := z6.out; have := z7.out; have := z8.out; have := z9.out; have := z10.out; have := z11.out; have := z12.out; have := z13.out; have := z14.out; have := z15.out; have := z16.out; have := z17.out; omega) dw017.out.size)
    have mv18x2_ := HLx2_.out w17 (Below.refl _ _)
    have hi18x2_ := HFx2_.out
    have ml18 := mv18x2_.1.but m18 (fun g hg hc => by have h1 := highF g hc; have h2 := hi18x2_.2.1 g hg; have := z1.out; have := z2.out; have := z3.out; have := z4.out; have := z5.out; have := z6.out; have := z7.out; have := z8.out; have := z9.out; have := z10.out; have := z11.out; have := z12.out; have := z13.out; have := z14.out; have := z15.out; have := z16.out; have := z17.out; omega)
    have mw18 := mv18x2_.2.but m18 (fun g hg hc => by have h1 := highF g hc; have h2 := hi18x2_.2.1 g hg; have := z1.out; have := z2.out; have := z3.out; have := z4.out; have := z5.out; have := z6.out; have := z7.out; have := z8.out; have := z9.out; have := z10.out; have := z11.out; have := z12.out; have := z13.out; have := z14.out; have := z15.out; have := z16.out; have := z17.out; omega)
    have HLx2_ : Hid (∀ W, Below w18.heap.size w18 W → Lie W (raw x2) (.slice Xx2_ Nx2_ zx2__) J9 ∧ Live W J9) := hide (fun W hb => ⟨ml18.step hb, mw18.step hb⟩)
    clear mv18x2_ ml18 mw18 hi18x2_
    have mv18g0 := HLg0.out w17 (Below.refl _ _)
    have hi18g0 := HFg0.out
    have ml18 := mv18g0.1.but m18 (fun g hg hc => by have h1 := highF g hc; have h2 := hi18g0.2.1 g hg; have := z1.out; have := z2.out; have := z3.out; have := z4.out; have := z5.out; have := z6.out; have := z7.out; have := z8.out; have := z9.out; have := z10.out; have := z11.out; have := z12.out; have := z13.out; have := z14.out; have := z15.out; have := z16.out; have := z17.out; omega)
    have mw18 := mv18g0.2.but m18 (fun g hg hc => by have h1 := highF g hc; have h2 := hi18g0.2.1 g hg; have := z1.out; have := z2.out; have := z3.out; have := z4.out; have := z5.out; have := z6.out; have := z7.out; have := z8.out; have := z9.out; have := z10.out; have := z11.out; have := z12.out; have := z13.out; have := z14.out; have := z15.out; have := z16.out; have := z17.out; omega)
    have HLg0 : Hid (∀ W, Below w18.heap.size w18 W → Lie W (raw R0) (.slice Xg0 Ng0 zg0_) J0_10 ∧ Live W J0_10) := hide (fun W hb => ⟨ml18.step hb, mw18.step hb⟩)
    clear mv18g0 ml18 mw18 hi18g0
    have z18 := hide b18
    clear b18 lowF highF l18 v18 m18
    go_wp2_with fail
    refine (dmarkRaw x2 (.slice Xx2_ Nx2_ zx2__) J9 (1 + (C0 : Int) + (C1 : Int)) w18 (HLx2_.out w18 (Below.refl _ _)).1 HFx2_.out.1 (HLx2_.out w18 (Below.refl _ _)).2 (by omega) (by rw [HC2.out]; omega)).mono ?_
    rintro e w19 ⟨rfl, l19, v19, m19⟩
    rw [HC2.out]
    have b19 := m19.size
    have lowF := HFx2_.out.2.1
    have highF := HFx2_.out.2.2
    have dA19 := hide (m19.below dA18.out (fun g hg => by have h1 := lowF g hg; have := z1.out; have := z2.out; have := z3.out; have := z4.out; have := z5.out; have := z6.out; have := z7.out; have := z8.out; have := z9.out; have := z10.out; have := z11.out; have := z12.out; have := z13.out; have := z14.out; have := z15.out; have := z16.out; have := z17.out; have := z18.out; omega) dA18.out.size)
    have dw019 := hide (m19.below dw018.out (fun g hg => by have h1 := lowF g hg; have := z1.out; have := z2.out; have := z3.out; have := z4.out; have := z5.out; have := z6.out; have := z7.out; have := z8.out; have := z9.out; have := z10.out; have := z11.out; have := z12.out; have := z13.out; have := z14.out; have := z15.out; have := z16.out; have := z17.out; have := z18.out; omega) dw018.out.size)
    have mv19g0 := HLg0.out w18 (Below.refl _ _)
    have hi19g0 := HFg0.out
    have ml19 := mv19g0.1.but m19 (fun g hg hc => by have h1 := highF g hc; have h2 := hi19g0.2.1 g hg; have := z1.out; have := z2.out; have := z3.out; have := z4.out; have := z5.out; have := z6.out; have := z7.out; have := z8.out; have := z9.out; have := z10.out; have := z11.out; have := z12.out; have := z13.out; have := z14.out; have := z15.out; have := z16.out; have := z17.out; have := z18.out; omega)
    have mw19 := mv19g0.2.but m19 (fun g hg hc => by have h1 := highF g hc; have h2 := hi19g0.2.1 g hg; have := z1.out; have := z2.out; have := z3.out; have := z4.out; have := z5.out; have := z6.out; have := z7.out; have := z8.out; have := z9.out; have := z10.out; have := z11.out; have := z12.out; have := z13.out; have := z14.out; have := z15.out; have := z16.out; have := z17.out; have := z18.out; omega)
    have HLg0 : Hid (∀ W, Below w19.heap.size w19 W → Lie W (raw R0) (.slice Xg0 Ng0 zg0_) J0_10 ∧ Live W J0_10) := hide (fun W hb => ⟨ml19.step hb, mw19.step hb⟩)
    clear mv19g0 ml19 mw19 hi19g0
    have z19 := hide b19
    clear b19 lowF highF l19 v19 m19
    have gk : ¬ (1 + (C0 : Int) + (C1 : Int) + (C2 : Int) < 0) := by omega
    go_wp2_with fail
    refine (deqRaw R0 (.slice Xg0 Ng0 zg0_) (.slice Xw0 Nw0 zw0_) _ _ w19 (HLg0.out w19 (Below.refl _ _)).1 (HLw0.out w19 dw019.out).1).mono ?_
    rintro e w20 ⟨rfl, b20⟩
    have dA20 := hide (dA19.out.trans (b20.mono dA19.out.size))
    have dw020 := hide (dw019.out.trans (b20.mono dw019.out.size))
    have dg020 := hide b20
    have z20 := hide b20.size
    clear b20
    go_wp2_with fail
    refine (dmarkRaw R0 (.slice Xg0 Ng0 zg0_) J0_10 (1) w20 (HLg0.out w20 dg020.out).1 HFg0.out.1 (HLg0.out w20 dg020.out).2 (by omega) (by rw [HCR0.out]; omega)).mono ?_
    rintro e w21 ⟨rfl, l21, v21, m21⟩
    rw [HCR0.out]
    have b21 := m21.size
    have lowF := HFg0.out.2.1
    have highF := HFg0.out.2.2
    have dA21 := hide (m21.below dA20.out (fun g hg => by have h1 := lowF g hg; have := z1.out; have := z2.out; have := z3.out; have := z4.out; have := z5.out; have := z6.out; have := z7.out; have := z8.out; have := z9.out; have := z10.out; have := z11.out; have := z12.out; have := z13.out; have := z14.out; have := z15.out; have := z16.out; have := z17.out; have := z18.out; have := z19.out; have := z20.out; omega) dA20.out.size)
    have dw021 := hide (m21.below dw020.out (fun g hg => by have h1 := lowF g hg; have := z1.out; have := z2.out; have := z3.out; have := z4.out; have := z5.out; have := z6.out; have := z7.out; have := z8.out; have := z9.out; have := z10.out; have := z11.out; have := z12.out; have := z13.out; have := z14.out; have := z15.out; have := z16.out; have := z17.out; have := z18.out; have := z19.out; have := z20.out; omega) dw020.out.size)
    have HMg0 : Hid (∀ W, Below w21.heap.size w21 W → Lie W ((raw R0).mk (1)) (.slice Xg0 Ng0 zg0_) J0_10) := hide (fun W hb => l21.step hb)
    have z21 := hide b21
    clear b21 lowF highF l21 v21 m21
    have hcall := dheldRaw R0 (.slice Xg0 Ng0 zg0_) J0_10 (1) w21 (HMg0.out w21 (Below.refl _ _)) (by omega) (by rw [HCR0.out]; omega)
    rw [HCR0.out] at hcall
    have gh21 : ¬ (1 + (CR0 : Int) < 0) := by omega
    have HCALL := hide hcall
    clear hcall
    go_wp2_with fail
    refine (HCALL.out).mono ?_
    rintro e w22 ⟨rfl, b22⟩
    have dA22 := hide (dA21.out.trans (b22.mono dA21.out.size))
    have dw022 := hide (dw021.out.trans (b22.mono dw021.out.size))
    have dg022 := hide b22
    have z22 := hide b22.size
    clear b22
    clear HCALL
    have ge22 : ((1 + (CR0 : Int)) != 1 + (CR0 : Int)) = false := by simp
    have y0_0 := (HBA0.out w22 dA22.out).cell (j := 0) rfl
    have y0_1 := (HBA0.out w22 dA22.out).cell (j := 1) rfl
    have y0_2 := (HBA0.out w22 dA22.out).cell (j := 2) rfl
    go_wp2_with fail
    refine (dtoStore x0 [.slice A0_0 m0_0 c0_0, .slice A0_1 m0_1 c0_1, .slice A0_2 m0_2 c0_2] E0 w22 (HA0.out w22 dA22.out) HK0.out).mono ?_
    rintro e w23 ⟨t23, J23, rfl, l23, f23, b23⟩
    clear y0_0 y0_1 y0_2
    have dA23 := hide (dA22.out.trans (b23.mono dA22.out.size))
    have dw023 := hide (dw022.out.trans (b23.mono dw022.out.size))
    have dg023 := hide (dg022.out.trans (b23.mono dg022.out.size))
    have z23 := hide b23.size
    clear b23
    have kd := l23
    rw [x0.cells_eq] at kd
    obtain ⟨Ah0__0, mh0__0, ch0__0, r0, G0, rfl, q0⟩ := kd.seqs1
    obtain ⟨Ah0__1, mh0__1, ch0__1, r1, G1, rfl, q1⟩ := q0.seqs1
    obtain ⟨Ah0__2, mh0__2, ch0__2, r2, G2, rfl, q2⟩ := q1.seqs1
    obtain rfl := q2.nil1
    clear kd q0 q1 q2
    have HLh0_ : Hid (∀ W, Below w23.heap.size w23 W → Lies W x0.cells [.slice Ah0__0 mh0__0 ch0__0, .slice Ah0__1 mh0__1 ch0__1, .slice Ah0__2 mh0__2 ch0__2] J23 ∧ Live W J23) := hide (fun W hb => ⟨l23.step hb, f23.live.step hb⟩)
    have HFh0_ : Hid (J23.Nodup ∧ (∀ g ∈ J23, w22.heap.size ≤ g) ∧ ∀ g ∈ J23, g < w23.heap.size) := hide ⟨f23.nodup, f23.low, fun g hg => f23.live.lt g hg⟩
    clear l23 f23
    go_wp2_with fail
    refine (dtoRaw x1 (.slice A1 n1 c1_) E1 w23 (HA1.out w23 dA23.out) HK1.out).mono ?_
    rintro e w24 ⟨t24, J24, rfl, l24, f24, b24⟩
    have dA24 := hide (dA23.out.trans (b24.mono dA23.out.size))
    have dw024 := hide (dw023.out.trans (b24.mono dw023.out.size))
    have dg024 := hide (dg023.out.trans (b24.mono dg023.out.size))
    have dh0_24 := hide b24
    have z24 := hide b24.size
    clear b24
    obtain ⟨Xh1_, Nh1_, zh1__, rfl⟩ : ∃ X y z, t24 = .slice X y z := by obtain ⟨X, z, e, _, _⟩ := l24.form; exact ⟨_, _, _, e⟩
    have HLh1_ : Hid (∀ W, Below w24.heap.size w24 W → Lie W (raw x1) (.slice Xh1_ Nh1_ zh1__) J24 ∧ Live W J24) := hide (fun W hb => ⟨l24.step hb, f24.live.step hb⟩)
    have HFh1_ : Hid (J24.Nodup ∧ (∀ g ∈ J24, w23.heap.size ≤ g) ∧ ∀ g ∈ J24, g < w24.heap.size) := hide ⟨f24.nodup, f24.low, fun g hg => f24.live.lt g hg⟩
    clear l24 f24
    go_wp2_with fail
    refine (dtoRaw x2 (.slice A2 n2 c2_) E2 w24 (HA2.out w24 dA24.out) HK2.out).mono ?_
    rintro e w25 ⟨t25, J25, rfl, l25, f25, b25⟩
    have dA25 := hide (dA24.out.trans (b25.mono dA24.out.size))
    have dw025 := hide (dw024.out.trans (b25.mono dw024.out.size))
    have dg025 := hide (dg024.out.trans (b25.mono dg024.out.size))
    have dh0_25 := hide (dh0_24.out.trans (b25.mono dh0_24.out.size))
    have dh1_25 := hide b25
    have z25 := hide b25.size
    clear b25
    obtain ⟨Xh2_, Nh2_, zh2__, rfl⟩ : ∃ X y z, t25 = .slice X y z := by obtain ⟨X, z, e, _, _⟩ := l25.form; exact ⟨_, _, _, e⟩
    have HLh2_ : Hid (∀ W, Below w25.heap.size w25 W → Lie W (raw x2) (.slice Xh2_ Nh2_ zh2__) J25 ∧ Live W J25) := hide (fun W hb => ⟨l25.step hb, f25.live.step hb⟩)
    have HFh2_ : Hid (J25.Nodup ∧ (∀ g ∈ J25, w24.heap.size ≤ g) ∧ ∀ g ∈ J25, g < w25.heap.size) := hide ⟨f25.nodup, f25.low, fun g hg => f25.live.lt g hg⟩
    clear l25 f25
    go_wp2_with fail
    refine (HIMPL2.out [.slice Ah0__0 mh0__0 ch0__0, .slice Ah0__1 mh0__1 ch0__1, .slice Ah0__2 mh0__2 ch0__2] J23 (.slice Xh1_ Nh1_ zh1__) J24 (.slice Xh2_ Nh2_ zh2__) J25 w25 (HLh0_.out w25 dh0_25.out).1 (HLh1_.out w25 dh1_25.out).1 (HLh2_.out w25 (Below.refl _ _)).1 (HTB.out.step (HB.out.trans (dA25.out.mono HB.out.size)))).mono ?_
    rintro e w26 ⟨r0_26, J0_26, rfl, l0_26, f26, b26⟩
    have dA26 := hide (dA25.out.trans (b26.mono dA25.out.size))
    have dw026 := hide (dw025.out.trans (b26.mono dw025.out.size))
    have dg026 := hide (dg025.out.trans (b26.mono dg025.out.size))
    have dh0_26 := hide (dh0_25.out.trans (b26.mono dh0_25.out.size))
    have dh1_26 := hide (dh1_25.out.trans (b26.mono dh1_25.out.size))
    have dh2_26 := hide b26
    have z26 := hide b26.size
    clear b26
    have f0_26 := f26
    obtain ⟨Xh0, Nh0, zh0_, rfl⟩ : ∃ X y z, r0_26 = .slice X y z := by obtain ⟨X, z, e, _, _⟩ := l0_26.form; exact ⟨_, _, _, e⟩
    have HLh0 : Hid (∀ W, Below w26.heap.size w26 W → Lie W (raw R0) (.slice Xh0 Nh0 zh0_) J0_26 ∧ Live W J0_26) := hide (fun W hb => ⟨l0_26.step hb, f0_26.live.step hb⟩)
    have HFh0 : Hid (J0_26.Nodup ∧ (∀ g ∈ J0_26, w25.heap.size ≤ g) ∧ ∀ g ∈ J0_26, g < w26.heap.size) := hide ⟨f0_26.nodup, f0_26.low, fun g hg => f0_26.live.lt g hg⟩
    clear l0_26 f0_26
    go_wp2_with fail
    refine (deqRaw R0 (.slice Xh0 Nh0 zh0_) (.slice Xw0 Nw0 zw0_) _ _ w26 (HLh0.out w26 (Below.refl _ _)).1 (HLw0.out w26 dw026.out).1).mono ?_
    rintro e w27 ⟨rfl, b27⟩
    have dA27 := hide (dA26.out.trans (b27.mono dA26.out.size))
    have dw027 := hide (dw026.out.trans (b27.mono dw026.out.size))
    have dg027 := hide (dg026.out.trans (b27.mono dg026.out.size))
    have dh027 := hide b27
    have z27 := hide b27.size
    clear b27
    have hcall := dheldRaw R0 (.slice Xg0 Ng0 zg0_) J0_10 (1) w27 (HMg0.out w27 dg027.out) (by omega) (by rw [HCR0.out]; omega)
    rw [HCR0.out] at hcall
    have gh27 : ¬ (1 + (CR0 : Int) < 0) := by omega
    have HCALL := hide hcall
    clear hcall
    go_wp2_with fail
    refine (HCALL.out).mono ?_
    rintro e w28 ⟨rfl, b28⟩
    have dA28 := hide (dA27.out.trans (b28.mono dA27.out.size))
    have dw028 := hide (dw027.out.trans (b28.mono dw027.out.size))
    have dg028 := hide (dg027.out.trans (b28.mono dg027.out.size))
    have z28 := hide b28.size
    clear b28
    clear HCALL
    have ge28 : ((1 + (CR0 : Int)) != 1 + (CR0 : Int)) = false := by simp
    go_wp2_with fail
    go_ret
    exact ⟨rfl, HB.out.trans (dA28.out.mono HB.out.size)⟩

end Go.Proofs.YtmhapnlgakkljaaGreatDoor
