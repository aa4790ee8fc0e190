/-
  Parts of the proof: CountObjsW.
-/
import Derived.Test.YtmhapnlgakkljaaGreatDoorMp12
import Derived.Test.YtmhapnlgakkljaaGreatDoorMp10
import Derived.Test.YtmhapnlgakkljaaGreatDoorMp13
import Derived.Test.YtmhapnlgakkljaaGreatDoorMp11
import Derived.Test.YtmhapnlgakkljaaGreatDoorMp0
import Derived.Test.YtmhapnlgakkljaaGreatDoorMp8
import Derived.Deep.RegionWith
import Derived.Deep.DeepCutAuto
import Derived.Deep.RegionHeld3

/-
  The walk of the law FnExactCountObjs, over the contracts of the model's function and the program's.
-/
namespace Go.Proofs.YtmhapnlgakkljaaGreatDoor
open Go.RowKit
set_option linter.unusedVariables false
set_option linter.unusedSimpArgs false

set_option maxRecDepth 20000 in
set_option maxHeartbeats 3200000 in
theorem walkCountObjs (x0 : DStore) (a1 : Int) (S0 : Int) (ha1 : -9223372036854775808 ≤ a1 ∧ a1 ≤ 9223372036854775807)
    (hspec : bulks x0.cells ≤ 1048576 → ∀ (u0 : List Value) (E0 : List Nat) (W : World), Lies W x0.cells u0 E0 → Calls Tryz.prog 21 #[.agg u0.toArray, .int .i64 a1] W fun e w' => e = .returned (.int .i64 S0) ∧ Below W.heap.size W w')
    (himpl : bulks x0.cells ≤ 1048576 → ∀ (u0 : List Value) (E0 : List Nat) (W : World), Lies W x0.cells u0 E0 → Tab W → Calls Tryz.prog 22 #[.agg u0.toArray, .int .i64 a1] W fun e w' => e = .returned (.int .i64 S0) ∧ Below W.heap.size W w')
    (w : World) (u0 : List Value) (E0 : List Nat) (h0 : Lies w x0.cells u0 E0) (hTb : Tab w) :
    Calls Tryz.prog 5 #[.agg u0.toArray, .int .i64 a1] w fun e w' => e = .returned (.bool true) ∧ Below w.heap.size w w' := by
  have kd := h0
  rw [x0.cells_eq] at kd
  obtain ⟨A0_0, m0_0, c0_0, r0, G0, rfl, q0⟩ := kd.seqs1
  obtain ⟨A0_1, m0_1, c0_1, r1, G1, rfl, q1⟩ := q0.seqs1
  obtain ⟨A0_2, m0_2, c0_2, r2, G2, rfl, q2⟩ := q1.seqs1
  obtain rfl := q2.nil1
  clear kd q0 q1 q2
  obtain ⟨wa, hwa⟩ : ∃ wa, w.alloc (.cells #[.slice A0_0 m0_0 c0_0, .slice A0_1 m0_1 c0_1, .slice A0_2 m0_2 c0_2] 26) = wa := ⟨_, rfl⟩
  have ba : Below w.heap.size w wa := by rw [← hwa]; exact ((Below.refl _ _).alloc (by exact Nat.le_refl _) _)
  have bA0 : Box wa (w.heap.size) 26 [.slice A0_0 m0_0 c0_0, .slice A0_1 m0_1 c0_1, .slice A0_2 m0_2 c0_2] := by
    rw [← hwa]
    have hb := Box.new (w) [.slice A0_0 m0_0 c0_0, .slice A0_1 m0_1 c0_1, .slice A0_2 m0_2 c0_2] 26
    try simp only [World.size_alloc] at hb
    exact hb
  have HBA0 : Hid (∀ W, Below wa.heap.size wa W → Box W (w.heap.size) 26 [.slice A0_0 m0_0 c0_0, .slice A0_1 m0_1 c0_1, .slice A0_2 m0_2 c0_2]) := hide (fun W hb => bA0.step hb)
  clear bA0
  have HA0 : Hid (∀ W, Below wa.heap.size wa W → Lies W x0.cells [.slice A0_0 m0_0 c0_0, .slice A0_1 m0_1 c0_1, .slice A0_2 m0_2 c0_2] E0) := hide (fun W hb => (h0.step ba).step hb)
  have HB := hide ba
  have HTB := hide hTb
  clear hTb
  have HSPEC := hide hspec
  have HIMPL := hide himpl
  clear ba hspec himpl h0
  obtain ⟨n1a, n1b⟩ := ha1
  obtain ⟨Z0, hZ0⟩ : ∃ Z, bulks x0.cells = Z := ⟨_, rfl⟩
  have hsz0 := fun W (hb : Below wa.heap.size wa W) (h0 : (0 : Int) ≤ 1048576) => dszStore x0 [.slice A0_0 m0_0 c0_0, .slice A0_1 m0_1 c0_1, .slice A0_2 m0_2 c0_2] E0 (1048576) W (HA0.out W hb) h0 (by omega)
  rw [hZ0] at hsz0
  have HZ0 := hide hZ0
  have HSZ0 := hide hsz0
  clear hsz0 hZ0
  by_cases hle0 : (Z0 : Int) ≤ 1048576
  rotate_left
  · have hfail := hle0
    go_enter Tryz.func5, Tryz.ntmps5
    have y0_0 := (HBA0.out wa (Below.refl _ _)).cell (j := 0) rfl
    have y0_1 := (HBA0.out wa (Below.refl _ _)).cell (j := 1) rfl
    have y0_2 := (HBA0.out wa (Below.refl _ _)).cell (j := 2) rfl
    have ac0 := HSZ0.out wa (Below.refl _ _) (by omega)
    rw [lft, if_neg (by omega)] at ac0
    go_wp2_with fail
    refine (ac0).mono ?_
    rintro e w1 ⟨rfl, b1⟩
    clear y0_0 y0_1 y0_2
    have dA1 := hide b1
    have z1 := hide b1.size
    clear b1
    clear ac0
    go_wp2_with fail
    go_ret
    exact ⟨rfl, HB.out.trans (dA1.out.mono HB.out.size)⟩
  have HK0 : Hid (bulks x0.cells ≤ 1048576) := hide (by rw [HZ0.out]; omega)
  have HSPEC2 := hide (HSPEC.out HK0.out)
  have HIMPL2 := hide (HIMPL.out HK0.out)
  clear HSPEC HIMPL
  have ne0 : (S0 != S0) = false := by simp
  go_enter Tryz.func5, Tryz.ntmps5
  have y0_0 := (HBA0.out wa (Below.refl _ _)).cell (j := 0) rfl
  have y0_1 := (HBA0.out wa (Below.refl _ _)).cell (j := 1) rfl
  have y0_2 := (HBA0.out wa (Below.refl _ _)).cell (j := 2) rfl
  have ac0 := HSZ0.out wa (Below.refl _ _) (by omega)
  rw [lft, if_pos (by omega)] at ac0
  have gc0 : ¬ (1048576 - (Z0 : Int) < 0) := by omega
  go_wp2_with fail
  refine (ac0).mono ?_
  rintro e w1 ⟨rfl, b1⟩
  clear y0_0 y0_1 y0_2
  have dA1 := hide b1
  have z1 := hide b1.size
  clear b1
  clear ac0
  have y0_0 := (HBA0.out w1 dA1.out).cell (j := 0) rfl
  have y0_1 := (HBA0.out w1 dA1.out).cell (j := 1) rfl
  have y0_2 := (HBA0.out w1 dA1.out).cell (j := 2) rfl
  go_wp2_with fail
  refine (dtoStore x0 [.slice A0_0 m0_0 c0_0, .slice A0_1 m0_1 c0_1, .slice A0_2 m0_2 c0_2] E0 w1 (HA0.out w1 dA1.out) HK0.out).mono ?_
  rintro e w2 ⟨t2, J2, rfl, l2, f2, b2⟩
  clear y0_0 y0_1 y0_2
  have dA2 := hide (dA1.out.trans (b2.mono dA1.out.size))
  have z2 := hide b2.size
  clear b2
  have kd := l2
  rw [x0.cells_eq] at kd
  obtain ⟨As0_0, ms0_0, cs0_0, r0, G0, rfl, q0⟩ := kd.seqs1
  obtain ⟨As0_1, ms0_1, cs0_1, r1, G1, rfl, q1⟩ := q0.seqs1
  obtain ⟨As0_2, ms0_2, cs0_2, r2, G2, rfl, q2⟩ := q1.seqs1
  obtain rfl := q2.nil1
  clear kd q0 q1 q2
  have HLs0 : Hid (∀ W, Below w2.heap.size w2 W → Lies W x0.cells [.slice As0_0 ms0_0 cs0_0, .slice As0_1 ms0_1 cs0_1, .slice As0_2 ms0_2 cs0_2] J2 ∧ Live W J2) := hide (fun W hb => ⟨l2.step hb, f2.live.step hb⟩)
  have HFs0 : Hid (J2.Nodup ∧ (∀ g ∈ J2, w1.heap.size ≤ g) ∧ ∀ g ∈ J2, g < w2.heap.size) := hide ⟨f2.nodup, f2.low, fun g hg => f2.live.lt g hg⟩
  clear l2 f2
  go_wp2_with fail
  refine (HSPEC2.out [.slice As0_0 ms0_0 cs0_0, .slice As0_1 ms0_1 cs0_1, .slice As0_2 ms0_2 cs0_2] J2 w2 (HLs0.out w2 (Below.refl _ _)).1).mono ?_
  rintro e w3 ⟨rfl, b3⟩
  have dA3 := hide (dA2.out.trans (b3.mono dA2.out.size))
  have ds03 := hide b3
  have z3 := hide b3.size
  clear b3
  have y0_0 := (HBA0.out w3 dA3.out).cell (j := 0) rfl
  have y0_1 := (HBA0.out w3 dA3.out).cell (j := 1) rfl
  have y0_2 := (HBA0.out w3 dA3.out).cell (j := 2) rfl
  go_wp2_with fail
  refine (dtoStore x0 [.slice A0_0 m0_0 c0_0, .slice A0_1 m0_1 c0_1, .slice A0_2 m0_2 c0_2] E0 w3 (HA0.out w3 dA3.out) HK0.out).mono ?_
  rintro e w4 ⟨t4, J4, rfl, l4, f4, b4⟩
  clear y0_0 y0_1 y0_2
  have dA4 := hide (dA3.out.trans (b4.mono dA3.out.size))
  have z4 := hide b4.size
  clear b4
  have kd := l4
  rw [x0.cells_eq] at kd
  obtain ⟨Ax0__0, mx0__0, cx0__0, r0, G0, rfl, q0⟩ := kd.seqs1
  obtain ⟨Ax0__1, mx0__1, cx0__1, r1, G1, rfl, q1⟩ := q0.seqs1
  obtain ⟨Ax0__2, mx0__2, cx0__2, r2, G2, rfl, q2⟩ := q1.seqs1
  obtain rfl := q2.nil1
  clear kd q0 q1 q2
  have HLx0_ : Hid (∀ W, Below w4.heap.size w4 W → Lies W x0.cells [.slice Ax0__0 mx0__0 cx0__0, .slice Ax0__1 mx0__1 cx0__1, .slice Ax0__2 mx0__2 cx0__2] J4 ∧ Live W J4) := hide (fun W hb => ⟨l4.step hb, f4.live.step hb⟩)
  have HFx0_ : Hid (J4.Nodup ∧ (∀ g ∈ J4, w3.heap.size ≤ g) ∧ ∀ g ∈ J4, g < w4.heap.size) := hide ⟨f4.nodup, f4.low, fun g hg => f4.live.lt g hg⟩
  clear l4 f4
  obtain ⟨wz5, hwz5⟩ : ∃ W, w4.alloc (.cells #[.slice none 0 0, .slice none 0 0, .slice none 0 0] 32) = W := ⟨_, rfl⟩
  have bz5 : Below w4.heap.size w4 wz5 := by rw [← hwz5]; exact ((Below.refl _ _).alloc (by exact Nat.le_refl _) _)
  have bq5_0 : Box wz5 (w4.heap.size) 32 [.slice none 0 0, .slice none 0 0, .slice none 0 0] := by
    rw [← hwz5]
    have hb := Box.new (w4) [.slice none 0 0, .slice none 0 0, .slice none 0 0] 32
    try simp only [World.size_alloc] at hb
    exact hb
  obtain ⟨w5, hws5_0⟩ : ∃ W, wz5.setCells (w4.heap.size) 0 [.slice Ax0__0 mx0__0 cx0__0, .slice Ax0__1 mx0__1 cx0__1, .slice Ax0__2 mx0__2 cx0__2] = W := ⟨_, rfl⟩
  have TH5_0 := hide (bq5_0.there (o := 0) (n := 3) (by simp))
  have bu5 := but_sets wz5 (w4.heap.size) [.slice Ax0__0 mx0__0 cx0__0, .slice Ax0__1 mx0__1 cx0__1, .slice Ax0__2 mx0__2 cx0__2] 0
  rw [hws5_0] at bu5
  have bq5_0 : Box w5 (w4.heap.size) 32 [.slice Ax0__0 mx0__0 cx0__0, .slice Ax0__1 mx0__1 cx0__1, .slice Ax0__2 mx0__2 cx0__2] := by have := bq5_0.sets (vs := [.slice Ax0__0 mx0__0 cx0__0, .slice Ax0__1 mx0__1 cx0__1, .slice Ax0__2 mx0__2 cx0__2]) (o := 0); rw [hws5_0] at this; exact this
  have bz5 : Below w4.heap.size w4 w5 := bu5.below bz5 (fun g hg => by have := List.mem_singleton.1 hg; omega) bz5.size
  clear bu5
  have HWS5_0 := hide hws5_0
  have ON5_0 : Hid ((#[.slice Ax0__0 mx0__0 cx0__0, .slice Ax0__1 mx0__1 cx0__1, .slice Ax0__2 mx0__2 cx0__2] : Array Value).all (·.oneCell') = true) := hide (by simp [Value.oneCell'])
  clear hws5_0
  have HWZ5 := hide hwz5
  clear hwz5
  have b5 := bz5
  clear bz5
  have HXx0_ : Hid (∀ W, Below w5.heap.size w5 W → Box W (w4.heap.size) 32 [.slice Ax0__0 mx0__0 cx0__0, .slice Ax0__1 mx0__1 cx0__1, .slice Ax0__2 mx0__2 cx0__2]) := hide (fun W hb => bq5_0.step hb)
  clear bq5_0
  have dA5 := hide (dA4.out.trans (b5.mono dA4.out.size))
  have dx0_5 := hide b5
  have z5 := hide b5.size
  have yox0__0 := (HXx0_.out w5 (Below.refl _ _)).cell (j := 0) rfl
  have yox0__1 := (HXx0_.out w5 (Below.refl _ _)).cell (j := 1) rfl
  have yox0__2 := (HXx0_.out w5 (Below.refl _ _)).cell (j := 2) rfl
  go_wp2_with (first
      | ((with_reducible refine at_store 32 ?_); rw [HWZ5.out]; refine wpList_store_mid rfl _ _ _ rfl (w4.heap.size) 0 #[.slice Ax0__0 mx0__0 cx0__0, .slice Ax0__1 mx0__1 cx0__1, .slice Ax0__2 mx0__2 cx0__2] rfl rfl TH5_0.out (by kernel_rfl) ON5_0.out ?_; change wpList _ _ _ _ _ (wz5.setCells (w4.heap.size) 0 [.slice Ax0__0 mx0__0 cx0__0, .slice Ax0__1 mx0__1 cx0__1, .slice Ax0__2 mx0__2 cx0__2]); rw [HWS5_0.out]))
  refine (HIMPL2.out [.slice Ax0__0 mx0__0 cx0__0, .slice Ax0__1 mx0__1 cx0__1, .slice Ax0__2 mx0__2 cx0__2] J4 w5 (HLx0_.out w5 dx0_5.out).1 (HTB.out.step (HB.out.trans (dA5.out.mono HB.out.size)))).mono ?_
  rintro e w6 ⟨rfl, b6⟩
  clear yox0__0 yox0__1 yox0__2
  have dA6 := hide (dA5.out.trans (b6.mono dA5.out.size))
  have dx0_6 := hide (dx0_5.out.trans (b6.mono dx0_5.out.size))
  have dx0_b6 := hide b6
  have z6 := hide b6.size
  clear b6
  go_upto_region 10 with (fail)
  have yox0__0 := (HXx0_.out w6 dx0_b6.out).cell (j := 0) rfl
  have yox0__1 := (HXx0_.out w6 dx0_b6.out).cell (j := 1) rfl
  have yox0__2 := (HXx0_.out w6 dx0_b6.out).cell (j := 2) rfl
  have y0_0 := (HBA0.out w6 dA6.out).cell (j := 0) rfl
  have y0_1 := (HBA0.out w6 dA6.out).cell (j := 1) rfl
  have y0_2 := (HBA0.out w6 dA6.out).cell (j := 2) rfl
  have HDR := hide (show Below w6.heap.size w6 w6.drew from (Below.refl _ _).drew)
  go_cut [30] (fun v wx => v = .bool false ∧ Below w6.heap.size w6 wx)
  case first =>
    go_region_with (first
      | (go_at_call 14; refine (dtoStore x0 [.slice A0_0 m0_0 c0_0, .slice A0_1 m0_1 c0_1, .slice A0_2 m0_2 c0_2] E0 w6.drew (HA0.out _ (dA6.out.trans (HDR.out.mono dA6.out.size))) HK0.out).mono ?_; rintro e w7 ⟨t7, J7, rfl, l7, f7, b7⟩; have yox0__0 := (HXx0_.out _ ((dx0_b6.out.trans (HDR.out.mono dx0_b6.out.size)).trans (b7.mono (dx0_b6.out.trans (HDR.out.mono dx0_b6.out.size)).size))).cell (j := 0) rfl; have yox0__1 := (HXx0_.out _ ((dx0_b6.out.trans (HDR.out.mono dx0_b6.out.size)).trans (b7.mono (dx0_b6.out.trans (HDR.out.mono dx0_b6.out.size)).size))).cell (j := 1) rfl; have yox0__2 := (HXx0_.out _ ((dx0_b6.out.trans (HDR.out.mono dx0_b6.out.size)).trans (b7.mono (dx0_b6.out.trans (HDR.out.mono dx0_b6.out.size)).size))).cell (j := 2) rfl; have y0_0 := (HBA0.out _ ((dA6.out.trans (HDR.out.mono dA6.out.size)).trans (b7.mono (dA6.out.trans (HDR.out.mono dA6.out.size)).size))).cell (j := 0) rfl; have y0_1 := (HBA0.out _ ((dA6.out.trans (HDR.out.mono dA6.out.size)).trans (b7.mono (dA6.out.trans (HDR.out.mono dA6.out.size)).size))).cell (j := 1) rfl; have y0_2 := (HBA0.out _ ((dA6.out.trans (HDR.out.mono dA6.out.size)).trans (b7.mono (dA6.out.trans (HDR.out.mono dA6.out.size)).size))).cell (j := 2) rfl)
      | (go_at_call 16; refine (deqStore x0 [.slice Ax0__0 mx0__0 cx0__0, .slice Ax0__1 mx0__1 cx0__1, .slice Ax0__2 mx0__2 cx0__2] _ _ J7 w7 (HLx0_.out _ ((dx0_6.out.trans (HDR.out.mono dx0_6.out.size)).trans (b7.mono (dx0_6.out.trans (HDR.out.mono dx0_6.out.size)).size))).1 l7).mono ?_; rintro e w8 ⟨rfl, b8⟩))
    all_goals
      have hfin := HDR.out.trans (b7.trans (b8.mono b7.size) |>.mono HDR.out.size)
      have HF := hide hfin
      clear hfin
      go_wp2
      go_meet
      exact ⟨rfl, HF.out⟩
  case rest =>
    clear HDR yox0__0 yox0__1 yox0__2 y0_0 y0_1 y0_2
    obtain ⟨rfl, b7⟩ := hcut
    obtain ⟨w7, hwc⟩ : ∃ W, W = wc := ⟨_, rfl⟩
    subst hwc
    have dA7 := hide (dA6.out.trans (b7.mono dA6.out.size))
    have dx0_7 := hide (dx0_6.out.trans (b7.mono dx0_6.out.size))
    have dx0_b7 := hide (dx0_b6.out.trans (b7.mono dx0_b6.out.size))
    have z7 := hide b7.size
    clear b7
    go_wp2_with fail
    go_ret
    exact ⟨rfl, HB.out.trans (dA7.out.mono HB.out.size)⟩

end Go.Proofs.YtmhapnlgakkljaaGreatDoor
