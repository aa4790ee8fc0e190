/-
  Parts of the proof: DrvC.
-/
import Derived.Test.YtigklnokgmcifaaDoorMd18
import Derived.Test.YtigklnokgmcifaaDoorMd10
import Derived.Test.YtigklnokgmcifaaDoorMd20
import Derived.Test.YtigklnokgmcifaaDoorMd9
import Derived.Laws.BytesArg
import Derived.IntWalk
import Derived.Deep.QuietTactic
import Derived.BigQuiet
import Derived.Deep.Cut
import Derived.Deep.DeepCutAuto
import Derived.Deep.CutBlock
import Derived.Deep.RegionWith

/-
  The program's drvCode.
-/
namespace Go.Proofs.YtigklnokgmcifaaDoor
open Go.RowKit
set_option linter.unusedVariables false
set_option linter.unusedSimpArgs false

set_option maxRecDepth 20000 in
set_option maxHeartbeats 6400000 in
theorem implDrvCode (d : DDrv) (hok : oks d.cells) (hbk : bulks d.cells ≤ 1048576) (hsm : drvSmall d) (us : List Value) (w : World) (hs : Ins w d.cells us) :
    Calls Tryd.prog 84 #[.agg us.toArray] w fun e w' => ∃ v', e = .returned v' ∧ w'.ownsRow w.heap.size 5 1 v' (drvEnc d).length (bs (drvEnc d)) ∧ Below w.heap.size w w' := by
  obtain ⟨i0, hi0, hz0, hz1, hz2⟩ := info_parts u8info
  obtain ⟨A0, c0, A1, c1, A2, c2, A3, c3, rfl, h0, h1, h2, h3⟩ := DDrv.view hs
  obtain ⟨wa, hwa⟩ : ∃ wa, w.alloc (.cells #[.slice A0 d.srcs.length c0, .slice A1 d.ins.length c1, .slice A2 d.outs.length c2, .slice A3 d.ops.length c3] 49) = wa := ⟨_, rfl⟩
  have ba : Below w.heap.size w wa := by rw [← hwa]; exact (Below.refl _ _).alloc (Nat.le_refl _) _
  have bx : Box wa w.heap.size 49 [.slice A0 d.srcs.length c0, .slice A1 d.ins.length c1, .slice A2 d.outs.length c2, .slice A3 d.ops.length c3] := by rw [← hwa]; exact Box.new w _ _
  have hz : w.heap.size < wa.heap.size := bx.lt
  obtain ⟨ok0, ok1, ok2, ok3⟩ := (DDrv.oks_iff d).1 hok
  obtain ⟨r0, r1, r2, r3⟩ := drv_rooms hsm hbk
  obtain ⟨s0, s1, s2, s3, s4⟩ := hsm
  have hbl := bulk_Drv d
  have g0 := h0.step ba
  have g1 := h1.step ba
  have g2 := h2.step ba
  have g3 := h3.step ba
  have x0 := bx.cell (j := 0) rfl
  have x1 := bx.cell (j := 1) rfl
  have x2 := bx.cell (j := 2) rfl
  have x3 := bx.cell (j := 3) rfl
  have HX := hide (fun W (hb : Below wa.heap.size wa W) => (bx.step hb))
  have HBA := hide ba
  have HHD := hide (show drvHead d = [68, (d.srcs.length : Int), (d.ins.length : Int), (d.outs.length : Int), (d.ops.length : Int)] from rfl)
  have HBL := hide hbl
  obtain ⟨N0, hN0⟩ : ∃ n, d.srcs.length = n := ⟨_, rfl⟩
  obtain ⟨N1, hN1⟩ : ∃ n, d.ins.length = n := ⟨_, rfl⟩
  obtain ⟨N2, hN2⟩ : ∃ n, d.outs.length = n := ⟨_, rfl⟩
  obtain ⟨N3, hN3⟩ : ∃ n, d.ops.length = n := ⟨_, rfl⟩
  rw [hN0, hN1, hN2, hN3] at HHD
  rw [hN0] at x0 g0 s0
  rw [hN1] at x1 g1 s1
  rw [hN2] at x2 g2 s2
  rw [hN3] at x3 g3 s3
  simp only [hN0, hN1, hN2, hN3] at hwa HX ⊢
  have G0 := hide g0
  have G1 := hide g1
  have G2 := hide g2
  have G3 := hide g3
  have HN0 := hide hN0
  have HN1 := hide hN1
  have HN2 := hide hN2
  have HN3 := hide hN3
  have HS4 := hide s4
  have R0 := hide r0
  have R1 := hide r1
  have R2 := hide r2
  have R3 := hide r3
  have OK3 := hide ok3
  have hw0 : (N0 : Int) % 256 = (N0 : Int) := by omega
  have hw1 : (N1 : Int) % 256 = (N1 : Int) := by omega
  have hw2 : (N2 : Int) % 256 = (N2 : Int) := by omega
  have hw3 : (N3 : Int) % 256 = (N3 : Int) := by omega
  clear bx ba hok hs h0 h1 h2 h3 g0 g1 g2 g3 hbl hbk hN0 hN1 hN2 hN3 s4 r0 r1 r2 r3 ok0 ok1 ok2 ok3
  obtain ⟨wb, hwb⟩ : ∃ W, wa.alloc (.cells #[.int .u8 68, .int .u8 (N0 : Int), .int .u8 (N1 : Int), .int .u8 (N2 : Int), .int .u8 (N3 : Int)] 5) = W := ⟨_, rfl⟩
  have HB0 := hide (show Below wa.heap.size wa wb by rw [← hwb]; exact (Below.refl _ _).alloc (Nat.le_refl _) _)
  have HO0 : Hid (Acc wa (drvHead d) (.slice (some ⟨wa.heap.size, 0, none⟩) 5 5) wb) := by
    refine hide ⟨_, 5, 5, rfl, by rw [HHD.out]; rfl, ?_, HB0.out⟩
    rw [← hwb, HHD.out]; exact World.ownsRow_lit wa _ 5 (Nat.le_refl _) (by simp [maxLen]) rfl
  have y0 := (HX.out wb HB0.out).cell (j := 0) rfl
  have y1 := (HX.out wb HB0.out).cell (j := 1) rfl
  have y2 := (HX.out wb HB0.out).cell (j := 2) rfl
  have y3 := (HX.out wb HB0.out).cell (j := 3) rfl
  go_enter Tryd.func84, Tryd.ntmps84
  go_upto_block 0 with (fail)
  go_cut [3] (fun v wx => Hid (Acc wa (drvHead d ++ cat id d.srcs) v wx))
  case first =>
    go_wp2_with fail
    go_loopw [3, 32] (fun v i wr => ∃ k : Nat, k ≤ N0 ∧ i = .int .i64 k ∧ Hid (Acc wa (drvHead d ++ cat id (d.srcs.take k)) v wr)) (fun _ i _ => N0 - (intOf i).toNat)
    case atStart => exact ⟨0, Nat.zero_le _, rfl, by simpa [cat_nil] using HO0⟩
    case round =>
      obtain ⟨k, hk, rfl, HA⟩ := hrel
      clear HO0
      have hrow := HA.out
      obtain ⟨A, n, c, rfl, hn, ho, hb⟩ := hrow
      have hlo := hb.size
      have HBB := hide hb
      have HO := hide ho
      by_cases hlt : k < N0
      · have hk2 : k < d.srcs.length := by rw [HN0.out]; exact hlt
        have hnext := cat_next id hk2
        have hroom := cat_take id d.srcs (k + 1)
        rw [hnext, List.length_append] at hroom
        have k1 : (k : Int) < (N0 : Int) := by omega
        have hR := R0.out
        have hD : (drvHead d : List Int).length ≤ 5 + 0 := by
          simp only [List.length_append, HHD.out, List.length_cons, List.length_nil]
          have := R0.out
          have := R1.out
          have := R2.out
          omega
        obtain ⟨P, hP⟩ : ∃ P, drvHead d ++ cat id (d.srcs.take k) = P := ⟨_, rfl⟩
        have hnext2 : drvHead d ++ cat id (d.srcs.take (k + 1)) = P ++ id d.srcs[k] := by rw [hnext, ← hP]; simp only [List.append_assoc]
        have hroom2 : P.length + (id d.srcs[k]).length ≤ 5242880 := by rw [← hP, List.length_append]; omega
        rw [hP] at HA hn HO
        have HNX := hide hnext2
        have HRM := hide hroom2
        have hnb : n ≤ P.length := Nat.le_of_eq hn
        have HNN := hide hn
        clear hnext hroom hR hD hP hnext2 ho hb hroom2 hn
        obtain ⟨b, off, X, cc, rfl, hbl, q0, hr⟩ := G0.out.nameAt HN0.out HBB.out hlt hk2
        obtain ⟨S, hS⟩ : ∃ S, d.srcs[k] = S := ⟨_, rfl⟩
        rw [hS] at q0 hr HNX HRM
        have HRR := hide hr
        have hrm := HRM.out
        obtain ⟨LS, hLS⟩ : ∃ x, S.length = x := ⟨_, rfl⟩
        rw [hLS] at q0 HRR
        simp only [id_eq] at hrm HNX
        have hHR : Hid (Rd wa (.slice X LS cc) (bs S)) := HRR
        clear hr hS hLS
        go_wp2_with (at_builtin; refine wpList_app _ rfl (.tmp 36) (.tmp 37) _ rfl wa.heap.size 5 i0 _ 1 Tryd.underlying22 hi0 hz0 hz1 hz2 rfl _ _ _ rfl (HO.out) _ (bs (S)) rfl (hHR.out.below HBB.out) (bs_one _) (by rw [bs_length]; simp only [maxLen]; omega) (by rw [bs_length]; omega) (hlo) ?_; intro v2 w2 own2 gr2)
        have HFIN := hide (Acc.app HNN.out HO.out HBB.out own2 gr2)
        clear own2 gr2
        go_wp2

        go_roundw
        case rel => exact ⟨k + 1, by omega, by go_num, hide (HFIN.out.eq HNX.out.symm)⟩
        case measure => simp [intOf]; omega
      · obtain rfl : k = N0 := by omega
        have ht : d.srcs.take k = d.srcs := List.take_of_length_le (by rw [HN0.out]; omega)
        rw [ht] at HA
        clear hn ho hb HO
        go_wp2
        go_meet
        exact HA
  case rest =>
    have HA1 := hcut
    clear hcut
    have z0 := (HX.out _ HA1.out.below).cell (j := 0) rfl
    have z1 := (HX.out _ HA1.out.below).cell (j := 1) rfl
    have z2 := (HX.out _ HA1.out.below).cell (j := 2) rfl
    have z3 := (HX.out _ HA1.out.below).cell (j := 3) rfl
    go_upto_block 2 with (fail)
    go_cut [3] (fun v wx => Hid (Acc wa (drvHead d ++ cat id d.srcs ++ cat inEnc d.ins) v wx))
    case first =>
      go_wp2_with fail
      go_loopw [3, 43] (fun v i wr => ∃ k : Nat, k ≤ N1 ∧ i = .int .i64 k ∧ Hid (Acc wa (drvHead d ++ cat id d.srcs ++ cat inEnc (d.ins.take k)) v wr)) (fun _ i _ => N1 - (intOf i).toNat)
      case atStart => exact ⟨0, Nat.zero_le _, rfl, by simpa [cat_nil] using HA1⟩
      case round =>
        obtain ⟨k, hk, rfl, HA⟩ := hrel
        clear HA1
        have hrow := HA.out
        obtain ⟨A, n, c, rfl, hn, ho, hb⟩ := hrow
        have hlo := hb.size
        have HBB := hide hb
        have HO := hide ho
        by_cases hlt : k < N1
        · have hk2 : k < d.ins.length := by rw [HN1.out]; exact hlt
          have hnext := cat_next inEnc hk2
          have hroom := cat_take inEnc d.ins (k + 1)
          rw [hnext, List.length_append] at hroom
          have k1 : (k : Int) < (N1 : Int) := by omega
          have hR := R1.out
          have hD : (drvHead d ++ cat id d.srcs : List Int).length ≤ 5 + 1048576 := by
            simp only [List.length_append, HHD.out, List.length_cons, List.length_nil]
            have := R0.out
            have := R1.out
            have := R2.out
            omega
          obtain ⟨P, hP⟩ : ∃ P, drvHead d ++ cat id d.srcs ++ cat inEnc (d.ins.take k) = P := ⟨_, rfl⟩
          have hnext2 : drvHead d ++ cat id d.srcs ++ cat inEnc (d.ins.take (k + 1)) = P ++ inEnc d.ins[k] := by rw [hnext, ← hP]; simp only [List.append_assoc]
          have hroom2 : P.length + (inEnc d.ins[k]).length ≤ 5242880 := by rw [← hP, List.length_append]; omega
          rw [hP] at HA hn HO
          have HNX := hide hnext2
          have HRM := hide hroom2
          have hnb : n ≤ P.length := Nat.le_of_eq hn
          have HNN := hide hn
          clear hnext hroom hR hD hP hnext2 ho hb hroom2 hn
          obtain ⟨b, of, cc, B0, d0, B1, d1, -, e, l, q0, q1, i0_, i1_⟩ := DIn.elem G1.out HBB.out hk2
          obtain rfl := e rfl
          have hrm := HRM.out
          rw [inEnc, List.length_append] at hrm
          have hbn := HBL.out
          have hnx := HNX.out
          rw [inEnc, ← List.append_assoc] at hnx
          obtain ⟨wi, hwi⟩ : ∃ W, wr.alloc (.cells #[.slice B0 (d.ins[k]).drv.length d0, .slice B1 (d.ins[k]).out.length d1] 103) = W := ⟨_, rfl⟩
          have HBW := hide (show Below wr.heap.size wr wi by rw [← hwi]; exact (Below.refl _ _).alloc (Nat.le_refl _) _)
          have hbx : Box wi wr.heap.size 103 [.slice B0 (d.ins[k]).drv.length d0, .slice B1 (d.ins[k]).out.length d1] := by rw [← hwi]; exact Box.new wr _ _
          have p0 := hbx.cell (j := 0) rfl
          have p1 := hbx.cell (j := 1) rfl
          have HI0 := hide i0_
          have HI1 := hide i1_
          have HBX := hide hbx
          have hlo2 : wa.heap.size ≤ wi.heap.size := Nat.le_trans hlo HBW.out.size
          obtain ⟨LD, hLD⟩ : ∃ x, (d.ins[k]).drv.length = x := ⟨_, rfl⟩
          obtain ⟨LO, hLO⟩ : ∃ x, (d.ins[k]).out.length = x := ⟨_, rfl⟩
          obtain ⟨DV, hDV⟩ : ∃ x, (d.ins[k]).drv = x := ⟨_, rfl⟩
          obtain ⟨OV, hOV⟩ : ∃ x, (d.ins[k]).out = x := ⟨_, rfl⟩
          have HR0 : Hid (Rd wa (.slice B0 LD d0) (bs DV)) := by rw [← hLD, ← hDV]; exact hide HI0.out.rd
          have HR1 : Hid (Rd wa (.slice B1 LO d1) (bs OV)) := by rw [← hLO, ← hOV]; exact hide HI1.out.rd
          rw [hLD, hLO] at hwi HBX
          rw [hLD] at p0 q0 
          rw [hLO] at p1 q1
          rw [hDV, hOV] at hrm hnx
          have hBW : Below wa.heap.size wa wi := HBB.out.trans (HBW.out.mono hlo)
          have HBWW := hide hBW
          have HNX2 := hide hnx
          clear hbx i0_ i1_ HI0 HI1 hLD hLO hDV hOV hBW hnx HNX HRM
          go_wp2_with (at_builtin; refine wpList_app _ rfl (.tmp 47) (.tmp 49) _ rfl wa.heap.size 5 i0 _ 1 Tryd.underlying22 hi0 hz0 hz1 hz2 rfl _ _ _ rfl (own_step HO.out HBW.out) _ (bs (DV)) rfl (HR0.out.below HBWW.out) (bs_one _) (by rw [bs_length]; simp only [maxLen]; omega) (by rw [bs_length]; omega) (hlo2) ?_; intro v2 w2 own2 gr2; have hstep := Acc.app8 HNN.out (own_step HO.out HBW.out) HBWW.out own2 gr2; have hbx2 := hstep.2.box HBX.out (by decide); have r1_ := hbx2.cell (j := 1) rfl; have HACC := hide hstep.1; clear own2 gr2 p0 p1 hstep hbx2)
          refine (HACC.out.text8 HR1.out (by rw [List.length_append]; omega)).mono ?_
          rintro e w5 ⟨v5, rfl, h5, g5⟩
          have HFIN := hide (h5.eq HNX2.out.symm)
          have h6 := h5
          obtain ⟨A5, n5, c5, rfl, -, -, -⟩ := h6
          clear h5 g5 r1_
          go_wp2

          go_roundw
          case rel => exact ⟨k + 1, by omega, by go_num, HFIN⟩
          case measure => simp [intOf]; omega
        · obtain rfl : k = N1 := by omega
          have ht : d.ins.take k = d.ins := List.take_of_length_le (by rw [HN1.out]; omega)
          rw [ht] at HA
          clear hn ho hb HO
          go_wp2
          go_meet
          exact HA
    case rest =>
      have HA2 := hcut
      clear hcut
      have z0 := (HX.out _ HA2.out.below).cell (j := 0) rfl
      have z1 := (HX.out _ HA2.out.below).cell (j := 1) rfl
      have z2 := (HX.out _ HA2.out.below).cell (j := 2) rfl
      have z3 := (HX.out _ HA2.out.below).cell (j := 3) rfl
      go_upto_block 4 with (fail)
      go_cut [3] (fun v wx => Hid (Acc wa (drvHead d ++ cat id d.srcs ++ cat inEnc d.ins ++ cat etx d.outs) v wx))
      case first =>
        go_wp2_with fail
        go_loopw [3, 59] (fun v i wr => ∃ k : Nat, k ≤ N2 ∧ i = .int .i64 k ∧ Hid (Acc wa (drvHead d ++ cat id d.srcs ++ cat inEnc d.ins ++ cat etx (d.outs.take k)) v wr)) (fun _ i _ => N2 - (intOf i).toNat)
        case atStart => exact ⟨0, Nat.zero_le _, rfl, by simpa [cat_nil] using HA2⟩
        case round =>
          obtain ⟨k, hk, rfl, HA⟩ := hrel
          clear HA2
          have hrow := HA.out
          obtain ⟨A, n, c, rfl, hn, ho, hb⟩ := hrow
          have hlo := hb.size
          have HBB := hide hb
          have HO := hide ho
          by_cases hlt : k < N2
          · have hk2 : k < d.outs.length := by rw [HN2.out]; exact hlt
            have hnext := cat_next etx hk2
            have hroom := cat_take etx d.outs (k + 1)
            rw [hnext, List.length_append] at hroom
            have k1 : (k : Int) < (N2 : Int) := by omega
            have hR := R2.out
            have hD : (drvHead d ++ cat id d.srcs ++ cat inEnc d.ins : List Int).length ≤ 5 + 2097176 := by
              simp only [List.length_append, HHD.out, List.length_cons, List.length_nil]
              have := R0.out
              have := R1.out
              have := R2.out
              omega
            obtain ⟨P, hP⟩ : ∃ P, drvHead d ++ cat id d.srcs ++ cat inEnc d.ins ++ cat etx (d.outs.take k) = P := ⟨_, rfl⟩
            have hnext2 : drvHead d ++ cat id d.srcs ++ cat inEnc d.ins ++ cat etx (d.outs.take (k + 1)) = P ++ etx d.outs[k] := by rw [hnext, ← hP]; simp only [List.append_assoc]
            have hroom2 : P.length + (etx d.outs[k]).length ≤ 5242880 := by rw [← hP, List.length_append]; omega
            rw [hP] at HA hn HO
            have HNX := hide hnext2
            have HRM := hide hroom2
            have hnb : n ≤ P.length := Nat.le_of_eq hn
            have HNN := hide hn
            clear hnext hroom hR hD hP hnext2 ho hb hroom2 hn
            obtain ⟨b, off, X, cc, rfl, hbl, q0, hr⟩ := G2.out.nameAt HN2.out HBB.out hlt hk2
            have hrm := HRM.out
            have hnx := HNX.out
            obtain ⟨S, hS⟩ : ∃ S, d.outs[k] = S := ⟨_, rfl⟩
            rw [hS] at q0 hr hrm hnx
            obtain ⟨LS, hLS⟩ : ∃ x, S.length = x := ⟨_, rfl⟩
            rw [hLS] at q0 hr
            have HRR : Hid (Rd wa (.slice X LS cc) (bs S)) := hide hr
            have HNX2 := hide hnx
            clear hr hS hLS hnx HNX HRM
            go_wp2_with fail
            refine (HA.out.text8 HRR.out (by omega)).mono ?_
            rintro e w5 ⟨v5, rfl, h5, g5⟩
            have HFIN := hide (h5.eq HNX2.out.symm)
            have h6 := h5
            obtain ⟨A5, n5, c5, rfl, -, -, -⟩ := h6
            clear h5 g5
            go_wp2

            go_roundw
            case rel => exact ⟨k + 1, by omega, by go_num, HFIN⟩
            case measure => simp [intOf]; omega
          · obtain rfl : k = N2 := by omega
            have ht : d.outs.take k = d.outs := List.take_of_length_le (by rw [HN2.out]; omega)
            rw [ht] at HA
            clear hn ho hb HO
            go_wp2
            go_meet
            exact HA
      case rest =>
        have HA3 := hcut
        clear hcut
        have z0 := (HX.out _ HA3.out.below).cell (j := 0) rfl
        have z1 := (HX.out _ HA3.out.below).cell (j := 1) rfl
        have z2 := (HX.out _ HA3.out.below).cell (j := 2) rfl
        have z3 := (HX.out _ HA3.out.below).cell (j := 3) rfl
        go_upto_block 6 with (fail)
        go_cut [3] (fun v wx => Hid (Acc wa (drvHead d ++ cat id d.srcs ++ cat inEnc d.ins ++ cat etx d.outs ++ cat opEnc d.ops) v wx))
        case first =>
          go_wp2_with fail
          go_loopw [3, 70] (fun v i wr => ∃ k : Nat, k ≤ N3 ∧ i = .int .i64 k ∧ Hid (Acc wa (drvHead d ++ cat id d.srcs ++ cat inEnc d.ins ++ cat etx d.outs ++ cat opEnc (d.ops.take k)) v wr)) (fun _ i _ => N3 - (intOf i).toNat)
          case atStart => exact ⟨0, Nat.zero_le _, rfl, by simpa [cat_nil] using HA3⟩
          case round =>
            obtain ⟨k, hk, rfl, HA⟩ := hrel
            clear HA3
            have hrow := HA.out
            obtain ⟨A, n, c, rfl, hn, ho, hb⟩ := hrow
            have hlo := hb.size
            have HBB := hide hb
            have HO := hide ho
            by_cases hlt : k < N3
            · have hk2 : k < d.ops.length := by rw [HN3.out]; exact hlt
              have hnext := cat_next opEnc hk2
              have hroom := cat_take opEnc d.ops (k + 1)
              rw [hnext, List.length_append] at hroom
              have k1 : (k : Int) < (N3 : Int) := by omega
              have hR := R3.out
              have hD : (drvHead d ++ cat id d.srcs ++ cat inEnc d.ins ++ cat etx d.outs : List Int).length ≤ 5 + 3145776 := by
                simp only [List.length_append, HHD.out, List.length_cons, List.length_nil]
                have := R0.out
                have := R1.out
                have := R2.out
                omega
              obtain ⟨P, hP⟩ : ∃ P, drvHead d ++ cat id d.srcs ++ cat inEnc d.ins ++ cat etx d.outs ++ cat opEnc (d.ops.take k) = P := ⟨_, rfl⟩
              have hnext2 : drvHead d ++ cat id d.srcs ++ cat inEnc d.ins ++ cat etx d.outs ++ cat opEnc (d.ops.take (k + 1)) = P ++ opEnc d.ops[k] := by rw [hnext, ← hP]; simp only [List.append_assoc]
              have hroom2 : P.length + (opEnc d.ops[k]).length ≤ 5242880 := by rw [← hP, List.length_append]; omega
              rw [hP] at HA hn HO
              have HNX := hide hnext2
              have HRM := hide hroom2
              have hnb : n ≤ P.length := Nat.le_of_eq hn
              have HNN := hide hn
              clear hnext hroom hR hD hP hnext2 ho hb hroom2 hn
              obtain ⟨b, of, cc, B2, d2, B3, d3, -, e, l, q0, q1, q2, q3, q4, i2_, i3_⟩ := DOp.elem G3.out HBB.out hk2
              obtain rfl := e rfl
              have hrm := HRM.out
              rw [opEnc, List.length_append, List.length_append] at hrm
              have hnx := HNX.out
              rw [opEnc, ← List.append_assoc, ← List.append_assoc] at hnx
              obtain ⟨⟨e1, e2⟩, ⟨e3, e4⟩, e5, e6⟩ := HS4.out _ (List.getElem_mem hk2)
              have HI2 := hide i2_
              have HI3 := hide i3_
              obtain ⟨LD, hLD⟩ : ∃ x, (d.ops[k]).name.length = x := ⟨_, rfl⟩
              obtain ⟨LO, hLO⟩ : ∃ x, (d.ops[k]).text.length = x := ⟨_, rfl⟩
              obtain ⟨DV, hDV⟩ : ∃ x, (d.ops[k]).name = x := ⟨_, rfl⟩
              obtain ⟨OV, hOV⟩ : ∃ x, (d.ops[k]).text = x := ⟨_, rfl⟩
              obtain ⟨oc, hoc⟩ : ∃ x, (d.ops[k]).code = x := ⟨_, rfl⟩
              obtain ⟨oo, hoo⟩ : ∃ x, (d.ops[k]).out = x := ⟨_, rfl⟩
              obtain ⟨oa, hoa⟩ : ∃ x, (d.ops[k]).arg = x := ⟨_, rfl⟩
              have HR0 : Hid (Rd wa (.slice B2 LD d2) (bs DV)) := by rw [← hLD, ← hDV]; exact hide HI2.out.rd
              have HR1 : Hid (Rd wa (.slice B3 LO d3) (bs OV)) := by rw [← hLO, ← hOV]; exact hide HI3.out.rd
              rw [hoc] at q0 e1 e2 hrm hnx
              rw [hoo] at q1 e3 e4 hrm hnx
              rw [hoa] at q4 e5 e6 hrm hnx
              rw [hLD] at q2
              rw [hLO] at q3
              rw [hDV, hOV] at hrm hnx
              clear i2_ i3_ HI2 HI3 hLD hLO hDV hOV hoc hoo hoa HNX HRM
              simp only [List.length_cons, List.length_nil] at hrm
              obtain ⟨wi, hwi⟩ : ∃ W, wr.alloc (.cells #[.int .i64 oc, .int .i64 oo, .slice B2 LD d2, .slice B3 LO d3, .int .i64 oa] 106) = W := ⟨_, rfl⟩
              have HBW := hide (show Below wr.heap.size wr wi by rw [← hwi]; exact (Below.refl _ _).alloc (Nat.le_refl _) _)
              have hbx : Box wi wr.heap.size 106 [.int .i64 oc, .int .i64 oo, .slice B2 LD d2, .slice B3 LO d3, .int .i64 oa] := by rw [← hwi]; exact Box.new wr _ _
              obtain ⟨wj, hwj⟩ : ∃ W, wi.alloc (.cells #[.int .u8 oc, .int .u8 oo, .int .u8 oa] 5) = W := ⟨_, rfl⟩
              have HBJ := hide (show Below wi.heap.size wi wj by rw [← hwj]; exact (Below.refl _ _).alloc (Nat.le_refl _) _)
              have HRJ : Hid (Rd wj (.slice (some ⟨wi.heap.size, 0, none⟩) 3 3) (bs [oc, oo, oa])) := by
                refine hide ⟨_, 3, rfl, Nat.le_refl _, by simp [maxLen], fun _ => ⟨wi.heap.size, 0, rfl, ?_, ?_⟩⟩
                · rw [← hwj]; simp
                · rw [← hwj]
                  intro j u hu
                  have hbj := Box.new wi [.int .u8 oc, .int .u8 oo, .int .u8 oa] 5
                  rw [Nat.zero_add]
                  exact hbj.cell hu
              have p0 := hbx.cell (j := 0) rfl
              have p1 := hbx.cell (j := 1) rfl
              have p2 := hbx.cell (j := 2) rfl
              have p3 := hbx.cell (j := 3) rfl
              have p4 := hbx.cell (j := 4) rfl
              have HBX := hide (hbx.step HBJ.out)
              have hlo3 : wa.heap.size ≤ wi.heap.size := Nat.le_trans hlo HBW.out.size
              have hlo2 : wa.heap.size ≤ wj.heap.size := Nat.le_trans hlo3 HBJ.out.size
              have hBW : Below wa.heap.size wa wj := (HBB.out.trans (HBW.out.mono hlo)).trans (HBJ.out.mono hlo3)
              have HBWW := hide hBW
              have HOJ := hide (own_step (own_step HO.out HBW.out) HBJ.out)
              have HNX2 := hide hnx
              have f1 : oc % 256 = oc := by omega
              have f2 : oo % 256 = oo := by omega
              have f3 : oa % 256 = oa := by omega
              have hl3 : ([oc, oo, oa] : List Int).length = 3 := rfl
              have hl33 : (bs [oc, oo, oa]).length = 3 := rfl
              clear hbx hBW hnx hl3
              have HL33 := hide hl33
              clear hl33
              go_wp2_with (at_builtin; refine wpList_app _ rfl (.tmp 74) (.tmp 84) _ rfl wa.heap.size 5 i0 _ 1 Tryd.underlying22 hi0 hz0 hz1 hz2 rfl _ _ _ rfl HOJ.out _ (bs [oc, oo, oa]) rfl HRJ.out (bs_one _) (by rw [HL33.out]; simp only [maxLen]; omega) (by rw [HL33.out]; omega) hlo2 ?_; intro v2 w2 own2 gr2; have hstep := Acc.app8 HNN.out HOJ.out HBWW.out own2 gr2; have hbx2 := hstep.2.box HBX.out (by decide); have HBX2 := hide hbx2; have r2_ := hbx2.cell (j := 2) rfl; have HACC := hide hstep.1; clear own2 gr2 p0 p1 p2 p3 p4 hstep hbx2)
              refine (HACC.out.text8 HR0.out (by rw [List.length_append]; simp only [List.length_cons, List.length_nil]; omega)).mono ?_
              rintro e w5 ⟨v5, rfl, h5, g5⟩
              have h6 := h5
              obtain ⟨A5, n5, c5, rfl, -, -, -⟩ := h6
              have HACC2 := hide h5
              have hbx3 := g5.box HBX2.out (by decide)
              have r3_ := hbx3.cell (j := 3) rfl
              clear h5 g5 r2_ hbx3
              go_wp2_with fail
              refine (HACC2.out.text8 HR1.out (by rw [List.length_append, List.length_append]; simp only [List.length_cons, List.length_nil]; omega)).mono ?_
              rintro e w7 ⟨v7, rfl, h7, g7⟩
              have HFIN := hide (h7.eq HNX2.out.symm)
              have h8 := h7
              obtain ⟨A7, n7, c7, rfl, -, -, -⟩ := h8
              clear h7 g7 r3_
              go_wp2

              go_roundw
              case rel => exact ⟨k + 1, by omega, by go_num, HFIN⟩
              case measure => simp [intOf]; omega
            · obtain rfl : k = N3 := by omega
              have ht : d.ops.take k = d.ops := List.take_of_length_le (by rw [HN3.out]; omega)
              rw [ht] at HA
              clear hn ho hb HO
              go_wp2
              go_meet
              exact HA
        case rest =>
          have HA4 := hcut
          clear hcut
          have z0 := (HX.out _ HA4.out.below).cell (j := 0) rfl
          have z1 := (HX.out _ HA4.out.below).cell (j := 1) rfl
          have z2 := (HX.out _ HA4.out.below).cell (j := 2) rfl
          have z3 := (HX.out _ HA4.out.below).cell (j := 3) rfl
          have HEND : Hid (Acc wa (drvEnc d) _ _) := HA4
          go_wp2_with fail
          go_ret
          have he := HEND.out.row
          have hl := HEND.out.below
          exact ⟨_, rfl, own_low he HBA.out.size, HBA.out.trans (hl.mono HBA.out.size)⟩

end Go.Proofs.YtigklnokgmcifaaDoor
