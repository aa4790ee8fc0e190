/-
  Parts of the proof: DrvOkS.
-/
import Derived.Test.YtigklnokgmcifaaDoorMd19
import Derived.Test.YtigklnokgmcifaaDoorMd20
import Derived.Test.YtigklnokgmcifaaDoorMd30
import Derived.Test.YtigklnokgmcifaaDoorMd10
import Derived.Test.YtigklnokgmcifaaDoorMd9
import Derived.Laws.BytesArg
import Derived.IntWalk
import Derived.Deep.QuietTactic
import Derived.BigQuiet
import Derived.Deep.Cut
import Derived.Deep.DeepCutAuto
import Derived.Deep.CutBlock
import Derived.Deep.RegionWith
import Derived.Deep.RegionHeld3

/-
  The model's DrvOk.
-/
namespace Go.Proofs.YtigklnokgmcifaaDoor
open Go.RowKit
set_option linter.unusedVariables false
set_option linter.unusedSimpArgs false

set_option maxRecDepth 20000 in
set_option maxHeartbeats 6400000 in
theorem specDrvOk (d : DDrv) (hok : oks d.cells) (hbk : bulks d.cells ≤ 1048576) (us : List Value) (w : World) (hs : Ins w d.cells us) :
    Calls Tryd.prog 45 #[.agg us.toArray] w fun e w' => e = .returned (.bool (drvOk d)) ∧ Below w.heap.size w w' := by
  have hsx := hs
  obtain ⟨A0, c0, A1, c1, A2, c2, A3, c3, rfl, h0, h1, h2, h3⟩ := DDrv.view hs
  obtain ⟨wa, hwa⟩ : ∃ wa, w.alloc (.cells #[.slice A0 d.srcs.length c0, .slice A1 d.ins.length c1, .slice A2 d.outs.length c2, .slice A3 d.ops.length c3] 49) = wa := ⟨_, rfl⟩
  have ba : Below w.heap.size w wa := by rw [← hwa]; exact (Below.refl _ _).alloc (Nat.le_refl _) _
  have bx : Box wa w.heap.size 49 [.slice A0 d.srcs.length c0, .slice A1 d.ins.length c1, .slice A2 d.outs.length c2, .slice A3 d.ops.length c3] := by rw [← hwa]; exact Box.new w _ _
  have hz : w.heap.size < wa.heap.size := bx.lt
  have henc := fun (hsm : drvSmall d) (W : World) (hW : Below w.heap.size w W) => specDrvEnc d hok hbk hsm _ W (hsx.step hW)
  obtain ⟨ok0, ok1, ok2, ok3⟩ := (DDrv.oks_iff d).1 hok
  have hbl := bulk_Drv d
  have g0 := h0.step ba
  have g1 := h1.step ba
  have g2 := h2.step ba
  have g3 := h3.step ba
  have hl0 : ∀ n ∈ d.srcs, n.length ≤ 1048576 := fun n hn => by have := sumLen_mem2 hn; omega
  have hl2 : ∀ n ∈ d.outs, n.length ≤ 1048576 := fun n hn => by have := sumLen_mem2 hn; omega
  have hbi : ∀ x ∈ d.ins, x.drv.length + x.out.length ≤ 1048576 := fun x hx => by
    have h1 := bulks_mem (f := DIn.cells) hx
    have h2 := bulk_In x
    omega
  have hbo : ∀ x ∈ d.ops, x.name.length + x.text.length ≤ 1048576 := fun x hx => by
    have h1 := bulks_mem (f := DOp.cells) hx
    have h2 := bulk_Op x
    omega
  obtain ⟨T, hT⟩ : ∃ T, drvTop d = T := ⟨_, rfl⟩
  obtain ⟨SB, hSB⟩ : ∃ T, ascP nameOk d.srcs = T := ⟨_, rfl⟩
  have hso := fun W (hb : Below wa.heap.size wa W) => hSB ▸ specSorted d.srcs ok0 _ W ((g0.step hb).rdN) hl0
  have hTe : T = (decide (d.srcs.length ≤ 3 ∧ d.ins.length ≤ 3 ∧ 1 ≤ d.outs.length ∧ d.outs.length ≤ 2 ∧ d.ops.length ≤ 8) && SB) := by rw [← hT, ← hSB]; rfl
  have hAll : drvOk d = (T && (insOk d.ins && (ascP entryOk d.outs && (d.ops.all (fun o => opOk o d.outs.length) && decide ((drvEnc d).length ≤ 400))))) := by rw [← hT]; rfl
  have x0 := bx.cell (j := 0) rfl
  have x1 := bx.cell (j := 1) rfl
  have x2 := bx.cell (j := 2) rfl
  have x3 := bx.cell (j := 3) rfl
  have HX := hide (fun W (hb : Below wa.heap.size wa W) => (bx.step hb))
  have HBA := hide ba
  obtain ⟨N0, hN0⟩ : ∃ n, d.srcs.length = n := ⟨_, rfl⟩
  obtain ⟨N1, hN1⟩ : ∃ n, d.ins.length = n := ⟨_, rfl⟩
  obtain ⟨N2, hN2⟩ : ∃ n, d.outs.length = n := ⟨_, rfl⟩
  obtain ⟨N3, hN3⟩ : ∃ n, d.ops.length = n := ⟨_, rfl⟩
  have b0 : N0 ≤ 1048576 := by omega
  have b1_ : N1 ≤ 1048576 := by omega
  have b2_ : N2 ≤ 1048576 := by omega
  have b3_ : N3 ≤ 1048576 := by omega
  rw [hN0, hN1, hN2, hN3] at hTe
  rw [hN0] at x0 g0 hso
  rw [hN1] at x1 g1
  rw [hN2] at x2 g2 hAll
  rw [hN3] at x3 g3
  simp only [hN0, hN1, hN2, hN3] at hwa HX henc ⊢
  have HTD := hide hT
  have HG1 := hide g1
  have HG2 := hide g2
  have HG3 := hide g3
  have HN1 := hide hN1
  have HN2 := hide hN2
  have HN3 := hide hN3
  have HSO := hide hso
  have HTE := hide hTe
  have HALL := hide hAll
  have HENC := hide henc
  have OK1 := hide ok1
  have OK2 := hide ok2
  have OK3 := hide ok3
  have HL2 := hide hl2
  have HBI := hide hbi
  have HBO := hide hbo
  clear bx ba hok hs hsx h0 h1 h2 h3 g0 g1 g2 g3 hbl hbk hN0 hN1 hN2 hN3 ok0 ok1 ok2 ok3 hso hTe hAll henc hT hSB hl0 hl2 hbi hbo
  go_enter Tryd.func45, Tryd.ntmps45
  go_upto_region 1 with (fail)
  go_cut [39] (fun v wx => v = .bool (!T) ∧ Hid (Below wa.heap.size wa wx))
  case first =>
    cases SB <;>
    · go_wp2_with (go_at_call 27; refine (HSO.out _ (Below.refl _ _)).mono ?_; rintro e w1 ⟨rfl, b1⟩; have HB1 := hide b1; clear b1)
      all_goals
        have hte := HTE.out
        first
          | (have HBZ := HB1; clear HB1; go_meet; exact ⟨by rw [hte]; simp <;> first | omega | (rw [Bool.eq_iff_iff]; simp; omega), HBZ⟩)
          | (go_meet; exact ⟨by rw [hte]; simp <;> first | omega | (rw [Bool.eq_iff_iff]; simp; omega), hide (Below.refl _ _)⟩)
  case rest =>
    obtain ⟨rfl, HB⟩ := hcut
    clear HSO x0 x1 x2 x3 HTE
    cases T with
    | false =>
      have HR := hide (show drvOk d = false by rw [HALL.out]; rfl)
      go_wp2_with fail
      go_ret
      exact ⟨ret_bool HR.out.symm, HBA.out.trans (HB.out.mono HBA.out.size)⟩
    | true =>
      have HR := hide (show drvOk d = (insOk d.ins && (ascP entryOk d.outs && (d.ops.all (fun o => opOk o N2) && decide ((drvEnc d).length ≤ 400)))) by rw [HALL.out]; rfl)
      clear HALL
      go_upto_block 0 with (fail)
      go_cut [] (fun wx => Hid (insOk d.ins = true) ∧ Hid (Below wa.heap.size wa wx))
      case first =>
        go_wp2_with fail
        go_loopw [3] (fun i wr => ∃ k : Nat, k ≤ N1 ∧ i = .int .i64 k ∧ Hid (∀ m, m < k → insAt d.ins m = true) ∧ Hid (Below wa.heap.size wa wr)) (fun i _ => N1 - (intOf i).toNat)
        case atStart => exact ⟨0, Nat.zero_le _, rfl, hide (fun m hm => by omega), HB⟩
        case round =>
          clear HB
          obtain ⟨k, hk, rfl, HXX, HB⟩ := hrel
          have u_ := (HX.out wr HB.out).cell (j := 1) rfl
          by_cases hlt : k < N1
          · have hk2 : k < d.ins.length := by rw [HN1.out]; exact hlt
            have k1 : (k : Int) < (N1 : Int) := by omega
            have k0 : (0 : Int) ≤ (k : Int) := by omega
            have k2_ : (k : Int).toNat = k := by omega
            obtain ⟨b, of, cc, B0, d0, B1, d1, -, e, l, q0, q1, i0_, i1_⟩ := DIn.elem HG1.out (Below.refl _ _) hk2
            obtain rfl := e rfl
            have hok_ := OK1.out _ (List.getElem_mem hk2)
            have hle_ := HBI.out _ (List.getElem_mem hk2)
            obtain ⟨bd_, bo_⟩ := (DIn.oks_iff _).1 hok_
            obtain ⟨C, hC⟩ : ∃ C, insAt d.ins k = C := ⟨_, rfl⟩
            have HCC := hide hC
            have HQ0 := hide (fun W (hb : Below wa.heap.size wa W) => (hb.cell (p := ⟨b, of + k * 2, none⟩) l).trans q0)
            have HQ1 := hide (fun W (hb : Below wa.heap.size wa W) => (hb.cell (p := ⟨b, of + k * 2 + 1, none⟩) l).trans q1)
            have HI0 := hide i0_
            have HI1 := hide i1_
            have hno := fun W (hb : Below wa.heap.size wa W) => specNameQ (d.ins[k]).drv bd_ _ W ((i0_.step hb).rd) (by omega)
            have heo := fun W (hb : Below wa.heap.size wa W) => specEntryQ (d.ins[k]).out bo_ _ W ((i1_.step hb).rd)
            have HNO := hide hno
            have HEO := hide heo
            have HOK_ := hide hok_
            have p0 := HQ0.out wr HB.out
            have p1 := HQ1.out wr HB.out
            have HBD : Hid (∀ m, Below wa.heap.size wa (wr.drewN m)) := hide (fun m => below_drewN HB.out m)
            clear hC q0 q1 i0_ i1_ hno heo hok_ bd_ bo_ hle_
            go_upto_region 6 with (fail)
            go_cut [83] (fun v wx => v = .bool (!C) ∧ Hid (Below wa.heap.size wa wx))
            case first =>
              cases hn : nameOk (d.ins[k]).drv with
              | false =>
                have hnn := HNO.out
                rw [hn] at hnn
                have HNN := hide hnn
                have HCF := hide (show C = false by rw [← HCC.out, insAt_eq hk2, inOkP, hn]; rfl)
                clear hnn hn
                go_quiet ((go_at_call 28; exact Calls.quiet_of ((HNN.out _ (HBD.out _)).mono fun e w' ⟨h1, h2⟩ => ⟨h1, 0, h2.symm⟩)))
                go_wp2
                go_meet
                exact ⟨by rw [HCF.out]; rfl, hide (HBD.out _)⟩
              | true =>
                have hnn := HNO.out
                rw [hn] at hnn
                have HNN := hide hnn
                cases he : entryOk (d.ins[k]).out with
                | false =>
                  have hee := HEO.out
                  rw [he] at hee
                  have HEE := hide hee
                  have HCF := hide (show C = false by rw [← HCC.out, insAt_eq hk2, inOkP, hn, he]; rfl)
                  clear hnn hn hee he
                  go_quiet ((first | (go_at_call 28; exact Calls.quiet_of ((HNN.out _ (HBD.out _)).mono fun e w' ⟨h1, h2⟩ => ⟨h1, 0, h2.symm⟩)) | (go_at_call 29; exact Calls.quiet_of ((HEE.out _ (HBD.out _)).mono fun e w' ⟨h1, h2⟩ => ⟨h1, 0, h2.symm⟩))))
                  go_wp2
                  go_meet
                  exact ⟨by rw [HCF.out]; rfl, hide (HBD.out _)⟩
                | true =>
                  have hee := HEO.out
                  rw [he] at hee
                  have HEE := hide hee
                  by_cases hk0 : k = 0
                  · subst hk0
                    have HCF := hide (show C = true by rw [← HCC.out, insAt_eq hk2, inOkP, hn, he]; rfl)
                    have p0' : wr.cell? ⟨b, of, none⟩ = some (.slice B0 (d.ins[0]).drv.length d0) := by simpa using p0
                    have p1' : wr.cell? ⟨b, of + 1, none⟩ = some (.slice B1 (d.ins[0]).out.length d1) := by simpa using p1
                    clear hnn hn hee he
                    go_quiet ((first | (go_at_call 28; exact Calls.quiet_of ((HNN.out _ (HBD.out _)).mono fun e w' ⟨h1, h2⟩ => ⟨h1, 0, h2.symm⟩)) | (go_at_call 29; exact Calls.quiet_of ((HEE.out _ (HBD.out _)).mono fun e w' ⟨h1, h2⟩ => ⟨h1, 0, h2.symm⟩))))
                    go_wp2
                    go_meet
                    exact ⟨by rw [HCF.out]; rfl, hide (HBD.out _)⟩
                  · have hj2 : k - 1 < d.ins.length := by omega
                    obtain ⟨bp, op, ccp, Bp0, dp0, Bp1, dp1, -, ep, lp, qp0, qp1, ip0, ip1⟩ := DIn.elem HG1.out (Below.refl _ _) hj2
                    have ep2 := ep rfl
                    injection ep2 with ep3
                    injection ep3 with ep4 ep5
                    subst ep4 ep5
                    have hokp := OK1.out _ (List.getElem_mem hj2)
                    have HP0 := hide (fun W (hb : Below wa.heap.size wa W) => (hb.cell (p := ⟨b, of + (k - 1) * 2, none⟩) l).trans qp0)
                    have HP1 := hide (fun W (hb : Below wa.heap.size wa W) => (hb.cell (p := ⟨b, of + (k - 1) * 2 + 1, none⟩) l).trans qp1)
                    obtain ⟨z, hz⟩ : ∃ z, realCmp (asReal d.ins[k - 1]) (asReal d.ins[k]) = z := ⟨_, rfl⟩
                    have hic := fun W (hb : Below wa.heap.size wa W) => hz ▸ specInCmp d.ins[k - 1] d.ins[k] hokp HOK_.out _ _ W (DIn.lay (ip0.step hb) (ip1.step hb)) (DIn.lay (HI0.out.step hb) (HI1.out.step hb))
                    have HIC := hide hic
                    have hCz : C = decide (z < 0) := by rw [← HCC.out, insAt_more hk2 hk0, inOkP, hn, he, inLess, hz]; rfl
                    have HCZ := hide hCz
                    have r0_ := HP0.out wr HB.out
                    have r1_ := HP1.out wr HB.out
                    have k3 : (k : Int) - 1 < (N1 : Int) := by omega
                    have k4 : (0 : Int) ≤ (k : Int) - 1 := by omega
                    have k4' : (1 : Int) ≤ (k : Int) := by omega
                    have k5 : ((k : Int) - 1).toNat = k - 1 := by omega
                    have k6 : IntKind.i64.wrap ((k : Int) - 1) = (k : Int) - 1 := IntWalk.i64_in _ (by omega)
                    have k7 : 0 < k := by omega
                    have HBE := hide (HB.out.drew)
                    have HSS : Hid (∀ W, Below wa.heap.size wa W → W.cell? ⟨w.heap.size, 1, none⟩ = some (.slice (some ⟨b, of, none⟩) N1 c1) ∧ W.cell? ⟨b, of + k * 2, none⟩ = some (.slice B0 (d.ins[k]).drv.length d0) ∧ W.cell? ⟨b, of + k * 2 + 1, none⟩ = some (.slice B1 (d.ins[k]).out.length d1) ∧ W.cell? ⟨b, of + (k - 1) * 2, none⟩ = some (.slice Bp0 (d.ins[k - 1]).drv.length dp0) ∧ W.cell? ⟨b, of + (k - 1) * 2 + 1, none⟩ = some (.slice Bp1 (d.ins[k - 1]).out.length dp1)) :=
                      hide (fun W hb => ⟨(HX.out W hb).cell (j := 1) rfl, HQ0.out W hb, HQ1.out W hb, HP0.out W hb, HP1.out W hb⟩)
                    clear hnn hn hee he hokp hz hic hCz qp0 qp1 ip0 ip1 hk0
                    go_region_held3 (fun W => W.cell? ⟨w.heap.size, 1, none⟩ = some (.slice (some ⟨b, of, none⟩) N1 c1) ∧ W.cell? ⟨b, of + k * 2, none⟩ = some (.slice B0 (d.ins[k]).drv.length d0) ∧ W.cell? ⟨b, of + k * 2 + 1, none⟩ = some (.slice B1 (d.ins[k]).out.length d1) ∧ W.cell? ⟨b, of + (k - 1) * 2, none⟩ = some (.slice Bp0 (d.ins[k - 1]).drv.length dp0) ∧ W.cell? ⟨b, of + (k - 1) * 2 + 1, none⟩ = some (.slice Bp1 (d.ins[k - 1]).out.length dp1))
                      (first
                        | exact HSS.out _ HBZ.out
                        | exact HSS.out _ HBE.out
                        | go_keep)
                      (first
                        | (go_simp; go_at_call 28; (with_reducible refine (HNN.out _ HBE.out).mono ?_); rintro e w' ⟨rfl, rfl⟩)
                        | (go_simp; go_at_call 29; (with_reducible refine (HEE.out _ HBE.out).mono ?_); rintro e w' ⟨rfl, rfl⟩)
                        | (go_simp; go_at_call 76; refine (HIC.out _ HBE.out).mono ?_; rintro e w8 ⟨rfl, b8⟩; have HBZ := hide (HBE.out.trans (b8.mono HBE.out.size)); clear b8))
                    all_goals
                      go_wp2
                      go_meet
                      exact ⟨by rw [HCZ.out, show decide (0 ≤ z) = !decide (z < 0) by by_cases h : z < 0 <;> simp [h] <;> omega], HBZ⟩
            case rest =>
              obtain ⟨rfl, HB2⟩ := hcut
              clear p0 p1 HB
              cases C with
              | true =>
                go_wp2_with fail
                go_roundw
                case rel => exact ⟨k + 1, by omega, by go_num, hide (fun m hm => by
                  rcases Nat.lt_or_ge m k with h | h
                  · exact HXX.out m h
                  · obtain rfl : m = k := by omega
                    exact HCC.out), HB2⟩
                case measure => simp [intOf]; omega
              | false =>
                have HF := hide (show drvOk d = false by
                  rw [HR.out]
                  have hi : insOk d.ins = false := Bool.eq_false_iff.2 fun h => by
                    have := range_all.1 h k hk2
                    rw [HCC.out] at this
                    cases this
                  rw [hi]; rfl)
                go_wp2_with fail
                go_ret
                exact ⟨ret_bool HF.out.symm, HBA.out.trans (HB2.out.mono HBA.out.size)⟩
          · obtain rfl : k = N1 := by omega
            have HIT := hide (show insOk d.ins = true from range_all.2 fun m hm => HXX.out m (by rw [HN1.out] at hm; exact hm))
            go_wp2
            go_meet
            exact ⟨HIT, HB⟩
      case rest =>
        obtain ⟨HIT, HB⟩ := hcut
        have HR2 := hide (show drvOk d = (ascP entryOk d.outs && (d.ops.all (fun o => opOk o N2) && decide ((drvEnc d).length ≤ 400))) by rw [HR.out, HIT.out]; rfl)
        clear HR HIT
        have z2 := (HX.out _ HB.out).cell (j := 2) rfl
        have z3 := (HX.out _ HB.out).cell (j := 3) rfl
        go_upto_block 2 with (fail)
        go_cut [] (fun wx => Hid (ascP entryOk d.outs = true) ∧ Hid (Below wa.heap.size wa wx))
        case first =>
          go_wp2_with fail
          go_loopw [4] (fun i wr => ∃ j : Nat, j ≤ N2 ∧ i = .int .i64 j ∧ Hid (∀ m, m < j → nameP entryOk d.outs m = true) ∧ Hid (Below wa.heap.size wa wr)) (fun i _ => N2 - (intOf i).toNat)
          case atStart => exact ⟨0, Nat.zero_le _, rfl, hide (fun m hm => by omega), HB⟩
          case round =>
            clear HB z2 z3
            obtain ⟨j, hj, rfl, HNM, HB⟩ := hrel
            have u_ := (HX.out wr HB.out).cell (j := 2) rfl
            by_cases hlt : j < N2
            · have hjn : j < d.outs.length := by rw [HN2.out]; exact hlt
              have HNN := hide (HG2.out.rdN)
              obtain ⟨b, off, u, hA', hblt, cu, ru⟩ := HNN.out.get hjn
              subst hA'
              have q1 := (HB.out.cell (p := ⟨b, off + j, none⟩) hblt).trans cu
              have rr1 := ru.below HB.out
              have hmj : d.outs.getD j [] ∈ d.outs := by simp [List.getD, List.getElem?_eq_getElem hjn]
              have hBj : Byt (d.outs.getD j []) := OK2.out _ hmj
              have hnm : nameP entryOk d.outs j = (entryOk (d.outs.getD j []) && (decide (j = 0) || lessL (d.outs.getD (j - 1) []) (d.outs.getD j []))) := rfl
              have hent : ∀ W, Rd W u (bs (d.outs.getD j [])) → Calls Tryd.prog 29 #[u] W fun e w' => e = .returned (.bool (entryOk (d.outs.getD j []))) ∧ ∃ m, w' = W.drewN m := fun W hr => (specEntryQ (d.outs.getD j []) hBj u W hr).mono fun e w' ⟨he, hw⟩ => ⟨he, 0, hw.symm⟩
              have k1 : (j : Int) < (N2 : Int) := by omega
              have k0 : (0 : Int) ≤ (j : Int) := by omega
              have k2 : (j : Int).toNat = j := by omega
              clear hmj
              go_upto_region 11 with (fail)
              go_cut [117] (fun v wx => v = .bool (!nameP entryOk d.outs j) ∧ ∃ m, wx = wr.drewN m)
              case first =>
                have HE := hide hent
                have hq : ∀ m, Rd (wr.drewN m) u (bs (d.outs.getD j [])) := fun m => rr1
                have HQ := hide hq
                have HNA := hide hnm
                have hnn := HNN.out
                clear hent hq hnm
                cases he : entryOk (d.outs.getD j []) with
                | false =>
                  rw [he] at HE HNA
                  clear he hnn
                  go_quiet ((go_at_call 29; exact Calls.quiet_of (HE.out _ (HQ.out _))))
                  go_wp2
                  go_meet
                  exact ⟨by rw [HNA.out]; rfl, _, rfl⟩
                | true =>
                  rw [he, Bool.true_and] at HNA
                  rw [he] at HE
                  clear he
                  by_cases hj0 : j = 0
                  · subst hj0
                    have q1' : wr.cell? ⟨b, off, none⟩ = some u := by simpa using q1
                    clear hnn
                    go_quiet ((go_at_call 29; exact Calls.quiet_of (HE.out _ (HQ.out _))))
                    go_wp2
                    go_meet
                    exact ⟨by rw [HNA.out]; rfl, _, rfl⟩
                  · rw [decide_eq_false hj0, Bool.false_or] at HNA
                    obtain ⟨b2, off2, u2, hA2, _, cu2, ru2⟩ := hnn.get (m := j - 1) (by omega)
                    injection hA2 with hA3
                    injection hA3 with hA4 hA5
                    subst hA4 hA5
                    have q2 := (HB.out.cell (p := ⟨b, off + (j - 1), none⟩) hblt).trans cu2
                    have rr2 := ru2.below HB.out
                    have hBi : Byt (d.outs.getD (j - 1) []) := OK2.out _ (by simp [List.getD, List.getElem?_eq_getElem (show j - 1 < d.outs.length by omega)])
                    have cv1 := conv_rd (P := Tryd.prog) Tryd.underlying22 Tryd.underlying5 Tryd.underlying9 rr1
                    have cv2 := conv_rd (P := Tryd.prog) Tryd.underlying22 Tryd.underlying5 Tryd.underlying9 rr2
                    have cw1 := fun m => conv_rd (P := Tryd.prog) Tryd.underlying22 Tryd.underlying5 Tryd.underlying9 (show Rd (wr.drewN m) u (bs (d.outs.getD j [])) from rr1)
                    have cw2 := fun m => conv_rd (P := Tryd.prog) Tryd.underlying22 Tryd.underlying5 Tryd.underlying9 (show Rd (wr.drewN m) u2 (bs (d.outs.getD (j - 1) [])) from rr2)
                    have hls := less_str hBi hBj
                    have k3 : (j : Int) - 1 < (N2 : Int) := by omega
                    have k4 : (0 : Int) ≤ (j : Int) - 1 := by omega
                    have k5 : ((j : Int) - 1).toNat = j - 1 := by omega
                    have k6 : IntKind.i64.wrap ((j : Int) - 1) = (j : Int) - 1 := IntWalk.i64_in _ (by omega)
                    have k7 : 0 < j := by omega
                    generalize lessL (d.outs.getD (j - 1) []) (d.outs.getD j []) = L at *
                    generalize strOfNums (d.outs.getD (j - 1) []) = s1 at *
                    generalize strOfNums (d.outs.getD j []) = s2 at *
                    clear hnn rr2 hBi hBj hj0
                    cases L <;>
                    · go_quiet ((go_at_call 29; exact Calls.quiet_of (HE.out _ (HQ.out _))))
                      go_wp2
                      go_meet
                      exact ⟨by rw [HNA.out]; rfl, _, rfl⟩
              case rest =>
                obtain ⟨hv, m, hwm⟩ := hcut
                subst hwm
                have HB2 := hide (below_drewN HB.out m)
                clear q1 cu ru rr1 hent hnm HB
                cases hna : nameP entryOk d.outs j with
                | true =>
                  have HNA := hide hna
                  rw [hna] at hv
                  subst hv
                  clear hna
                  go_wp2_with fail
                  go_roundw
                  case rel => exact ⟨j + 1, by omega, by go_num, hide (fun m hm => by
                    rcases Nat.lt_or_ge m j with h | h
                    · exact HNM.out m h
                    · obtain rfl : m = j := by omega
                      exact HNA.out), HB2⟩
                  case measure => simp [intOf]; omega
                | false =>
                  have HF := hide (show drvOk d = false by
                    rw [HR2.out]
                    have hi : ascP entryOk d.outs = false := Bool.eq_false_iff.2 fun h => by
                      have := ascP_at.1 h j hjn
                      rw [hna] at this
                      cases this
                    rw [hi]; rfl)
                  rw [hna] at hv
                  subst hv
                  clear hna
                  go_wp2_with fail
                  go_ret
                  exact ⟨ret_bool HF.out.symm, HBA.out.trans (HB2.out.mono HBA.out.size)⟩
            · obtain rfl : j = N2 := by omega
              have HIT := hide (show ascP entryOk d.outs = true from ascP_at.2 fun m hm => HNM.out m (by rw [HN2.out] at hm; exact hm))
              go_wp2
              go_meet
              exact ⟨HIT, HB⟩
        case rest =>
          clear HB z2 z3
          obtain ⟨HIT, HB⟩ := hcut
          have HR3 := hide (show drvOk d = (d.ops.all (fun o => opOk o N2) && decide ((drvEnc d).length ≤ 400)) by rw [HR2.out, HIT.out]; rfl)
          clear HR2 HIT
          have z3 := (HX.out _ HB.out).cell (j := 3) rfl
          go_upto_block 4 with (fail)
          go_cut [] (fun wx => Hid (d.ops.all (fun o => opOk o N2) = true) ∧ Hid (Below wa.heap.size wa wx))
          case first =>
            go_wp2_with fail
            go_loopw [5] (fun i wr => ∃ k : Nat, k ≤ N3 ∧ i = .int .i64 k ∧ Hid (∀ m (h : m < d.ops.length), m < k → opOk d.ops[m] N2 = true) ∧ Hid (Below wa.heap.size wa wr)) (fun i _ => N3 - (intOf i).toNat)
            case atStart => exact ⟨0, Nat.zero_le _, rfl, hide (fun m _ hm => by omega), HB⟩
            case round =>
              clear HB z3
              obtain ⟨k, hk, rfl, HXX, HB⟩ := hrel
              have u_ := (HX.out wr HB.out).cell (j := 3) rfl
              have u2_ := (HX.out wr HB.out).cell (j := 2) rfl
              by_cases hlt : k < N3
              · have hk2 : k < d.ops.length := by rw [HN3.out]; exact hlt
                have k1 : (k : Int) < (N3 : Int) := by omega
                have k0 : (0 : Int) ≤ (k : Int) := by omega
                have k2_ : (k : Int).toNat = k := by omega
                obtain ⟨b, of, cc, B2, d2, B3, d3, -, e, l, q0, q1, q2, q3, q4, i2_, i3_⟩ := DOp.elem HG3.out (Below.refl _ _) hk2
                obtain rfl := e rfl
                have hok_ := OK3.out _ (List.getElem_mem hk2)
                have hle_ := HBO.out _ (List.getElem_mem hk2)
                obtain ⟨C, hC⟩ : ∃ C, opOk d.ops[k] N2 = C := ⟨_, rfl⟩
                have hop := fun W (hb : Below wa.heap.size wa W) => hC ▸ specOpOk d.ops[k] N2 hok_ (by omega) (by omega) (by omega) _ W (DOp.lay (i2_.step hb) (i3_.step hb))
                have HCC := hide hC
                have HOP := hide hop
                have HQ := hide (fun W (hb : Below wa.heap.size wa W) => (⟨(HX.out W hb).cell (j := 3) rfl, (HX.out W hb).cell (j := 2) rfl, (hb.cell (p := ⟨b, of + k * 5, none⟩) l).trans q0, (hb.cell (p := ⟨b, of + k * 5 + 1, none⟩) l).trans q1, (hb.cell (p := ⟨b, of + k * 5 + 2, none⟩) l).trans q2, (hb.cell (p := ⟨b, of + k * 5 + 3, none⟩) l).trans q3, (hb.cell (p := ⟨b, of + k * 5 + 4, none⟩) l).trans q4⟩ : W.cell? ⟨w.heap.size, 3, none⟩ = _ ∧ W.cell? ⟨w.heap.size, 2, none⟩ = _ ∧ W.cell? ⟨b, of + k * 5, none⟩ = _ ∧ W.cell? ⟨b, of + k * 5 + 1, none⟩ = _ ∧ W.cell? ⟨b, of + k * 5 + 2, none⟩ = _ ∧ W.cell? ⟨b, of + k * 5 + 3, none⟩ = _ ∧ W.cell? ⟨b, of + k * 5 + 4, none⟩ = _))
                obtain ⟨s0_, s1_, s2_, s3_, s4_, s5_, s6_⟩ := HQ.out wr HB.out
                have HBE := hide (HB.out.drew)
                clear hC hop hok_ hle_ q0 q1 q2 q3 q4 i2_ i3_ u_ u2_
                go_upto_region 16 with (fail)
                go_cut [134] (fun v wx => v = .bool (!C) ∧ Hid (Below wa.heap.size wa wx))
                case first =>
                  go_region_held3 (fun W => W.cell? ⟨w.heap.size, 3, none⟩ = some (.slice (some ⟨b, of, none⟩) N3 c3) ∧ W.cell? ⟨w.heap.size, 2, none⟩ = some (.slice A2 N2 c2) ∧ W.cell? ⟨b, of + k * 5, none⟩ = some (.int .i64 (d.ops[k]).code) ∧ W.cell? ⟨b, of + k * 5 + 1, none⟩ = some (.int .i64 (d.ops[k]).out) ∧ W.cell? ⟨b, of + k * 5 + 2, none⟩ = some (.slice B2 (d.ops[k]).name.length d2) ∧ W.cell? ⟨b, of + k * 5 + 3, none⟩ = some (.slice B3 (d.ops[k]).text.length d3) ∧ W.cell? ⟨b, of + k * 5 + 4, none⟩ = some (.int .i64 (d.ops[k]).arg))
                    (first
                      | exact HQ.out _ HBZ.out
                      | exact HQ.out _ HBE.out
                      | go_keep)
                    (first
                      | (go_simp; go_at_call 77; refine (HOP.out _ HBE.out).mono ?_; rintro e w8 ⟨rfl, b8⟩; have HBZ := hide (HBE.out.trans (b8.mono HBE.out.size)); clear b8))
                  all_goals
                    go_wp2
                    go_meet
                    exact ⟨rfl, HBZ⟩
                case rest =>
                  obtain ⟨rfl, HB2⟩ := hcut
                  clear s0_ s1_ s2_ s3_ s4_ s5_ s6_ HB HBE
                  cases C with
                  | true =>
                    go_wp2_with fail
                    go_roundw
                    case rel => exact ⟨k + 1, by omega, by go_num, hide (fun m h hm => by
                      rcases Nat.lt_or_ge m k with h' | h'
                      · exact HXX.out m h h'
                      · obtain rfl : m = k := by omega
                        exact HCC.out), HB2⟩
                    case measure => simp [intOf]; omega
                  | false =>
                    have HF := hide (show drvOk d = false by
                      rw [HR3.out]
                      have hi : d.ops.all (fun o => opOk o N2) = false := Bool.eq_false_iff.2 fun h => by
                        have := List.all_eq_true.1 h _ (List.getElem_mem hk2)
                        rw [HCC.out] at this
                        cases this
                      rw [hi]; rfl)
                    go_wp2_with fail
                    go_ret
                    exact ⟨ret_bool HF.out.symm, HBA.out.trans (HB2.out.mono HBA.out.size)⟩
              · obtain rfl : k = N3 := by omega
                have HIT := hide (show d.ops.all (fun o => opOk o N2) = true from List.all_eq_true.2 fun x hx => by
                  obtain ⟨m, hm, rfl⟩ := List.getElem_of_mem hx
                  exact HXX.out m hm (by rw [HN3.out] at hm; exact hm))
                go_wp2
                go_meet
                exact ⟨HIT, HB⟩
          case rest =>
            clear HB z3
            obtain ⟨HIT, HB⟩ := hcut
            have hsm : drvSmall d := drvSmall_of HTD.out (by rw [HN2.out]; exact HIT.out)
            have HR4 := hide (show drvOk d = decide ((drvEnc d).length ≤ 400) by rw [HR3.out, HIT.out]; rfl)
            have hen := HENC.out hsm _ (HBA.out.trans (HB.out.mono HBA.out.size))
            have HEN := hide hen
            have z0 := (HX.out _ HB.out).cell (j := 0) rfl
            have z1 := (HX.out _ HB.out).cell (j := 1) rfl
            have z2 := (HX.out _ HB.out).cell (j := 2) rfl
            have z3 := (HX.out _ HB.out).cell (j := 3) rfl
            clear HR3 HIT hsm hen HENC
            go_wp2_with fail
            refine HEN.out.mono ?_
            rintro e w9 ⟨v9, rfl, o9, b9⟩
            obtain ⟨A9, c9, rfl, -, -⟩ := own_slice o9
            have HB9 := hide ((HBA.out.trans (HB.out.mono HBA.out.size)).trans (b9.mono (HBA.out.trans (HB.out.mono HBA.out.size)).size))
            clear o9 b9
            go_wp2_with fail
            go_ret
            exact ⟨ret_bool (by rw [HR4.out]; rw [Bool.eq_iff_iff]; simp; omega), HB9.out⟩

end Go.Proofs.YtigklnokgmcifaaDoor
