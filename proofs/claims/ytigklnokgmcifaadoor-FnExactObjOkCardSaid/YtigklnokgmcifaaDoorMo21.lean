/-
  Parts of the proof: Door, ScanI, ShaN, SizeS.
-/
import Derived.Test.YtigklnokgmcifaaDoorMo18
import Derived.Test.YtigklnokgmcifaaDoorMo2
import Derived.Test.YtigklnokgmcifaaDoorCards
import Derived.Test.YtigklnokgmcifaaDoorTie
import Derived.Deep.DeepHandedRow
import Derived.Lib.LaidTab
import Derived.OpenVars
import Derived.Test.YtigklnokgmcifaaDoorMo20
import Derived.Test.YtigklnokgmcifaaDoorMo16
import Derived.Test.YtigklnokgmcifaaDoorMo14
import Derived.Test.YtigklnokgmcifaaDoorMo19

/-
  The table of the program, as a row lists it.
-/
namespace Go.Proofs.YtigklnokgmcifaaDoor
open Go.ChangeShapes Go.WideShapes Go.ChangeAt Go.RowKit

theorem gKeys : Tryd.prog.globalNamed "loop.example/g00538/impl.roundKeys" = some 1 := by kernel_rfl
theorem gKeysType : (Tryd.prog.globals[1]?).map (·.type) = some 143 := by kernel_rfl
theorem cellsKeys : Tryd.prog.cellsOf 143 = 64 := by kernel_rfl
theorem cellsU32 : Tryd.prog.cellsOf 128 = 1 := by kernel_rfl
theorem tab_of_laid {W : World} (h : laidMet Tryd.prog [("loop.example/g00538/impl.roundKeys", Rows.laid_loop_example_g00538_impl_roundKeys)] W) : Tab W := by
  have h1 : Lib.TabIs Tryd.prog W "loop.example/g00538/impl.roundKeys" .u32 KL :=
    Lib.tabIs_of_head (rest := []) gKeys gKeysType Tryd.underlying143 Tryd.underlying128 cellsU32 cellsKeys h
  unfold Lib.TabIs World.var? at h1
  rw [gKeys] at h1
  simp only [Option.bind_some] at h1
  split at h1
  · rename_i cs t fr hb
    have e : cs = wd KL := Option.some.inj h1
    subst e
    exact ⟨t, fr, hb⟩
  · cases h1

/-- A world in which the table holds what its declaration says. -/
noncomputable def laidWorld (os : Os) : World :=
  { World.holding Tryd.prog os ⟨#[], #[], []⟩ with heap := (World.holding Tryd.prog os ⟨#[], #[], []⟩).heap.modify 1 fun
      | .cells _ t frozen => .cells (wd KL) t frozen
      | o => o }
theorem laid_met (os : Os) (args : Array Value) : laidMet Tryd.prog [("loop.example/g00538/impl.roundKeys", Rows.laid_loop_example_g00538_impl_roundKeys)] ((laidWorld os).forCall (fun _ _ => 0) ⟨#[], args, []⟩).memory :=
  laidMet_of_run' 8 (by kernel_rfl) (by kernel_rfl)

end Go.Proofs.YtigklnokgmcifaaDoor


/-
  The program's Scan.
-/
namespace Go.Proofs.YtigklnokgmcifaaDoor
open Go.RowKit Go.Maps Go.ChangeShapes Go.WideMaps
set_option linter.unusedVariables false

theorem boolInfo : (Tryd.prog.info? 4).map (fun i => (i.zero, i.size, i.bytes)) = some (some (.bool false), 1, 1) := by kernel_rfl

set_option maxRecDepth 100000 in
set_option maxHeartbeats 3200000 in
theorem implScan (b : List Int) (ns : List (List Int)) (hB : Byt b) (hN : BytN ns) (vb va : Value) (w : World) (hb : Rd w vb (bs b)) (hv : RdN w va ns) (hbl : b.length ≤ 1099511627776) (hn : ns.length ≤ 1048576) (hl : ∀ n ∈ ns, n.length ≤ 1048576) :
    Calls Tryd.prog 68 #[vb, va] w fun e w' => ∃ v', e = .returned v' ∧ OwnS w.heap.size w' v' (scanOf b ns) ∧ Below w.heap.size w w' := by
  have hs := implSorted ns hN va w hv hl
  cases ha : ascP nameOk ns with
  | false =>
    have hS : scanOf b ns = [] := by rw [scanOf, ha]; rfl
    rw [ha] at hs
    have HS := hide hs
    have HE := hide hS
    clear hs hS ha hb hv
    go_enter Tryd.func68, Tryd.ntmps68
    go_wp2_with fail
    refine HS.out.mono ?_
    rintro e w1 ⟨rfl, b1⟩
    go_wp2_with fail
    go_ret
    rw [HE.out]
    exact ⟨_, rfl, OwnS.nil _ _, b1⟩
  | true =>
    have hS : scanOf b ns = scanL b ns := by rw [scanOf, ha]; rfl
    have h16 := asc_names ha
    rw [ha] at hs
    have hpl := fun (W : World) (hW : Below w.heap.size w W) => implPlaces (H := Unit) ns (fun n hn => ⟨by rw [h16 n hn]; omega, hN n hn⟩) va W (hv.below hW) hn
    obtain ⟨i0, hi0, hz0, hz1, hz2⟩ := info_parts namesInfo
    obtain ⟨j0, hj0, hy0, hy1, hy2⟩ := info_parts boolInfo
    obtain ⟨A, c, rfl, hc1, hc2⟩ := names_len hv
    obtain ⟨N, hNl⟩ : ∃ N, ns.length = N := ⟨_, rfl⟩
    rw [hNl] at hc1 hv hn hs hpl
    obtain ⟨A0, c0, rfl, hd1, hd2, hrd⟩ := hb
    rw [bs_length] at hd1 hrd ⊢
    obtain ⟨M, hMl⟩ : ∃ M, b.length = M := ⟨_, rfl⟩
    rw [hMl] at hd1 hrd hbl ⊢
    rw [hNl]
    unfold maxLen at hc2 hd2
    have HS := hide hs
    have HE := hide hS
    have HPL := hide hpl
    have HNL := hide hNl
    have HML := hide hMl
    have HNN := hide hv
    have HRD := hide hrd
    have H16 := hide h16
    have HBN := hide hN
    clear hs hS hpl hNl hMl hv hrd h16 hN ha hl
    go_enter Tryd.func68, Tryd.ntmps68
    go_wp2_with fail
    refine HS.out.mono ?_
    rintro e w1 ⟨rfl, b1⟩
    go_wp2_with fail
    refine (HPL.out w1 b1).mono ?_
    rintro e w2 ⟨rfl, ⟨D, og, hg⟩, b2, z2⟩
    have HB2 := hide (b1.trans (b2.mono b1.size))
    have HOG := hide og
    have HGR := hide hg
    obtain ⟨m1, hm1⟩ : ∃ m, w1.heap.size = m := ⟨_, rfl⟩
    rw [hm1] at HOG z2 ⊢
    have hlw1 : w.heap.size ≤ m1 := by rw [← hm1]; exact b1.size
    clear b1 b2 og hg HS HPL hm1
    go_wp2_with (at_make; refine wpList_make_full _ rfl _ _ 122 rfl w2.heap.size 4 j0 _ 1 Tryd.underlying122 hj0 hy0 hy1 .i64 .i64 _ _ N rfl rfl rfl rfl (by rw [hy2]; omega) (by simp only [maxLen]; omega) (Nat.le_refl _) ?_; intro w3 own3 gr3)
    have hob : OB w3 w2.heap.size w2.heap.size N (fun j => seen b (ns.getD j []) 0) := by
      have e : (madeCells (Value.bool false).cells (N * 1)).toList = (List.range N).map fun j => Value.bool (seen b (ns.getD j []) 0) := by
        rw [Nat.mul_one]
        refine (toList_madeCells_one _ _).trans (List.eq_replicate_iff.2 ⟨by simp, fun x hx => ?_⟩).symm
        obtain ⟨j, _, rfl⟩ := List.mem_map.1 hx
        rw [seen_zero]
      unfold OB
      rw [← e]
      exact own3
    have HB3 : Hid (Below w2.heap.size w2 w3) := hide ((Below.refl _ _).grown gr3 (Nat.le_refl _) (fun _ h => by cases h))
    have HOB := hide hob
    have hlt3 : w2.heap.size + 1 ≤ w3.heap.size := (hob.lt w2.heap.size rfl).2
    clear own3 gr3 hob
    go_wp2
    go_loopw [7] (fun i wr => ∃ k : Nat, k ≤ M ∧ i = .int .i64 k ∧ Hid (OB wr w2.heap.size w2.heap.size N (fun j => seen b (ns.getD j []) k)) ∧ Below w2.heap.size w2 wr ∧ w2.heap.size + 1 ≤ wr.heap.size) (fun i _ => M - (intOf i).toNat)
    case atStart => exact ⟨0, Nat.zero_le _, rfl, HOB, HB3.out, hlt3⟩
    case round =>
      obtain ⟨wo, hwo⟩ : ∃ W, W = wr := ⟨_, rfl⟩
      subst hwo
      clear HOB HB3 hlt3
      obtain ⟨k, hk, rfl, HO, hbel, hsz⟩ := hrel
      have HB := hide hbel
      by_cases hlt : k + 16 ≤ M
      · obtain ⟨bb, off, rfl, hblt, hcell⟩ := HRD.out (by omega)
        have hbw : bb < w2.heap.size := Nat.lt_of_lt_of_le hblt HB2.out.size
        have hcr : ∀ i u, (bs b)[i]? = some u → wo.cell? ⟨bb, off + i, none⟩ = some u := fun i u hu => (hbel.cell (p := ⟨bb, off + i, none⟩) hbw).trans ((HB2.out.cell (p := ⟨bb, off + i, none⟩) hblt).trans (hcell i u hu))
        have hbwr : bb < wo.heap.size := Nat.lt_of_lt_of_le hbw hbel.size
        have r2 : Rd wo (.slice (some ⟨bb, off + k, none⟩) 4 (c0 - k)) (bs (((b.drop k).take 16).take 4)) := by
          rw [List.take_take]
          exact Rd.part hcr hbwr (by rw [HML.out]; omega) (by rw [HML.out]; exact hd1) (by unfold maxLen; exact hd2) rfl
        have hcv := conv_rd (P := Tryd.prog) Tryd.underlying22 Tryd.underlying5 Tryd.underlying9 r2
        have hkey := keyOf_s (s := ((b.drop k).take 16).take 4) (by rw [List.length_take]; omega)
        have hpB : Byt ((b.drop k).take 16) := (hB.drop k).take 16
        have hsB : Byt (((b.drop k).take 16).take 4) := hpB.take 4
        have hown := groups_below HOG.out hbel
        have hsh := shuns_all HOG.out (by omega) hbel
        have hc2r : ∀ i u, (bs b)[i]? = some u → w2.cell? ⟨bb, off + i, none⟩ = some u := fun i u hu => (HB2.out.cell (p := ⟨bb, off + i, none⟩) hblt).trans (hcell i u hu)
        have r1w : Rd w2 (.slice (some ⟨bb, off + k, none⟩) 16 (c0 - k)) (bs ((b.drop k).take 16)) := Rd.part hc2r hbw (by rw [HML.out]; exact hlt) (by rw [HML.out]; exact hd1) (by unfold maxLen; exact hd2) rfl
        have HR1 := hide r1w
        have HPB := hide hpB
        have HSB := hide hsB
        have hpl : ((b.drop k).take 16).length = 16 := by rw [List.length_take, List.length_drop, HML.out]; omega
        have HPT : Hid (∀ n : List Int, n.length = 16 → atL b n k = decide ((b.drop k).take 16 = n)) := hide (fun n hn => by
          rw [atL, hn, HML.out]
          by_cases h : (b.drop k).take 16 = n
          · rw [decide_eq_true h, decide_eq_true ⟨hlt, h⟩]
          · rw [decide_eq_false h, decide_eq_false (fun h2 => h h2.2)])
        have HEND : Hid (∀ j, j < N → inF b ns (plc ns (((b.drop k).take 16).take 4) N) k (plc ns (((b.drop k).take 16).take 4) N).length j = seen b (ns.getD j []) (k + 1)) := hide (fun j hj => inF_end H16.out (by rw [HNL.out]; exact hj) HNL.out)
        generalize (b.drop k).take 16 = pt at *
        generalize pt.take 4 = s at *
        have k0 : (k : Int) + 16 ≤ (M : Int) := by omega
        have k1 : (k : Int) + 16 ≤ (c0 : Int) := by omega
        have k2 : IntKind.i64.wrap ((k : Int) + 16) = (k : Int) + 16 := IntWalk.i64_in _ (by omega)
        have k3 : (0 : Int) ≤ (k : Int) := by omega
        have k4 : (k : Int).toNat = k := by omega
        have k5 : ((k : Int) + 16).toNat = k + 16 := by omega
        have k6 : k + 16 - k = 16 := by omega
        have k7 : (k : Int) ≤ (k : Int) + 16 := by omega
        have k8 : ¬ c0 = k := by omega
        have k9 : 4 ≤ c0 - k := by omega
        clear r1w r2 hpB hsB hcr hc2r hcell hpl
        go_wp2_with (at_lookup; refine wpList_lookup_groups_shuns _ rfl _ _ 120 rfl 9 123 3 .i64 strLaw Tryd.underlying120 (intsZero _) (m1 + 1) m1 N _ rfl hown (by unfold maxLen; omega) _ _ rfl hkey ?_; intro v zs hat hoi hzl hback hshv; have HZ : Hid (zs = plc ns s N) := hide (HGR.out.row HSB.out hoi hat); have HV := hide (hshv _ hsh); obtain ⟨A5, c5, rfl, hA1, hA2⟩ := own_slice hoi.1; have HOI := hide hoi.1; obtain ⟨Z, hZ⟩ : ∃ Z, zs.length = Z := ⟨_, rfl⟩; rw [hZ] at hA1 hzl HV ⊢; have HZL := hide hZ; clear hback hshv hat hoi hZ)
        go_loopw [40] (fun i2 wr => ∃ r : Nat, r ≤ Z ∧ i2 = .int .i64 r ∧ Hid (OB wr w2.heap.size w2.heap.size N (inF b ns zs k r)) ∧ Below w2.heap.size w2 wr ∧ w2.heap.size + 1 ≤ wr.heap.size) (fun i2 _ => Z - (intOf i2).toNat)
        case atStart => exact ⟨0, Nat.zero_le _, rfl, hide (HO.out.eq (fun j _ => (inF_zero b ns zs k j).symm)), hbel, hsz⟩
        case round =>
          obtain ⟨r, hr, rfl, HI, hbx, hsx⟩ := hrel
          by_cases hrz : r < Z
          · obtain ⟨g5, rfl, hg1, hg2⟩ := own_form HOI.out (by rw [HZL.out]; omega)
            have hg3 : g5 < w2.heap.size := by have := HV.out g5 rfl; omega
            have hrl : r < zs.length := by rw [HZL.out]; exact hrz
            have hmem : zs[r] ∈ plc ns s N := by rw [← HZ.out]; exact List.getElem_mem hrl
            obtain ⟨p, hp, hpN, hps⟩ := plc_mem hmem
            have hzr : zs.getD r 0 = (p : Int) := by rw [← hp]; simp [List.getD, List.getElem?_eq_getElem hrl]
            have q5 : wr.cell? ⟨g5, r, none⟩ = some (.int .i64 p) := by
              have h1 := HOI.out.cellAt r (by omega)
              rw [List.getElem?_map, List.getElem?_eq_getElem hrl, hp] at h1
              exact (hbx.cell (p := ⟨g5, r, none⟩) hg3).trans ((hbel.cell (p := ⟨g5, r, none⟩) hg3).symm.trans h1)
            have hpn : p < ns.length := by rw [HNL.out]; exact hpN
            obtain ⟨b2, off2, x, rfl, hblt2, cx, rx⟩ := HNN.out.get hpn
            have hb2w : b2 < w2.heap.size := Nat.lt_of_lt_of_le hblt2 HB2.out.size
            have q6 := (hbx.cell (p := ⟨b2, off2 + p, none⟩) hb2w).trans ((HB2.out.cell (p := ⟨b2, off2 + p, none⟩) hblt2).trans cx)
            have hmp : ns.getD p [] ∈ ns := by simp [List.getD, List.getElem?_eq_getElem hpn]
            have hcall := bytesEq pt (ns.getD p []) HPB.out (HBN.out _ hmp) _ x wr (HR1.out.below hbx) ((rx.below HB2.out).below hbx)
            have heq := HPT.out _ (H16.out _ hmp)
            rw [← heq] at hcall
            have hnx := inF_next (b := b) (ns := ns) (k := k) hrl hzr
            have hout := HI.out.cell hpN
            have hfz := HI.out.fz p
            have HBX := hide hbx
            clear heq cx rx hmem hp hps hzr hpn hmp
            cases hat : atL b (ns.getD p []) k with
            | false =>
              rw [hat] at hcall hnx
              have HC := hide hcall
              have HI2 : Hid (OB wr w2.heap.size w2.heap.size N (inF b ns zs k (r + 1))) := hide (HI.out.eq (fun j _ => by rw [hnx j]; simp))
              clear hcall hnx hat hout hfz hbx hbel
              go_wp2_with fail
              refine HC.out.mono ?_
              rintro e w5 ⟨rfl, hw5⟩
              rw [hw5]
              clear hw5
              go_wp2_with fail
              go_roundw
              case rel => exact ⟨r + 1, by omega, by go_num, HI2, HBX.out, hsx⟩
              case measure => simp [intOf]; omega
            | true =>
              rw [hat] at hcall hnx
              have HC := hide hcall
              have HI2 : Hid (OB (wr.setCell ⟨w2.heap.size, p, none⟩ (.bool true)) w2.heap.size w2.heap.size N (inF b ns zs k (r + 1))) := hide ((HI.out.set p).eq (fun j _ => by rw [hnx j]; simp))
              have HB3 : Hid (Below w2.heap.size w2 (wr.setCell ⟨w2.heap.size, p, none⟩ (.bool true))) := hide (HBX.out.setCell (Nat.le_refl _) _)
              have HZ3 : Hid ((wr.setCell ⟨w2.heap.size, p, none⟩ (.bool true)).heap.size = wr.heap.size) := hide (by simp)
              clear hcall hnx hat hbx hbel
              go_wp2_with fail
              refine HC.out.mono ?_
              rintro e w5 ⟨rfl, hw5⟩
              rw [hw5]
              clear hw5
              go_wp2_with fail
              go_roundw
              case rel => exact ⟨r + 1, by omega, by go_num, HI2, HB3.out, by rw [HZ3.out]; exact hsx⟩
              case measure => simp [intOf]; omega
          · obtain rfl : r = Z := by omega
            have HF : Hid (OB wr w2.heap.size w2.heap.size N (fun j => seen b (ns.getD j []) (k + 1))) := hide (HI.out.eq (fun j hj => by rw [← HEND.out j hj, ← HZ.out, HZL.out]))
            have HBX := hide hbx
            clear hbx hbel
            go_wp2
            go_roundw
            case rel => exact ⟨k + 1, by omega, by go_num, HF, HBX.out, hsx⟩
            case measure => simp [intOf]; omega
      · have HOC : Hid (OB wo w2.heap.size w2.heap.size N (fun j => contL b (ns.getD j []))) := hide (HO.out.eq (fun j hj => by
          have hjn : j < ns.length := by rw [HNL.out]; exact hj
          have hm : ns.getD j [] ∈ ns := by simp [List.getD, List.getElem?_eq_getElem hjn]
          exact seen_end (by rw [HML.out, H16.out _ hm]; omega)))
        have HWO := hide (HB2.out.trans (hbel.mono HB2.out.size))
        have hwo1 : w.heap.size ≤ wo.heap.size := HWO.out.size
        clear hbel HO HOG
        go_wp2
        go_loopw [11, 56] (fun u i wr => ∃ j : Nat, j ≤ N ∧ i = .int .i64 j ∧ Hid (OwnS wo.heap.size wr u (scanL b (ns.take j))) ∧ Below wo.heap.size wo wr) (fun _ i _ => N - (intOf i).toNat)
        case atStart => exact ⟨0, Nat.zero_le _, rfl, hide (OwnS.nil _ _), Below.refl _ _⟩
        case round =>
          obtain ⟨j, hj, rfl, HO3, hbel⟩ := hrel
          have HB4 := hide hbel
          by_cases hlt : j < N
          · have hjn : j < ns.length := by rw [HNL.out]; exact hlt
            obtain ⟨b2, off, x, rfl, hblt, cx, rx⟩ := HNN.out.get hjn
            have q1 := (hbel.cell (p := ⟨b2, off + j, none⟩) (Nat.lt_of_lt_of_le hblt HWO.out.size)).trans ((HWO.out.cell (p := ⟨b2, off + j, none⟩) hblt).trans cx)
            have rr1 := (rx.below HWO.out).below hbel
            have hmj : ns.getD j [] ∈ ns := by simp [List.getD, List.getElem?_eq_getElem hjn]
            have q2 := (hbel.cell (p := ⟨w2.heap.size, j, none⟩) hsz).trans (HOC.out.cell hlt)
            have hlj : (ns.getD j []).length ≤ 16 := by rw [H16.out _ hmj]; omega
            have hnx := scanL_next (b := b) hjn
            have hlen := scanL_le b (ns.take j)
            rw [List.length_take] at hlen
            obtain ⟨us, hU⟩ := HO3.out
            have hul : us.length ≤ j := by rw [hU.len]; omega
            generalize ns.getD j [] = n at *
            have hlw : wo.heap.size ≤ wr.heap.size := hbel.size
            have k1 : (j : Int) < (N : Int) := by omega
            have hcl := clone n x wr rr1 (by omega)
            have HC := hide hcl
            clear hcl cx rx rr1 hlen hmj
            cases hcn : contL b n with
            | false =>
              rw [hcn] at q2 hnx
              have HS : Hid (OwnS wo.heap.size wr u11 (scanL b (ns.take (j + 1)))) := hide (by rw [hnx]; exact ⟨us, hU⟩)
              clear hnx hcn hU hbel HO3
              go_wp2_with fail
              go_roundw
              case rel => exact ⟨j + 1, by omega, by go_num, HS, HB4.out⟩
              case measure => simp [intOf]; omega
            | true =>
              rw [hcn] at q2 hnx
              have HU := hide hU
              have HNX := hide hnx
              clear hnx hcn hU hbel HO3
              go_wp2_with fail
              refine HC.out.mono ?_
              rintro e w5 ⟨u2, rfl, o2, bb2⟩
              have row2 := hide (own_step HU.out.row bb2)
              have hl2 : wo.heap.size ≤ w5.heap.size := Nat.le_trans hlw bb2.size
              obtain ⟨A2, c2, hu2, -, -⟩ := own_slice o2
              subst hu2
              have HBB2 := hide bb2
              have HO2 := hide o2
              clear bb2 o2 q1 q2
              go_wp2_with (at_builtin; refine wpList_app _ rfl (.tmp 65) (.tmp 68) _ rfl wo.heap.size 22 i0 _ 24 Tryd.underlying23 hi0 hz0 hz1 hz2 rfl _ _ _ rfl (row2.out.alloc _) _ _ rfl (rd_oneV _ _ _) slice_one (by simp [maxLen]; omega) (by simp; omega) (by simp; omega) ?_; intro v3 w6 own3 gr3)
              have hS3 : OwnS wo.heap.size w6 v3 (scanL b (ns.take (j + 1))) := by rw [HNX.out]; exact ⟨_, HU.out.snoc HBB2.out HO2.out hlw _ own3 gr3⟩
              have hb3 : Below wo.heap.size wo w6 := Below.row ((HB4.out.trans (HBB2.out.mono HB4.out.size)).alloc hl2 _) (by simp; omega) (row2.out.alloc _) gr3
              have HS := hide hS3
              have HB5 := hide hb3
              clear hS3 hb3 own3 gr3
              go_roundw
              case rel => exact ⟨j + 1, by omega, by go_num, HS, HB5.out⟩
              case measure => simp [intOf]; omega
          · obtain rfl : j = N := by omega
            have e2 : ns.take j = ns := List.take_of_length_le (by rw [HNL.out]; omega)
            rw [e2] at HO3
            have HF := hide (HO3.out.base hwo1)
            have HB5 := hide (HWO.out.trans (hbel.mono hwo1))
            clear hbel e2
            go_wp2
            go_ret
            rw [HE.out]
            exact ⟨_, rfl, HF.out, HB5.out⟩

end Go.Proofs.YtigklnokgmcifaaDoor


/-
  Sha256: the model and the program give the same bytes.
-/
namespace Go.Proofs.YtigklnokgmcifaaDoor
open Go.RowKit
set_option linter.unusedVariables false

theorem Rd.far {w w1 w' : World} {v : Value} {xs : List Value} {lo hi : Nat} (h : Rd w v xs) (hb : Below w.heap.size w w1) (ho : Outside lo hi w1 w') (hlo : w.heap.size ≤ lo) : Rd w' v xs :=
  h.below (ho.below hb hlo hb.size)

set_option maxRecDepth 20000 in
set_option maxHeartbeats 1600000 in
theorem mixAll (l : List Int) (hB : Byt l) (n : Nat) (hn : l.length = 64 * n) (hl : n ≤ 100000) (s : S8) (hs : s.Ok) (g : Nat) (v : Value) (w : World)
    (hv : ∀ W, Outside g (g + 1) w W → Rd W v (bs l)) (hg : At w g 135 (wd s.list)) (hT : Tab w) (hne : 1 < g) :
    Calls Tryd.prog 113 #[.pointer (some ⟨g, 0, none⟩), v] w fun e w' => (∃ v, e = .returned v) ∧ At w' g 135 (wd (hashN s l n).list) ∧ Outside g (g + 1) w w' := by
  have h0 : Outside g (g + 1) w w := Outside.of_below (Below.refl _ _) _ _
  obtain ⟨A, c, rfl, hc1, hc2, _⟩ := hv w h0
  rw [bs_length] at *
  unfold maxLen at hc2
  have HG := hide hg
  have HT := hide hT
  have HV := hide hv
  have HN := hide hn
  have hlm : l.length ≤ 6400000 := by omega
  clear hg hT hv hn
  go_enter Tryd.func113, Tryd.ntmps113
  go_wp2
  go_loopw [4] (fun i wr => ∃ k : Nat, k ≤ n ∧ i = .int .i64 (64 * k) ∧ At wr g 135 (wd (hashN s l k).list) ∧ Outside g (g + 1) w wr)
    (fun i _ => l.length - (intOf i).toNat)
  case atStart => exact ⟨0, by omega, by go_num, HG.out, h0⟩
  case round =>
    obtain ⟨k, hk, rfl, hat, hO⟩ := hrel
    have hn := HN.out
    by_cases hlt : k < n
    · obtain ⟨A2, c2, e2, _, _, hrd⟩ := HV.out wr hO
      injection e2 with e3 _ e4
      subst e3 e4
      rw [bs_length] at *
      obtain ⟨b, off, rfl, hblt, hcell⟩ := hrd (by omega)
      have hpart : Rd wr (.slice (some ⟨b, off + 64 * k, none⟩) 64 (c - 64 * k)) (bs (blk64 l k)) := Rd.part hcell hblt (k := 64 * k) (n := 64) (by omega) (by omega) (by unfold maxLen; omega) rfl
      have hmix := mix (hashN s l k) (hashN_ok hs _ _) g (blk64 l k) (blk_byt hB k) (blk_len (by omega)) _ wr hpart hat (HT.out.outside hO hne)
      have HO := hide hO
      clear hcell hrd hpart hat hO
      have q6 : 64 * (k : Int) ≤ 64 * (k : Int) + 64 := by omega
      have q7 : ¬ c = 64 * k := by omega
      have q5 : 64 * (k : Int) + 64 ≤ (c : Int) := by omega
      have q4 : 64 * (k : Int) < (l.length : Int) := by omega
      have hm : l.length - (64 * k + 64) < l.length - 64 * k := by omega
      clear hn
      go_wp2_with (go_at_call 130; (with_reducible refine hmix.mono ?_); rintro e w2 ⟨⟨v2, rfl⟩, at2, o2⟩)
      go_roundw
      case rel => exact ⟨k + 1, by omega, by go_num, at2, HO.out.trans o2⟩
      case measure => have hn := HN.out; simp [intOf]; omega
    · obtain rfl : k = n := by omega
      have HA := hide hat
      have HO := hide hO
      have q4 : ¬ 64 * (k : Int) < (l.length : Int) := by omega
      clear hat hO hn
      go_wp2
      go_end0
      exact ⟨⟨_, rfl⟩, HA.out, HO.out⟩

/-- What Sha256 answers. -/
def sha256 (l : List Int) : List Int := if 100000 < l.length then [] else shaL l
theorem sha256_byt (l : List Int) : Byt (sha256 l) := by
  unfold sha256
  split
  · exact Byt.nil
  · exact shaL_byt _
theorem sha256_room (l : List Int) (_ : l.length ≤ 1048576) : (sha256 l).length ≤ 1099511627776 := by
  unfold sha256
  split
  · simp
  · rw [shaL_len]; omega

end Go.Proofs.YtigklnokgmcifaaDoor


/-
  The model's TreeOk and TreeSize.
-/
namespace Go.Proofs.YtigklnokgmcifaaDoor
open Go.RowKit
set_option linter.unusedVariables false

/-- What TreeOk answers. -/
def treeOk (t : T) : Bool := t.okAt 1 && decide (t.size ≤ 40)
theorem okRest_treeOk (t : T) : decide (0 ≤ okRest t 1 40) = treeOk t := by
  unfold okRest treeOk
  cases t.okAt 1 with
  | false => rfl
  | true =>
    rw [if_pos rfl, Bool.true_and, rest]
    by_cases h : t.size ≤ 40
    · rw [if_pos (by omega), decide_eq_true h]
      exact decide_eq_true (by omega)
    · rw [if_neg (by omega), decide_eq_false h]
      rfl

set_option maxRecDepth 20000 in
set_option maxHeartbeats 800000 in
theorem specTreeOk (t : T) (hB : t.Byts) (q : Q) (w : World) (hq : TIn w t q) :
    Calls Tryd.prog 26 #[q.val] w fun e w' => e = .returned (.bool (treeOk t)) ∧ Below w.heap.size w w' := by
  obtain ⟨wa, hwa, box, ba, hz⟩ := boxed w q 33
  have x0 := box.c0
  have x1 := box.c1
  have x2 := box.c2
  have x3 := box.c3
  have hcall := specOk t q 1 40 wa hB (by omega) (by omega) (by omega) (hq.below ba)
  have hr := okRest_treeOk t
  obtain ⟨x, hx⟩ : ∃ x, okRest t 1 40 = x := ⟨_, rfl⟩
  rw [hx] at hcall hr
  have HR := hide hr
  have HC := hide hcall
  clear hr hx hq box hcall
  go_enter Tryd.func26, Tryd.ntmps26
  go_wp2_with fail
  refine HC.out.mono ?_
  rintro e w2 ⟨rfl, b2⟩
  go_wp2_with fail
  go_ret
  exact ⟨ret_bool HR.out, ba.trans (b2.mono ba.size)⟩

end Go.Proofs.YtigklnokgmcifaaDoor
