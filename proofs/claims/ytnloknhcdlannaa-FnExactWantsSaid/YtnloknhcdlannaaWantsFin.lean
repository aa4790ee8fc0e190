
/-
  Merged: WantsL, WantsProof.
-/
import Derived.Test.YtnloknhcdlannaaWantsW
import Derived.Test.YtnloknhcdlannaaDrvTop
import Derived.Test.YtnloknhcdlannaaOwnAll
import Derived.Test.YtnloknhcdlannaaClone
import Derived.Laws.BytesArg
import Derived.IntWalk
import Derived.Deep.QuietTactic
import Derived.BigQuiet
import Derived.Deep.Cut
import Derived.Deep.DeepCutAuto
import Derived.Deep.CutBlock
import Derived.Deep.RegionWith
import Derived.Test.YtnloknhcdlannaaDSAll

namespace Go.Proofs.Ytnloknhcdlannaa
open Go.RowKit
set_option linter.unusedVariables false
set_option linter.unusedSimpArgs false

def wantsOf (d : DDrv) : List (List Int) := if drvOk d then d.srcs ++ d.ins.map DIn.drv else []
/-- Texts that a call collects. -/
def AccN (w0 : World) (ns : List (List Int)) (v : Value) (W : World) : Prop := OwnS w0.heap.size W v ns ∧ Below w0.heap.size w0 W
theorem AccN.eq {w0 W : World} {ns ms : List (List Int)} {v : Value} (h : AccN w0 ns v W) (e : ns = ms) : AccN w0 ms v W := e ▸ h
theorem AccN.snoc {w0 W W1 W3 : World} {ns : List (List Int)} {n : List Int} {us : List Value} {v v' u : Value} (h : OwnU w0.heap.size W v ns us) (hb0 : Below w0.heap.size w0 W) (hb : Below W.heap.size W W1) (hu : W1.ownsRow W.heap.size 5 1 u n.length (bs n)) (o : Obj)
    (own' : W3.ownsRow w0.heap.size 22 1 v' (us.length + 1) (us ++ [u])) (hg : (W1.alloc o).grownBy W3 v.ownBlock) : AccN w0 (ns ++ [n]) v' W3 := by
  refine ⟨⟨_, h.snoc hb hu hb0.size o own' hg⟩, ?_⟩
  exact Below.row ((hb0.trans (hb.mono hb0.size)).alloc (Nat.le_trans hb0.size hb.size) _) (by have := hb0.size; have := hb.size; simp; omega) ((own_step h.row hb).alloc _) hg
theorem take_snoc {α : Type} {l : List α} {k : Nat} (h : k < l.length) : l.take (k + 1) = l.take k ++ [l[k]] := List.take_succ_eq_append_getElem h

set_option maxRecDepth 20000 in
set_option maxHeartbeats 3200000 in
theorem specWants (d : DDrv) (hok : oks d.cells) (hbk : bulks d.cells ≤ 1048576) (us : List Value) (w : World) (hs : Ins w d.cells us) :
    Calls Try.prog 31 #[.agg us.toArray] w fun e w' => ∃ v', e = .returned v' ∧ OwnS w.heap.size w' v' (wantsOf d) ∧ Below w.heap.size w w' := by
  obtain ⟨i8, hi8, hz80, hz81, hz82⟩ := info_parts u8info
  obtain ⟨i0, hi0, hz0, hz1, hz2⟩ := info_parts namesInfo5
  have hsx := hs
  have hbl := bulk_Drv d
  obtain ⟨A0, c0, A1, c1, A2, c2, A3, c3, rfl, h0, h1, h2, h3⟩ := DDrv.view hs
  obtain ⟨wz, hwz⟩ : ∃ wz, w.alloc (.cells #[.slice A0 d.srcs.length c0, .slice A1 d.ins.length c1, .slice A2 d.outs.length c2, .slice A3 d.ops.length c3] 41) = wz := ⟨_, rfl⟩
  have ba : Below w.heap.size w wz := by rw [← hwz]; exact (Below.refl _ _).alloc (Nat.le_refl _) _
  have bx : Box wz w.heap.size 41 [.slice A0 d.srcs.length c0, .slice A1 d.ins.length c1, .slice A2 d.outs.length c2, .slice A3 d.ops.length c3] := by rw [← hwz]; exact Box.new w _ _
  have hz : w.heap.size < wz.heap.size := bx.lt
  have x0 := bx.cell (j := 0) rfl
  have x1 := bx.cell (j := 1) rfl
  have x2 := bx.cell (j := 2) rfl
  have x3 := bx.cell (j := 3) rfl
  have HOK := hide (specDrvOk d hok hbk _ wz (hsx.step ba))
  have HO := hide (show wantsOf d = if drvOk d then d.srcs ++ d.ins.map DIn.drv else [] from rfl)
  obtain ⟨ok0, ok1, ok2, ok3⟩ := (DDrv.oks_iff d).1 hok
  have hl0 : ∀ n ∈ d.srcs, n.length ≤ 1048576 := fun n hn => by have := sumLen_mem2 hn; omega
  have hbi : ∀ x ∈ d.ins, x.drv.length + x.out.length ≤ 1048576 := fun x hx => by
    have h1 := bulks_mem (f := DIn.cells) hx
    have h2 := bulk_In x
    omega
  obtain ⟨T, hT⟩ : ∃ T, drvOk d = T := ⟨_, rfl⟩
  rw [hT] at HOK HO
  have hb0 : d.srcs.length ≤ 1048576 := by omega
  have hb1 : d.ins.length ≤ 1048576 := by omega
  have HL0 := hide hl0
  have HBI := hide hbi
  have HBX0 := hide bx
  have HBZ := hide ba
  have HI0 := hide h0
  have HI1 := hide h1
  clear bx ba hok hbk hs hsx h0 h1 h2 h3 hT hbl ok0 ok1 ok2 ok3 hl0 hbi
  go_enter Try.func31, Try.ntmps31
  go_wp2_with fail
  refine HOK.out.mono ?_
  rintro e wa ⟨rfl, b1⟩
  have hza : w.heap.size < wa.heap.size := Nat.lt_of_lt_of_le hz b1.size
  have HBA := hide (HBZ.out.trans (b1.mono HBZ.out.size))
  have HX := hide (fun W (hb : Below wa.heap.size wa W) => (HBX0.out.step b1).step hb)
  clear x0 x1 x2 x3 b1
  have y0 := (HX.out wa (Below.refl _ _)).cell (j := 0) rfl
  have y1 := (HX.out wa (Below.refl _ _)).cell (j := 1) rfl
  cases T with
  | false =>
    have HR := hide (show wantsOf d = [] by rw [HO.out]; rfl)
    go_wp2_with fail
    go_ret
    exact ⟨_, rfl, by rw [HR.out]; exact OwnS.nil _ _, HBA.out⟩
  | true =>
    have HR := hide (show wantsOf d = d.srcs ++ d.ins.map DIn.drv by rw [HO.out]; rfl)
    have HG0 := hide (HI0.out.step HBA.out)
    have HG1 := hide (HI1.out.step HBA.out)
    obtain ⟨N0, hN0⟩ : ∃ n, d.srcs.length = n := ⟨_, rfl⟩
    obtain ⟨N1, hN1⟩ : ∃ n, d.ins.length = n := ⟨_, rfl⟩
    rw [hN0] at y0 hb0 HG0 HX ⊢
    rw [hN1] at y1 hb1 HG1 HX ⊢
    have HN0 := hide hN0
    have HN1 := hide hN1
    clear hN0 hN1 HI0 HI1 HO
    go_upto_block 0 with (fail)
    go_cut [3] (fun v wx => Hid (AccN wa d.srcs v wx))
    case first =>
      go_wp2_with fail
      go_loopw [3, 4] (fun u i wr => ∃ k : Nat, k ≤ N0 ∧ i = .int .i64 k ∧ Hid (AccN wa (d.srcs.take k) u wr)) (fun _ i _ => N0 - (intOf i).toNat)
      case atStart => exact ⟨0, Nat.zero_le _, rfl, hide ⟨OwnS.nil _ _, Below.refl _ _⟩⟩
      case round =>
        obtain ⟨k, hk, rfl, HA⟩ := hrel
        obtain ⟨us, hU⟩ := HA.out.1
        have HBB := hide HA.out.2
        have hlo := HBB.out.size
        have hul : us.length ≤ 2097152 := by have h_ := HN0.out; rw [hU.len]; simp only [List.length_append, List.length_map, List.length_take]; omega
        have HU := hide hU
        clear hU
        have u_ := (HX.out wr HBB.out).cell (j := 0) rfl
        have hzr : w.heap.size < wr.heap.size := Nat.lt_of_lt_of_le hza hlo
        by_cases hlt : k < N0
        · have k1 : (k : Int) < (N0 : Int) := by omega
          have k0 : (0 : Int) ≤ (k : Int) := by omega
          have k2_ : (k : Int).toNat = k := by omega
          have hk2 : k < d.srcs.length := by rw [HN0.out]; exact hlt
          obtain ⟨b, off, X, cc, hA', hbl, q0, hr⟩ := HG0.out.nameAt HN0.out HBB.out hlt hk2
          subst hA'
          have hls := HL0.out _ (List.getElem_mem hk2)
          have HTK := hide (show d.srcs.take k ++ [d.srcs[k]] = d.srcs.take (k + 1) from (take_snoc hk2).symm)
          obtain ⟨S, hS⟩ : ∃ S, d.srcs[k] = S := ⟨_, rfl⟩
          rw [hS] at q0 hr hls HTK
          have hrr := hr.below HBB.out
          obtain ⟨LS, hLS⟩ : ∃ x, S.length = x := ⟨_, rfl⟩
          rw [hLS] at q0 hrr hls
          have HRR : Hid (Rd wr (.slice X LS cc) (bs S)) := hide hrr
          have hlen : S.length ≤ 1048576 := by omega
          have hbr : b < wr.heap.size := Nat.lt_of_lt_of_le hbl hlo
          clear hr hrr hS hLS
          go_wp2_with (first
            | (at_builtin; refine wpList_app _ rfl (.tmp 17) (.tmp 22) _ rfl wr.heap.size 5 i8 _ 1 Try.underlying22 hi8 hz80 hz81 hz82 rfl _ 0 [] rfl (own_lit0 wr _) _ (bs S) rfl (HRR.out.alloc _) (bs_one _) (by rw [bs_length]; simp only [maxLen]; omega) (by rw [bs_length]; omega) (by simp) ?_; intro v1 w1 own1 gr1; have hb1_ := below_app0 gr1; have ho1 := own_len (own_cells own1 (List.nil_append _)) (show 0 + (bs S).length = S.length by rw [bs_length]; omega); obtain ⟨A2_, c2_, hv1_, -, -⟩ := own_slice ho1; subst hv1_; have HB1 := hide hb1_; have HO1 := hide ho1; have hlo1 := Nat.le_trans hlo hb1_.size; clear own1 gr1 hb1_ ho1)
            | (at_builtin; refine wpList_app _ rfl (.tmp 16) (.tmp 24) _ rfl wa.heap.size 22 i0 _ 24 Try.underlying31 hi0 hz0 hz1 hz2 rfl _ _ _ rfl ((own_step HU.out.row HB1.out).alloc _) _ _ rfl (rd_oneV _ _ _) slice_one (by simp [maxLen]; omega) (by simp; omega) (by simp; omega) ?_; intro v3 w3 own3 gr3; have HA3 := hide (AccN.snoc HU.out HBB.out HB1.out HO1.out _ own3 gr3); clear own3 gr3))

          go_roundw
          case rel => exact ⟨k + 1, by omega, by go_num, hide (HA3.out.eq HTK.out)⟩
          case measure => simp [intOf]; omega
        · obtain rfl : k = N0 := by omega
          have ht : d.srcs.take k = d.srcs := List.take_of_length_le (by rw [HN0.out]; omega)
          rw [ht] at HA
          go_wp2
          go_meet
          exact HA
    case rest =>
      have HA1 := hcut
      clear hcut y0 y1
      have z1 := (HX.out _ HA1.out.2).cell (j := 1) rfl
      go_wp2_with fail
      go_loopw [3, 5] (fun u i wr => ∃ k : Nat, k ≤ N1 ∧ i = .int .i64 k ∧ Hid (AccN wa (d.srcs ++ (d.ins.take k).map DIn.drv) u wr)) (fun _ i _ => N1 - (intOf i).toNat)
      case atStart => exact ⟨0, Nat.zero_le _, rfl, by simpa using HA1⟩
      case round =>
        obtain ⟨k, hk, rfl, HA⟩ := hrel
        obtain ⟨us, hU⟩ := HA.out.1
        have HBB := hide HA.out.2
        have hlo := HBB.out.size
        have hul : us.length ≤ 2097152 := by have h_ := HN0.out; rw [hU.len]; simp only [List.length_append, List.length_map, List.length_take]; omega
        have HU := hide hU
        clear hU
        have u_ := (HX.out wr HBB.out).cell (j := 1) rfl
        have hzr : w.heap.size < wr.heap.size := Nat.lt_of_lt_of_le hza hlo
        by_cases hlt : k < N1
        · have k1 : (k : Int) < (N1 : Int) := by omega
          have k0 : (0 : Int) ≤ (k : Int) := by omega
          have k2_ : (k : Int).toNat = k := by omega
          have hk2 : k < d.ins.length := by rw [HN1.out]; exact hlt
          obtain ⟨b, of, cc, B0, d0, B1, d1, -, e, lb_, q0, q1, i0_, i1_⟩ := DIn.elem HG1.out HBB.out hk2
          obtain rfl := e rfl
          have hls := HBI.out _ (List.getElem_mem hk2)
          have HTK := hide (show (d.srcs ++ (d.ins.take k).map DIn.drv) ++ [(d.ins[k]).drv] = d.srcs ++ (d.ins.take (k + 1)).map DIn.drv by rw [take_snoc hk2, List.map_append, List.append_assoc]; rfl)
          have hrd0 := i0_.rd.below HBB.out
          obtain ⟨S, hS⟩ : ∃ S, (d.ins[k]).drv = S := ⟨_, rfl⟩
          rw [hS] at q0 hrd0 hls HTK
          obtain ⟨LS, hLS⟩ : ∃ x, S.length = x := ⟨_, rfl⟩
          rw [hLS] at q0 hrd0 hls
          have HRR : Hid (Rd wr (.slice B0 LS d0) (bs S)) := hide hrd0
          have hlen : S.length ≤ 1048576 := by omega
          have hbr : b < wr.heap.size := Nat.lt_of_lt_of_le lb_ hlo
          clear hrd0 hS i0_ i1_ hLS
          go_wp2_with (first
            | (at_builtin; refine wpList_app _ rfl (.tmp 34) (.tmp 40) _ rfl wr.heap.size 5 i8 _ 1 Try.underlying22 hi8 hz80 hz81 hz82 rfl _ 0 [] rfl (own_lit0 wr _) _ (bs S) rfl (HRR.out.alloc _) (bs_one _) (by rw [bs_length]; simp only [maxLen]; omega) (by rw [bs_length]; omega) (by simp) ?_; intro v1 w1 own1 gr1; have hb1_ := below_app0 gr1; have ho1 := own_len (own_cells own1 (List.nil_append _)) (show 0 + (bs S).length = S.length by rw [bs_length]; omega); obtain ⟨A2_, c2_, hv1_, -, -⟩ := own_slice ho1; subst hv1_; have HB1 := hide hb1_; have HO1 := hide ho1; have hlo1 := Nat.le_trans hlo hb1_.size; clear own1 gr1 hb1_ ho1)
            | (at_builtin; refine wpList_app _ rfl (.tmp 33) (.tmp 42) _ rfl wa.heap.size 22 i0 _ 24 Try.underlying31 hi0 hz0 hz1 hz2 rfl _ _ _ rfl ((own_step HU.out.row HB1.out).alloc _) _ _ rfl (rd_oneV _ _ _) slice_one (by simp [maxLen]; omega) (by simp; omega) (by simp; omega) ?_; intro v3 w3 own3 gr3; have HA3 := hide (AccN.snoc HU.out HBB.out HB1.out HO1.out _ own3 gr3); clear own3 gr3))

          go_roundw
          case rel => exact ⟨k + 1, by omega, by go_num, hide (HA3.out.eq HTK.out)⟩
          case measure => simp [intOf]; omega
        · obtain rfl : k = N1 := by omega
          have ht : d.ins.take k = d.ins := List.take_of_length_le (by rw [HN1.out]; omega)
          rw [ht] at HA
          go_wp2
          go_ret
          exact ⟨_, rfl, by rw [HR.out]; exact HA.out.1.base HBA.out.size, HBA.out.trans (HA.out.2.mono HBA.out.size)⟩

set_option maxRecDepth 20000 in
set_option maxHeartbeats 3200000 in
theorem implWants (d : DDrv) (hok : oks d.cells) (hbk : bulks d.cells ≤ 1048576) (us : List Value) (w : World) (hs : Ins w d.cells us) :
    Calls Try.prog 32 #[.agg us.toArray] w fun e w' => ∃ v', e = .returned v' ∧ OwnS w.heap.size w' v' (wantsOf d) ∧ Below w.heap.size w w' := by
  obtain ⟨i8, hi8, hz80, hz81, hz82⟩ := info_parts u8info
  obtain ⟨i0, hi0, hz0, hz1, hz2⟩ := info_parts namesInfo5
  have hsx := hs
  have hbl := bulk_Drv d
  obtain ⟨A0, c0, A1, c1, A2, c2, A3, c3, rfl, h0, h1, h2, h3⟩ := DDrv.view hs
  obtain ⟨wz, hwz⟩ : ∃ wz, w.alloc (.cells #[.slice A0 d.srcs.length c0, .slice A1 d.ins.length c1, .slice A2 d.outs.length c2, .slice A3 d.ops.length c3] 41) = wz := ⟨_, rfl⟩
  have ba : Below w.heap.size w wz := by rw [← hwz]; exact (Below.refl _ _).alloc (Nat.le_refl _) _
  have bx : Box wz w.heap.size 41 [.slice A0 d.srcs.length c0, .slice A1 d.ins.length c1, .slice A2 d.outs.length c2, .slice A3 d.ops.length c3] := by rw [← hwz]; exact Box.new w _ _
  have hz : w.heap.size < wz.heap.size := bx.lt
  have x0 := bx.cell (j := 0) rfl
  have x1 := bx.cell (j := 1) rfl
  have x2 := bx.cell (j := 2) rfl
  have x3 := bx.cell (j := 3) rfl
  have HOK := hide (implDrvOk d hok hbk _ wz (hsx.step ba))
  have HO := hide (show wantsOf d = if drvOk d then d.srcs ++ d.ins.map DIn.drv else [] from rfl)
  obtain ⟨ok0, ok1, ok2, ok3⟩ := (DDrv.oks_iff d).1 hok
  have hl0 : ∀ n ∈ d.srcs, n.length ≤ 1048576 := fun n hn => by have := sumLen_mem2 hn; omega
  have hbi : ∀ x ∈ d.ins, x.drv.length + x.out.length ≤ 1048576 := fun x hx => by
    have h1 := bulks_mem (f := DIn.cells) hx
    have h2 := bulk_In x
    omega
  obtain ⟨T, hT⟩ : ∃ T, drvOk d = T := ⟨_, rfl⟩
  rw [hT] at HOK HO
  have hb0 : d.srcs.length ≤ 1048576 := by omega
  have hb1 : d.ins.length ≤ 1048576 := by omega
  have HL0 := hide hl0
  have HBI := hide hbi
  have HBX0 := hide bx
  have HBZ := hide ba
  have HI0 := hide h0
  have HI1 := hide h1
  clear bx ba hok hbk hs hsx h0 h1 h2 h3 hT hbl ok0 ok1 ok2 ok3 hl0 hbi
  go_enter Try.func32, Try.ntmps32
  go_wp2_with fail
  refine HOK.out.mono ?_
  rintro e wa ⟨rfl, b1⟩
  have hza : w.heap.size < wa.heap.size := Nat.lt_of_lt_of_le hz b1.size
  have HBA := hide (HBZ.out.trans (b1.mono HBZ.out.size))
  have HX := hide (fun W (hb : Below wa.heap.size wa W) => (HBX0.out.step b1).step hb)
  clear x0 x1 x2 x3 b1
  have y0 := (HX.out wa (Below.refl _ _)).cell (j := 0) rfl
  have y1 := (HX.out wa (Below.refl _ _)).cell (j := 1) rfl
  cases T with
  | false =>
    have HR := hide (show wantsOf d = [] by rw [HO.out]; rfl)
    go_wp2_with fail
    go_ret
    exact ⟨_, rfl, by rw [HR.out]; exact OwnS.nil _ _, HBA.out⟩
  | true =>
    have HR := hide (show wantsOf d = d.srcs ++ d.ins.map DIn.drv by rw [HO.out]; rfl)
    have HG0 := hide (HI0.out.step HBA.out)
    have HG1 := hide (HI1.out.step HBA.out)
    obtain ⟨N0, hN0⟩ : ∃ n, d.srcs.length = n := ⟨_, rfl⟩
    obtain ⟨N1, hN1⟩ : ∃ n, d.ins.length = n := ⟨_, rfl⟩
    rw [hN0] at y0 hb0 HG0 HX ⊢
    rw [hN1] at y1 hb1 HG1 HX ⊢
    have HN0 := hide hN0
    have HN1 := hide hN1
    clear hN0 hN1 HI0 HI1 HO
    have HCT := hide (copyTexts d.srcs _ wa HG0.out.rdN (by rw [HN0.out]; exact hb0) HL0.out)
    go_wp2_with fail
    refine HCT.out.mono ?_
    rintro e w2 ⟨v2, rfl, o2, b2⟩
    have HA1 : Hid (AccN wa d.srcs v2 w2) := hide ⟨o2, b2⟩
    have z1 := (HX.out _ b2).cell (j := 1) rfl
    clear o2 b2 y0 y1
    go_wp2_with fail
    go_loopw [3, 15] (fun u i wr => ∃ k : Nat, k ≤ N1 ∧ i = .int .i64 k ∧ Hid (AccN wa (d.srcs ++ (d.ins.take k).map DIn.drv) u wr)) (fun _ i _ => N1 - (intOf i).toNat)
    case atStart => exact ⟨0, Nat.zero_le _, rfl, by simpa using HA1⟩
    case round =>
      obtain ⟨k, hk, rfl, HA⟩ := hrel
      obtain ⟨us, hU⟩ := HA.out.1
      have HBB := hide HA.out.2
      have hlo := HBB.out.size
      have hul : us.length ≤ 2097152 := by have h_ := HN0.out; rw [hU.len]; simp only [List.length_append, List.length_map, List.length_take]; omega
      have HU := hide hU
      clear hU
      have u_ := (HX.out wr HBB.out).cell (j := 1) rfl
      have hzr : w.heap.size < wr.heap.size := Nat.lt_of_lt_of_le hza hlo
      by_cases hlt : k < N1
      · have k1 : (k : Int) < (N1 : Int) := by omega
        have k0 : (0 : Int) ≤ (k : Int) := by omega
        have k2_ : (k : Int).toNat = k := by omega
        have hk2 : k < d.ins.length := by rw [HN1.out]; exact hlt
        obtain ⟨b, of, cc, B0, d0, B1, d1, -, e, lb_, q0, q1, i0_, i1_⟩ := DIn.elem HG1.out HBB.out hk2
        obtain rfl := e rfl
        have hls := HBI.out _ (List.getElem_mem hk2)
        have HTK := hide (show (d.srcs ++ (d.ins.take k).map DIn.drv) ++ [(d.ins[k]).drv] = d.srcs ++ (d.ins.take (k + 1)).map DIn.drv by rw [take_snoc hk2, List.map_append, List.append_assoc]; rfl)
        obtain ⟨wi, hwi⟩ : ∃ W, wr.alloc (.cells #[.slice B0 (d.ins[k]).drv.length d0, .slice B1 (d.ins[k]).out.length d1] 67) = W := ⟨_, rfl⟩
        have hbw : Below wr.heap.size wr wi := by rw [← hwi]; exact (Below.refl _ _).alloc (Nat.le_refl _) _
        have hbx : Box wi wr.heap.size 67 [.slice B0 (d.ins[k]).drv.length d0, .slice B1 (d.ins[k]).out.length d1] := by rw [← hwi]; exact Box.new wr _ _
        have p0 := hbx.cell (j := 0) rfl
        have p1 := hbx.cell (j := 1) rfl
        have HCL := hide (clone (d.ins[k]).drv _ wi ((i0_.rd.below HBB.out).below hbw) (by omega))
        have HBW := hide hbw
        have hlow := Nat.le_trans hlo hbw.size
        clear hbw hbx i0_ i1_
        go_wp2_with fail
        refine HCL.out.mono ?_
        rintro e w1 ⟨v1, rfl, o1, b1⟩
        have HB1 := hide (HBW.out.trans (b1.mono HBW.out.size))
        have HO1 := hide (own_low o1 HBW.out.size)
        have hlo1 := Nat.le_trans hlow b1.size
        have hsl := o1
        obtain ⟨A2_, c2_, rfl, -, -⟩ := own_slice hsl
        clear o1 b1 p0 p1 hsl
        go_wp2_with (at_builtin; refine wpList_app _ rfl (.tmp 19) (.tmp 23) _ rfl wa.heap.size 22 i0 _ 24 Try.underlying31 hi0 hz0 hz1 hz2 rfl _ _ _ rfl ((own_step HU.out.row HB1.out).alloc _) _ _ rfl (rd_oneV _ _ _) slice_one (by simp [maxLen]; omega) (by simp; omega) (by simp; omega) ?_; intro v3 w3 own3 gr3; have HA3 := hide (AccN.snoc HU.out HBB.out HB1.out HO1.out _ own3 gr3); clear own3 gr3)

        go_roundw
        case rel => exact ⟨k + 1, by omega, by go_num, hide (HA3.out.eq HTK.out)⟩
        case measure => simp [intOf]; omega
      · obtain rfl : k = N1 := by omega
        have ht : d.ins.take k = d.ins := List.take_of_length_le (by rw [HN1.out]; omega)
        rw [ht] at HA
        go_wp2
        go_ret
        exact ⟨_, rfl, by rw [HR.out]; exact HA.out.1.base HBA.out.size, HBA.out.trans (HA.out.2.mono HBA.out.size)⟩

theorem cntsN (ns : List (List Int)) : cnts (cells (fun n => [raw n]) ns) = sumLen ns := by
  have hnum : ∀ l : List Int, cnts (l.map (Cel.num .u8)) = l.length := fun l => by
    induction l with
    | nil => rfl
    | cons x l ih => rw [List.map_cons, cnts, ih, List.length_cons]; show 1 + _ = _; omega
  induction ns with
  | nil => rfl
  | cons n r ih => rw [cells, List.singleton_append, cnts, ih, raw, Cel.cnt, hnum, sumLen]
theorem sumLen_appN (a b : List (List Int)) : sumLen (a ++ b) = sumLen a + sumLen b := by
  induction a with
  | nil => simp [sumLen]
  | cons x a ih => simp [sumLen, ih]; omega
theorem sumLen_ins (l : List DIn) : sumLen (l.map DIn.drv) ≤ bulks (cells DIn.cells l) := by
  induction l with
  | nil => simp [sumLen]
  | cons i l ih => rw [List.map_cons, sumLen, cells, bulks_app, bulk_In]; omega
theorem nameOk_len {l : List Int} (h : nameOk l = true) : l.length = 16 := by
  rw [nameOk, Bool.and_eq_true, decide_eq_true_eq] at h
  exact h.1
theorem sumLen_16 : ∀ {l : List (List Int)}, (∀ n ∈ l, n.length = 16) → sumLen l = 16 * l.length
  | [], _ => rfl
  | n :: l, h => by
    rw [sumLen, sumLen_16 (fun m hm => h m (List.mem_cons_of_mem _ hm)), h n (List.mem_cons_self ..), List.length_cons]
    omega
theorem wants_cnt (d : DDrv) : sumLen (wantsOf d) ≤ 1000 := by
  unfold wantsOf
  split
  · rename_i h
    rw [drvOk, Bool.and_eq_true, Bool.and_eq_true, drvTop, Bool.and_eq_true, decide_eq_true_eq] at h
    obtain ⟨⟨⟨h1, h2, _⟩, h3⟩, h4, _⟩ := h
    rw [sumLen_appN, sumLen_16 (l := d.srcs) (fun n hn => by
      obtain ⟨m, hm, rfl⟩ := List.getElem_of_mem hn
      have := ascP_at.1 h3 m hm
      rw [nameP, Bool.and_eq_true] at this
      have h5 := nameOk_len this.1
      simpa [List.getD, List.getElem?_eq_getElem hm] using h5), sumLen_16 (l := d.ins.map DIn.drv) (fun n hn => by
      obtain ⟨x, hx, rfl⟩ := List.mem_map.1 hn
      obtain ⟨m, hm, rfl⟩ := List.getElem_of_mem hx
      have := range_all.1 h4 m hm
      rw [insAt_eq hm, Bool.and_eq_true, inOkP, Bool.and_eq_true] at this
      exact nameOk_len this.1.1), List.length_map]
    omega
  · simp [sumLen]
theorem lawWants (x0 : DDrv) (o0 : oks x0.cells) (w : World) (u0 : List Value) (E0 : List Nat) (h0 : Lies w x0.cells u0 E0) :
    Calls Try.prog 8 #[.agg u0.toArray] w fun e w' => e = .returned (.bool true) ∧ Below w.heap.size w w' := by
  refine walkWants x0 (wantsOf x0) ?_ ?_ ?_ w u0 E0 h0
  · have := wants_cnt x0
    rw [names, seqOf, Cel.cnt, cntsN]
    omega
  · intro hb u E W h
    refine (specWants x0 o0 hb u W ⟨E, h⟩).mono ?_
    rintro e w' ⟨v, he, h1, h3⟩
    obtain ⟨J, j1, j2⟩ := h1.fresh
    exact ⟨v, J, he, j1, fun g hg => .inr (j2.low g hg), h3⟩
  · intro hb u E W h
    refine (implWants x0 o0 hb u W ⟨E, h⟩).mono ?_
    rintro e w' ⟨v, he, h1, h3⟩
    obtain ⟨J, j1, j2⟩ := h1.fresh
    exact ⟨v, J, he, j1, j2, h3⟩

end Go.Proofs.Ytnloknhcdlannaa


namespace Go.Proofs.Ytnloknhcdlannaa.fnExactWants
open Go.ChangeShapes Go.WideShapes Go.ChangeAt Go.RowKit
open Go.ChangeMaps (open_string shut_string)
set_option linter.unusedVariables false

set_option maxRecDepth 100000 in
theorem lifted (os : Os) (started : os.Started) (H : Type) (enc : TypeId × Value → H) :
    ReturnsInHanded {} Try.checked os 8 .any (Rows.fnExactWantsSpec.pre6 enc Try.prog Try.f8 Rows.fnExactWantsRow.domain false) (Rows.fnExactWantsSpec.post enc Try.prog Try.f8 false true false false) := by
  refine returnsInHanded_of_change (C := Try.checked) own started (by kernel_rfl) Try.func8
    (ChangeSpec.witness6 (enc := enc) (C := Try.checked) false ⟨#[], #[.agg #[.slice none 0 0, .slice none 0 0, .slice none 0 0, .slice none 0 0]], []⟩ 8 (by kernel_rfl) (by kernel_rfl) (by kernel_rfl) (by kernel_rfl)) ?_
  intro W base args ds gs before hval0 hW hcnd _
  have hval : ∀ (j : Nat) t v, Try.f8.params[j]? = some t → args[j]? = some v → Value.okWide Try.prog W .any base t v := hval0
  have hW' := hW
  obtain ⟨p, q, hA0, hV, rfl, hfz, hnd⟩ := hW
  have hA : DataW.TrodAll enc Try.prog W 0 (fun _ => true) true Try.f8.params.toList args.toList ds p := hA0
  rw [Try.params8] at hA hval
  obtain ⟨v0, vs0, d0, ds0, p0, q0, hargs, rfl, rfl, h0, r0⟩ := trodAll_cons hA
  obtain ⟨rfl, rfl, rfl⟩ := trodAll_nil r0
  obtain rfl : args = #[v0] := by cases args; simp_all
  obtain ⟨rfl, rfl⟩ := trodVars_none hV
  have k0 := h0
  have lt0 : ∀ x ∈ p0, x.block < W.heap.size := by obtain ⟨m, hm⟩ := k0; exact DataW.trod_lt m _ _ _ hm
  obtain ⟨cs0, rfl, hsz0⟩ := okWide_struct Try.underlying35 (hval 0 35 v0 rfl rfl)
  obtain ⟨x0, o0, E0, w0⟩ : ∃ x : DDrv, oks x.cells ∧ ∃ F, Lies W x.cells cs0.toList F := by
    obtain ⟨fuel, hf⟩ := h0
    have := Drv_of_trod fuel _ _ hf
    simpa [Value.cells] using this
  clear hA0 hval0
  refine (lawWants x0 o0 W cs0.toList E0 w0).mono fun e W' ⟨he, bel⟩ => ?_
  subst he
  exact ⟨_, rfl, _, _, _, [], _, [], hW', trodAll_mk1 (shut_bool Try.underlying4 _), (trodAll_cons_mk (Below.trod laidOut (by kernel_rfl) (of_decide_eq_true (by kernel_rfl)) k0 bel lt0) trodAll_mk0), rfl, bel.frame _, fun h => by cases h⟩

theorem over : Rows.fnExactWantsRow.holds Try.pinned (OpenSpec.ofChange Rows.fnExactWantsSpec) :=
  OpenClaim.holds_of_wide 8 Try.f8 rfl rfl rfl rfl rfl rfl rfl ⟨rfl, rfl, rfl, rfl, rfl⟩ rfl rfl rfl rfl rfl (by kernel_rfl) Try.func8 (by kernel_rfl)
    (of_decide_eq_true (by kernel_rfl)) (by unfold Func.isWrapper; first | (rw [if_pos (by decide +kernel)]; kernel_rfl) | (rw [if_neg (by decide +kernel)]; exact ⟨rfl, rfl⟩))
    (fun os started H enc _ => lifted os started H enc)

/-- The statement. -/
theorem proved : Rows.FnExactWantsSaid := over
end Go.Proofs.Ytnloknhcdlannaa.fnExactWants
