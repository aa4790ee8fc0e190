/-
  Parts of the proof: Door, NodeP, Op5S, SortI, DrvOkP, NodeB, ScanI, InCmp, InCmpI.
-/
import Derived.Test.YtmhapnlgakkljaaGreatDoorMp8
import Derived.Test.YtmhapnlgakkljaaGreatDoorMp0
import Derived.Test.YtmhapnlgakkljaaGreatDoorCards
import Derived.Test.YtmhapnlgakkljaaGreatDoorTie
import Derived.Deep.DeepHandedRow
import Derived.Lib.LaidTab
import Derived.OpenVars
import Derived.Test.YtmhapnlgakkljaaGreatDoorMp7
import Derived.Test.YtmhapnlgakkljaaGreatDoorMp1
import Derived.IntWalk
import Derived.Deep.Cut
import Derived.Deep.DeepCutAuto
import Derived.Test.YtmhapnlgakkljaaGreatDoorMp5
import Derived.Test.YtmhapnlgakkljaaGreatDoorMp4
import Derived.Deep.RegionHeld3
import Derived.Deep.RegionWith

/-
  The table of the program, as a row lists it.
-/
namespace Go.Proofs.YtmhapnlgakkljaaGreatDoor
open Go.ChangeShapes Go.WideShapes Go.ChangeAt Go.RowKit

theorem gKeys : Tryz.prog.globalNamed "loop.example/g00538/impl.roundKeys" = some 1 := by kernel_rfl
theorem gKeysType : (Tryz.prog.globals[1]?).map (·.type) = some 184 := by kernel_rfl
theorem cellsKeys : Tryz.prog.cellsOf 184 = 64 := by kernel_rfl
theorem cellsU32 : Tryz.prog.cellsOf 163 = 1 := by kernel_rfl
theorem tab_of_laid {W : World} (h : laidMet Tryz.prog [("loop.example/g00538/impl.roundKeys", Rows.laid_loop_example_g00538_impl_roundKeys)] W) : Tab W := by
  have h1 : Lib.TabIs Tryz.prog W "loop.example/g00538/impl.roundKeys" .u32 KL :=
    Lib.tabIs_of_head (rest := []) gKeys gKeysType Tryz.underlying184 Tryz.underlying163 cellsU32 cellsKeys h
  unfold Lib.TabIs World.var? at h1
  rw [gKeys] at h1
  simp only [Option.bind_some] at h1
  split at h1
  · rename_i cs t fr hb
    have e : cs = wd KL := Option.some.inj h1
    subst e
    exact ⟨t, fr, hb⟩
  · cases h1

/-- A world in which the table holds what its declaration says. -/
noncomputable def laidWorld (os : Os) : World :=
  { World.holding Tryz.prog os ⟨#[], #[], []⟩ with heap := (World.holding Tryz.prog os ⟨#[], #[], []⟩).heap.modify 1 fun
      | .cells _ t frozen => .cells (wd KL) t frozen
      | o => o }
theorem laid_met (os : Os) (args : Array Value) : laidMet Tryz.prog [("loop.example/g00538/impl.roundKeys", Rows.laid_loop_example_g00538_impl_roundKeys)] ((laidWorld os).forCall (fun _ _ => 0) ⟨#[], args, []⟩).memory :=
  laidMet_of_run' 8 (by kernel_rfl) (by kernel_rfl)

end Go.Proofs.YtmhapnlgakkljaaGreatDoor


/-
  Valid trees in plain numbers.
-/
namespace Go.Proofs.YtmhapnlgakkljaaGreatDoor
open Go.RowKit
set_option linter.unusedVariables false

/-- The k-th name is an entry, and comes behind the one before it. -/
def nameAt (ns : List (List Int)) (k : Nat) : Bool := entryOk (ns.getD k []) && (decide (k = 0) || lessL (ns.getD (k - 1) []) (ns.getD k []))
def ascFrom (ns : List (List Int)) : Nat → Nat → Bool
  | 0, _ => true
  | f + 1, k => nameAt ns k && ascFrom ns f (k + 1)
def asc (ns : List (List Int)) : Bool := ascFrom ns ns.length 0
def T.nodeOk : T → Bool
  | .node k d ns ks => if k = 2 then decide (d.length = 0 ∧ ks.length ≤ 6 ∧ ns.length = ks.length) && asc ns else decide (0 ≤ k ∧ k ≤ 3 ∧ d.length ≤ 400 ∧ ns.length = 0 ∧ ks.length = 0)

theorem ascFrom_P (ns : List (List Int)) : ∀ f k, ascFrom ns f k = ascPF entryOk ns f k
  | 0, _ => rfl
  | f + 1, k => by rw [ascFrom, ascPF, ascFrom_P ns f]; rfl
theorem asc_P (ns : List (List Int)) : ascP entryOk ns = asc ns := (ascFrom_P ns _ _).symm

end Go.Proofs.YtmhapnlgakkljaaGreatDoor


/-
  The model's OpOk.
-/
namespace Go.Proofs.YtmhapnlgakkljaaGreatDoor
open Go.RowKit
set_option linter.unusedVariables false
set_option linter.unusedSimpArgs false

end Go.Proofs.YtmhapnlgakkljaaGreatDoor


/-
  The program's Sorted.
-/
namespace Go.Proofs.YtmhapnlgakkljaaGreatDoor
open Go.RowKit
set_option linter.unusedVariables false

set_option maxHeartbeats 400000 in
theorem implSorted (ns : List (List Int)) (hB : BytN ns) (v : Value) (w : World) (hv : RdN w v ns) (hl : ∀ n ∈ ns, n.length ≤ 1048576) :
    Calls Tryz.prog 91 #[v] w fun e w' => e = .returned (.bool (ascP nameOk ns)) ∧ Below w.heap.size w w' := by
  have h := ascendN ns hB v w hv hl
  go_enter Tryz.func91, Tryz.ntmps91
  go_wp2_with fail
  refine h.mono ?_
  rintro e w1 ⟨rfl, b1⟩
  go_wp2_with fail
  go_ret
  exact ⟨rfl, b1⟩

end Go.Proofs.YtmhapnlgakkljaaGreatDoor


/-
  Derivations that are valid, in plain lists.
-/
namespace Go.Proofs.YtmhapnlgakkljaaGreatDoor
open Go.RowKit
set_option linter.unusedVariables false

def asReal (x : DIn) : DReal := ⟨x.drv, x.out, []⟩
/-- Inputs in order: by derivation, then by output. -/
def inLess (a b : DIn) : Bool := decide (realCmp (asReal a) (asReal b) < 0)
theorem range_all {p : Nat → Bool} {n : Nat} : (List.range n).all p = true ↔ ∀ m, m < n → p m = true := by
  rw [List.all_eq_true]
  exact ⟨fun h m hm => h m (List.mem_range.2 hm), fun h m hm => h m (List.mem_range.1 hm)⟩
end Go.Proofs.YtmhapnlgakkljaaGreatDoor


/-
  A tree's value in a block of its own; its rows' lengths.
-/
namespace Go.Proofs.YtmhapnlgakkljaaGreatDoor
open Go.RowKit
set_option linter.unusedVariables false

/-- A tree's value, put into a block of its own. -/
theorem boxed (w : World) (q : Q) (t : TypeId) : ∃ wa, w.alloc (.cells #[.int .i64 q.k, q.d, q.n, q.c] t) = wa ∧ C4 wa w.heap.size t (.int .i64 q.k) q.d q.n q.c ∧ Below w.heap.size w wa ∧ wa.heap.size = w.heap.size + 1 :=
  ⟨_, rfl, heap_alloc_new w _, (Below.refl _ _).alloc (Nat.le_refl _) _, by simp⟩
theorem TIn.lens {w : World} {k : Int} {d : List Int} {ns : List (List Int)} {ks : List T} {q : Q} (h : TIn w (.node k d ns ks) q) :
    ∃ A c A' c' A'' c'', q.d = .slice A d.length c ∧ d.length ≤ c ∧ c ≤ maxLen ∧ q.n = .slice A' ns.length c' ∧ ns.length ≤ c' ∧ c' ≤ maxLen ∧ q.c = .slice A'' ks.length c'' ∧ ks.length ≤ c'' ∧ c'' ≤ maxLen := by
  rw [TIn] at h
  obtain ⟨_, ⟨A, c, e, h1, h2, _⟩, ⟨vs, ⟨A', c', e', h1', h2', _⟩, hl, _⟩, qs, ⟨A'', c'', e'', h1'', h2'', _⟩, hq⟩ := h
  rw [bs_length] at e h1
  rw [hl] at e' h1'
  rw [hq.len] at e'' h1''
  exact ⟨A, c, A', c', A'', c'', e, h1, h2, e', h1', h2', e'', h1'', h2''⟩

end Go.Proofs.YtmhapnlgakkljaaGreatDoor


/-
  The program's Scan.
-/
namespace Go.Proofs.YtmhapnlgakkljaaGreatDoor
open Go.RowKit Go.Maps Go.ChangeShapes Go.WideMaps
set_option linter.unusedVariables false

theorem boolInfo : (Tryz.prog.info? 4).map (fun i => (i.zero, i.size, i.bytes)) = some (some (.bool false), 1, 1) := by kernel_rfl

set_option maxRecDepth 100000 in
set_option maxHeartbeats 3200000 in
theorem implScan (b : List Int) (ns : List (List Int)) (hB : Byt b) (hN : BytN ns) (vb va : Value) (w : World) (hb : Rd w vb (bs b)) (hv : RdN w va ns) (hbl : b.length ≤ 1099511627776) (hn : ns.length ≤ 1048576) (hl : ∀ n ∈ ns, n.length ≤ 1048576) :
    Calls Tryz.prog 144 #[vb, va] w fun e w' => ∃ v', e = .returned v' ∧ OwnS w.heap.size w' v' (scanOf b ns) ∧ Below w.heap.size w w' := by
  have hs := implSorted ns hN va w hv hl
  cases ha : ascP nameOk ns with
  | false =>
    have hS : scanOf b ns = [] := by rw [scanOf, ha]; rfl
    rw [ha] at hs
    have HS := hide hs
    have HE := hide hS
    clear hs hS ha hb hv
    go_enter Tryz.func144, Tryz.ntmps144
    go_wp2_with fail
    refine HS.out.mono ?_
    rintro e w1 ⟨rfl, b1⟩
    go_wp2_with fail
    go_ret
    rw [HE.out]
    exact ⟨_, rfl, OwnS.nil _ _, b1⟩
  | true =>
    have hS : scanOf b ns = scanL b ns := by rw [scanOf, ha]; rfl
    have h16 := asc_names ha
    rw [ha] at hs
    have hpl := fun (W : World) (hW : Below w.heap.size w W) => implPlaces (H := Unit) ns (fun n hn => ⟨by rw [h16 n hn]; omega, hN n hn⟩) va W (hv.below hW) hn
    obtain ⟨i0, hi0, hz0, hz1, hz2⟩ := info_parts namesInfo
    obtain ⟨j0, hj0, hy0, hy1, hy2⟩ := info_parts boolInfo
    obtain ⟨A, c, rfl, hc1, hc2⟩ := names_len hv
    obtain ⟨N, hNl⟩ : ∃ N, ns.length = N := ⟨_, rfl⟩
    rw [hNl] at hc1 hv hn hs hpl
    obtain ⟨A0, c0, rfl, hd1, hd2, hrd⟩ := hb
    rw [bs_length] at hd1 hrd ⊢
    obtain ⟨M, hMl⟩ : ∃ M, b.length = M := ⟨_, rfl⟩
    rw [hMl] at hd1 hrd hbl ⊢
    rw [hNl]
    unfold maxLen at hc2 hd2
    have HS := hide hs
    have HE := hide hS
    have HPL := hide hpl
    have HNL := hide hNl
    have HML := hide hMl
    have HNN := hide hv
    have HRD := hide hrd
    have H16 := hide h16
    have HBN := hide hN
    clear hs hS hpl hNl hMl hv hrd h16 hN ha hl
    go_enter Tryz.func144, Tryz.ntmps144
    go_wp2_with fail
    refine HS.out.mono ?_
    rintro e w1 ⟨rfl, b1⟩
    go_wp2_with fail
    refine (HPL.out w1 b1).mono ?_
    rintro e w2 ⟨rfl, ⟨D, og, hg⟩, b2, z2⟩
    have HB2 := hide (b1.trans (b2.mono b1.size))
    have HOG := hide og
    have HGR := hide hg
    obtain ⟨m1, hm1⟩ : ∃ m, w1.heap.size = m := ⟨_, rfl⟩
    rw [hm1] at HOG z2 ⊢
    have hlw1 : w.heap.size ≤ m1 := by rw [← hm1]; exact b1.size
    clear b1 b2 og hg HS HPL hm1
    go_wp2_with (at_make; refine wpList_make_full _ rfl _ _ 105 rfl w2.heap.size 4 j0 _ 1 Tryz.underlying105 hj0 hy0 hy1 .i64 .i64 _ _ N rfl rfl rfl rfl (by rw [hy2]; omega) (by simp only [maxLen]; omega) (Nat.le_refl _) ?_; intro w3 own3 gr3)
    have hob : OB w3 w2.heap.size w2.heap.size N (fun j => seen b (ns.getD j []) 0) := by
      have e : (madeCells (Value.bool false).cells (N * 1)).toList = (List.range N).map fun j => Value.bool (seen b (ns.getD j []) 0) := by
        rw [Nat.mul_one]
        refine (toList_madeCells_one _ _).trans (List.eq_replicate_iff.2 ⟨by simp, fun x hx => ?_⟩).symm
        obtain ⟨j, _, rfl⟩ := List.mem_map.1 hx
        rw [seen_zero]
      unfold OB
      rw [← e]
      exact own3
    have HB3 : Hid (Below w2.heap.size w2 w3) := hide ((Below.refl _ _).grown gr3 (Nat.le_refl _) (fun _ h => by cases h))
    have HOB := hide hob
    have hlt3 : w2.heap.size + 1 ≤ w3.heap.size := (hob.lt w2.heap.size rfl).2
    clear own3 gr3 hob
    go_wp2
    go_loopw [7] (fun i wr => ∃ k : Nat, k ≤ M ∧ i = .int .i64 k ∧ Hid (OB wr w2.heap.size w2.heap.size N (fun j => seen b (ns.getD j []) k)) ∧ Below w2.heap.size w2 wr ∧ w2.heap.size + 1 ≤ wr.heap.size) (fun i _ => M - (intOf i).toNat)
    case atStart => exact ⟨0, Nat.zero_le _, rfl, HOB, HB3.out, hlt3⟩
    case round =>
      obtain ⟨wo, hwo⟩ : ∃ W, W = wr := ⟨_, rfl⟩
      subst hwo
      clear HOB HB3 hlt3
      obtain ⟨k, hk, rfl, HO, hbel, hsz⟩ := hrel
      have HB := hide hbel
      by_cases hlt : k + 16 ≤ M
      · obtain ⟨bb, off, rfl, hblt, hcell⟩ := HRD.out (by omega)
        have hbw : bb < w2.heap.size := Nat.lt_of_lt_of_le hblt HB2.out.size
        have hcr : ∀ i u, (bs b)[i]? = some u → wo.cell? ⟨bb, off + i, none⟩ = some u := fun i u hu => (hbel.cell (p := ⟨bb, off + i, none⟩) hbw).trans ((HB2.out.cell (p := ⟨bb, off + i, none⟩) hblt).trans (hcell i u hu))
        have hbwr : bb < wo.heap.size := Nat.lt_of_lt_of_le hbw hbel.size
        have r2 : Rd wo (.slice (some ⟨bb, off + k, none⟩) 4 (c0 - k)) (bs (((b.drop k).take 16).take 4)) := by
          rw [List.take_take]
          exact Rd.part hcr hbwr (by rw [HML.out]; omega) (by rw [HML.out]; exact hd1) (by unfold maxLen; exact hd2) rfl
        have hcv := conv_rd (P := Tryz.prog) Tryz.underlying36 Tryz.underlying5 Tryz.underlying9 r2
        have hkey := keyOf_s (s := ((b.drop k).take 16).take 4) (by rw [List.length_take]; omega)
        have hpB : Byt ((b.drop k).take 16) := (hB.drop k).take 16
        have hsB : Byt (((b.drop k).take 16).take 4) := hpB.take 4
        have hown := groups_below HOG.out hbel
        have hsh := shuns_all HOG.out (by omega) hbel
        have hc2r : ∀ i u, (bs b)[i]? = some u → w2.cell? ⟨bb, off + i, none⟩ = some u := fun i u hu => (HB2.out.cell (p := ⟨bb, off + i, none⟩) hblt).trans (hcell i u hu)
        have r1w : Rd w2 (.slice (some ⟨bb, off + k, none⟩) 16 (c0 - k)) (bs ((b.drop k).take 16)) := Rd.part hc2r hbw (by rw [HML.out]; exact hlt) (by rw [HML.out]; exact hd1) (by unfold maxLen; exact hd2) rfl
        have HR1 := hide r1w
        have HPB := hide hpB
        have HSB := hide hsB
        have hpl : ((b.drop k).take 16).length = 16 := by rw [List.length_take, List.length_drop, HML.out]; omega
        have HPT : Hid (∀ n : List Int, n.length = 16 → atL b n k = decide ((b.drop k).take 16 = n)) := hide (fun n hn => by
          rw [atL, hn, HML.out]
          by_cases h : (b.drop k).take 16 = n
          · rw [decide_eq_true h, decide_eq_true ⟨hlt, h⟩]
          · rw [decide_eq_false h, decide_eq_false (fun h2 => h h2.2)])
        have HEND : Hid (∀ j, j < N → inF b ns (plc ns (((b.drop k).take 16).take 4) N) k (plc ns (((b.drop k).take 16).take 4) N).length j = seen b (ns.getD j []) (k + 1)) := hide (fun j hj => inF_end H16.out (by rw [HNL.out]; exact hj) HNL.out)
        generalize (b.drop k).take 16 = pt at *
        generalize pt.take 4 = s at *
        have k0 : (k : Int) + 16 ≤ (M : Int) := by omega
        have k1 : (k : Int) + 16 ≤ (c0 : Int) := by omega
        have k2 : IntKind.i64.wrap ((k : Int) + 16) = (k : Int) + 16 := IntWalk.i64_in _ (by omega)
        have k3 : (0 : Int) ≤ (k : Int) := by omega
        have k4 : (k : Int).toNat = k := by omega
        have k5 : ((k : Int) + 16).toNat = k + 16 := by omega
        have k6 : k + 16 - k = 16 := by omega
        have k7 : (k : Int) ≤ (k : Int) + 16 := by omega
        have k8 : ¬ c0 = k := by omega
        have k9 : 4 ≤ c0 - k := by omega
        clear r1w r2 hpB hsB hcr hc2r hcell hpl
        go_wp2_with (at_lookup; refine wpList_lookup_groups_shuns _ rfl _ _ 169 rfl 9 171 3 .i64 strLaw Tryz.underlying169 (intsZero _) (m1 + 1) m1 N _ rfl hown (by unfold maxLen; omega) _ _ rfl hkey ?_; intro v zs hat hoi hzl hback hshv; have HZ : Hid (zs = plc ns s N) := hide (HGR.out.row HSB.out hoi hat); have HV := hide (hshv _ hsh); obtain ⟨A5, c5, rfl, hA1, hA2⟩ := own_slice hoi.1; have HOI := hide hoi.1; obtain ⟨Z, hZ⟩ : ∃ Z, zs.length = Z := ⟨_, rfl⟩; rw [hZ] at hA1 hzl HV ⊢; have HZL := hide hZ; clear hback hshv hat hoi hZ)
        go_loopw [40] (fun i2 wr => ∃ r : Nat, r ≤ Z ∧ i2 = .int .i64 r ∧ Hid (OB wr w2.heap.size w2.heap.size N (inF b ns zs k r)) ∧ Below w2.heap.size w2 wr ∧ w2.heap.size + 1 ≤ wr.heap.size) (fun i2 _ => Z - (intOf i2).toNat)
        case atStart => exact ⟨0, Nat.zero_le _, rfl, hide (HO.out.eq (fun j _ => (inF_zero b ns zs k j).symm)), hbel, hsz⟩
        case round =>
          obtain ⟨r, hr, rfl, HI, hbx, hsx⟩ := hrel
          by_cases hrz : r < Z
          · obtain ⟨g5, rfl, hg1, hg2⟩ := own_form HOI.out (by rw [HZL.out]; omega)
            have hg3 : g5 < w2.heap.size := by have := HV.out g5 rfl; omega
            have hrl : r < zs.length := by rw [HZL.out]; exact hrz
            have hmem : zs[r] ∈ plc ns s N := by rw [← HZ.out]; exact List.getElem_mem hrl
            obtain ⟨p, hp, hpN, hps⟩ := plc_mem hmem
            have hzr : zs.getD r 0 = (p : Int) := by rw [← hp]; simp [List.getD, List.getElem?_eq_getElem hrl]
            have q5 : wr.cell? ⟨g5, r, none⟩ = some (.int .i64 p) := by
              have h1 := HOI.out.cellAt r (by omega)
              rw [List.getElem?_map, List.getElem?_eq_getElem hrl, hp] at h1
              exact (hbx.cell (p := ⟨g5, r, none⟩) hg3).trans ((hbel.cell (p := ⟨g5, r, none⟩) hg3).symm.trans h1)
            have hpn : p < ns.length := by rw [HNL.out]; exact hpN
            obtain ⟨b2, off2, x, rfl, hblt2, cx, rx⟩ := HNN.out.get hpn
            have hb2w : b2 < w2.heap.size := Nat.lt_of_lt_of_le hblt2 HB2.out.size
            have q6 := (hbx.cell (p := ⟨b2, off2 + p, none⟩) hb2w).trans ((HB2.out.cell (p := ⟨b2, off2 + p, none⟩) hblt2).trans cx)
            have hmp : ns.getD p [] ∈ ns := by simp [List.getD, List.getElem?_eq_getElem hpn]
            have hcall := bytesEq pt (ns.getD p []) HPB.out (HBN.out _ hmp) _ x wr (HR1.out.below hbx) ((rx.below HB2.out).below hbx)
            have heq := HPT.out _ (H16.out _ hmp)
            rw [← heq] at hcall
            have hnx := inF_next (b := b) (ns := ns) (k := k) hrl hzr
            have hout := HI.out.cell hpN
            have hfz := HI.out.fz p
            have HBX := hide hbx
            clear heq cx rx hmem hp hps hzr hpn hmp
            cases hat : atL b (ns.getD p []) k with
            | false =>
              rw [hat] at hcall hnx
              have HC := hide hcall
              have HI2 : Hid (OB wr w2.heap.size w2.heap.size N (inF b ns zs k (r + 1))) := hide (HI.out.eq (fun j _ => by rw [hnx j]; simp))
              clear hcall hnx hat hout hfz hbx hbel
              go_wp2_with fail
              refine HC.out.mono ?_
              rintro e w5 ⟨rfl, hw5⟩
              rw [hw5]
              clear hw5
              go_wp2_with fail
              go_roundw
              case rel => exact ⟨r + 1, by omega, by go_num, HI2, HBX.out, hsx⟩
              case measure => simp [intOf]; omega
            | true =>
              rw [hat] at hcall hnx
              have HC := hide hcall
              have HI2 : Hid (OB (wr.setCell ⟨w2.heap.size, p, none⟩ (.bool true)) w2.heap.size w2.heap.size N (inF b ns zs k (r + 1))) := hide ((HI.out.set p).eq (fun j _ => by rw [hnx j]; simp))
              have HB3 : Hid (Below w2.heap.size w2 (wr.setCell ⟨w2.heap.size, p, none⟩ (.bool true))) := hide (HBX.out.setCell (Nat.le_refl _) _)
              have HZ3 : Hid ((wr.setCell ⟨w2.heap.size, p, none⟩ (.bool true)).heap.size = wr.heap.size) := hide (by simp)
              clear hcall hnx hat hbx hbel
              go_wp2_with fail
              refine HC.out.mono ?_
              rintro e w5 ⟨rfl, hw5⟩
              rw [hw5]
              clear hw5
              go_wp2_with fail
              go_roundw
              case rel => exact ⟨r + 1, by omega, by go_num, HI2, HB3.out, by rw [HZ3.out]; exact hsx⟩
              case measure => simp [intOf]; omega
          · obtain rfl : r = Z := by omega
            have HF : Hid (OB wr w2.heap.size w2.heap.size N (fun j => seen b (ns.getD j []) (k + 1))) := hide (HI.out.eq (fun j hj => by rw [← HEND.out j hj, ← HZ.out, HZL.out]))
            have HBX := hide hbx
            clear hbx hbel
            go_wp2
            go_roundw
            case rel => exact ⟨k + 1, by omega, by go_num, HF, HBX.out, hsx⟩
            case measure => simp [intOf]; omega
      · have HOC : Hid (OB wo w2.heap.size w2.heap.size N (fun j => contL b (ns.getD j []))) := hide (HO.out.eq (fun j hj => by
          have hjn : j < ns.length := by rw [HNL.out]; exact hj
          have hm : ns.getD j [] ∈ ns := by simp [List.getD, List.getElem?_eq_getElem hjn]
          exact seen_end (by rw [HML.out, H16.out _ hm]; omega)))
        have HWO := hide (HB2.out.trans (hbel.mono HB2.out.size))
        have hwo1 : w.heap.size ≤ wo.heap.size := HWO.out.size
        clear hbel HO HOG
        go_wp2
        go_loopw [11, 56] (fun u i wr => ∃ j : Nat, j ≤ N ∧ i = .int .i64 j ∧ Hid (OwnS wo.heap.size wr u (scanL b (ns.take j))) ∧ Below wo.heap.size wo wr) (fun _ i _ => N - (intOf i).toNat)
        case atStart => exact ⟨0, Nat.zero_le _, rfl, hide (OwnS.nil _ _), Below.refl _ _⟩
        case round =>
          obtain ⟨j, hj, rfl, HO3, hbel⟩ := hrel
          have HB4 := hide hbel
          by_cases hlt : j < N
          · have hjn : j < ns.length := by rw [HNL.out]; exact hlt
            obtain ⟨b2, off, x, rfl, hblt, cx, rx⟩ := HNN.out.get hjn
            have q1 := (hbel.cell (p := ⟨b2, off + j, none⟩) (Nat.lt_of_lt_of_le hblt HWO.out.size)).trans ((HWO.out.cell (p := ⟨b2, off + j, none⟩) hblt).trans cx)
            have rr1 := (rx.below HWO.out).below hbel
            have hmj : ns.getD j [] ∈ ns := by simp [List.getD, List.getElem?_eq_getElem hjn]
            have q2 := (hbel.cell (p := ⟨w2.heap.size, j, none⟩) hsz).trans (HOC.out.cell hlt)
            have hlj : (ns.getD j []).length ≤ 16 := by rw [H16.out _ hmj]; omega
            have hnx := scanL_next (b := b) hjn
            have hlen := scanL_le b (ns.take j)
            rw [List.length_take] at hlen
            obtain ⟨us, hU⟩ := HO3.out
            have hul : us.length ≤ j := by rw [hU.len]; omega
            generalize ns.getD j [] = n at *
            have hlw : wo.heap.size ≤ wr.heap.size := hbel.size
            have k1 : (j : Int) < (N : Int) := by omega
            have hcl := clone n x wr rr1 (by omega)
            have HC := hide hcl
            clear hcl cx rx rr1 hlen hmj
            cases hcn : contL b n with
            | false =>
              rw [hcn] at q2 hnx
              have HS : Hid (OwnS wo.heap.size wr u11 (scanL b (ns.take (j + 1)))) := hide (by rw [hnx]; exact ⟨us, hU⟩)
              clear hnx hcn hU hbel HO3
              go_wp2_with fail
              go_roundw
              case rel => exact ⟨j + 1, by omega, by go_num, HS, HB4.out⟩
              case measure => simp [intOf]; omega
            | true =>
              rw [hcn] at q2 hnx
              have HU := hide hU
              have HNX := hide hnx
              clear hnx hcn hU hbel HO3
              go_wp2_with fail
              refine HC.out.mono ?_
              rintro e w5 ⟨u2, rfl, o2, bb2⟩
              have row2 := hide (own_step HU.out.row bb2)
              have hl2 : wo.heap.size ≤ w5.heap.size := Nat.le_trans hlw bb2.size
              obtain ⟨A2, c2, hu2, -, -⟩ := own_slice o2
              subst hu2
              have HBB2 := hide bb2
              have HO2 := hide o2
              clear bb2 o2 q1 q2
              go_wp2_with (at_builtin; refine wpList_app _ rfl (.tmp 65) (.tmp 68) _ rfl wo.heap.size 36 i0 _ 24 Tryz.underlying23 hi0 hz0 hz1 hz2 rfl _ _ _ rfl (row2.out.alloc _) _ _ rfl (rd_oneV _ _ _) slice_one (by simp [maxLen]; omega) (by simp; omega) (by simp; omega) ?_; intro v3 w6 own3 gr3)
              have hS3 : OwnS wo.heap.size w6 v3 (scanL b (ns.take (j + 1))) := by rw [HNX.out]; exact ⟨_, HU.out.snoc HBB2.out HO2.out hlw _ own3 gr3⟩
              have hb3 : Below wo.heap.size wo w6 := Below.row ((HB4.out.trans (HBB2.out.mono HB4.out.size)).alloc hl2 _) (by simp; omega) (row2.out.alloc _) gr3
              have HS := hide hS3
              have HB5 := hide hb3
              clear hS3 hb3 own3 gr3
              go_roundw
              case rel => exact ⟨j + 1, by omega, by go_num, HS, HB5.out⟩
              case measure => simp [intOf]; omega
          · obtain rfl : j = N := by omega
            have e2 : ns.take j = ns := List.take_of_length_le (by rw [HNL.out]; omega)
            rw [e2] at HO3
            have HF := hide (HO3.out.base hwo1)
            have HB5 := hide (HWO.out.trans (hbel.mono hwo1))
            clear hbel e2
            go_wp2
            go_ret
            rw [HE.out]
            exact ⟨_, rfl, HF.out, HB5.out⟩

end Go.Proofs.YtmhapnlgakkljaaGreatDoor


/-
  The model's l5inCmp.
-/
namespace Go.Proofs.YtmhapnlgakkljaaGreatDoor
open Go.RowKit
set_option linter.unusedVariables false

theorem in1_nil (w : World) : In1 w (raw []) (.slice none 0 0) := (show Rd w (.slice none 0 0) (bs []) from ⟨none, 0, rfl, Nat.le_refl _, Nat.zero_le _, fun h => by simp [bs] at h⟩).in1
end Go.Proofs.YtmhapnlgakkljaaGreatDoor


/-
  The program's compareIns.
-/
namespace Go.Proofs.YtmhapnlgakkljaaGreatDoor
open Go.RowKit
set_option linter.unusedVariables false
set_option linter.unusedSimpArgs false

theorem cmpB_zero : ∀ (a b : List UInt8), Lib.compareBytes a b = 0 ↔ a = b
  | [], [] => by simp [Lib.compareBytes]
  | [], _ :: _ => by simp [Lib.compareBytes]
  | _ :: _, [] => by simp [Lib.compareBytes]
  | x :: a, y :: b => by
    have ih := cmpB_zero a b
    unfold Lib.compareBytes
    by_cases h1 : x < y
    · have : x ≠ y := fun e => by subst e; exact UInt8.lt_irrefl _ h1
      simp [h1, this]
    · by_cases h2 : y < x
      · have : x ≠ y := fun e => by subst e; exact UInt8.lt_irrefl _ h2
        simp [h1, h2, this]
      · have h3 : x = y := UInt8.le_antisymm (UInt8.not_lt.1 h2) (UInt8.not_lt.1 h1)
        subst h3
        rw [if_neg h1, if_neg h1, ih]
        simp
theorem cmpI_zero {a b : List Int} (ha : Byt a) (hb : Byt b) : cmpI a b = 0 ↔ a = b := by
  unfold cmpI
  rw [cmpB_zero]
  constructor
  · intro h
    refine str_inj ha hb ?_
    rw [ByteArray.toList_eq, ByteArray.toList_eq]
    exact h
  · rintro rfl; rfl
theorem inLess_eq (a b : DIn) : inLess a b = if a.drv = b.drv then lessL a.out b.out else lessL a.drv b.drv := by
  unfold inLess realCmp asReal
  simp only
  split
  · split
    · rename_i h; rw [h]; rfl
    · rename_i h
      have h2 : lessL a.out b.out = false := by simpa using h
      rw [h2]
      split <;> rfl
  · split
    · rename_i h; rw [h]; rfl
    · rename_i h
      have h2 : lessL a.drv b.drv = false := by simpa using h
      rw [h2]
      rfl
/-- What compareIns answers. -/
def inCmpI (a b : DIn) : Int := if cmpI a.drv b.drv = 0 then cmpI a.out b.out else cmpI a.drv b.drv
theorem inCmpI_less {a b : DIn} (ha : oks a.cells) (hb : oks b.cells) : decide (0 ≤ inCmpI a b) = !inLess a b := by
  obtain ⟨a0, a1⟩ := (DIn.oks_iff a).1 ha
  obtain ⟨b0, b1⟩ := (DIn.oks_iff b).1 hb
  rw [inLess_eq, inCmpI]
  by_cases h : a.drv = b.drv
  · rw [if_pos h, if_pos ((cmpI_zero a0 b0).2 h)]
    exact cmpI_less a1 b1
  · rw [if_neg h, if_neg (fun e => h ((cmpI_zero a0 b0).1 e))]
    exact cmpI_less a0 b0

set_option maxHeartbeats 800000 in
theorem cmpOr2 (x y : Int) (g : Nat) (w : World) (h0 : w.cell? ⟨g, 0, none⟩ = some (.int .i64 x)) (h1 : w.cell? ⟨g, 1, none⟩ = some (.int .i64 y)) :
    Calls Tryz.prog 150 #[.slice (some ⟨g, 0, none⟩) 2 2] w fun e w' => e = .returned (.int .i64 (if x = 0 then y else x)) ∧ w = w' := by
  obtain ⟨Z, hZ⟩ : ∃ Z, (if x = 0 then y else x) = Z := ⟨_, rfl⟩
  rw [hZ]
  have HZ := hide hZ
  clear hZ
  go_enter Tryz.func150, Tryz.ntmps150
  go_wp2
  go_loopw [8] (fun i wr => ∃ k : Nat, k ≤ 2 ∧ i = .int .i64 k ∧ Hid ((1 ≤ k → x = 0) ∧ (2 ≤ k → y = 0)) ∧ w = wr) (fun i _ => 2 - (intOf i).toNat)
  case atStart => exact ⟨0, by omega, rfl, hide ⟨fun h => by omega, fun h => by omega⟩, rfl⟩
  case round =>
    obtain ⟨k, hk, rfl, HX, rfl⟩ := hrel
    rcases (by omega : k = 0 ∨ k = 1 ∨ k = 2) with rfl | rfl | rfl
    · by_cases hx : x = 0
      · have hq : (x != 0) = false := by simpa using hx
        have HXX := hide hx
        clear hx
        go_wp2
        go_roundw
        case rel => exact ⟨1, by omega, by go_num, hide ⟨fun _ => HXX.out, fun h => by omega⟩, trivial⟩
        case measure => simp [intOf]
      · have hq : (x != 0) = true := by simpa using hx
        have HXX := hide hx
        clear hx
        go_wp2
        go_ret
        exact ⟨ret_i64 (by rw [← HZ.out, if_neg HXX.out]), rfl⟩
    · by_cases hy : y = 0
      · have hq : (y != 0) = false := by simpa using hy
        have HYY := hide hy
        clear hy
        go_wp2
        go_roundw
        case rel => exact ⟨2, by omega, by go_num, hide ⟨fun _ => HX.out.1 (by omega), fun _ => HYY.out⟩, trivial⟩
        case measure => simp [intOf]
      · have hq : (y != 0) = true := by simpa using hy
        clear hy
        go_wp2
        go_ret
        exact ⟨ret_i64 (by rw [← HZ.out, if_pos (HX.out.1 (by omega))]), rfl⟩
    · have HR := hide (show Z = 0 by rw [← HZ.out, if_pos (HX.out.1 (by omega))]; exact HX.out.2 (by omega))
      go_wp2
      go_ret
      exact ⟨ret_i64 HR.out.symm, rfl⟩

set_option maxRecDepth 20000 in
set_option maxHeartbeats 1600000 in
theorem implInCmp (a b : DIn) (ha : oks a.cells) (hb : oks b.cells) (ua ub : List Value) (w : World) (hsa : Ins w a.cells ua) (hsb : Ins w b.cells ub) :
    Calls Tryz.prog 129 #[.agg ua.toArray, .agg ub.toArray] w fun e w' => e = .returned (.int .i64 (inCmpI a b)) ∧ Below w.heap.size w w' := by
  obtain ⟨Aa0, ca0, Aa1, ca1, rfl, ha0, ha1⟩ := DIn.view hsa
  obtain ⟨Ab0, cb0, Ab1, cb1, rfl, hb0, hb1⟩ := DIn.view hsb
  obtain ⟨wa, hwa⟩ : ∃ wa, w.alloc (.cells #[.slice Aa0 a.drv.length ca0, .slice Aa1 a.out.length ca1] 140) = wa := ⟨_, rfl⟩
  have baa : Below w.heap.size w wa := by rw [← hwa]; exact (Below.refl _ _).alloc (Nat.le_refl _) _
  have bxa : Box wa w.heap.size 140 [.slice Aa0 a.drv.length ca0, .slice Aa1 a.out.length ca1] := by rw [← hwa]; exact Box.new w _ _
  obtain ⟨wb, hwb⟩ : ∃ wb, wa.alloc (.cells #[.slice Ab0 b.drv.length cb0, .slice Ab1 b.out.length cb1] 140) = wb := ⟨_, rfl⟩
  have bab : Below wa.heap.size wa wb := by rw [← hwb]; exact (Below.refl _ _).alloc (Nat.le_refl _) _
  have bxb : Box wb wa.heap.size 140 [.slice Ab0 b.drv.length cb0, .slice Ab1 b.out.length cb1] := by rw [← hwb]; exact Box.new wa _ _
  have bel : Below w.heap.size w wb := baa.trans (bab.mono baa.size)
  have bxa2 := bxa.step bab
  have x0 := bxa2.cell (j := 0) rfl
  have x1 := bxa2.cell (j := 1) rfl
  have z0 := bxb.cell (j := 0) rfl
  have z1 := bxb.cell (j := 1) rfl
  have HC1 := hide (fun W (hW : Below w.heap.size w W) => compare a.drv b.drv _ _ W (ha0.step hW).rd (hb0.step hW).rd)
  have HC2 := hide (fun W (hW : Below w.heap.size w W) => compare a.out b.out _ _ W (ha1.step hW).rd (hb1.step hW).rd)
  have HBE := hide (bel.drew)
  have hdf : inCmpI a b = (if cmpI a.drv b.drv = 0 then cmpI a.out b.out else cmpI a.drv b.drv) := rfl
  have HDF := hide hdf
  have HS : Hid (∀ W, Below wb.heap.size wb W → W.cell? ⟨w.heap.size, 0, none⟩ = some (.slice Aa0 a.drv.length ca0) ∧ W.cell? ⟨w.heap.size, 1, none⟩ = some (.slice Aa1 a.out.length ca1) ∧ W.cell? ⟨wa.heap.size, 0, none⟩ = some (.slice Ab0 b.drv.length cb0) ∧ W.cell? ⟨wa.heap.size, 1, none⟩ = some (.slice Ab1 b.out.length cb1)) :=
    hide (fun W hb => ⟨(bxa2.step hb).cell (j := 0) rfl, (bxa2.step hb).cell (j := 1) rfl, (bxb.step hb).cell (j := 0) rfl, (bxb.step hb).cell (j := 1) rfl⟩)
  obtain ⟨X, hX⟩ : ∃ X, cmpI a.drv b.drv = X := ⟨_, rfl⟩
  obtain ⟨Y, hY⟩ : ∃ X, cmpI a.out b.out = X := ⟨_, rfl⟩
  rw [hX, hY] at HDF
  rw [hX] at HC1
  rw [hY] at HC2
  obtain ⟨wk, hwk⟩ : ∃ W, wb.alloc (.cells #[.int .i64 X, .int .i64 Y] 3) = W := ⟨_, rfl⟩
  have hbk := Box.new wb [.int .i64 X, .int .i64 Y] 3
  rw [hwk] at hbk
  have HBK := hide (show Below wb.heap.size wb wk.drew by rw [← hwk]; exact ((Below.refl _ _).alloc (Nat.le_refl _) _).drew)
  have hor := cmpOr2 X Y wb.heap.size wk.drew (hbk.cell (j := 0) rfl) (hbk.cell (j := 1) rfl)
  obtain ⟨Z, hZ⟩ : ∃ Z, (if X = 0 then Y else X) = Z := ⟨_, rfl⟩
  rw [hZ] at hor HDF
  have HOR := hide hor
  clear hor hZ
  have HBR := hide (show Below wb.heap.size wb wb.drew from (Below.refl _ _).drew)
  have HBF := hide (bel.trans (HBK.out.mono bel.size))
  clear hX hY hdf bxa bxb bxa2 ha0 ha1 hb0 hb1 baa bab bel hsa hsb hbk
  go_enter Tryz.func129, Tryz.ntmps129
  go_wp2_with fail
  go_region_held3 (fun W => W.cell? ⟨w.heap.size, 0, none⟩ = some (.slice Aa0 a.drv.length ca0) ∧ W.cell? ⟨w.heap.size, 1, none⟩ = some (.slice Aa1 a.out.length ca1) ∧ W.cell? ⟨wa.heap.size, 0, none⟩ = some (.slice Ab0 b.drv.length cb0) ∧ W.cell? ⟨wa.heap.size, 1, none⟩ = some (.slice Ab1 b.out.length cb1))
    (first
      | exact HS.out _ HBK.out
      | exact HS.out _ HBR.out
      | go_keep)
    (first
      | (go_simp; go_at_call 114; (with_reducible refine (HC1.out _ HBE.out).mono ?_); rintro e w8 ⟨rfl, rfl⟩)
      | (go_simp; go_at_call 114; (with_reducible refine (HC2.out _ HBE.out).mono ?_); rintro e w8 ⟨rfl, rfl⟩)
      | (go_simp; go_at_call 150; refine HOR.out.mono ?_; rintro e w8 ⟨rfl, rfl⟩))
  all_goals
    go_wp2
    go_ret
    exact ⟨ret_i64 HDF.out.symm, HBF.out⟩

end Go.Proofs.YtmhapnlgakkljaaGreatDoor
