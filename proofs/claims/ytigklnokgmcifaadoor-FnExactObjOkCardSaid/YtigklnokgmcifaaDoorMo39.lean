/-
  Parts of the proof: ObjI2.
-/
import Derived.Test.YtigklnokgmcifaaDoorMo34
import Derived.Test.YtigklnokgmcifaaDoorMo35
import Derived.Test.YtigklnokgmcifaaDoorMo38
import Derived.Test.YtigklnokgmcifaaDoorMo21
import Derived.Test.YtigklnokgmcifaaDoorMo8
import Derived.Test.YtigklnokgmcifaaDoorMo12
import Derived.Laws.BytesArg
import Derived.IntWalk
import Derived.Deep.QuietTactic
import Derived.BigQuiet
import Derived.Deep.Cut
import Derived.Deep.DeepCutAuto
import Derived.Deep.CutBlock
import Derived.Deep.RegionWith
import Derived.Deep.RegionHeld3

/-
  The program's objRefsOk.
-/
namespace Go.Proofs.YtigklnokgmcifaaDoor
open Go.RowKit
set_option linter.unusedVariables false
set_option linter.unusedSimpArgs false

set_option maxRecDepth 20000 in
set_option maxHeartbeats 1600000 in
theorem implRefsFit (o : DObj) (hok : oks o.cells) (hbk : bulks o.cells ≤ 1048576) (ht : treeOk o.tree = true) (us : List Value) (w : World) (hs : Ins w o.cells us) :
    Calls Tryd.prog 37 #[.agg us.toArray] w fun e w' => e = .returned (.bool (refsFit o)) ∧ Below w.heap.size w w' := by
  obtain ⟨A0, c0, A3, c3, A4, c4, A5, c5, A6, c6, A7, c7, A8, c8, rfl, h0, h3, h4, h5, h6, h7, h8⟩ := DObj.view hs
  obtain ⟨wa, hwa⟩ : ∃ wa, w.alloc (.cells #[.slice A0 o.name.length c0, .int .i64 o.kind, .int .i64 o.tree.kind, .slice A3 o.tree.data.length c3, .slice A4 o.tree.names.length c4, .slice A5 o.tree.kids.length c5, .slice A6 o.refs.length c6, .slice A7 o.frm.length c7, .slice A8 o.out.length c8] 35) = wa := ⟨_, rfl⟩
  have ba : Below w.heap.size w wa := by rw [← hwa]; exact (Below.refl _ _).alloc (Nat.le_refl _) _
  have bx : Box wa w.heap.size 35 [.slice A0 o.name.length c0, .int .i64 o.kind, .int .i64 o.tree.kind, .slice A3 o.tree.data.length c3, .slice A4 o.tree.names.length c4, .slice A5 o.tree.kids.length c5, .slice A6 o.refs.length c6, .slice A7 o.frm.length c7, .slice A8 o.out.length c8] := by rw [← hwa]; exact Box.new w _ _
  have hz : w.heap.size < wa.heap.size := bx.lt
  obtain ⟨hb0, hkr, htr, hb6, hb7, hb8⟩ := (DObj.oks_iff o).1 hok
  have hbk2 := bulk_Obj o
  have hby := T.byts_of _ htr
  have hT := (obj_tree h3 h4 h5).below ba
  have hD := (h3.step ba).rd
  have hF := (h7.step ba).rd
  have hO := (h8.step ba).rd
  have x0 := bx.cell (j := 0) rfl
  have x1 := bx.cell (j := 1) rfl
  have x2 := bx.cell (j := 2) rfl
  have x3 := bx.cell (j := 3) rfl
  have x4 := bx.cell (j := 4) rfl
  have x5 := bx.cell (j := 5) rfl
  have x6 := bx.cell (j := 6) rfl
  have x7 := bx.cell (j := 7) rfl
  have x8 := bx.cell (j := 8) rfl
  have HBX := hide (fun W (hb : Below wa.heap.size wa W) => bx.step hb)
  have HBA := hide ba
  have htb := treeOk_bulk ht
  have hdt := treeOk_dat ht
  have hde : datOf o.tree = o.tree.dat := by rw [datOf, if_pos ht]
  have hc1 := fun W (hb : Below wa.heap.size wa W) => implTreeData o.tree hby (by omega) _ W (hT.below hb)
  rw [hde] at hc1
  have hdb := T.dat_byt o.tree hby
  have hN6 := (h6.step ba).rdN
  have hl6 : ∀ n ∈ o.refs, n.length ≤ 1048576 := fun n hn => by have := sumLen_mem2 hn; omega
  have hc2 := fun v W (h : Rd W v (bs o.tree.dat)) (hb : Below wa.heap.size wa W) => implScan o.tree.dat o.refs hdb hb6 v _ W h (hN6.below hb) (by omega) (by omega) hl6
  have HC1 := hide hc1
  have HC2 := hide hc2
  have HDF := hide (show refsFit o = (decide (o.refs.length ≤ 24) && decide ((scanOf o.tree.dat o.refs).length = o.refs.length)) from rfl)
  have hsl : (scanOf o.tree.dat o.refs).length ≤ o.refs.length := by
    unfold scanOf scanL
    split
    · exact List.length_filter_le _ _
    · exact Nat.zero_le _
  have HSL := hide hsl
  have HSS : Hid (∀ W, Below wa.heap.size wa W → (fun W : World => W.cell? ⟨w.heap.size, 0, none⟩ = some (.slice A0 o.name.length c0) ∧ W.cell? ⟨w.heap.size, 1, none⟩ = some (.int .i64 o.kind) ∧ W.cell? ⟨w.heap.size, 2, none⟩ = some (.int .i64 o.tree.kind) ∧ W.cell? ⟨w.heap.size, 3, none⟩ = some (.slice A3 o.tree.data.length c3) ∧ W.cell? ⟨w.heap.size, 4, none⟩ = some (.slice A4 o.tree.names.length c4) ∧ W.cell? ⟨w.heap.size, 5, none⟩ = some (.slice A5 o.tree.kids.length c5) ∧ W.cell? ⟨w.heap.size, 6, none⟩ = some (.slice A6 o.refs.length c6) ∧ W.cell? ⟨w.heap.size, 7, none⟩ = some (.slice A7 o.frm.length c7) ∧ W.cell? ⟨w.heap.size, 8, none⟩ = some (.slice A8 o.out.length c8)) W) := hide (fun W hb => ⟨(HBX.out W hb).cell (j := 0) rfl, (HBX.out W hb).cell (j := 1) rfl, (HBX.out W hb).cell (j := 2) rfl, (HBX.out W hb).cell (j := 3) rfl, (HBX.out W hb).cell (j := 4) rfl, (HBX.out W hb).cell (j := 5) rfl, (HBX.out W hb).cell (j := 6) rfl, (HBX.out W hb).cell (j := 7) rfl, (HBX.out W hb).cell (j := 8) rfl⟩)
  clear bx ba hs h0 h3 h4 h5 h6 h7 h8 hT hD hF hO hok hby hbk hbk2 hkr htr hb0 hb6 hb7 hb8 hc1 hc2 hdb hN6 hl6 hde hdt htb hsl
  by_cases hl : o.refs.length ≤ 24
  · have hl2 : (o.refs.length : Int) ≤ 24 := by omega
    have HR := hide (show refsFit o = decide ((scanOf o.tree.dat o.refs).length = o.refs.length) by rw [HDF.out, decide_eq_true hl]; rfl)
    have HBD := hide (show Below wa.heap.size wa wa.drew from (Below.refl _ _).drew)
    generalize scanOf o.tree.dat o.refs = Z at *
    generalize hNN : o.refs.length = NN at *
    have hund : undef = Value.tuple #[] := rfl
    go_enter Tryd.func37, Tryd.ntmps37
    go_upto_region 1 with (fail)
    first
      | go_region_held3 (fun W : World => W.cell? ⟨w.heap.size, 0, none⟩ = some (.slice A0 o.name.length c0) ∧ W.cell? ⟨w.heap.size, 1, none⟩ = some (.int .i64 o.kind) ∧ W.cell? ⟨w.heap.size, 2, none⟩ = some (.int .i64 o.tree.kind) ∧ W.cell? ⟨w.heap.size, 3, none⟩ = some (.slice A3 o.tree.data.length c3) ∧ W.cell? ⟨w.heap.size, 4, none⟩ = some (.slice A4 o.tree.names.length c4) ∧ W.cell? ⟨w.heap.size, 5, none⟩ = some (.slice A5 o.tree.kids.length c5) ∧ W.cell? ⟨w.heap.size, 6, none⟩ = some (.slice A6 NN c6) ∧ W.cell? ⟨w.heap.size, 7, none⟩ = some (.slice A7 o.frm.length c7) ∧ W.cell? ⟨w.heap.size, 8, none⟩ = some (.slice A8 o.out.length c8))
        (first
          | exact HSS.out _ HB2.out
          | exact HSS.out _ HB1.out
          | exact HSS.out _ HBD.out
          | go_keep)
        (first
          | (go_simp; go_at_call 69; refine (HC1.out _ HBD.out).mono ?_; rintro e w1 ⟨v1, rfl, o1, b1⟩; have HB1 := hide (HBD.out.trans (b1.mono HBD.out.size)); have r1 := o1.rd; clear o1 b1)
          | (go_simp; go_at_call 68; refine (HC2.out _ _ r1 HB1.out).mono ?_; rintro e w2 ⟨v2, rfl, o2, b2⟩; have HB2 := hide (HB1.out.trans (b2.mono HB1.out.size)); obtain ⟨A2, c2, hu2, hx2, hy2⟩ := names_len o2.rd; subst hu2; clear b2 o2))
      | fail "region"
    all_goals
      have hzz : (((Z.length : Nat) : Int) == ((NN : Nat) : Int)) = decide (Z.length = NN) := by
        by_cases h : Z.length = NN
        · rw [decide_eq_true h, h]; simp
        · rw [decide_eq_false h]; simp; omega
      go_wp2
      go_ret
      exact ⟨ret_bool (HR.out.trans (by rw [← hzz])).symm, HBA.out.trans (HB2.out.mono HBA.out.size)⟩
  · have hl2 : ¬ (o.refs.length : Int) ≤ 24 := by omega
    have HR := hide (show refsFit o = false by rw [HDF.out, decide_eq_false hl]; rfl)
    go_enter Tryd.func37, Tryd.ntmps37
    go_upto_region 1 with (fail)
    have hund : undef = Value.tuple #[] := rfl
    refine wp_region_any (by kernel_rfl) ?_
    try (change wpAny _ _ _ _ _ _ _ (World.drew _))
    refine wpAny_take (i := 0) (v := .pointer (some ⟨w.heap.size, 6, none⟩)) rfl (by kernel_rfl) (by kernel_rfl) (by kernel_rfl) (fun _ _ _ h => h) (Or.inl ⟨by kernel_rfl, by intro w; go_simp⟩) ?_
    go_simp
    refine wpAny_ready (rs := [1]) (by kernel_rfl) (by simp) ?_
    refine AllReady.cons rfl (fun K hK => ?_) AllReady.nil
    go_simp
    refine hK _ _ ?_
    clear hK K
    refine wpAny_take (i := 2) (v := .int .i64 (o.refs.length : Int)) rfl (by kernel_rfl) (by kernel_rfl) (by kernel_rfl) (fun _ _ _ h => h) (Or.inl ⟨by kernel_rfl, by intro w; go_simp⟩) ?_
    go_simp
    refine wpAny_take (i := 3) (v := .bool false) rfl (by kernel_rfl) (by kernel_rfl) (by kernel_rfl) (fun _ _ _ h => h) (Or.inl ⟨by kernel_rfl, by intro w; go_simp⟩) ?_
    go_simp
    refine wpAny_take (i := 4) (v := .bool false) rfl (by kernel_rfl) (by kernel_rfl) (by kernel_rfl) (fun _ _ _ h => h) (Or.inl ⟨by kernel_rfl, by intro w; go_simp⟩) ?_
    go_simp
    refine wpAny_take (i := 5) (v := undef) rfl (by kernel_rfl) (by kernel_rfl) (by kernel_rfl) (fun _ _ _ h => h) (Or.inr ⟨by kernel_rfl, rfl⟩) ?_
    go_simp
    refine wpAny_take (i := 6) (v := undef) rfl (by kernel_rfl) (by kernel_rfl) (by kernel_rfl) (fun _ _ _ h => h) (Or.inr ⟨by kernel_rfl, rfl⟩) ?_
    go_simp
    refine wpAny_take (i := 7) (v := undef) rfl (by kernel_rfl) (by kernel_rfl) (by kernel_rfl) (fun _ _ _ h => h) (Or.inr ⟨by kernel_rfl, rfl⟩) ?_
    go_simp
    refine wpAny_take (i := 8) (v := undef) rfl (by kernel_rfl) (by kernel_rfl) (by kernel_rfl) (fun _ _ _ h => h) (Or.inr ⟨by kernel_rfl, rfl⟩) ?_
    go_simp
    refine wpAny_take (i := 9) (v := undef) rfl (by kernel_rfl) (by kernel_rfl) (by kernel_rfl) (fun _ _ _ h => h) (Or.inr ⟨by kernel_rfl, rfl⟩) ?_
    go_simp
    refine wpAny_take (i := 10) (v := undef) rfl (by kernel_rfl) (by kernel_rfl) (by kernel_rfl) (fun _ _ _ h => h) (Or.inr ⟨by kernel_rfl, rfl⟩) ?_
    go_simp
    refine wpAny_take (i := 11) (v := undef) rfl (by kernel_rfl) (by kernel_rfl) (by kernel_rfl) (fun _ _ _ h => h) (Or.inr ⟨by kernel_rfl, rfl⟩) ?_
    go_simp
    refine wpAny_take (i := 12) (v := undef) rfl (by kernel_rfl) (by kernel_rfl) (by kernel_rfl) (fun _ _ _ h => h) (Or.inr ⟨by kernel_rfl, rfl⟩) ?_
    go_simp
    refine wpAny_take (i := 13) (v := undef) rfl (by kernel_rfl) (by kernel_rfl) (by kernel_rfl) (fun _ _ _ h => h) (Or.inr ⟨by kernel_rfl, rfl⟩) ?_
    go_simp
    refine wpAny_take (i := 14) (v := undef) rfl (by kernel_rfl) (by kernel_rfl) (by kernel_rfl) (fun _ _ _ h => h) (Or.inr ⟨by kernel_rfl, rfl⟩) ?_
    go_simp
    refine wpAny_take (i := 15) (v := undef) rfl (by kernel_rfl) (by kernel_rfl) (by kernel_rfl) (fun _ _ _ h => h) (Or.inr ⟨by kernel_rfl, rfl⟩) ?_
    go_simp
    refine wpAny_take (i := 16) (v := .bool false) rfl (by kernel_rfl) (by kernel_rfl) (by kernel_rfl) (fun _ _ _ h => h) (Or.inl ⟨by kernel_rfl, by intro w; go_simp⟩) ?_
    go_simp
    refine wpAny_take (i := 17) (v := .bool false) rfl (by kernel_rfl) (by kernel_rfl) (by kernel_rfl) (fun _ _ _ h => h) (Or.inl ⟨by kernel_rfl, by intro w; go_simp⟩) ?_
    go_simp
    refine wpAny_done (by kernel_rfl) ?_ _
    go_wp2
    go_ret
    exact ⟨ret_bool HR.out.symm, HBA.out.drew⟩


end Go.Proofs.YtigklnokgmcifaaDoor
