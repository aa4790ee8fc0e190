/-
  Parts of the proof: ObjI1.
-/
import Derived.Test.YtmhapnlgakkljaaGreatDoorMp19
import Derived.Test.YtmhapnlgakkljaaGreatDoorMp23
import Derived.Test.YtmhapnlgakkljaaGreatDoorMp38
import Derived.Test.YtmhapnlgakkljaaGreatDoorMp0
import Derived.Test.YtmhapnlgakkljaaGreatDoorMp1
import Derived.Laws.BytesArg
import Derived.IntWalk
import Derived.Deep.QuietTactic
import Derived.BigQuiet
import Derived.Deep.Cut
import Derived.Deep.DeepCutAuto
import Derived.Deep.CutBlock
import Derived.Deep.RegionWith
import Derived.Deep.RegionHeld3

/-
  The program's objName.
-/
namespace Go.Proofs.YtmhapnlgakkljaaGreatDoor
open Go.RowKit
set_option linter.unusedVariables false
set_option linter.unusedSimpArgs false

set_option maxRecDepth 20000 in
set_option maxHeartbeats 1600000 in
theorem implObjNm (o : DObj) (hok : oks o.cells) (hbk : bulks o.cells ≤ 1048576) (ht : treeOk o.tree = true) (us : List Value) (w : World) (hs : Ins w o.cells us) (hTb : Tab w) :
    Calls Tryz.prog 126 #[.agg us.toArray] w fun e w' => ∃ v', e = .returned v' ∧ Own 5 w.heap.size w'.heap.size w' v' (bs (objNm o)) ∧ Below w.heap.size w w' := by
  have htk := ht
  obtain ⟨A0, c0, A3, c3, A4, c4, A5, c5, A6, c6, A7, c7, A8, c8, rfl, h0, h3, h4, h5, h6, h7, h8⟩ := DObj.view hs
  obtain ⟨wa, hwa⟩ : ∃ wa, w.alloc (.cells #[.slice A0 o.name.length c0, .int .i64 o.kind, .int .i64 o.tree.kind, .slice A3 o.tree.data.length c3, .slice A4 o.tree.names.length c4, .slice A5 o.tree.kids.length c5, .slice A6 o.refs.length c6, .slice A7 o.frm.length c7, .slice A8 o.out.length c8] 54) = wa := ⟨_, rfl⟩
  have ba : Below w.heap.size w wa := by rw [← hwa]; exact (Below.refl _ _).alloc (Nat.le_refl _) _
  have bx : Box wa w.heap.size 54 [.slice A0 o.name.length c0, .int .i64 o.kind, .int .i64 o.tree.kind, .slice A3 o.tree.data.length c3, .slice A4 o.tree.names.length c4, .slice A5 o.tree.kids.length c5, .slice A6 o.refs.length c6, .slice A7 o.frm.length c7, .slice A8 o.out.length c8] := by rw [← hwa]; exact Box.new w _ _
  have hz : w.heap.size < wa.heap.size := bx.lt
  obtain ⟨hb0, hkr, htr, hb6, hb7, hb8⟩ := (DObj.oks_iff o).1 hok
  have hbk2 := bulk_Obj o
  have hby := T.byts_of _ htr
  have hT := (obj_tree h3 h4 h5).below ba
  have hD := (h3.step ba).rd
  have hF := (h7.step ba).rd
  have hO := (h8.step ba).rd
  have x0 := bx.cell (j := 0) rfl
  have x1 := bx.cell (j := 1) rfl
  have x2 := bx.cell (j := 2) rfl
  have x3 := bx.cell (j := 3) rfl
  have x4 := bx.cell (j := 4) rfl
  have x5 := bx.cell (j := 5) rfl
  have x6 := bx.cell (j := 6) rfl
  have x7 := bx.cell (j := 7) rfl
  have x8 := bx.cell (j := 8) rfl
  have HBX := hide (fun W (hb : Below wa.heap.size wa W) => bx.step hb)
  have HBA := hide ba
  have hTa : Tab wa := hTb.step ba
  have hel := treeOk_enc ht
  have hdl := treeOk_data ht
  have htb := treeOk_bulk ht
  by_cases hk2 : o.kind = 2
  · have e : objNm o = outNm o.frm o.out := by rw [objNm, if_pos hk2]
    have hc := implOutLow o.frm hb7 _ o.out hb8 _ wa hF hO (by omega) hTa
    rw [← e] at hc
    have HC := hide hc
    clear e hc hTa
    clear bx ba hs h0 h3 h4 h5 h6 h7 h8 hT hD hF hO hok hby hTb hbk hbk2 hkr htr hb0 hb6 hb7 hb8
    rw [hk2] at x1 hwa
    go_enter Tryz.func126, Tryz.ntmps126
    go_wp2_with fail
    refine HC.out.mono ?_
    rintro e w1 ⟨A, n, c, rfl, -, o1, b1⟩
    have HB1 := hide (HBA.out.trans (b1.mono HBA.out.size))
    have HO1 := hide (o1.wide (Nat.le_of_lt hz) (Nat.le_refl _) (Nat.le_refl _))
    clear o1 b1
    go_wp2_with fail
    go_ret
    exact ⟨_, rfl, HO1.out, HB1.out⟩
  · have e2 : (o.kind == 2) = false := by simp [hk2]
    by_cases hfo : o.frm.length = 0 ∧ o.out.length = 0
    · obtain ⟨hf0, ho0⟩ := hfo
      by_cases hk0 : o.kind = 0 ∧ o.tree.kind = 0
      · have e : objNm o = nameOf 116 o.tree.data := by rw [objNm, if_neg hk2, if_pos ⟨hf0, ho0⟩, if_pos hk0]
        have hc := implNameOf 116 (by omega) o.tree.data ((T.oks_iff _).1 htr).2.1 (.slice A3 o.tree.data.length c3) wa hD hTa
        rw [← e] at hc
        have HC := hide hc
        clear e hc hTa
        clear bx ba hs h0 h3 h4 h5 h6 h7 h8 hT hD hF hO hok hby hTb hbk hbk2 hkr htr hb0 hb6 hb7 hb8
        obtain ⟨hka, hkb⟩ := hk0
        rw [hka] at x1 hwa e2
        rw [hkb] at x2 hwa
        rw [hf0] at x7 hwa
        rw [ho0] at x8 hwa
        go_enter Tryz.func126, Tryz.ntmps126
        go_wp2_with fail
        refine HC.out.mono ?_
        rintro e w1 ⟨v1, rfl, o1, b1⟩
        have HB1 := hide (HBA.out.trans (b1.mono HBA.out.size))
        have HO1 := hide (o1.wide (Nat.le_of_lt hz) (Nat.le_refl _) (Nat.le_refl _))
        clear o1 b1
        go_wp2_with fail
        go_ret
        exact ⟨_, rfl, HO1.out, HB1.out⟩
      · by_cases hk1 : o.kind = 1
        · have e : objNm o = nameOf 102 (encOf o.tree) := by rw [objNm, if_neg hk2, if_pos ⟨hf0, ho0⟩, if_neg hk0, if_pos hk1]
          have hc1 := implTreeBytes o.tree hby (by omega) _ wa hT
          have heb : Byt (encOf o.tree) := by rw [encOf, if_pos ht]; exact T.enc_byt o.tree (treeOk_at ht).1 hby
          have hc := fun v W (h : Rd W v (bs (encOf o.tree))) (hb : Below wa.heap.size wa W) => implNameOf 102 (by omega) (encOf o.tree) heb v W h (hTa.step hb)
          rw [← e] at hc
          have HC := hide hc
          have HC1 := hide hc1
          clear e hc hc1 hTa heb
          clear bx ba hs h0 h3 h4 h5 h6 h7 h8 hT hD hF hO hok hby hTb hbk hbk2 hkr htr hb0 hb6 hb7 hb8
          rw [hk1] at x1 hwa e2
          rw [hf0] at x7 hwa
          rw [ho0] at x8 hwa
          go_enter Tryz.func126, Tryz.ntmps126
          go_wp2_with fail
          refine HC1.out.mono ?_
          rintro e w1 ⟨v1, rfl, o1, b1⟩
          have r1 := o1.rd
          have HB0 := hide b1
          have hco := HC.out v1 w1 r1 b1
          clear b1 o1
          go_wp2_with fail
          refine hco.mono ?_
          rintro e w2 ⟨v2, rfl, o2, b2⟩
          have HB2 := hide (HBA.out.trans ((HB0.out.trans (b2.mono HB0.out.size)).mono HBA.out.size))
          have HO2 := hide (o2.wide (Nat.le_trans (Nat.le_of_lt hz) HB0.out.size) (Nat.le_refl _) (Nat.le_refl _))
          clear o2 b2 r1 hco
          go_wp2_with fail
          go_ret
          exact ⟨_, rfl, HO2.out, HB2.out⟩
        · have e : objNm o = [] := by rw [objNm, if_neg hk2, if_pos ⟨hf0, ho0⟩, if_neg hk0, if_neg hk1]
          have HE := hide e
          have e1 : (o.kind == 1) = false := by simp [hk1]
          clear e hTa
          clear bx ba hs h0 h3 h4 h5 h6 h7 h8 hT hD hF hO hok hby hTb hbk hbk2 hkr htr hb0 hb6 hb7 hb8
          rw [hf0] at x7 hwa
          rw [ho0] at x8 hwa
          by_cases hka : o.kind = 0
          · have hkb : (o.tree.kind == 0) = false := by simp; exact fun h => hk0 ⟨hka, h⟩
            rw [hka] at x1 hwa e2 e1
            go_enter Tryz.func126, Tryz.ntmps126
            go_wp2_with fail
            go_ret
            exact ⟨_, rfl, by rw [HE.out]; exact Own.of (World.ownsRow_nil _ _ _ _) rfl, HBA.out⟩
          · have hka2 : (o.kind == 0) = false := by simp [hka]
            go_enter Tryz.func126, Tryz.ntmps126
            go_wp2_with fail
            go_ret
            exact ⟨_, rfl, by rw [HE.out]; exact Own.of (World.ownsRow_nil _ _ _ _) rfl, HBA.out⟩
    · have e : objNm o = [] := by rw [objNm, if_neg hk2, if_neg hfo]
      have HE := hide e
      clear e hTa
      clear bx ba hs h0 h3 h4 h5 h6 h7 h8 hT hD hF hO hok hby hTb hbk hbk2 hkr htr hb0 hb6 hb7 hb8
      by_cases hf0 : o.frm.length = 0
      · have ho1 : 0 < o.out.length := by omega
        have ho2 : (0 : Int) < (o.out.length : Int) := by omega
        rw [hf0] at x7 hwa
        go_enter Tryz.func126, Tryz.ntmps126
        go_wp2_with fail
        go_ret
        exact ⟨_, rfl, by rw [HE.out]; exact Own.of (World.ownsRow_nil _ _ _ _) rfl, HBA.out⟩
      · have ho1 : 0 < o.frm.length := by omega
        have ho2 : (0 : Int) < (o.frm.length : Int) := by omega
        go_enter Tryz.func126, Tryz.ntmps126
        go_wp2_with fail
        go_ret
        exact ⟨_, rfl, by rw [HE.out]; exact Own.of (World.ownsRow_nil _ _ _ _) rfl, HBA.out⟩


end Go.Proofs.YtmhapnlgakkljaaGreatDoor
