/-
  Parts of the proof: AppIn, Made4.
-/
import Derived.Test.YtigklnokgmcifaaDoorMo34
import Derived.OwnWalkIn
import Derived.Test.YtigklnokgmcifaaDoorMo8
import Derived.Test.YtigklnokgmcifaaDoorMo33
import Derived.Test.YtigklnokgmcifaaDoorMo30
import Derived.Laws.BytesArg
import Derived.IntWalk
import Derived.Deep.QuietTactic
import Derived.BigQuiet
import Derived.Deep.Cut
import Derived.Deep.DeepCutAuto
import Derived.Deep.CutBlock
import Derived.Deep.RegionWith

/-
  Append of whatever reads as a list, inside a round.
-/
namespace Go.Proofs.YtigklnokgmcifaaDoor
open Go.RowKit
set_option linter.unusedVariables false

theorem wpListIn_app {F : Fence} {nF : Nat} {P : Program} (w : World) {ops : Array Oper} {rest : List Oper} {o : Oper} {a : Act} {Q : Exit → Act → World → Prop} (hgd : o.guard = none) (s x : Operand) (t : TypeId)
    (ho : o.op = .call { callee := .builtin .append, args := #[s, x], argTypes := #[t, t] })
    (base : Nat) (e : TypeId) (i : TypeInfo) (z : Value) (bytes : Nat) (ht : P.underlying t = some (.slice e)) (hi : P.info? e = some i) (hz : i.zero = some z)
    (hsize : i.size = 1) (hby : i.bytes = bytes) (hzs : z.cells.size = 1)
    (v : Value) (n : Nat) (xs : List Value) (hs : a.eval s = v) (hown : w.ownsRow base e 1 v n xs) (y : Value) (ys : List Value) (hx : a.eval x = y) (hr : Rd w y ys) (h1 : ∀ u ∈ ys, u.oneCell' = true)
    (h63 : n + ys.length ≤ maxLen) (hbytes : (n + ys.length) * bytes ≤ 140737488355328) (hbase : base ≤ w.heap.size)
    (h : ∀ v' w', w'.ownsRow base e 1 v' (n + ys.length) (xs ++ ys) → w.grownBy w' v.ownBlock → wpListIn F nF P ops Q rest (a.put o.dst v') w') : wpListIn F nF P ops Q (o :: rest) a w := by
  refine wpListIn_plain hgd fun K hK => ?_
  obtain ⟨v', w', hrun, h2, h3⟩ := run_app (P := P) w base t o.type e i z bytes ht hi hz hsize hby hzs v n xs hown y ys hr h1 h63 hbytes hbase
  unfold Oper.wpIn
  refine ⟨?_, ?_⟩
  · simp [Oper.about, ho, resolve, Target.leads, Sem.run_pure]
  · rw [Oper.semAt_plain F _ _ (by rw [ho]; intro c hc'; cases hc')]
    unfold execOp
    simp only [ho, resolve, invoke, builtin, Sem.run_bind, Sem.run_pure, Result.andThen_ok, List.map_toArray, List.map_cons, List.map_nil, hs, hx, hrun]
    exact hK _ _ (h v' w' h2 h3)

end Go.Proofs.YtigklnokgmcifaaDoor


/-
  The model's l4made: the name that an object's contents give it.
-/
namespace Go.Proofs.YtigklnokgmcifaaDoor
open Go.RowKit
set_option linter.unusedVariables false
set_option linter.unusedSimpArgs false

theorem obj_tree {w : World} {o : DObj} {v1 v2 v3 : Value} (h1 : In1 w (raw o.tree.data) v1) (h2 : In1 w (names o.tree.names) v2) (h3 : In1 w (seqOf 4 T.cells o.tree.kids) v3) : TIn w o.tree ⟨o.tree.kind, v1, v2, v3⟩ := T.tin_of (T.lay h1 h2 h3)
set_option maxRecDepth 20000 in
set_option maxHeartbeats 1600000 in
theorem specMade (o : DObj) (hok : oks o.cells) (ht : treeOk o.tree = true) (hf : o.frm.length ≤ 1000) (ho : o.out.length ≤ 1000) (us : List Value) (w : World) (hs : Ins w o.cells us) :
    Calls Tryd.prog 32 #[.agg us.toArray] w fun e w' => ∃ v', e = .returned v' ∧ Own 5 w.heap.size w'.heap.size w' v' (bs (made o)) ∧ Below w.heap.size w w' := by
  obtain ⟨A0, c0, A3, c3, A4, c4, A5, c5, A6, c6, A7, c7, A8, c8, rfl, h0, h3, h4, h5, h6, h7, h8⟩ := DObj.view hs
  obtain ⟨wa, hwa⟩ : ∃ wa, w.alloc (.cells #[.slice A0 o.name.length c0, .int .i64 o.kind, .int .i64 o.tree.kind, .slice A3 o.tree.data.length c3, .slice A4 o.tree.names.length c4, .slice A5 o.tree.kids.length c5, .slice A6 o.refs.length c6, .slice A7 o.frm.length c7, .slice A8 o.out.length c8] 35) = wa := ⟨_, rfl⟩
  have ba : Below w.heap.size w wa := by rw [← hwa]; exact (Below.refl _ _).alloc (Nat.le_refl _) _
  have bx : Box wa w.heap.size 35 [.slice A0 o.name.length c0, .int .i64 o.kind, .int .i64 o.tree.kind, .slice A3 o.tree.data.length c3, .slice A4 o.tree.names.length c4, .slice A5 o.tree.kids.length c5, .slice A6 o.refs.length c6, .slice A7 o.frm.length c7, .slice A8 o.out.length c8] := by rw [← hwa]; exact Box.new w _ _
  have hz : w.heap.size < wa.heap.size := bx.lt
  obtain ⟨hb0, hkr, htr, hb6, hb7, hb8⟩ := (DObj.oks_iff o).1 hok
  have hT := (obj_tree h3 h4 h5).below ba
  have hby := T.byts_of _ htr
  have hD := (h3.step ba).rd
  have hF := (h7.step ba).rd
  have hO := (h8.step ba).rd
  have x1 := bx.cell (j := 1) rfl
  have x3 := bx.cell (j := 3) rfl
  have hel := treeOk_enc ht
  have hdl := treeOk_data ht
  have heb := T.enc_byt o.tree (treeOk_at ht).1 hby
  have HBX := hide bx
  have HBA := hide ba
  by_cases hk0 : o.kind = 0
  · have hm : made o = nameOf 116 o.tree.data := by rw [made, if_pos hk0]
    have hd2 : made o = b32 ((shaL (116 :: o.tree.data)).take 10) := by rw [hm, nameOf, if_neg (by omega)]
    have hc := specName 116 (by omega) o.tree.data ((T.oks_iff _).1 htr).2.1 (.slice A3 o.tree.data.length c3) wa hD (by omega)
    rw [← hd2] at hc
    have HC := hide hc
    have e0 : (o.kind == 0) = true := by simp [hk0]
    clear bx ba hs h0 h3 h4 h5 h6 h7 h8 hT hD hF hO hm hd2 hc hok hby heb
    rw [hk0] at x1 hwa
    go_enter Tryd.func32, Tryd.ntmps32
    go_wp2_with fail
    refine HC.out.mono ?_
    rintro e w1 ⟨v1, rfl, o1, b1⟩
    have HB1 := hide (HBA.out.trans (b1.mono HBA.out.size))
    have HO1 := hide (o1.wide (Nat.le_of_lt hz) (Nat.le_refl _) (Nat.le_refl _))
    clear o1 b1
    go_wp2_with fail
    go_ret
    exact ⟨_, rfl, HO1.out, HB1.out⟩
  · by_cases hk1 : o.kind = 1
    · have hm : made o = nameOf 102 o.tree.enc := by rw [made, if_neg hk0, if_pos hk1]
      have hd2 : made o = b32 ((shaL (102 :: o.tree.enc)).take 10) := by rw [hm, nameOf, if_neg (by omega)]
      have hc1 := specEnc o.tree 1 (treeOk_at ht).1 [] (.slice none 0 0) _ wa.heap.size wa wa (World.ownsRow_nil _ _ _ _) rfl (Below.refl _ _) hT (by simp; omega)
      have x2 := bx.cell (j := 2) rfl
      have x4 := bx.cell (j := 4) rfl
      have x5 := bx.cell (j := 5) rfl
      have hc := fun v W (h : Rd W v (bs o.tree.enc)) => specName 102 (by omega) o.tree.enc heb v W h (by omega)
      rw [← hd2] at hc
      rw [List.nil_append] at hc1
      have HC := hide hc
      have HC1 := hide hc1
      clear bx ba hs h0 h3 h4 h5 h6 h7 h8 hT hD hF hO hm hd2 hc hok hby heb hc1
      rw [hk1] at x1 hwa
      go_enter Tryd.func32, Tryd.ntmps32
      go_wp2_with fail
      refine HC1.out.mono ?_
      rintro e w1 ⟨v1, rfl, o1, b1⟩
      have r1 := own_rd o1
      have b1' := b1.below
      go_wp2_with fail
      refine (HC.out v1 w1 r1).mono ?_
      rintro e w2 ⟨v2, rfl, o2, b2⟩
      have HB2 := hide (HBA.out.trans ((b1'.trans (b2.mono b1'.size)).mono HBA.out.size))
      have HO2 := hide (o2.wide (Nat.le_trans (Nat.le_of_lt hz) b1'.size) (Nat.le_refl _) (Nat.le_refl _))
      clear o1 b1 o2 b2 r1 b1'
      go_wp2_with fail
      go_ret
      exact ⟨_, rfl, HO2.out, HB2.out⟩
    · have hm : made o = nameOf 111 (putText o.frm o.out) := by rw [made, if_neg hk0, if_neg hk1]
      have hpl : (putText o.frm o.out).length ≤ 90000 := by
        have := putNum_len o.frm o.out.length
        rw [putText]
        split
        · omega
        · rw [List.length_append]; omega
      have hd2 : made o = b32 ((shaL (111 :: putText o.frm o.out)).take 10) := by rw [hm, nameOf, if_neg (by omega)]
      have hc := fun v W (h : Rd W v (bs (putText o.frm o.out))) => specName 111 (by omega) _ (putText_byt hb7 hb8) v W h hpl
      have hc1 := fun v W (h : Rd W v (bs o.frm)) (hb : Below wa.heap.size wa W) => specPutText o.frm v o.out _ W h (hO.below hb) (by omega)
      rw [← hd2] at hc
      have x7 := bx.cell (j := 7) rfl
      have x8 := bx.cell (j := 8) rfl
      have HX8 := hide (fun W (hb : Below wa.heap.size wa W) => (bx.step hb).cell (j := 8) rfl)
      have HC := hide hc
      have HC1 := hide hc1
      have HFB := hide (fun W (hb : Below wa.heap.size wa W) => (hF.below hb).rdcT)
      have e0 : (o.kind == 0) = false := by simp [hk0]
      have e1 : (o.kind == 1) = false := by simp [hk1]
      clear bx ba hs h0 h3 h4 h5 h6 h7 h8 hT hD hF hO hm hd2 hc hok hby heb hc1
      go_enter Tryd.func32, Tryd.ntmps32
      go_upto_region 6 with (fail)
      go_region_law (first
        | (refine step_rowapp rfl rfl (Row.lit0D _ _ _ (by decide)) (HFB.out _ (belNewD _ _)) (lies_nums _ _ _) (far0 _) rfl rfl Tryd.underlying22 inf_u8 rfl (by decide) (by decide) ?_ (lowNewD _ _) ?_; omega; intro v1 w1 R1 B1 g1; have r1 := R1.clone.raw; have b1 := (belNewD wa (.cells #[] 5)).trans B1; have x81 := HX8.out w1 b1; clear R1 g1 B1)
        | (go_simp; go_at_call 64; refine (HC1.out v1 w1 r1 b1).mono ?_; rintro e w2 ⟨v2, rfl, o2, b2⟩; have r2 := o2.rd)
        | (go_simp; go_at_call 46; refine (HC.out v2 w2 r2).mono ?_; rintro e w3 ⟨v3, rfl, o3, b3⟩))
      all_goals
        have HB3 := hide (HBA.out.trans ((b1.trans ((b2.trans (b3.mono b2.size)).mono b1.size)).mono HBA.out.size))
        have HO3 := hide (o3.wide (Nat.le_trans (Nat.le_of_lt hz) (Nat.le_trans b1.size b2.size)) (Nat.le_refl _) (Nat.le_refl _))
        clear b1 b2 b3 o2 o3 r1 r2
        go_wp2
        go_ret
        exact ⟨_, rfl, HO3.out, HB3.out⟩

end Go.Proofs.YtigklnokgmcifaaDoor
