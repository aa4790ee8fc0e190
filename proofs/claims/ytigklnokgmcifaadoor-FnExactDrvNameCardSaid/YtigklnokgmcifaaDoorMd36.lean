/-
  Parts of the proof: DrvI.
-/
import Derived.Test.YtigklnokgmcifaaDoorMd35
import Derived.Test.YtigklnokgmcifaaDoorMd31
import Derived.Test.YtigklnokgmcifaaDoorMd32
import Derived.Test.YtigklnokgmcifaaDoorMd34
import Derived.Test.YtigklnokgmcifaaDoorMd19
import Derived.Test.YtigklnokgmcifaaDoorMd10
import Derived.Laws.BytesArg
import Derived.IntWalk
import Derived.Deep.QuietTactic
import Derived.BigQuiet
import Derived.Deep.Cut
import Derived.Deep.DeepCutAuto
import Derived.Deep.CutBlock
import Derived.Deep.RegionWith

/-
  The program's srcsOk and outsOk.
-/
namespace Go.Proofs.YtigklnokgmcifaaDoor
open Go.RowKit
set_option linter.unusedVariables false
set_option linter.unusedSimpArgs false

theorem implSorted (ns : List (List Int)) (hB : BytN ns) (v : Value) (w : World) (hv : RdN w v ns) (hlen : ∀ l ∈ ns, l.length ≤ 1048576) :
    Calls Tryd.prog 101 #[v] w fun e w' => e = .returned (.bool (ascP nameOk ns)) ∧ Below w.heap.size w w' := by
  have HA := hide (ascendN ns hB v w hv hlen)
  clear hv
  go_enter Tryd.func101, Tryd.ntmps101
  go_wp2_with fail
  refine HA.out.mono ?_
  rintro e w1 ⟨rfl, b1⟩
  have HB := hide b1
  clear b1
  go_wp2_with fail
  go_ret
  exact ⟨rfl, HB.out⟩

def srcsOk (d : DDrv) : Bool := decide (d.srcs.length ≤ 3) && (ascP nameOk d.srcs && (decide (d.ins.length ≤ 3) && insOk d.ins))
def outsOk (d : DDrv) : Bool := decide (1 ≤ d.outs.length ∧ d.outs.length ≤ 2) && (ascP entryOk d.outs && (decide (d.ops.length ≤ 8) && d.ops.all (fun o => opOk o d.outs.length)))
theorem drvOk_two (d : DDrv) : drvOk d = (srcsOk d && (outsOk d && decide ((drvEnc d).length ≤ 400))) := by
  rw [Bool.eq_iff_iff]
  unfold drvOk drvTop srcsOk outsOk
  simp only [Bool.and_eq_true, decide_eq_true_eq]
  constructor
  · rintro ⟨⟨⟨h1, h2, h3, h4, h5⟩, h6⟩, h7, h8, h9, h10⟩
    exact ⟨⟨h1, h6, h2, h7⟩, ⟨⟨h3, h4⟩, h8, h5, h9⟩, h10⟩
  · rintro ⟨⟨h1, h6, h2, h7⟩, ⟨⟨h3, h4⟩, h8, h5, h9⟩, h10⟩
    exact ⟨⟨⟨h1, h2, h3, h4, h5⟩, h6⟩, h7, h8, h9, h10⟩

set_option maxRecDepth 20000 in
set_option maxHeartbeats 6400000 in
theorem implSrcsOk (d : DDrv) (hok : oks d.cells) (hbk : bulks d.cells ≤ 1048576) (us : List Value) (w : World) (hs : Ins w d.cells us) :
    Calls Tryd.prog 82 #[.agg us.toArray] w fun e w' => e = .returned (.bool (srcsOk d)) ∧ Below w.heap.size w w' := by
  have hsx := hs
  obtain ⟨A0, c0, A1, c1, A2, c2, A3, c3, rfl, h0, h1, h2, h3⟩ := DDrv.view hs
  obtain ⟨wa, hwa⟩ : ∃ wa, w.alloc (.cells #[.slice A0 d.srcs.length c0, .slice A1 d.ins.length c1, .slice A2 d.outs.length c2, .slice A3 d.ops.length c3] 49) = wa := ⟨_, rfl⟩
  have ba : Below w.heap.size w wa := by rw [← hwa]; exact (Below.refl _ _).alloc (Nat.le_refl _) _
  have bx : Box wa w.heap.size 49 [.slice A0 d.srcs.length c0, .slice A1 d.ins.length c1, .slice A2 d.outs.length c2, .slice A3 d.ops.length c3] := by rw [← hwa]; exact Box.new w _ _
  have hz : w.heap.size < wa.heap.size := bx.lt
  obtain ⟨ok0, ok1, ok2, ok3⟩ := (DDrv.oks_iff d).1 hok
  have hbl := bulk_Drv d
  have g0 := h0.step ba
  have g1 := h1.step ba
  have g2 := h2.step ba
  have g3 := h3.step ba
  have hl0 : ∀ n ∈ d.srcs, n.length ≤ 1048576 := fun n hn => by have := sumLen_mem2 hn; omega
  have hbi : ∀ x ∈ d.ins, x.drv.length + x.out.length ≤ 1048576 := fun x hx => by
    have h1 := bulks_mem (f := DIn.cells) hx
    have h2 := bulk_In x
    omega
  have hbo : ∀ x ∈ d.ops, x.name.length + x.text.length ≤ 1048576 := fun x hx => by
    have h1 := bulks_mem (f := DOp.cells) hx
    have h2 := bulk_Op x
    omega
  have x0 := bx.cell (j := 0) rfl
  have x1 := bx.cell (j := 1) rfl
  have x2 := bx.cell (j := 2) rfl
  have x3 := bx.cell (j := 3) rfl
  have HX := hide (fun W (hb : Below wa.heap.size wa W) => (bx.step hb))
  have HBA := hide ba
  obtain ⟨N0, hN0⟩ : ∃ n, d.srcs.length = n := ⟨_, rfl⟩
  obtain ⟨N1, hN1⟩ : ∃ n, d.ins.length = n := ⟨_, rfl⟩
  obtain ⟨N2, hN2⟩ : ∃ n, d.outs.length = n := ⟨_, rfl⟩
  obtain ⟨N3, hN3⟩ : ∃ n, d.ops.length = n := ⟨_, rfl⟩
  have b0 : N0 ≤ 1048576 := by omega
  have b1_ : N1 ≤ 1048576 := by omega
  have b2_ : N2 ≤ 1048576 := by omega
  have b3_ : N3 ≤ 1048576 := by omega
  rw [hN0] at x0 g0
  rw [hN1] at x1 g1
  rw [hN2] at x2 g2
  rw [hN3] at x3 g3
  simp only [hN0, hN1, hN2, hN3] at hwa HX ⊢
  have hd : srcsOk d = (decide (N0 ≤ 3) && (ascP nameOk d.srcs && (decide (N1 ≤ 3) && insOk d.ins))) := by rw [← hN0, ← hN1]; rfl
  have HSO := hide (fun W (hb : Below wa.heap.size wa W) => implSorted d.srcs ok0 _ W ((g0.step hb).rdN) hl0)
  have HAI := hide (fun W (hb : Below wa.heap.size wa W) => ascendI d.ins ok1 hbi _ N1 _ hN1 b1_ W (g1.step hb))
  have HD := hide hd
  generalize ascP nameOk d.srcs = SB at *
  generalize insOk d.ins = IB at *
  clear hd bx ba hok hs hsx h0 h1 h2 h3 g0 g1 g2 g3 hbl hbk hN0 hN1 hN2 hN3 ok0 ok1 ok2 ok3 hl0 hbi hbo
  go_enter Tryd.func82, Tryd.ntmps82
  cases SB <;> cases IB
  all_goals
    go_wp2_with (first
      | (go_at_call 101; refine (HSO.out _ (Below.refl _ _)).mono ?_; rintro e w1 ⟨rfl, b1⟩; have HB1 := hide b1; have y1 := (HX.out w1 b1).cell (j := 1) rfl; clear b1)
      | (go_at_call 109; refine (HAI.out _ HB1.out).mono ?_; rintro e w2 ⟨rfl, b2⟩; have HB2 := hide (HB1.out.trans (b2.mono HB1.out.size)); clear b2))
    all_goals
      have hd := HD.out
      first
        | (have HZ := HB2; clear HB2; go_ret; exact ⟨ret_bool (by rw [hd]; simp <;> first | omega | (rw [Bool.eq_iff_iff]; simp; omega)), HBA.out.trans (HZ.out.mono HBA.out.size)⟩)
        | (have HZ := HB1; clear HB1; go_ret; exact ⟨ret_bool (by rw [hd]; simp <;> first | omega | (rw [Bool.eq_iff_iff]; simp; omega)), HBA.out.trans (HZ.out.mono HBA.out.size)⟩)
        | (go_ret; exact ⟨ret_bool (by rw [hd]; simp <;> first | omega | (rw [Bool.eq_iff_iff]; simp; omega)), HBA.out⟩)

set_option maxRecDepth 20000 in
set_option maxHeartbeats 6400000 in
theorem implOutsOk (d : DDrv) (hok : oks d.cells) (hbk : bulks d.cells ≤ 1048576) (us : List Value) (w : World) (hs : Ins w d.cells us) :
    Calls Tryd.prog 83 #[.agg us.toArray] w fun e w' => e = .returned (.bool (outsOk d)) ∧ Below w.heap.size w w' := by
  have hsx := hs
  obtain ⟨A0, c0, A1, c1, A2, c2, A3, c3, rfl, h0, h1, h2, h3⟩ := DDrv.view hs
  obtain ⟨wa, hwa⟩ : ∃ wa, w.alloc (.cells #[.slice A0 d.srcs.length c0, .slice A1 d.ins.length c1, .slice A2 d.outs.length c2, .slice A3 d.ops.length c3] 49) = wa := ⟨_, rfl⟩
  have ba : Below w.heap.size w wa := by rw [← hwa]; exact (Below.refl _ _).alloc (Nat.le_refl _) _
  have bx : Box wa w.heap.size 49 [.slice A0 d.srcs.length c0, .slice A1 d.ins.length c1, .slice A2 d.outs.length c2, .slice A3 d.ops.length c3] := by rw [← hwa]; exact Box.new w _ _
  have hz : w.heap.size < wa.heap.size := bx.lt
  obtain ⟨ok0, ok1, ok2, ok3⟩ := (DDrv.oks_iff d).1 hok
  have hbl := bulk_Drv d
  have g0 := h0.step ba
  have g1 := h1.step ba
  have g2 := h2.step ba
  have g3 := h3.step ba
  have hl0 : ∀ n ∈ d.srcs, n.length ≤ 1048576 := fun n hn => by have := sumLen_mem2 hn; omega
  have hbi : ∀ x ∈ d.ins, x.drv.length + x.out.length ≤ 1048576 := fun x hx => by
    have h1 := bulks_mem (f := DIn.cells) hx
    have h2 := bulk_In x
    omega
  have hbo : ∀ x ∈ d.ops, x.name.length + x.text.length ≤ 1048576 := fun x hx => by
    have h1 := bulks_mem (f := DOp.cells) hx
    have h2 := bulk_Op x
    omega
  have x0 := bx.cell (j := 0) rfl
  have x1 := bx.cell (j := 1) rfl
  have x2 := bx.cell (j := 2) rfl
  have x3 := bx.cell (j := 3) rfl
  have HX := hide (fun W (hb : Below wa.heap.size wa W) => (bx.step hb))
  have HBA := hide ba
  obtain ⟨N0, hN0⟩ : ∃ n, d.srcs.length = n := ⟨_, rfl⟩
  obtain ⟨N1, hN1⟩ : ∃ n, d.ins.length = n := ⟨_, rfl⟩
  obtain ⟨N2, hN2⟩ : ∃ n, d.outs.length = n := ⟨_, rfl⟩
  obtain ⟨N3, hN3⟩ : ∃ n, d.ops.length = n := ⟨_, rfl⟩
  have b0 : N0 ≤ 1048576 := by omega
  have b1_ : N1 ≤ 1048576 := by omega
  have b2_ : N2 ≤ 1048576 := by omega
  have b3_ : N3 ≤ 1048576 := by omega
  rw [hN0] at x0 g0
  rw [hN1] at x1 g1
  rw [hN2] at x2 g2
  rw [hN3] at x3 g3
  simp only [hN0, hN1, hN2, hN3] at hwa HX ⊢
  have hd : outsOk d = (decide (1 ≤ N2 ∧ N2 ≤ 2) && (ascP entryOk d.outs && (decide (N3 ≤ 8) && d.ops.all (fun o => opOk o N2)))) := by rw [← hN2, ← hN3]; rfl
  have HSO := hide (fun W (hb : Below wa.heap.size wa W) => ascendE d.outs ok2 _ W ((g2.step hb).rdN))
  have HD := hide hd
  have HG3 := hide g3
  have HN3 := hide hN3
  have HN2 := hide hN2
  have OK3 := hide ok3
  have HBO := hide hbo
  generalize ascP entryOk d.outs = SB at *
  clear hd bx ba hok hs hsx h0 h1 h2 h3 g0 g1 g2 g3 hbl hbk hN0 hN1 hN2 hN3 ok0 ok1 ok2 ok3 hl0 hbi hbo
  go_enter Tryd.func83, Tryd.ntmps83
  obtain ⟨T, hT⟩ : ∃ T, (decide (1 ≤ N2 ∧ N2 ≤ 2) && (SB && decide (N3 ≤ 8))) = T := ⟨_, rfl⟩
  have HT := hide hT
  clear hT
  go_upto_region 1 with (fail)
  go_cut [26] (fun v wx => v = .bool (!T) ∧ Hid (Below wa.heap.size wa wx))
  case first =>
    cases SB <;>
    · go_wp2_with (go_at_call 98; refine (HSO.out _ (Below.refl _ _)).mono ?_; rintro e w1 ⟨rfl, b1⟩; have HB1 := hide b1; have y3 := (HX.out w1 b1).cell (j := 3) rfl; clear b1)
      all_goals
        have hte := HT.out
        first
          | (have HBZ := HB1; clear HB1; go_meet; exact ⟨by rw [← hte]; simp <;> first | omega | (rw [Bool.eq_iff_iff]; simp; omega), HBZ⟩)
          | (go_meet; exact ⟨by rw [← hte]; simp <;> first | omega | (rw [Bool.eq_iff_iff]; simp; omega), hide (Below.refl _ _)⟩)
  case rest =>
    obtain ⟨hv, HB⟩ := hcut
    clear HSO x0 x1 x2 x3
    have HR := hide (show outsOk d = (T && d.ops.all (fun o => opOk o N2)) by rw [HD.out, ← HT.out]; simp only [Bool.and_assoc])
    have hN22 : T = true → N2 ≤ 2 := fun h => by
      rw [← HT.out, Bool.and_eq_true, decide_eq_true_eq] at h
      exact h.1.2
    clear HT HD
    cases T with
    | false =>
      rw [Bool.not_false] at hv
      subst hv
      have HF := hide (show outsOk d = false by rw [HR.out]; rfl)
      go_wp2_with fail
      go_ret
      exact ⟨ret_bool HF.out.symm, HBA.out.trans (HB.out.mono HBA.out.size)⟩
    | true =>
      rw [Bool.not_true] at hv
      subst hv
      have hN2b := hN22 rfl
      have HR2 := hide (show outsOk d = d.ops.all (fun o => opOk o N2) by rw [HR.out]; rfl)
      clear HR hN22
      have z3 := (HX.out _ HB.out).cell (j := 3) rfl
      go_wp2_with fail
      go_loopw [30] (fun i wr => ∃ k : Nat, k ≤ N3 ∧ i = .int .i64 k ∧ Hid (∀ m (h : m < d.ops.length), m < k → opOk d.ops[m] N2 = true) ∧ Hid (Below wa.heap.size wa wr)) (fun i _ => N3 - (intOf i).toNat)
      case atStart => exact ⟨0, Nat.zero_le _, rfl, hide (fun m _ hm => by omega), HB⟩
      case round =>
        clear HB z3
        obtain ⟨k, hk, rfl, HXX, HB⟩ := hrel
        by_cases hlt : k < N3
        · have hk2 : k < d.ops.length := by rw [HN3.out]; exact hlt
          have k1 : (k : Int) < (N3 : Int) := by omega
          obtain ⟨b, of, cc, B2, d2, B3, d3, -, e, l, q0, q1, q2, q3, q4, i2_, i3_⟩ := DOp.elem HG3.out HB.out hk2
          obtain rfl := e rfl
          have hok_ := OK3.out _ (List.getElem_mem hk2)
          have hle_ := HBO.out _ (List.getElem_mem hk2)
          obtain ⟨C, hC⟩ : ∃ C, opOk d.ops[k] N2 = C := ⟨_, rfl⟩
          have hop := fun W (hb : Below wa.heap.size wa W) => hC ▸ implOpOk d.ops[k] N2 hok_ (by omega) (by omega) _ W (DOp.lay (i2_.step hb) (i3_.step hb))
          obtain ⟨wi, hwi⟩ : ∃ W, wr.alloc (.cells #[.int .i64 (d.ops[k]).code, .int .i64 (d.ops[k]).out, .slice B2 (d.ops[k]).name.length d2, .slice B3 (d.ops[k]).text.length d3, .int .i64 (d.ops[k]).arg] 106) = W := ⟨_, rfl⟩
          have hbw : Below wr.heap.size wr wi := by rw [← hwi]; exact (Below.refl _ _).alloc (Nat.le_refl _) _
          have hbx : Box wi wr.heap.size 106 [.int .i64 (d.ops[k]).code, .int .i64 (d.ops[k]).out, .slice B2 (d.ops[k]).name.length d2, .slice B3 (d.ops[k]).text.length d3, .int .i64 (d.ops[k]).arg] := by rw [← hwi]; exact Box.new wr _ _
          have HBW := hide (HB.out.trans (hbw.mono HB.out.size))
          have p0 := hbx.cell (j := 0) rfl
          have p1 := hbx.cell (j := 1) rfl
          have p2 := hbx.cell (j := 2) rfl
          have p3 := hbx.cell (j := 3) rfl
          have p4 := hbx.cell (j := 4) rfl
          have s2_ := (HX.out _ HBW.out).cell (j := 2) rfl
          have HOP := hide (hop _ HBW.out)
          have HCC := hide hC
          clear hC hop hok_ hle_ i2_ i3_ hbw hbx
          go_wp2_with fail
          refine HOP.out.mono ?_
          rintro e w7 ⟨rfl, b7⟩
          have HB7 := hide (HBW.out.trans (b7.mono HBW.out.size))
          clear b7 p0 p1 p2 p3 p4 s2_ q0 q1 q2 q3 q4
          cases C with
          | true =>
            go_wp2_with fail
            go_roundw
            case rel => exact ⟨k + 1, by omega, by go_num, hide (fun m h hm => by
              rcases Nat.lt_or_ge m k with h' | h'
              · exact HXX.out m h h'
              · obtain rfl : m = k := by omega
                exact HCC.out), HB7⟩
            case measure => simp [intOf]; omega
          | false =>
            have HF := hide (show outsOk d = false by
              rw [HR2.out]
              exact Bool.eq_false_iff.2 fun h => by
                have := List.all_eq_true.1 h _ (List.getElem_mem hk2)
                rw [HCC.out] at this
                cases this)
            go_wp2_with fail
            go_ret
            exact ⟨ret_bool HF.out.symm, HBA.out.trans (HB7.out.mono HBA.out.size)⟩
        · obtain rfl : k = N3 := by omega
          have HIT := hide (show outsOk d = true by
            rw [HR2.out]
            exact List.all_eq_true.2 fun x hx => by
              obtain ⟨m, hm, rfl⟩ := List.getElem_of_mem hx
              exact HXX.out m hm (by rw [HN3.out] at hm; exact hm))
          go_wp2
          go_ret
          exact ⟨ret_bool HIT.out.symm, HBA.out.trans (HB.out.mono HBA.out.size)⟩

end Go.Proofs.YtigklnokgmcifaaDoor
