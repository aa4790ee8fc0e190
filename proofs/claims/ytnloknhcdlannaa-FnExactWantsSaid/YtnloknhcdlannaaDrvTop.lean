
/-
  Merged: DrvI, DrvB.
-/
import Derived.Test.YtnloknhcdlannaaAscAll
import Derived.Test.YtnloknhcdlannaaOp5J
import Derived.Test.YtnloknhcdlannaaDrvOkP
import Derived.Test.YtnloknhcdlannaaDElem
import Derived.Laws.BytesArg
import Derived.IntWalk
import Derived.Deep.QuietTactic
import Derived.BigQuiet
import Derived.Deep.Cut
import Derived.Deep.DeepCutAuto
import Derived.Deep.CutBlock
import Derived.Deep.RegionWith
import Derived.Test.YtnloknhcdlannaaDrvC
import Derived.Test.YtnloknhcdlannaaDrvOkS
import Derived.Test.YtnloknhcdlannaaDrvE

namespace Go.Proofs.Ytnloknhcdlannaa
open Go.RowKit
set_option linter.unusedVariables false
set_option linter.unusedSimpArgs false

theorem implSorted (ns : List (List Int)) (hB : BytN ns) (v : Value) (w : World) (hv : RdN w v ns) (hlen : ∀ l ∈ ns, l.length ≤ 1048576) :
    Calls Try.prog 78 #[v] w fun e w' => e = .returned (.bool (ascP nameOk ns)) ∧ Below w.heap.size w w' := by
  have HA := hide (ascendN ns hB v w hv hlen)
  clear hv
  go_enter Try.func78, Try.ntmps78
  go_wp2_with fail
  refine HA.out.mono ?_
  rintro e w1 ⟨rfl, b1⟩
  have HB := hide b1
  clear b1
  go_wp2_with fail
  go_ret
  exact ⟨rfl, HB.out⟩

def srcsOk (d : DDrv) : Bool := decide (d.srcs.length ≤ 3) && (ascP nameOk d.srcs && (decide (d.ins.length ≤ 3) && insOk d.ins))
def outsOk (d : DDrv) : Bool := decide (1 ≤ d.outs.length ∧ d.outs.length ≤ 2) && (ascP entryOk d.outs && (decide (d.ops.length ≤ 8) && d.ops.all (fun o => opOk o d.outs.length)))
theorem drvOk_two (d : DDrv) : drvOk d = (srcsOk d && (outsOk d && decide ((drvEnc d).length ≤ 400))) := by
  rw [Bool.eq_iff_iff]
  unfold drvOk drvTop srcsOk outsOk
  simp only [Bool.and_eq_true, decide_eq_true_eq]
  constructor
  · rintro ⟨⟨⟨h1, h2, h3, h4, h5⟩, h6⟩, h7, h8, h9, h10⟩
    exact ⟨⟨h1, h6, h2, h7⟩, ⟨⟨h3, h4⟩, h8, h5, h9⟩, h10⟩
  · rintro ⟨⟨h1, h6, h2, h7⟩, ⟨⟨h3, h4⟩, h8, h5, h9⟩, h10⟩
    exact ⟨⟨⟨h1, h2, h3, h4, h5⟩, h6⟩, h7, h8, h9, h10⟩

set_option maxRecDepth 20000 in
set_option maxHeartbeats 6400000 in
theorem implSrcsOk (d : DDrv) (hok : oks d.cells) (hbk : bulks d.cells ≤ 1048576) (us : List Value) (w : World) (hs : Ins w d.cells us) :
    Calls Try.prog 53 #[.agg us.toArray] w fun e w' => e = .returned (.bool (srcsOk d)) ∧ Below w.heap.size w w' := by
  have hsx := hs
  obtain ⟨A0, c0, A1, c1, A2, c2, A3, c3, rfl, h0, h1, h2, h3⟩ := DDrv.view hs
  obtain ⟨wa, hwa⟩ : ∃ wa, w.alloc (.cells #[.slice A0 d.srcs.length c0, .slice A1 d.ins.length c1, .slice A2 d.outs.length c2, .slice A3 d.ops.length c3] 41) = wa := ⟨_, rfl⟩
  have ba : Below w.heap.size w wa := by rw [← hwa]; exact (Below.refl _ _).alloc (Nat.le_refl _) _
  have bx : Box wa w.heap.size 41 [.slice A0 d.srcs.length c0, .slice A1 d.ins.length c1, .slice A2 d.outs.length c2, .slice A3 d.ops.length c3] := by rw [← hwa]; exact Box.new w _ _
  have hz : w.heap.size < wa.heap.size := bx.lt
  obtain ⟨ok0, ok1, ok2, ok3⟩ := (DDrv.oks_iff d).1 hok
  have hbl := bulk_Drv d
  have g0 := h0.step ba
  have g1 := h1.step ba
  have g2 := h2.step ba
  have g3 := h3.step ba
  have hl0 : ∀ n ∈ d.srcs, n.length ≤ 1048576 := fun n hn => by have := sumLen_mem2 hn; omega
  have hbi : ∀ x ∈ d.ins, x.drv.length + x.out.length ≤ 1048576 := fun x hx => by
    have h1 := bulks_mem (f := DIn.cells) hx
    have h2 := bulk_In x
    omega
  have hbo : ∀ x ∈ d.ops, x.name.length + x.text.length ≤ 1048576 := fun x hx => by
    have h1 := bulks_mem (f := DOp.cells) hx
    have h2 := bulk_Op x
    omega
  have x0 := bx.cell (j := 0) rfl
  have x1 := bx.cell (j := 1) rfl
  have x2 := bx.cell (j := 2) rfl
  have x3 := bx.cell (j := 3) rfl
  have HX := hide (fun W (hb : Below wa.heap.size wa W) => (bx.step hb))
  have HBA := hide ba
  obtain ⟨N0, hN0⟩ : ∃ n, d.srcs.length = n := ⟨_, rfl⟩
  obtain ⟨N1, hN1⟩ : ∃ n, d.ins.length = n := ⟨_, rfl⟩
  obtain ⟨N2, hN2⟩ : ∃ n, d.outs.length = n := ⟨_, rfl⟩
  obtain ⟨N3, hN3⟩ : ∃ n, d.ops.length = n := ⟨_, rfl⟩
  have b0 : N0 ≤ 1048576 := by omega
  have b1_ : N1 ≤ 1048576 := by omega
  have b2_ : N2 ≤ 1048576 := by omega
  have b3_ : N3 ≤ 1048576 := by omega
  rw [hN0] at x0 g0
  rw [hN1] at x1 g1
  rw [hN2] at x2 g2
  rw [hN3] at x3 g3
  simp only [hN0, hN1, hN2, hN3] at hwa HX ⊢
  have hd : srcsOk d = (decide (N0 ≤ 3) && (ascP nameOk d.srcs && (decide (N1 ≤ 3) && insOk d.ins))) := by rw [← hN0, ← hN1]; rfl
  have HSO := hide (fun W (hb : Below wa.heap.size wa W) => implSorted d.srcs ok0 _ W ((g0.step hb).rdN) hl0)
  have HAI := hide (fun W (hb : Below wa.heap.size wa W) => ascendI d.ins ok1 hbi _ N1 _ hN1 b1_ W (g1.step hb))
  have HD := hide hd
  generalize ascP nameOk d.srcs = SB at *
  generalize insOk d.ins = IB at *
  clear hd bx ba hok hs hsx h0 h1 h2 h3 g0 g1 g2 g3 hbl hbk hN0 hN1 hN2 hN3 ok0 ok1 ok2 ok3 hl0 hbi hbo
  go_enter Try.func53, Try.ntmps53
  cases SB <;> cases IB
  all_goals
    go_wp2_with (first
      | (go_at_call 78; refine (HSO.out _ (Below.refl _ _)).mono ?_; rintro e w1 ⟨rfl, b1⟩; have HB1 := hide b1; have y1 := (HX.out w1 b1).cell (j := 1) rfl; clear b1)
      | (go_at_call 79; refine (HAI.out _ HB1.out).mono ?_; rintro e w2 ⟨rfl, b2⟩; have HB2 := hide (HB1.out.trans (b2.mono HB1.out.size)); clear b2))
    all_goals
      have hd := HD.out
      first
        | (have HZ := HB2; clear HB2; go_ret; exact ⟨ret_bool (by rw [hd]; simp <;> first | omega | (rw [Bool.eq_iff_iff]; simp; omega)), HBA.out.trans (HZ.out.mono HBA.out.size)⟩)
        | (have HZ := HB1; clear HB1; go_ret; exact ⟨ret_bool (by rw [hd]; simp <;> first | omega | (rw [Bool.eq_iff_iff]; simp; omega)), HBA.out.trans (HZ.out.mono HBA.out.size)⟩)
        | (go_ret; exact ⟨ret_bool (by rw [hd]; simp <;> first | omega | (rw [Bool.eq_iff_iff]; simp; omega)), HBA.out⟩)

set_option maxRecDepth 20000 in
set_option maxHeartbeats 6400000 in
theorem implOutsOk (d : DDrv) (hok : oks d.cells) (hbk : bulks d.cells ≤ 1048576) (us : List Value) (w : World) (hs : Ins w d.cells us) :
    Calls Try.prog 54 #[.agg us.toArray] w fun e w' => e = .returned (.bool (outsOk d)) ∧ Below w.heap.size w w' := by
  have hsx := hs
  obtain ⟨A0, c0, A1, c1, A2, c2, A3, c3, rfl, h0, h1, h2, h3⟩ := DDrv.view hs
  obtain ⟨wa, hwa⟩ : ∃ wa, w.alloc (.cells #[.slice A0 d.srcs.length c0, .slice A1 d.ins.length c1, .slice A2 d.outs.length c2, .slice A3 d.ops.length c3] 41) = wa := ⟨_, rfl⟩
  have ba : Below w.heap.size w wa := by rw [← hwa]; exact (Below.refl _ _).alloc (Nat.le_refl _) _
  have bx : Box wa w.heap.size 41 [.slice A0 d.srcs.length c0, .slice A1 d.ins.length c1, .slice A2 d.outs.length c2, .slice A3 d.ops.length c3] := by rw [← hwa]; exact Box.new w _ _
  have hz : w.heap.size < wa.heap.size := bx.lt
  obtain ⟨ok0, ok1, ok2, ok3⟩ := (DDrv.oks_iff d).1 hok
  have hbl := bulk_Drv d
  have g0 := h0.step ba
  have g1 := h1.step ba
  have g2 := h2.step ba
  have g3 := h3.step ba
  have hl0 : ∀ n ∈ d.srcs, n.length ≤ 1048576 := fun n hn => by have := sumLen_mem2 hn; omega
  have hbi : ∀ x ∈ d.ins, x.drv.length + x.out.length ≤ 1048576 := fun x hx => by
    have h1 := bulks_mem (f := DIn.cells) hx
    have h2 := bulk_In x
    omega
  have hbo : ∀ x ∈ d.ops, x.name.length + x.text.length ≤ 1048576 := fun x hx => by
    have h1 := bulks_mem (f := DOp.cells) hx
    have h2 := bulk_Op x
    omega
  have x0 := bx.cell (j := 0) rfl
  have x1 := bx.cell (j := 1) rfl
  have x2 := bx.cell (j := 2) rfl
  have x3 := bx.cell (j := 3) rfl
  have HX := hide (fun W (hb : Below wa.heap.size wa W) => (bx.step hb))
  have HBA := hide ba
  obtain ⟨N0, hN0⟩ : ∃ n, d.srcs.length = n := ⟨_, rfl⟩
  obtain ⟨N1, hN1⟩ : ∃ n, d.ins.length = n := ⟨_, rfl⟩
  obtain ⟨N2, hN2⟩ : ∃ n, d.outs.length = n := ⟨_, rfl⟩
  obtain ⟨N3, hN3⟩ : ∃ n, d.ops.length = n := ⟨_, rfl⟩
  have b0 : N0 ≤ 1048576 := by omega
  have b1_ : N1 ≤ 1048576 := by omega
  have b2_ : N2 ≤ 1048576 := by omega
  have b3_ : N3 ≤ 1048576 := by omega
  rw [hN0] at x0 g0
  rw [hN1] at x1 g1
  rw [hN2] at x2 g2
  rw [hN3] at x3 g3
  simp only [hN0, hN1, hN2, hN3] at hwa HX ⊢
  have hd : outsOk d = (decide (1 ≤ N2 ∧ N2 ≤ 2) && (ascP entryOk d.outs && (decide (N3 ≤ 8) && d.ops.all (fun o => opOk o N2)))) := by rw [← hN2, ← hN3]; rfl
  have HSO := hide (fun W (hb : Below wa.heap.size wa W) => ascendE d.outs ok2 _ W ((g2.step hb).rdN))
  have HD := hide hd
  have HG3 := hide g3
  have HN3 := hide hN3
  have HN2 := hide hN2
  have OK3 := hide ok3
  have HBO := hide hbo
  generalize ascP entryOk d.outs = SB at *
  clear hd bx ba hok hs hsx h0 h1 h2 h3 g0 g1 g2 g3 hbl hbk hN0 hN1 hN2 hN3 ok0 ok1 ok2 ok3 hl0 hbi hbo
  go_enter Try.func54, Try.ntmps54
  obtain ⟨T, hT⟩ : ∃ T, (decide (1 ≤ N2 ∧ N2 ≤ 2) && (SB && decide (N3 ≤ 8))) = T := ⟨_, rfl⟩
  have HT := hide hT
  clear hT
  go_upto_region 1 with (fail)
  go_cut [26] (fun v wx => v = .bool (!T) ∧ Hid (Below wa.heap.size wa wx))
  case first =>
    cases SB <;>
    · go_wp2_with (go_at_call 82; refine (HSO.out _ (Below.refl _ _)).mono ?_; rintro e w1 ⟨rfl, b1⟩; have HB1 := hide b1; have y3 := (HX.out w1 b1).cell (j := 3) rfl; clear b1)
      all_goals
        have hte := HT.out
        first
          | (have HBZ := HB1; clear HB1; go_meet; exact ⟨by rw [← hte]; simp <;> first | omega | (rw [Bool.eq_iff_iff]; simp; omega), HBZ⟩)
          | (go_meet; exact ⟨by rw [← hte]; simp <;> first | omega | (rw [Bool.eq_iff_iff]; simp; omega), hide (Below.refl _ _)⟩)
  case rest =>
    obtain ⟨hv, HB⟩ := hcut
    clear HSO x0 x1 x2 x3
    have HR := hide (show outsOk d = (T && d.ops.all (fun o => opOk o N2)) by rw [HD.out, ← HT.out]; simp only [Bool.and_assoc])
    have hN22 : T = true → N2 ≤ 2 := fun h => by
      rw [← HT.out, Bool.and_eq_true, decide_eq_true_eq] at h
      exact h.1.2
    clear HT HD
    cases T with
    | false =>
      rw [Bool.not_false] at hv
      subst hv
      have HF := hide (show outsOk d = false by rw [HR.out]; rfl)
      go_wp2_with fail
      go_ret
      exact ⟨ret_bool HF.out.symm, HBA.out.trans (HB.out.mono HBA.out.size)⟩
    | true =>
      rw [Bool.not_true] at hv
      subst hv
      have hN2b := hN22 rfl
      have HR2 := hide (show outsOk d = d.ops.all (fun o => opOk o N2) by rw [HR.out]; rfl)
      clear HR hN22
      have z3 := (HX.out _ HB.out).cell (j := 3) rfl
      go_wp2_with fail
      go_loopw [30] (fun i wr => ∃ k : Nat, k ≤ N3 ∧ i = .int .i64 k ∧ Hid (∀ m (h : m < d.ops.length), m < k → opOk d.ops[m] N2 = true) ∧ Hid (Below wa.heap.size wa wr)) (fun i _ => N3 - (intOf i).toNat)
      case atStart => exact ⟨0, Nat.zero_le _, rfl, hide (fun m _ hm => by omega), HB⟩
      case round =>
        clear HB z3
        obtain ⟨k, hk, rfl, HXX, HB⟩ := hrel
        by_cases hlt : k < N3
        · have hk2 : k < d.ops.length := by rw [HN3.out]; exact hlt
          have k1 : (k : Int) < (N3 : Int) := by omega
          obtain ⟨b, of, cc, B2, d2, B3, d3, -, e, l, q0, q1, q2, q3, q4, i2_, i3_⟩ := DOp.elem HG3.out HB.out hk2
          obtain rfl := e rfl
          have hok_ := OK3.out _ (List.getElem_mem hk2)
          have hle_ := HBO.out _ (List.getElem_mem hk2)
          obtain ⟨C, hC⟩ : ∃ C, opOk d.ops[k] N2 = C := ⟨_, rfl⟩
          have hop := fun W (hb : Below wa.heap.size wa W) => hC ▸ implOpOk d.ops[k] N2 hok_ (by omega) (by omega) _ W (DOp.lay (i2_.step hb) (i3_.step hb))
          obtain ⟨wi, hwi⟩ : ∃ W, wr.alloc (.cells #[.int .i64 (d.ops[k]).code, .int .i64 (d.ops[k]).out, .slice B2 (d.ops[k]).name.length d2, .slice B3 (d.ops[k]).text.length d3, .int .i64 (d.ops[k]).arg] 27) = W := ⟨_, rfl⟩
          have hbw : Below wr.heap.size wr wi := by rw [← hwi]; exact (Below.refl _ _).alloc (Nat.le_refl _) _
          have hbx : Box wi wr.heap.size 27 [.int .i64 (d.ops[k]).code, .int .i64 (d.ops[k]).out, .slice B2 (d.ops[k]).name.length d2, .slice B3 (d.ops[k]).text.length d3, .int .i64 (d.ops[k]).arg] := by rw [← hwi]; exact Box.new wr _ _
          have HBW := hide (HB.out.trans (hbw.mono HB.out.size))
          have p0 := hbx.cell (j := 0) rfl
          have p1 := hbx.cell (j := 1) rfl
          have p2 := hbx.cell (j := 2) rfl
          have p3 := hbx.cell (j := 3) rfl
          have p4 := hbx.cell (j := 4) rfl
          have s2_ := (HX.out _ HBW.out).cell (j := 2) rfl
          have HOP := hide (hop _ HBW.out)
          have HCC := hide hC
          clear hC hop hok_ hle_ i2_ i3_ hbw hbx
          go_wp2_with fail
          refine HOP.out.mono ?_
          rintro e w7 ⟨rfl, b7⟩
          have HB7 := hide (HBW.out.trans (b7.mono HBW.out.size))
          clear b7 p0 p1 p2 p3 p4 s2_ q0 q1 q2 q3 q4
          cases C with
          | true =>
            go_wp2_with fail
            go_roundw
            case rel => exact ⟨k + 1, by omega, by go_num, hide (fun m h hm => by
              rcases Nat.lt_or_ge m k with h' | h'
              · exact HXX.out m h h'
              · obtain rfl : m = k := by omega
                exact HCC.out), HB7⟩
            case measure => simp [intOf]; omega
          | false =>
            have HF := hide (show outsOk d = false by
              rw [HR2.out]
              exact Bool.eq_false_iff.2 fun h => by
                have := List.all_eq_true.1 h _ (List.getElem_mem hk2)
                rw [HCC.out] at this
                cases this)
            go_wp2_with fail
            go_ret
            exact ⟨ret_bool HF.out.symm, HBA.out.trans (HB7.out.mono HBA.out.size)⟩
        · obtain rfl : k = N3 := by omega
          have HIT := hide (show outsOk d = true by
            rw [HR2.out]
            exact List.all_eq_true.2 fun x hx => by
              obtain ⟨m, hm, rfl⟩ := List.getElem_of_mem hx
              exact HXX.out m hm (by rw [HN3.out] at hm; exact hm))
          go_wp2
          go_ret
          exact ⟨ret_bool HIT.out.symm, HBA.out.trans (HB.out.mono HBA.out.size)⟩

end Go.Proofs.Ytnloknhcdlannaa


namespace Go.Proofs.Ytnloknhcdlannaa
open Go.RowKit
set_option linter.unusedVariables false
set_option linter.unusedSimpArgs false

/-- A row of bytes of the call's own, as a datum. -/
theorem own_fresh {w : World} {lo : Nat} {v : Value} {l : List Int} (h : w.ownsRow lo 5 1 v l.length (bs l)) : ∃ F, Lie w (raw l) v F ∧ Fresh lo w F := by
  have hr : Rd w v (bs l) := (Own.of h (bs_length l).symm).rd
  refine ⟨blk v, hr.lie, ?_⟩
  rcases h.2 with ⟨rfl, hn⟩ | ⟨g, cap, cur, rfl, hbg, hg, _⟩
  · exact Fresh.nil _ _
  · rcases Nat.eq_zero_or_pos l.length with h0 | h0
    · rw [h0, blk_none]; exact Fresh.nil _ _
    · rw [blk_some h0]
      exact ⟨by simp, fun x hx => by rw [List.mem_singleton.1 hx]; exact hbg, fun x hx => by rw [List.mem_singleton.1 hx]; exact ⟨cur, _, hg⟩⟩
theorem lie_nil (w : World) : Lie w (raw []) (.slice none 0 0) [] := (show Rd w (.slice none 0 0) (bs []) from ⟨none, 0, rfl, Nat.le_refl _, Nat.zero_le _, fun h => by simp [bs] at h⟩).lie
def drvOut (d : DDrv) : List Int := if drvOk d then drvEnc d else []
theorem drvOk_small {d : DDrv} (h : drvOk d = true) : drvSmall d := by
  rw [drvOk, Bool.and_eq_true, Bool.and_eq_true, Bool.and_eq_true, Bool.and_eq_true] at h
  exact drvSmall_of h.1 h.2.2.2.1

set_option maxRecDepth 20000 in
set_option maxHeartbeats 6400000 in
theorem specDrvBytes (d : DDrv) (hok : oks d.cells) (hbk : bulks d.cells ≤ 1048576) (us : List Value) (w : World) (hs : Ins w d.cells us) :
    Calls Try.prog 19 #[.agg us.toArray] w fun e w' => ∃ r J, e = .returned (.tuple #[r, .bool (drvOk d)]) ∧ Lie w' (raw (drvOut d)) r J ∧ Fresh w.heap.size w' J ∧ Below w.heap.size w w' := by
  have hsx := hs
  obtain ⟨A0, c0, A1, c1, A2, c2, A3, c3, rfl, h0, h1, h2, h3⟩ := DDrv.view hs
  obtain ⟨wa, hwa⟩ : ∃ wa, w.alloc (.cells #[.slice A0 d.srcs.length c0, .slice A1 d.ins.length c1, .slice A2 d.outs.length c2, .slice A3 d.ops.length c3] 41) = wa := ⟨_, rfl⟩
  have ba : Below w.heap.size w wa := by rw [← hwa]; exact (Below.refl _ _).alloc (Nat.le_refl _) _
  have bx : Box wa w.heap.size 41 [.slice A0 d.srcs.length c0, .slice A1 d.ins.length c1, .slice A2 d.outs.length c2, .slice A3 d.ops.length c3] := by rw [← hwa]; exact Box.new w _ _
  have hz : w.heap.size < wa.heap.size := bx.lt
  have x0 := bx.cell (j := 0) rfl
  have x1 := bx.cell (j := 1) rfl
  have x2 := bx.cell (j := 2) rfl
  have x3 := bx.cell (j := 3) rfl
  have HX := hide (fun W (hb : Below wa.heap.size wa W) => (bx.step hb))
  have HBA := hide ba
  have HOK := hide (specDrvOk d hok hbk _ wa (hsx.step ba))
  have HEN := hide (fun (h : drvOk d = true) W (hb : Below w.heap.size w W) => specDrvEnc d hok hbk (drvOk_small h) _ W (hsx.step hb))
  have HO := hide (show drvOut d = if drvOk d then drvEnc d else [] from rfl)
  generalize hT : drvOk d = T at *
  clear bx ba hok hbk hs hsx h0 h1 h2 h3 hT
  go_enter Try.func19, Try.ntmps19
  go_wp2_with fail
  refine HOK.out.mono ?_
  rintro e w1 ⟨rfl, b1⟩
  have HB1 := hide b1
  clear x0 x1 x2 x3
  cases T with
  | false =>
    have HR := hide (show drvOut d = [] by rw [HO.out]; rfl)
    clear b1
    go_wp2_with fail
    go_ret2
    exact ⟨_, [], rfl, by rw [HR.out]; exact lie_nil _, Fresh.nil _ _, HBA.out.trans (HB1.out.mono HBA.out.size)⟩
  | true =>
    have HR := hide (show drvOut d = drvEnc d by rw [HO.out]; rfl)
    have y0 := (HX.out w1 b1).cell (j := 0) rfl
    have y1 := (HX.out w1 b1).cell (j := 1) rfl
    have y2 := (HX.out w1 b1).cell (j := 2) rfl
    have y3 := (HX.out w1 b1).cell (j := 3) rfl
    have hbb := HBA.out.trans (HB1.out.mono HBA.out.size)
    have HBB := hide hbb
    have HE := hide (HEN.out (by trivial) w1 hbb)
    clear b1 hbb HEN
    go_wp2_with fail
    refine HE.out.mono ?_
    rintro e w2 ⟨v2, rfl, o2, b2⟩
    have hsl := o2
    obtain ⟨A9, c9, rfl, -, -⟩ := own_slice hsl
    have HO2 := hide (own_low o2 HBB.out.size)
    have HB2 := hide (HBB.out.trans (b2.mono HBB.out.size))
    clear hsl o2 b2
    go_wp2_with fail
    go_ret2
    obtain ⟨F, f1, f2⟩ := own_fresh HO2.out
    exact ⟨_, F, rfl, by rw [HR.out]; exact f1, f2, HB2.out⟩

set_option maxRecDepth 20000 in
set_option maxHeartbeats 6400000 in
theorem implDrvBytes (d : DDrv) (hok : oks d.cells) (hbk : bulks d.cells ≤ 1048576) (us : List Value) (w : World) (hs : Ins w d.cells us) :
    Calls Try.prog 20 #[.agg us.toArray] w fun e w' => ∃ r J, e = .returned (.tuple #[r, .bool (drvOk d)]) ∧ Lie w' (raw (drvOut d)) r J ∧ Fresh w.heap.size w' J ∧ Below w.heap.size w w' := by
  have hsx := hs
  obtain ⟨A0, c0, A1, c1, A2, c2, A3, c3, rfl, h0, h1, h2, h3⟩ := DDrv.view hs
  obtain ⟨wa, hwa⟩ : ∃ wa, w.alloc (.cells #[.slice A0 d.srcs.length c0, .slice A1 d.ins.length c1, .slice A2 d.outs.length c2, .slice A3 d.ops.length c3] 41) = wa := ⟨_, rfl⟩
  have ba : Below w.heap.size w wa := by rw [← hwa]; exact (Below.refl _ _).alloc (Nat.le_refl _) _
  have bx : Box wa w.heap.size 41 [.slice A0 d.srcs.length c0, .slice A1 d.ins.length c1, .slice A2 d.outs.length c2, .slice A3 d.ops.length c3] := by rw [← hwa]; exact Box.new w _ _
  have hz : w.heap.size < wa.heap.size := bx.lt
  have x0 := bx.cell (j := 0) rfl
  have x1 := bx.cell (j := 1) rfl
  have x2 := bx.cell (j := 2) rfl
  have x3 := bx.cell (j := 3) rfl
  have HX := hide (fun W (hb : Below wa.heap.size wa W) => (bx.step hb))
  have HBA := hide ba
  have HSR := hide (implSrcsOk d hok hbk _ wa (hsx.step ba))
  have HOU := hide (fun W (hb : Below w.heap.size w W) => implOutsOk d hok hbk _ W (hsx.step hb))
  have HEN := hide (fun (h : drvSmall d) W (hb : Below w.heap.size w W) => implDrvCode d hok hbk h _ W (hsx.step hb))
  have hsm : srcsOk d = true → outsOk d = true → drvSmall d := fun h1 h2 => by
    unfold srcsOk at h1
    unfold outsOk at h2
    simp only [Bool.and_eq_true, decide_eq_true_eq] at h1 h2
    exact drvSmall_of (by rw [drvTop, Bool.and_eq_true, decide_eq_true_eq]; exact ⟨⟨h1.1, h1.2.2.1, h2.1.1, h2.1.2, h2.2.2.1⟩, h1.2.1⟩) h2.2.2.2
  have HSM := hide hsm
  have HO := hide (show drvOut d = if drvOk d then drvEnc d else [] from rfl)
  have HT := hide (drvOk_two d)
  generalize srcsOk d = S at *
  generalize outsOk d = O at *
  generalize drvOk d = T at *
  clear bx ba hok hbk hs hsx h0 h1 h2 h3 hsm
  go_enter Try.func20, Try.ntmps20
  go_wp2_with fail
  refine HSR.out.mono ?_
  rintro e w1 ⟨rfl, b1⟩
  have HB1 := hide b1
  have HBB := hide (HBA.out.trans (b1.mono HBA.out.size))
  clear x0 x1 x2 x3
  cases S with
  | false =>
    obtain rfl : T = false := HT.out
    have HR := hide (show drvOut d = [] by rw [HO.out]; rfl)
    clear b1
    go_wp2_with fail
    go_ret2
    exact ⟨_, [], rfl, by rw [HR.out]; exact lie_nil _, Fresh.nil _ _, HBB.out⟩
  | true =>
    have y0 := (HX.out w1 b1).cell (j := 0) rfl
    have y1 := (HX.out w1 b1).cell (j := 1) rfl
    have y2 := (HX.out w1 b1).cell (j := 2) rfl
    have y3 := (HX.out w1 b1).cell (j := 3) rfl
    have HOUT := hide (HOU.out w1 HBB.out)
    clear b1 HOU HSR
    go_wp2_with fail
    refine HOUT.out.mono ?_
    rintro e w2 ⟨rfl, b2⟩
    have HB2 := hide (HB1.out.trans (b2.mono HB1.out.size))
    have HBC := hide (HBB.out.trans (b2.mono HBB.out.size))
    clear y0 y1 y2 y3 b2
    cases O with
    | false =>
      obtain rfl : T = false := HT.out
      have HR := hide (show drvOut d = [] by rw [HO.out]; rfl)
      go_wp2_with fail
      go_ret2
      exact ⟨_, [], rfl, by rw [HR.out]; exact lie_nil _, Fresh.nil _ _, HBC.out⟩
    | true =>
      have z0 := (HX.out w2 HB2.out).cell (j := 0) rfl
      have z1 := (HX.out w2 HB2.out).cell (j := 1) rfl
      have z2 := (HX.out w2 HB2.out).cell (j := 2) rfl
      have z3 := (HX.out w2 HB2.out).cell (j := 3) rfl
      have HE := hide (HEN.out (HSM.out (by trivial) (by trivial)) w2 HBC.out)
      clear HEN HSM
      go_wp2_with fail
      refine HE.out.mono ?_
      rintro e w3 ⟨v3, rfl, o3, b3⟩
      have hsl := o3
      obtain ⟨A9, c9, rfl, -, -⟩ := own_slice hsl
      have HO3 := hide (own_low o3 HBC.out.size)
      have HB3 := hide (HBC.out.trans (b3.mono HBC.out.size))
      clear hsl o3 b3
      have ht := HT.out
      by_cases hle : (drvEnc d).length ≤ 400
      · obtain rfl : T = true := by rw [ht, decide_eq_true hle]; rfl
        have hle2 : ¬ (400 : Int) < ((drvEnc d).length : Int) := by omega
        have HR := hide (show drvOut d = drvEnc d by rw [HO.out]; rfl)
        obtain ⟨LE, hLE⟩ : ∃ n, (drvEnc d).length = n := ⟨_, rfl⟩
        rw [hLE] at hle2 ⊢
        have HLE := hide hLE
        clear ht hle hLE
        go_wp2_with fail
        go_ret2
        obtain ⟨F, f1, f2⟩ := own_fresh HO3.out
        exact ⟨_, F, rfl, by rw [HR.out, ← HLE.out]; exact f1, f2, HB3.out⟩
      · obtain rfl : T = false := by rw [ht, decide_eq_false hle]; rfl
        have hle2 : (400 : Int) < ((drvEnc d).length : Int) := by omega
        have HR := hide (show drvOut d = [] by rw [HO.out]; rfl)
        clear ht hle
        go_wp2_with fail
        go_ret2
        exact ⟨_, [], rfl, by rw [HR.out]; exact lie_nil _, Fresh.nil _ _, HB3.out⟩

set_option maxRecDepth 20000 in
set_option maxHeartbeats 6400000 in
theorem implDrvOk (d : DDrv) (hok : oks d.cells) (hbk : bulks d.cells ≤ 1048576) (us : List Value) (w : World) (hs : Ins w d.cells us) :
    Calls Try.prog 17 #[.agg us.toArray] w fun e w' => e = .returned (.bool (drvOk d)) ∧ Below w.heap.size w w' := by
  have hsx := hs
  obtain ⟨A0, c0, A1, c1, A2, c2, A3, c3, rfl, h0, h1, h2, h3⟩ := DDrv.view hs
  obtain ⟨wa, hwa⟩ : ∃ wa, w.alloc (.cells #[.slice A0 d.srcs.length c0, .slice A1 d.ins.length c1, .slice A2 d.outs.length c2, .slice A3 d.ops.length c3] 41) = wa := ⟨_, rfl⟩
  have ba : Below w.heap.size w wa := by rw [← hwa]; exact (Below.refl _ _).alloc (Nat.le_refl _) _
  have bx : Box wa w.heap.size 41 [.slice A0 d.srcs.length c0, .slice A1 d.ins.length c1, .slice A2 d.outs.length c2, .slice A3 d.ops.length c3] := by rw [← hwa]; exact Box.new w _ _
  have hz : w.heap.size < wa.heap.size := bx.lt
  have x0 := bx.cell (j := 0) rfl
  have x1 := bx.cell (j := 1) rfl
  have x2 := bx.cell (j := 2) rfl
  have x3 := bx.cell (j := 3) rfl
  have HX := hide (fun W (hb : Below wa.heap.size wa W) => (bx.step hb))
  have HBA := hide ba
  have HDB := hide (implDrvBytes d hok hbk _ wa (hsx.step ba))
  clear bx ba hok hbk hs hsx h0 h1 h2 h3
  go_enter Try.func17, Try.ntmps17
  go_wp2_with fail
  refine HDB.out.mono ?_
  rintro e w1 ⟨r1, J1, rfl, -, -, b1⟩
  have HB1 := hide b1
  clear b1 x0 x1 x2 x3
  go_wp2_with fail
  go_ret
  exact ⟨rfl, HBA.out.trans (HB1.out.mono HBA.out.size)⟩

end Go.Proofs.Ytnloknhcdlannaa
